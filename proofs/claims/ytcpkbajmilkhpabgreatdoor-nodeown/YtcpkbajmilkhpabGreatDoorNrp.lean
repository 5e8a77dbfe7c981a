/-
  The reference's name over any list; what the reference's one holds on its way.
-/
import Derived.Test.YtcpkbajmilkhpabGreatDoorNrn
import Derived.Test.YtcpkbajmilkhpabGreatDoorNls
import Derived.Laws.ResultCell
import Derived.Deep.RegionHeld3
namespace Go.Proofs.YtcpkbajmilkhpabGreatDoor
open Go.RowKit
set_option linter.unusedVariables false
set_option linter.unusedSimpArgs false
set_option maxRecDepth 100000

/-- The last name of a list of entries. -/
def LastN (w : World) (lv : Value) (ah : List Int) : Prop :=
  (ah = [] ∧ ∃ ao cp, lv = .slice ao 0 cp) ∨ ∃ b o m cp, lv = .slice (some ⟨b, o, none⟩) (m + 1) cp ∧ m ≤ 1024 ∧ w.cell? ⟨b, o + m * 34, none⟩ = some (.string (str ah))

theorem LastN.kept {w w' : World} {lv : Value} {ah : List Int} {S : Nat → Prop} (h : LastN w lv ah) (hk : Kept S w w') (hS : ∀ b, lv.ownBlock = some b → ¬ S b) : LastN w' lv ah := by
  rcases h with h | ⟨b, o, m, cp, rfl, hm, hc⟩
  · exact .inl h
  · exact .inr ⟨b, o, m, cp, rfl, hm, hk.cell hc (hS b rfl)⟩

theorem less_nil (s : List Int) (h : s ≠ []) : lessB [] s = true := by
  unfold lessB
  rw [str_list, str_list]
  cases s with
  | nil => exact absurd rfl h
  | cons a l => rfl

theorem name_any (P : List Int → Bool) (HR : NameRC P) (h0 : P [] = false) (s ah : List Int) (lv : Value) (w : World) (hs : ∀ x ∈ s, 0 ≤ x ∧ x ≤ 255) (ha : ∀ x ∈ ah, 0 ≤ x ∧ x ≤ 255) (hsl : s.length ≤ 140737488351232) (hal : ah.length ≤ 140737488351232) (hl : LastN w lv ah) :
    Calls Tryz.prog 37 #[lv, .string (str s)] w fun e w' => e = .returned (.bool (P s && lessB ah s)) ∧ Kept (fun _ => False) w w' := by
  rcases hl with ⟨rfl, ao, cp, rfl⟩ | ⟨b, o, m, cp, rfl, hm, hc⟩
  · refine (name_none P HR s ao cp w hs).mono ?_
    rintro e w' ⟨rfl, hk⟩
    refine ⟨?_, hk⟩
    cases hp : P s with
    | false => rfl
    | true =>
      have : s ≠ [] := by
        intro e
        rw [e, h0] at hp
        cases hp
      rw [less_nil s this]
      rfl
  · refine (name_some P HR s ah b o m cp w hs ha hsl hal hm hc).mono ?_
    rintro e w' ⟨rfl, hk⟩
    exact ⟨by rw [above_lessB s ah hs ha], hk⟩

theorem formD_err : ∀ {xs : List Int} {f : Int}, formD xs = .error f → f ≠ 0
  | [], f, h => by cases h; decide
  | x :: t, f, h => by
    rw [formD_cons] at h
    split at h
    · cases h
    · split at h
      · cases h; decide
      · split at h
        · cases h; decide
        · cases h
theorem numD_err {xs : List Int} {f : Int} (h : numD xs = .error f) : f ≠ 0 := by
  unfold numD at h
  cases hf : formD xs with
  | error e => rw [hf] at h; cases h; exact formD_err hf
  | ok p =>
    rw [hf] at h
    dsimp only at h
    split at h
    · cases h
    · cases h; decide
theorem mostD_err {n : Int} {xs : List Int} {f : Int} (h : mostD n xs = .error f) : f ≠ 0 := by
  unfold mostD at h
  cases hf : numD xs with
  | error e => rw [hf] at h; cases h; exact numD_err hf
  | ok p =>
    rw [hf] at h
    dsimp only at h
    split at h
    · cases h; decide
    · cases h
theorem bytesD_err {xs : List Int} {f : Int} (h : bytesD xs = .error f) : f ≠ 0 := by
  unfold bytesD at h
  cases hf : numD xs with
  | error e => rw [hf] at h; cases h; exact numD_err hf
  | ok p =>
    rw [hf] at h
    dsimp only at h
    unfold rawD at h
    split at h
    · cases h; decide
    · split at h
      · cases h; decide
      · cases h
theorem one1_err {n : Int} {xs : List Int} {f : Int} (h : oneD 1 n xs = .error f) : numD xs = .error f := by
  unfold oneD at h
  rw [if_pos rfl] at h
  cases hf : numD xs with
  | error e => rw [hf] at h; cases h; rfl
  | ok p => rw [hf] at h; cases h
theorem one1_ok {n : Int} {xs rest : List Int} {g : Int × List Int} (h : oneD 1 n xs = .ok (g, rest)) : numD xs = .ok (g.1, rest) := by
  unfold oneD at h
  rw [if_pos rfl] at h
  cases hf : numD xs with
  | error e => rw [hf] at h; cases h
  | ok p => rw [hf] at h; cases h; rfl
theorem oneb_err {k n : Int} (hk : k = 4 ∨ k = 5) {xs : List Int} {f : Int} (h : oneD k n xs = .error f) : bytesD xs = .error f := by
  have h' : lift2 (bytesD xs) = .error f := by rcases hk with rfl | rfl <;> exact h
  cases hf : bytesD xs with
  | error e => rw [hf] at h'; cases h'; rfl
  | ok p => rw [hf] at h'; cases h'
theorem oneb_ok {k n : Int} (hk : k = 4 ∨ k = 5) {xs rest : List Int} {g : Int × List Int} (h : oneD k n xs = .ok (g, rest)) : bytesD xs = .ok (g.2, rest) := by
  have h' : lift2 (bytesD xs) = .ok (g, rest) := by rcases hk with rfl | rfl <;> exact h
  cases hf : bytesD xs with
  | error e => rw [hf] at h'; cases h'
  | ok p => rw [hf] at h'; cases h'; rfl
theorem entD_e1 {P : List Int → Bool} {ah xs : List Int} {f : Int} (h : numD xs = .error f) : entD P ah xs = .error f := by unfold entD; rw [h]
theorem entD_k {P : List Int → Bool} {ah xs r1 : List Int} {k : Int} (h : numD xs = .ok (k, r1)) (hk : ¬ (k = 1 ∨ k = 2)) : entD P ah xs = .error 51 := by unfold entD; rw [h]; dsimp only; rw [if_neg hk]
theorem entD_e2 {P : List Int → Bool} {ah xs r1 : List Int} {k f : Int} (h : numD xs = .ok (k, r1)) (hk : k = 1 ∨ k = 2) (h2 : bytesD r1 = .error f) : entD P ah xs = .error f := by unfold entD; rw [h]; dsimp only; rw [if_pos hk, h2]
theorem entD_n {P : List Int → Bool} {ah xs r1 r2 nm : List Int} {k : Int} (h : numD xs = .ok (k, r1)) (hk : k = 1 ∨ k = 2) (h2 : bytesD r1 = .ok (nm, r2)) (hm : (P nm && lessB ah nm) = false) : entD P ah xs = .error 51 := by
  unfold entD; rw [h]; dsimp only; rw [if_pos hk, h2]; dsimp only; rw [hm]; rfl
theorem entD_e3 {P : List Int → Bool} {ah xs r1 r2 nm : List Int} {k f : Int} (h : numD xs = .ok (k, r1)) (hk : k = 1 ∨ k = 2) (h2 : bytesD r1 = .ok (nm, r2)) (hm : (P nm && lessB ah nm) = true) (h3 : bytesD r2 = .error f) : entD P ah xs = .error f := by
  unfold entD; rw [h]; dsimp only; rw [if_pos hk, h2]; dsimp only; rw [if_pos hm, h3]
theorem entD_f {P : List Int → Bool} {ah xs r1 r2 r3 nm fr : List Int} {k : Int} (h : numD xs = .ok (k, r1)) (hk : k = 1 ∨ k = 2) (h2 : bytesD r1 = .ok (nm, r2)) (hm : (P nm && lessB ah nm) = true) (h3 : bytesD r2 = .ok (fr, r3)) (hf : isFrontB fr = false) : entD P ah xs = .error 51 := by
  unfold entD; rw [h]; dsimp only; rw [if_pos hk, h2]; dsimp only; rw [if_pos hm, h3]; dsimp only; rw [hf]; rfl
theorem entD_ok {P : List Int → Bool} {ah xs r1 r2 r3 nm fr : List Int} {k : Int} (h : numD xs = .ok (k, r1)) (hk : k = 1 ∨ k = 2) (h2 : bytesD r1 = .ok (nm, r2)) (hm : (P nm && lessB ah nm) = true) (h3 : bytesD r2 = .ok (fr, r3)) (hf : isFrontB fr = true) : entD P ah xs = .ok (⟨nm, k, fr⟩, r3) := by
  unfold entD; rw [h]; dsimp only; rw [if_pos hk, h2]; dsimp only; rw [if_pos hm, h3]; dsimp only; rw [if_pos hf]

theorem entA_set (nm : ByteArray) (k : Int) (fr : List Int) (i : Nat) (h : fr.length ≤ 32) (hi : i < fr.length) : (entA nm k (fr.take i)).setIfInBounds (2 + i) (.int .u8 (fr.getD i 0)) = entA nm k (fr.take (i + 1)) := by
  have h1 : (fr.take i).length = i := by rw [List.length_take]; omega
  have h2 : (fr.take (i + 1)).length = i + 1 := by rw [List.length_take]; omega
  unfold entA
  rw [h1, h2, List.setIfInBounds_toArray, show 2 + i = i + 1 + 1 from by omega, List.set_cons_succ, List.set_cons_succ, List.map_append, List.set_append, if_neg (by rw [List.length_map, h1]; omega), List.length_map, h1, Nat.sub_self, List.map_append, List.take_add_one, List.getElem?_eq_getElem hi]
  rw [show 32 - i = (32 - (i + 1)) + 1 from by omega, List.replicate_succ]
  simp [List.getD, List.getElem?_eq_getElem hi]
  rw [List.take_add_one]
  simp [List.getElem?_eq_getElem hi]
theorem entA_cell (nm : ByteArray) (k : Int) (fr : List Int) (i : Nat) (h : fr.length ≤ 32) (hi : i < 32) : ∃ u, (entA nm k fr)[2 + i]? = some u := by
  have := entA_size nm k fr h
  exact ⟨_, Array.getElem?_eq_getElem (by omega)⟩

theorem built_none : Tryz.prog.built 41 [] = some (entA ⟨#[]⟩ 0 []) := by kernel_rfl

section
variable {P : Program} {ops : Array Oper} {S : World → Prop} {o : Oper} {a : Act} {w : World} {K : Act → World → Prop} {Q : Exit → Act → World → Prop} {E : Prop}
theorem stp_store_row (hgd : o.guard = none) (ty : TypeId) (x y : Operand) (ho : o.op = .store ty x y)
    (g : Nat) (cells : Array Value) (hx : a.eval x = .pointer (some ⟨g, 0, none⟩)) (hy : a.eval y = .agg cells)
    (t : TypeId) (old : Array Value) (hg : w.heap[g]? = some (.cells old t (0, 0))) (hi : (P.info? ty).map (·.size) = some cells.size)
    (hold : old.size = cells.size) (h1 : cells.all (·.oneCell') = true)
    (h : K (a.put o.dst undef) (w.setRow g cells)) : if Region.wanted o (yielded ops a.tmps) = true then Oper.wp P o a w K Q else E := by
  have hw : Region.wanted o (yielded ops a.tmps) = true := by simp [Region.wanted, hgd]
  rw [if_pos hw]
  exact wp_store_row ty x y ho g cells hx hy t old hg hi hold h1 h
theorem yields_none (hw : Region.wanted o (yielded ops a.tmps) = true) (ho : o.op = .build 41 #[]) : YieldsIf Tryz.prog ops S o (.agg (entA ⟨#[]⟩ 0 [])) a :=
  .inl ⟨hw, fun w _ => by
    unfold execOp
    simp only [ho, Sem.run_bind, Sem.run_pure, run_build w 41 _ _ (show Tryz.prog.built 41 (Array.map (fun (x : Nat × Operand) => (x.fst, a.eval x.snd)) #[]).toList = some (entA ⟨#[]⟩ 0 []) from by simpa using built_none), Result.andThen_ok]⟩
theorem wpList_none {rest : List Oper} (hg : o.guard = none) (ho : o.op = .build 41 #[])
    (h : wpList Tryz.prog ops Q rest (a.put o.dst (.agg (entA ⟨#[]⟩ 0 []))) w) : wpList Tryz.prog ops Q (o :: rest) a w := by
  refine wpList_build hg 41 _ ho (by simp [built_none]) ?_
  simpa [built_none] using h
theorem built_two (nm : ByteArray) (k : Int) : Tryz.prog.built 41 [(0, .string nm), (1, .int .i64 k)] = some (entA nm k []) := by kernel_rfl
theorem wpList_two {rest : List Oper} (hg : o.guard = none) (x y : Operand) (ho : o.op = .build 41 #[(0, x), (1, y)]) (nm : ByteArray) (k : Int) (hx : a.eval x = .string nm) (hy : a.eval y = .int .i64 k)
    (h : wpList Tryz.prog ops Q rest (a.put o.dst (.agg (entA nm k []))) w) : wpList Tryz.prog ops Q (o :: rest) a w := by
  have hb := built_two nm k
  have e : (#[(0, x), (1, y)].map fun (i, z) => (i, a.eval z)).toList = [(0, .string nm), (1, .int .i64 k)] := by rw [← hx, ← hy]; simp
  refine wpList_build hg 41 _ ho (by rw [e, hb]; rfl) ?_
  rw [e, hb]
  exact h
end

/-- Two results: a row of type 41 and a slot. -/
theorem results_row_tmp {fn : Func} {p u : Tmp} (h : fn.results = #[.cell p 41, .tmp u]) (tmps : Array Value) (w : World) (g : Nat) (cs : Array Value) (x : Value)
    (hp : tmps.getD p undef = .pointer (some ⟨g, 0, none⟩)) (hg : w.heap[g]? = some (.cells cs 41 (0, 0))) (hi : (Tryz.prog.info? 41).map (·.size) = some cs.size) (hx : tmps.getD u undef = x) :
    (results fn tmps).run Tryz.prog w = .ok (.tuple #[.agg cs, x]) w := by
  rw [results_cell_tmp h, hp, hx]
  have hl := run_loadVar_row (P := Tryz.prog) w g 41 41 cs (0, 0) _ hg Tryz.underlying41 rfl hi
  simp [asAddr, hl, Result.andThen]
end Go.Proofs.YtcpkbajmilkhpabGreatDoor
