/-
  GrownBytes: what its loops hold.
-/
import Derived.Test.YtffabihenhejfabGrow0
namespace Go.Proofs.Ytffabihenhejfab
open Go.RowKit
set_option linter.unusedVariables false

/-- The bytes of list k, while list i is written at j. -/
def cAt (ls : List BL) (i j k : Nat) : List Int :=
  if k < i then marks k (ls.getD k BL.default).xs.length else if k = i then marks i j ++ (ls.getD i BL.default).xs.drop j else (ls.getD k BL.default).xs

/-- While lists are written full. -/
structure Fil (w wr : World) (lv : Value) (ls : List BL) (i j : Nat) : Prop where
  own : ∀ k, k < ls.length → Own8 wr (ls.getD k BL.default).v (cAt ls i j k)
  row : wr.ownsRow 0 31 1 lv ls.length (ls.map BL.v)
  kept : Kept (Blk ls) w wr

theorem cAt_zero (ls : List BL) (k : Nat) : cAt ls 0 0 k = (ls.getD k BL.default).xs := by
  unfold cAt
  rw [if_neg (by omega)]
  by_cases e : k = 0
  · subst e; simp [marks]
  · rw [if_neg e]

theorem cAt_next (ls : List BL) (i k : Nat) : cAt ls i (ls.getD i BL.default).xs.length k = cAt ls (i + 1) 0 k := by
  unfold cAt
  by_cases h1 : k < i
  · rw [if_pos h1, if_pos (by omega)]
  · rw [if_neg h1]
    by_cases h2 : k = i
    · subst h2
      rw [if_pos rfl, if_pos (by omega), List.drop_of_length_le (Nat.le_refl _), List.append_nil]
    · rw [if_neg h2, if_neg (by omega)]
      by_cases h3 : k = i + 1
      · subst h3; simp [marks]
      · rw [if_neg h3]

theorem cAt_self (ls : List BL) (i j : Nat) : cAt ls i j i = marks i j ++ (ls.getD i BL.default).xs.drop j := by
  unfold cAt
  rw [if_neg (by omega), if_pos rfl]

theorem cAt_other (ls : List BL) (i j j' k : Nat) (h : k ≠ i) : cAt ls i j k = cAt ls i j' k := by
  unfold cAt
  by_cases h1 : k < i
  · rw [if_pos h1, if_pos h1]
  · rw [if_neg h1, if_neg h1, if_neg h, if_neg h]

theorem set_marks (i j : Nat) (xs : List Int) (h : j < xs.length) : (marks i j ++ xs.drop j).set j (markB i j) = marks i (j + 1) ++ xs.drop (j + 1) := by
  rw [List.set_append, if_neg (by rw [marks_len]; omega), marks_len, Nat.sub_self, List.drop_eq_getElem_cons h, marks_succ, List.append_assoc]
  rfl

theorem Fil.start {w : World} {lv : Value} {ls : List BL} (h : BLs w lv ls) : Fil w w lv ls 0 0 :=
  ⟨fun k hk => by rw [cAt_zero]; exact h.own k hk, h.row, Kept.refl _ _⟩

theorem Fil.next {w wr : World} {lv : Value} {ls : List BL} {i : Nat} (h : Fil w wr lv ls i (ls.getD i BL.default).xs.length) : Fil w wr lv ls (i + 1) 0 :=
  ⟨fun k hk => by rw [← cAt_next]; exact h.own k hk, h.row, h.kept⟩

theorem Fil.step {w wr : World} {lv : Value} {ls : List BL} {i j : Nat} (hb : BLs w lv ls) (h : Fil w wr lv ls i j) (hi : i < ls.length) (hj : j < (ls.getD i BL.default).xs.length) {g n c : Nat} (hv : (ls.getD i BL.default).v = .slice (some ⟨g, 0, none⟩) n c) :
    Fil w (wr.setCell ⟨g, j, none⟩ (.int .u8 (markB i j))) lv ls i (j + 1) := by
  have hk := kept_set wr g j (.int .u8 (markB i j))
  have hg : (ls.getD i BL.default).v.ownBlock = some g := by rw [hv]; rfl
  refine ⟨fun k hk' => ?_, hk.ownsRow h.row (fun q hq e => ?_), h.kept.setCell (.inr ⟨i, hi, hg⟩) _⟩
  · by_cases e : k = i
    · subst e
      have h1 := h.own k hk'
      rw [cAt_self, hv] at h1
      have h2 := h1.set j (markB k j)
      rw [set_marks k j _ hj] at h2
      rw [cAt_self, hv]
      exact h2
    · rw [cAt_other ls i (j + 1) j k e]
      refine (h.own k hk').kept hk (fun q hq eq => ?_)
      subst eq
      rcases Nat.lt_or_ge k i with h' | h'
      · exact hb.apart k i h' hi q hq hg
      · exact hb.apart i k (by omega) hk' q hg hq
  · subst e
    exact hb.off i hi q hg hq

theorem Fil.drew {w wr : World} {lv : Value} {ls : List BL} {i j : Nat} (h : Fil w wr lv ls i j) (n : Nat) : Fil w (wr.drewN n) lv ls i j :=
  have hk : Kept (fun _ => False) wr (wr.drewN n) := kept_drewN (Kept.refl _ _) n
  ⟨fun k hk' => (h.own k hk').kept hk (fun _ _ f => f), hk.ownsRow h.row (fun _ _ f => f), kept_drewN h.kept n⟩

theorem Fil.drew1 {w wr : World} {lv : Value} {ls : List BL} {i j : Nat} (h : Fil w wr lv ls i j) : Fil w wr.drew lv ls i j :=
  have hk : Kept (fun _ => False) wr wr.drew := (Kept.refl _ _).drew
  ⟨fun k hk' => (h.own k hk').kept hk (fun _ _ f => f), hk.ownsRow h.row (fun _ _ f => f), h.kept.drew⟩

theorem Fil.cell {w wr : World} {lv : Value} {ls : List BL} {i j : Nat} (h : Fil w wr lv ls i j) {g : Nat} (hg : lv.ownBlock = some g) (k : Nat) (hk : k < ls.length) : wr.cell? ⟨g, k, none⟩ = some (ls.getD k BL.default).v := by
  have := World.ownsRow.cells h.row hg k (ls.getD k BL.default).v (by simp [List.getElem?_map, List.getElem?_eq_getElem hk, List.getD])
  rw [Addr.add_lit, Nat.zero_add] at this
  exact this

/-- While bytes are put behind the lists: k of them are done; those from r on are as they were written. -/
structure Mor (w wr : World) (lv mv : Value) (ls ms : List BL) (k r : Nat) : Prop where
  len : ms.length = k
  bls : BLs wr mv ms
  xs : ∀ i, i < k → (ms.getD i BL.default).xs = marks i (ls.getD i BL.default).xs.length ++ anti i 96
  src : ∀ i, i < k → (ms.getD i BL.default).v.ownBlock = (ls.getD i BL.default).v.ownBlock ∨ ∀ q, (ms.getD i BL.default).v.ownBlock = some q → w.heap.size ≤ q
  mnew : ∀ q, mv.ownBlock = some q → w.heap.size ≤ q
  row : wr.ownsRow 0 31 1 lv ls.length (ls.map BL.v)
  rest : ∀ i, r ≤ i → i < ls.length → Own8 wr (ls.getD i BL.default).v (marks i (ls.getD i BL.default).xs.length)
  cells : ∀ i, i < ls.length → ∀ g, (ls.getD i BL.default).v.ownBlock = some g → ∀ j, j < (ls.getD i BL.default).xs.length → wr.cell? ⟨g, j, none⟩ = some (.int .u8 (markB i j))
  kept : Kept (Blk ls) w wr

theorem Mor.start {w wr : World} {lv : Value} {ls : List BL} (h : Fil w wr lv ls ls.length 0) : Mor w wr lv (.slice none 0 0) ls [] 0 0 := by
  have ho : ∀ i, i < ls.length → Own8 wr (ls.getD i BL.default).v (marks i (ls.getD i BL.default).xs.length) := fun i hi => by
    have := h.own i hi
    unfold cAt at this
    rw [if_pos hi] at this
    exact this
  exact ⟨rfl, BLs.nil _, fun i hi => absurd hi (by omega), fun i hi => absurd hi (by omega), fun q hq => (by cases hq), h.row, fun i _ hi => ho i hi, fun i hi g hg j hj => (ho i hi).cell hg j _ (marks_at i _ j hj), h.kept⟩

/-- List k is out: so many bytes are put behind it. -/
structure Inn (w wr : World) (lv mv gv : Value) (ls ms : List BL) (k j : Nat) : Prop where
  mor : Mor w wr lv mv ls ms k (k + 1)
  own : Own8 wr gv (marks k (ls.getD k BL.default).xs.length ++ anti k j)
  src : gv.ownBlock = (ls.getD k BL.default).v.ownBlock ∨ ∀ q, gv.ownBlock = some q → w.heap.size ≤ q
  ms : ∀ i, i < k → ∀ q, (ms.getD i BL.default).v.ownBlock = some q → gv.ownBlock ≠ some q
  mv : ∀ q, gv.ownBlock = some q → mv.ownBlock ≠ some q

theorem Inn.start {w wr : World} {lv mv : Value} {ls ms : List BL} {k : Nat} (hb : BLs w lv ls) (h : Mor w wr lv mv ls ms k k) (hk : k < ls.length) : Inn w wr lv mv (ls.getD k BL.default).v ls ms k 0 := by
  have hlt := (hb.own k hk).lt
  refine ⟨⟨h.len, h.bls, h.xs, h.src, h.mnew, h.row, fun i hi hi' => h.rest i (by omega) hi', h.cells, h.kept⟩, ?_, .inl rfl, fun i hi q hq e => ?_, fun q hq e => ?_⟩
  · have := h.rest k (Nat.le_refl _) hk
    simpa [anti] using this
  · rcases h.src i hi with e' | e'
    · rw [e'] at hq
      exact hb.apart i k hi hk q hq e
    · have := e' q hq
      have := hlt q e
      omega
  · have := h.mnew q e
    have := hlt q hq
    omega

theorem Inn.step {w wr w' : World} {lv mv gv gv' : Value} {ls ms : List BL} {k j : Nat} {o : Obj} {L : List Int} (hL : L = marks k (ls.getD k BL.default).xs.length ++ anti k j) (hb : BLs w lv ls) (h : Inn w wr lv mv gv ls ms k j) (hk : k < ls.length)
    (hown : w'.ownsRow 0 5 1 gv' (L.length + 1) (L.map (Value.int .u8) ++ [.int .u8 (255 - markB k j)])) (hgrow : (wr.alloc o).grownBy w' gv.ownBlock)
    (hat : gv'.ownBlock = gv.ownBlock ∨ gv'.ownBlock = some (wr.heap.size + 1)) (hold : ∀ g, gv.ownBlock = some g → ∀ j' x, L[j']? = some x → w'.cell? ⟨g, j', none⟩ = some (.int .u8 x)) : Inn w w' lv mv gv' ls ms k (j + 1) := by
  subst hL
  have hkp : Kept (fun q => gv.ownBlock = some q) wr w' := kept_app hgrow ((Kept.refl _ wr).alloc o)
  have hs := h.mor.kept.size
  have hsz : (wr.alloc o).heap.size = wr.heap.size + 1 := by simp
  have hll := hb.lt
  have hgl : ∀ q, gv.ownBlock = some q → q < w.heap.size → (ls.getD k BL.default).v.ownBlock = some q := fun q hq hl => by
    rcases h.src with e | e
    · rw [← e]; exact hq
    · have := e q hq; omega
  refine ⟨⟨h.mor.len, h.mor.bls.kept hkp (fun q hq e => h.mv q e hq) (fun i hi q hq e => h.ms i (by rw [← h.mor.len]; exact hi) q hq e), h.mor.xs, h.mor.src, h.mor.mnew, hkp.ownsRow h.mor.row (fun q hq e => ?_), fun i hi hi' => (h.mor.rest i hi hi').kept hkp (fun q hq e => ?_), fun i hi g hg j' hj' => ?_, h.mor.kept.step hkp (fun q hq e => ⟨k, hk, hgl q e hq⟩)⟩, ?_, ?_, fun i hi q hq e => ?_, fun q hq e => ?_⟩
  · exact hb.off k hk q (hgl q e (hll q hq)) hq
  · have hl := (hb.own i hi').lt q hq
    exact hb.apart k i (by omega) hi' q (hgl q e hl) hq
  · have hl := (hb.own i hi).lt g hg
    by_cases e : gv.ownBlock = some g
    · have e2 := hgl g e hl
      have hik : i = k := by
        rcases Nat.lt_trichotomy i k with h' | h' | h'
        · exact absurd e2 (hb.apart i k h' hk g hg)
        · exact h'
        · exact absurd hg (hb.apart k i h' hi g e2)
      subst hik
      exact hold g e j' _ (by rw [List.getElem?_append_left (by rw [marks_len]; exact hj'), marks_at i _ j' hj'])
    · exact hkp.cell (h.mor.cells i hi g hg j' hj') e
  · unfold Own8
    rw [anti_succ, ← List.append_assoc, List.length_append, List.map_append]
    exact hown
  · rcases hat with e | e
    · rw [e]; exact h.src
    · refine .inr (fun q hq => ?_)
      rw [e] at hq
      have := Option.some.inj hq
      omega
  · rcases hat with e' | e'
    · rw [e'] at e; exact h.ms i hi q hq e
    · rw [e'] at e
      have h1 := Option.some.inj e
      have h2 := (h.mor.bls.own i (by rw [h.mor.len]; exact hi)).lt q hq
      omega
  · rcases hat with e' | e'
    · rw [e'] at hq; exact h.mv q hq e
    · rw [e'] at hq
      have h1 := Option.some.inj hq
      have h2 := h.mor.bls.lt q e
      omega

theorem Inn.done {w wr w' : World} {lv mv mv' gv : Value} {ls ms : List BL} {k : Nat} {o : Obj} (hb : BLs w lv ls) (h : Inn w wr lv mv gv ls ms k 96) (hk : k < ls.length)
    (hown : w'.ownsRow 0 31 1 mv' (ms.length + 1) (ms.map BL.v ++ [gv])) (hgrow : (wr.alloc o).grownBy w' mv.ownBlock) (hat0 : mv'.ownBlock = mv.ownBlock ∨ mv'.ownBlock = some (wr.heap.size + 1)) :
    Mor w w' lv mv' ls (ms ++ [⟨gv, marks k (ls.getD k BL.default).xs.length ++ anti k 96⟩]) (k + 1) (k + 1) := by
  have hkp : Kept (fun q => mv.ownBlock = some q) wr w' := kept_app hgrow ((Kept.refl _ wr).alloc o)
  have hs := h.mor.kept.size
  have hsz : (wr.alloc o).heap.size = wr.heap.size + 1 := by simp
  have hll := hb.lt
  have hlen := h.mor.len
  have hat' := hat_of (w3 := wr) (W := wr.alloc o) (by rw [hsz]; exact hat0) (by omega)
  refine ⟨by rw [List.length_append, hlen]; rfl, h.mor.bls.push (b := ⟨gv, marks k (ls.getD k BL.default).xs.length ++ anti k 96⟩) h.own (fun i hi q hq => h.ms i (by omega) q hq) h.mv hown hkp hat', fun i hi => ?_, fun i hi => ?_, fun q hq => ?_, hkp.ownsRow h.mor.row (fun q hq e => ?_), fun i hi hi' => (h.mor.rest i hi hi').kept hkp (fun q hq e => ?_), fun i hi g hg j hj => hkp.cell (h.mor.cells i hi g hg j hj) (fun e => ?_), h.mor.kept.step hkp (fun q hq e => ?_)⟩
  · rw [bl_snoc _ _ _ (by omega)]
    by_cases e : i = ms.length
    · rw [if_pos e]
      have : i = k := by omega
      subst this
      rfl
    · rw [if_neg e]; exact h.mor.xs i (by omega)
  · rw [bl_snoc _ _ _ (by omega)]
    by_cases e : i = ms.length
    · rw [if_pos e]
      have : i = k := by omega
      subst this
      exact h.src
    · rw [if_neg e]; exact h.mor.src i (by omega)
  · rcases hat' with e | e
    · rw [e] at hq; exact h.mor.mnew q hq
    · have := e q hq; omega
  · have := h.mor.mnew q e; have := hll q hq; omega
  · have := h.mor.mnew q e; have := (hb.own i hi').lt q hq; omega
  · have := h.mor.mnew g e; have := (hb.own i hi).lt g hg; omega
  · have := h.mor.mnew q e; omega

theorem Mor.drew {w wr : World} {lv mv : Value} {ls ms : List BL} {k r : Nat} (h : Mor w wr lv mv ls ms k r) (n : Nat) : Mor w (wr.drewN n) lv mv ls ms k r :=
  have hk : Kept (fun _ => False) wr (wr.drewN n) := kept_drewN (Kept.refl _ _) n
  ⟨h.len, h.bls.kept hk (fun _ _ f => f) (fun _ _ _ _ f => f), h.xs, h.src, h.mnew, hk.ownsRow h.row (fun _ _ f => f), fun i hi hi' => (h.rest i hi hi').kept hk (fun _ _ f => f), fun i hi g hg j hj => hk.cell (h.cells i hi g hg j hj) (fun f => f), kept_drewN h.kept n⟩

theorem Mor.drew1 {w wr : World} {lv mv : Value} {ls ms : List BL} {k r : Nat} (h : Mor w wr lv mv ls ms k r) : Mor w wr.drew lv mv ls ms k r :=
  have hk : Kept (fun _ => False) wr wr.drew := (Kept.refl _ _).drew
  ⟨h.len, h.bls.kept hk (fun _ _ f => f) (fun _ _ _ _ f => f), h.xs, h.src, h.mnew, hk.ownsRow h.row (fun _ _ f => f), fun i hi hi' => (h.rest i hi hi').kept hk (fun _ _ f => f), fun i hi g hg j hj => hk.cell (h.cells i hi g hg j hj) (fun f => f), h.kept.drew⟩

theorem Mor.cell {w wr : World} {lv mv : Value} {ls ms : List BL} {k r : Nat} (h : Mor w wr lv mv ls ms k r) {g : Nat} (hg : lv.ownBlock = some g) (i : Nat) (hi : i < ls.length) : wr.cell? ⟨g, i, none⟩ = some (ls.getD i BL.default).v := by
  have := World.ownsRow.cells h.row hg i (ls.getD i BL.default).v (by simp [List.getElem?_map, List.getElem?_eq_getElem hi, List.getD])
  rw [Addr.add_lit, Nat.zero_add] at this
  exact this

theorem step_call2 {P : Program} {w : World} {ops : Array Oper} {o : Oper} {a : Act} {K : Act → World → Prop} {Q : Exit → Act → World → Prop} {E : Prop} (hg : o.guard = none) (F : FuncId) (x y : Operand) (t u : TypeId)
    (ho : o.op = .call { callee := .value (.func F), args := #[x, y], argTypes := #[t, u] }) (v1 v2 : Value) (hx : a.eval x = v1) (hy : a.eval y = v2) (v' : Value) (hent : (callFunc F #[v1, v2]).run P w = .ok (.enter F #[v1, v2]) w) (h : Calls P F #[v1, v2] w fun e w' => e = .returned v' ∧ w' = w) (hK : K (a.put o.dst v') w) :
    if Region.wanted o (yielded ops a.tmps) = true then Oper.wp P o a w K Q else E := by
  have hw : Region.wanted o (yielded ops a.tmps) = true := by simp [Region.wanted, hg]
  rw [if_pos hw]
  unfold Oper.wp
  have e1 : (Deferred.ofValue (a.eval (Operand.func F)) #[v1, v2]).run P w = .ok { target := .fn (.func F) #[], args := #[v1, v2] } w := by simp [go_sem]
  simp [execOp, ho, resolve, invoke, hx, hy, Result.andThen]
  rw [e1]
  simp [hent]
  rw [Oper.upon_enter]
  refine h.mono ?_
  rintro e w' ⟨rfl, rfl⟩
  exact hK
theorem ent37 (v u : Value) (w : World) : (callFunc 37 #[v, u]).run Try.prog w = .ok (.enter 37 #[v, u]) w := by
  simp [callFunc, Try.func37]
  rw [if_neg (by decide +kernel)]
  rfl
end Go.Proofs.Ytffabihenhejfab
