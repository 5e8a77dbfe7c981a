/-
  SumPlays: the given statement, out of the walk.
-/
import Derived.Test.YtdbogfjkaebeoaaDoorPlaysWalk
import Derived.Test.YtdbogfjkaebeoaaDoorLay
import Derived.Test.YtdbogfjkaebeoaaDoorTie
import Derived.Test.YtdbogfjkaebeoaaDoorCards
import Derived.SevenTiedAt
import Derived.ChangeSlices
import Derived.Deep.Strs
import Derived.Deep.Slices
import Derived.SizedLaws
namespace Go.Proofs.YtdbogfjkaebeoaaDoor
namespace sumPlays
open Go.ChangeShapes Go.WideShapes Go.ChangeAt Go.WideMaps Go.WideElems Go.RowKit Go.Deep
set_option linter.unusedVariables false
set_option linter.unusedSimpArgs false

theorem cells5 : Tryd.prog.cellsOf 5 = 1 := by kernel_rfl
theorem cells3 : Tryd.prog.cellsOf 3 = 1 := by kernel_rfl
theorem cells25 : Tryd.prog.cellsOf 25 = 1 := by kernel_rfl
theorem cells37 : Tryd.prog.cellsOf 37 = 3 := by kernel_rfl
theorem bytes5 : Tryd.prog.bytesOf 5 = 1 := by kernel_rfl
theorem bytes37 : Tryd.prog.bytesOf 37 = 40 := by kernel_rfl
theorem all_mem {H : Type} (e : TypeId) (d : DataW H) (x : Nat) (hx : x ∈ d.weights Tryd.prog e) : ∀ l : List (DataW H), d ∈ l → x ∈ DataW.weightsAll Tryd.prog e l
  | [], h => by cases h
  | y :: l, h => by
    rw [DataW.weightsAll, List.mem_append]
    rcases List.mem_cons.1 h with rfl | h
    · exact .inl hx
    · exact .inr (all_mem e d x hx l h)

/-- A step as it lies. -/
structure StV where
  who : Int
  kind : Int
  dv : Value
  dl : List Int
theorem open_data {H : Type} {enc : TypeId × Value → H} {W : World} {base fuel : Nat} {c2 : Value} {x : DataW H × List MemPlace} (h : DataW.trod enc Tryd.prog W base (fun _ => true) true fuel 25 [c2] = some x) :
    ∃ xs : List Int, BIn W c2 xs ∧ (∀ y ∈ xs, 0 ≤ y ∧ y < 256) ∧ (xs = [] ∨ ∃ r, x.1 = .slice (lits .u8 xs) r) := by
  rcases open_ints Tryd.underlying25 Tryd.underlying5 cells5 h with ⟨hcs, hx⟩ | ⟨a, len, cap, zs, hcs, _, hl, hm, hz, hx, hcell, hwz⟩
  · cases hcs
    exact ⟨[], ⟨none, 0, rfl, Nat.le_refl _, .inl rfl⟩, fun x hx => (by cases hx), .inl rfl⟩
  · cases hcs
    simp only [if_true] at hz
    have hlen : (zs.take len).length = len := by simp; omega
    refine ⟨zs.take len, ?_, fun y hy => ?_, .inr ⟨_, by rw [hx]⟩⟩
    · by_cases h0 : len = 0
      · exact ⟨some a, cap, by rw [hlen], by omega, .inl (by rw [h0]; rfl)⟩
      · obtain ⟨b, o, spot⟩ := a
        have hspot : spot = none := by simpa [Addr.add] using World.cell?_spot (hcell 0 (by omega))
        subst hspot
        refine ⟨_, cap, by rw [hlen], by omega, .inr ⟨b, o, rfl, fun i hi => ?_⟩⟩
        rw [hlen] at hi
        have := hcell i (by omega)
        rw [Addr.add_mid] at this
        rw [this]
        simp [List.getD, List.getElem?_take, hi]
    · have b := bounds_u8 (hwz y (List.mem_of_mem_take hy))
      omega

set_option maxRecDepth 100000 in
theorem open_step {H : Type} {enc : TypeId × Value → H} {W : World} {base fuel : Nat} {cs : List Value} {x : DataW H × List MemPlace} (h : DataW.trod enc Tryd.prog W base (fun _ => true) true fuel 37 cs = some x) (hw : ∀ y ∈ x.1.weights Tryd.prog 37, y ≤ reachBytes) :
    ∃ y : StV, cs = [.int .i64 y.who, .int .i64 y.kind, y.dv] ∧ BIn W y.dv y.dl ∧ (∀ z ∈ y.dl, 0 ≤ z ∧ z < 256) ∧ -9223372036854775808 ≤ y.who ∧ y.who ≤ 9223372036854775807 ∧ y.dl.length ≤ 140737488351232 := by
  obtain ⟨y0, y1, y2, n, hx, hl, h0, h1, h2⟩ := trod_struct3 Tryd.underlying37 h
  rw [cells37] at hl
  match cs, hl with
  | [c0, c1, c2], _ =>
    have g0 : DataW.trod enc Tryd.prog W base (fun _ => true) true n 3 [c0] = some y0 := by simpa [cells3] using h0
    have g1 : DataW.trod enc Tryd.prog W base (fun _ => true) true n 3 [c1] = some y1 := by simpa [cells3] using h1
    have g2 : DataW.trod enc Tryd.prog W base (fun _ => true) true n 25 [c2] = some y2 := by simpa [cells3, cells25] using h2
    obtain ⟨k, ek, _, wk⟩ := DataW.trod_int Tryd.underlying3 g0
    obtain ⟨m, em, _, wm⟩ := DataW.trod_int Tryd.underlying3 g1
    obtain ⟨xs, q1, q2, q3⟩ := open_data g2
    cases ek
    cases em
    have b0 := bounds_i64 wk
    refine ⟨⟨k, m, c2, xs⟩, rfl, q1, q2, b0.1, by show k ≤ 9223372036854775807; omega, ?_⟩
    rcases q3 with rfl | ⟨r, hr⟩
    · simp
    · have := hw ((xs.length + r.length) * 1) (by
        rw [hx]
        simp [DataW.weights, Tryd.underlying37, DataW.weightsEach, hr, Tryd.underlying25, bytes5, lits])
      simp only [reachBytes] at this
      show xs.length ≤ 140737488351232
      omega

theorem open_script {H : Type} {enc : TypeId × Value → H} {W : World} {base : Nat} {v : Value} {d : DataW H} {p : List MemPlace} (hval : Value.okWide Tryd.prog W .any base 35 v) (h : DataW.Trod enc Tryd.prog W 0 (fun _ => true) true 35 v d p)
    (hw : ∀ x ∈ d.weights Tryd.prog 35, x ≤ reachBytes) :
    ∃ (ao : Option Addr) (n c : Nat) (who kind : Nat → Int) (dv : Nat → Value) (dl : Nat → List Int), v = .slice ao n c ∧ Steps W ao n who kind dv dl ∧ n * 40 ≤ 140737488351232 := by
  obtain ⟨a1, len, cap, rfl⟩ := okWide_slice Tryd.underlying35 hval
  obtain ⟨fuel, hf⟩ := h
  rcases open_slice Tryd.underlying35 hf with ⟨hcs, _⟩ | ⟨a, len', cap', m, n, D, Pl, hcs, hb, hl, hm, hm', hx, hel⟩
  · simp [Value.cells] at hcs
    obtain ⟨rfl, rfl, rfl⟩ := hcs
    exact ⟨none, 0, 0, fun _ => 0, fun _ => 0, fun _ => undef, fun _ => [], rfl, fun i hi => absurd hi (by omega), by omega⟩
  · simp [Value.cells] at hcs
    obtain ⟨rfl, rfl, rfl⟩ := hcs
    simp only [if_true] at hm'
    subst hm'
    rw [cells37] at hel
    simp only [Prod.mk.injEq] at hx
    obtain ⟨rfl, _⟩ := hx
    have hn40 : len * 40 ≤ 140737488351232 := by
      have := hw ((len + (m - len)) * 40) (by simp [DataW.weights, Tryd.underlying35, bytes37])
      simp only [reachBytes] at this
      omega
    have hin : Inhabited StV := ⟨⟨0, 0, undef, []⟩⟩
    obtain ⟨f, hf'⟩ := choose_lt (n := len) (p := fun i (y : StV) => W.cells? 0 (a.add (i * 3)) 3 = some [.int .i64 y.who, .int .i64 y.kind, y.dv] ∧ BIn W y.dv y.dl ∧ (∀ z ∈ y.dl, 0 ≤ z ∧ z < 256) ∧ -9223372036854775808 ≤ y.who ∧ y.who ≤ 9223372036854775807 ∧ y.dl.length ≤ 140737488351232) (fun i hi => by
      obtain ⟨cs', h1, h2⟩ := hel i (by omega)
      obtain ⟨y, rfl, h3⟩ := open_step h2 (fun z hz => hw z (by
        simp only [DataW.weights, Tryd.underlying35, List.mem_cons, List.mem_append]
        exact .inr (.inl (all_mem 37 _ _ hz _ (List.mem_map.2 ⟨i, List.mem_range.2 hi, rfl⟩)))))
      exact ⟨y, h1, h3⟩)
    refine ⟨some a, len, m, fun i => (f i).who, fun i => (f i).kind, fun i => (f i).dv, fun i => (f i).dl, rfl, fun i hi => ?_, hn40⟩
    obtain ⟨hc, hr⟩ := hf' i hi
    have hcell : ∀ i, i < len → ∀ j, j < 3 → W.cell? ((a.add (i * 3)).add j) = ([.int .i64 (f i).who, .int .i64 (f i).kind, (f i).dv] : List Value)[j]? := fun i hi => (World.cells?_some (hf' i hi).1).2.2
    obtain ⟨b, off, spot⟩ := a
    have hc0 : W.cell? (((⟨b, off, spot⟩ : Addr).add (0 * 3)).add 0) = some (.int .i64 (f 0).who) := hcell 0 (by omega) 0 (by omega)
    have hspot : spot = none := by simpa [Addr.add] using World.cell?_spot hc0
    subst hspot
    have k0 := hcell i hi 0 (by omega)
    have k1 := hcell i hi 1 (by omega)
    have k2 := hcell i hi 2 (by omega)
    rw [Addr.add_mid, Addr.add_mid] at k0 k1 k2
    exact ⟨b, off, rfl, k0, k1, k2, hr.1, hr.2.1, hr.2.2.1, hr.2.2.2.1, hr.2.2.2.2⟩

set_option maxRecDepth 100000 in
theorem lifted (os : Os) (started : os.Started) (H : Type) (enc : TypeId × Value → H) :
    ReturnsInHanded {} Tryd.checked os 4 .any (fun w args => (Rows.sumPlaysSpec.pre enc Tryd.prog Tryd.f4 [] false w args ∧ laidMetH Tryd.prog laidT w) ∧ sizedMet enc Tryd.prog Tryd.f4 (OpenSpec.ofChange Rows.sumPlaysSpec) false w args)
      (Rows.sumPlaysSpec.post enc Tryd.prog Tryd.f4 false true false false) := by
  refine returnsInHanded_of_change_and (C := Tryd.checked) (X := fun w _ => laidMetH Tryd.prog laidT w) (fun _ _ _ hh h => h.of_heap hh) own started (by kernel_rfl) Tryd.func4
    (ChangeSpec.witness_shaped (enc := enc) (C := Tryd.checked) (os := os) (X := fun w _ => laidMetH Tryd.prog laidT w) false (World.doorLaid Tryd.prog 400 os) #[.slice none 0 0] 8 rfl (World.shaped_of_RefB (by kernel_rfl) (by kernel_rfl)) (by kernel_rfl) (by kernel_rfl) (by kernel_rfl) (door_met os _)) ?_
  intro W base args ds gs before hval0 hW _ hsz0 hL _
  have hsz : (DataW.weightsEach Tryd.prog (Tryd.f4.params.toList ++ Rows.sumPlaysSpec.plain.varTypes Tryd.prog) (ds ++ gs)).all (· ≤ reachBytes) = true := hsz0
  clear hsz0
  have hval : ∀ (j : Nat) t v, Tryd.f4.params[j]? = some t → args[j]? = some v → Value.okWide Tryd.prog W .any base t v := hval0
  have hW' := hW
  obtain ⟨p, q, hA0, hV, rfl, hfz, hnd⟩ := hW
  have hA : DataW.TrodAll enc Tryd.prog W 0 (fun _ => true) true Tryd.f4.params.toList args.toList ds p := hA0
  rw [Tryd.params4] at hA hval hsz
  obtain ⟨v0, vs0, d0, ds0, p0, q0, hargs, rfl, rfl, h0, r0⟩ := trodAll_cons hA
  obtain ⟨rfl, rfl, rfl⟩ := trodAll_nil r0
  obtain rfl : args = #[v0] := by cases args; simp_all
  obtain ⟨rfl, rfl⟩ := trodVars_none hV
  have k0 := h0
  have lt0 : ∀ x ∈ p0, x.block < W.heap.size := by obtain ⟨m, hm⟩ := k0; exact DataW.trod_lt m _ _ _ hm
  have hw0 : ∀ x ∈ d0.weights Tryd.prog 35, x ≤ reachBytes := fun x hx => by
    have := List.all_eq_true.1 hsz _ (DataW.weights_mem_each (j := 0) (t := 35) rfl rfl x hx)
    simpa using this
  obtain ⟨ao, n, c, who, kind, dv, dl, rfl, hS, hn⟩ := open_script (hval 0 35 v0 rfl rfl) h0 hw0
  clear hA0 hval0
  refine (sumPlays_walk ao n c who kind dv dl W hS (laid_of hL) hn).mono fun e W' ⟨he, hk⟩ => ?_
  have bel : Below W.heap.size W W' := hk.below (Nat.le_refl _) (fun _ f => f.elim)
  subst he
  exact ⟨_, rfl, _, _, _, [], _, [], hW', trodAll_mk1 (shut_bool Tryd.underlying4 _), (trodAll_cons_mk (Below.trod laidOut (by kernel_rfl) (of_decide_eq_true (by kernel_rfl)) k0 bel lt0) trodAll_mk0), rfl, bel.frame _, fun h => by cases h⟩

theorem over : Rows.SumPlaysSaid :=
  OpenClaim.holds_of_wide 4 Tryd.f4 rfl rfl rfl rfl rfl rfl rfl ⟨rfl, rfl, rfl, rfl, rfl⟩ rfl rfl rfl rfl rfl (by kernel_rfl) Tryd.func4 (by kernel_rfl)
    (of_decide_eq_true (by kernel_rfl)) (by unfold Func.isWrapper; first | (rw [if_pos (by decide +kernel)]; kernel_rfl) | (rw [if_neg (by decide +kernel)]; exact ⟨rfl, rfl⟩))
    (fun os started H enc _ => lifted os started H enc)

theorem card : Rows.SumPlaysCardSaid :=
  Claim7.holds_tied_plain_at .later [] [.data] true (true, "d34bb0c5f03d9af7842788eb30728a9b64f7fbc949258aaa085adf86c7bb4200") false
    over (fun _ h => by cases h) (by kernel_rfl) (fun _ h => by cases h) sumPlays_row_tie rfl ⟨rfl, rfl⟩ (by kernel_rfl) rfl
    (fun f fn hf hfn => by
      obtain rfl : f = 4 := Option.some.inj ((show Tryd.prog.funcNamed "retort/retortlaw2.SumPlays" = some 4 by kernel_rfl).symm.trans hf) |>.symm
      obtain rfl : fn = Tryd.f4 := (Option.some.inj (Tryd.func4.symm.trans hfn)).symm
      exact ⟨by kernel_rfl, fun j t ht => by
        rw [Tryd.params4] at ht
        have hm : t ∈ [35] := by simpa using Array.mem_of_getElem? ht
        have hall : ([35].all fun u => !Tryd.prog.wantsStandIn u) = true := by kernel_rfl
        exact (show Tryd.prog.wantsStandIn t = false by simpa using List.all_eq_true.1 hall t hm)⟩)
    (by kernel_rfl)
end sumPlays

theorem sumPlays_holds : Rows.SumPlaysCardSaid := sumPlays.card
#print axioms sumPlays_holds
end Go.Proofs.YtdbogfjkaebeoaaDoor
