/-
  A list of items that was handed in, opened.
-/
import Derived.Test.YtffabihenhejfaaWrites
import Derived.Deep.Strs
import Derived.OpenShut
import Derived.ChangeOld
namespace Go.Proofs.Ytffabihenhejfaa
open Go.ChangeShapes Go.WideShapes Go.ChangeAt Go.RowKit Go.Deep
set_option linter.unusedVariables false

theorem cells27 : Try.prog.cellsOf 27 = 3 := by kernel_rfl
theorem cells25 : Try.prog.cellsOf 25 = 1 := by kernel_rfl
theorem cells3 : Try.prog.cellsOf 3 = 1 := by kernel_rfl
theorem cells5 : Try.prog.cellsOf 5 = 1 := by kernel_rfl

section
variable {H : Type} {enc : TypeId × Value → H} {W : World} {base : Nat} {spare : Nat → Bool} {held : Bool}

theorem open_bytes {fuel : Nat} {v : Value} {x : DataW H × List MemPlace} (h : DataW.trod enc Try.prog W base spare held fuel 25 [v] = some x) :
    ∃ xs : List Int, IsB W v xs ∧ (∀ y ∈ xs, 0 ≤ y ∧ y ≤ 255) ∧ xs.length ≤ maxLen := by
  rcases open_ints Try.underlying25 Try.underlying5 cells5 h with ⟨hcs, _⟩ | ⟨a, len, cap, zs, hcs, hb, hl, hm, hz, _, hcell, hwz⟩
  · cases hcs
    exact ⟨[], .inl ⟨rfl, _, _, rfl⟩, fun y hy => (by cases hy), Nat.zero_le _⟩
  · cases hcs
    have hle : len ≤ zs.length := by rw [hz]; split <;> omega
    have hlen : (zs.take len).length = len := by rw [List.length_take]; omega
    refine ⟨zs.take len, ?_, fun y hy => ?_, by rw [hlen]; omega⟩
    · cases len with
      | zero => exact .inl ⟨by simp, _, _, rfl⟩
      | succ len =>
        obtain ⟨b, off, spot⟩ := a
        have hc := hcell 0 (by omega)
        have hspot : spot = none := by simpa [Addr.add] using World.cell?_spot hc
        subst hspot
        refine .inr ⟨b, off, cap, by rw [hlen], fun i hi => ?_⟩
        rw [hlen] at hi
        have := hcell i (by omega)
        rw [Addr.add_lit] at this
        rw [this]
        simp [List.getD, hi]
    · have := hwz y (List.mem_of_mem_take hy)
      have := bounds_u8 this
      omega

set_option maxRecDepth 100000 in
theorem open_item {fuel : Nat} {cs : List Value} {x : DataW H × List MemPlace} (h : DataW.trod enc Try.prog W base spare held fuel 27 cs = some x) : ∃ y : ItV, cs = y.cells ∧ ArgOk W y := by
  obtain ⟨y0, y1, y2, n, _, hl, h0, h1, h2⟩ := trod_struct3 Try.underlying27 h
  rw [cells27] at hl
  match cs, hl with
  | [c0, c1, c2], _ =>
    have g0 : DataW.trod enc Try.prog W base spare held n 3 [c0] = some y0 := by simpa [cells3] using h0
    have g1 : DataW.trod enc Try.prog W base spare held n 3 [c1] = some y1 := by simpa [cells3] using h1
    have g2 : DataW.trod enc Try.prog W base spare held n 25 [c2] = some y2 := by simpa [cells25] using h2
    obtain ⟨k, ek, _, wk⟩ := DataW.trod_int Try.underlying3 g0
    obtain ⟨m, em, _, wm⟩ := DataW.trod_int Try.underlying3 g1
    obtain ⟨xs, q1, q2, q3⟩ := open_bytes g2
    cases ek
    cases em
    have b0 := bounds_i64 wk
    have b1 := bounds_i64 wm
    exact ⟨⟨k, m, c2, xs⟩, rfl, b0.1, b0.2, b1.1, b1.2, q1, q2, q3⟩

theorem open_items {fuel : Nat} {v : Value} {x : DataW H × List MemPlace} (h : DataW.trod enc Try.prog W base spare held fuel 22 [v] = some x) :
    (∃ ao c, v = .slice ao 0 c) ∨ ∃ (b o c : Nat) (arg : List ItV), v = .slice (some ⟨b, o, none⟩) arg.length c ∧ arg.length ≤ maxLen ∧ ArgItems W b o arg ∧ (∀ i, i < arg.length → ArgOk W (arg.getD i ItV.default)) ∧ b < W.heap.size := by
  rcases open_slice Try.underlying22 h with ⟨hcs, _⟩ | ⟨a, len, cap, m, n, D, Pl, hcs, hb, hl, hm, hm', _, hel⟩
  · cases hcs
    exact .inl ⟨_, _, rfl⟩
  · cases hcs
    cases len with
    | zero => exact .inl ⟨_, _, rfl⟩
    | succ len =>
      right
      have hlm : len + 1 ≤ m := by rw [hm']; split <;> omega
      rw [cells27] at hel
      have hin : Inhabited ItV := ⟨ItV.default⟩
      obtain ⟨f, hf⟩ := choose_lt (n := len + 1) (p := fun i (y : ItV) => W.cells? base (a.add (i * 3)) 3 = some y.cells ∧ ArgOk W y) (fun i hi => by
        obtain ⟨cs', h1, h2⟩ := hel i (by omega)
        obtain ⟨y, rfl, h3⟩ := open_item h2
        exact ⟨y, h1, h3⟩)
      have hcell : ∀ i, i < len + 1 → ∀ j, j < 3 → W.cell? ((a.add (i * 3)).add j) = (f i).cells[j]? := fun i hi => (World.cells?_some (hf i hi).1).2.2
      obtain ⟨b, off, spot⟩ := a
      have hc0 : W.cell? (((⟨b, off, spot⟩ : Addr).add (0 * 3)).add 0) = some (.int .i64 (f 0).k) := hcell 0 (by omega) 0 (by omega)
      have hspot : spot = none := by simpa [Addr.add] using World.cell?_spot hc0
      subst hspot
      have hlen : ((List.range (len + 1)).map f).length = len + 1 := by simp
      have hget : ∀ i, i < len + 1 → ((List.range (len + 1)).map f).getD i ItV.default = f i := by
        intro i hi
        simp [List.getD, hi]
      refine ⟨b, off, cap, (List.range (len + 1)).map f, by rw [hlen], by rw [hlen]; omega, fun i hi => ?_, fun i hi => ?_, ?_⟩
      · rw [hlen] at hi
        rw [hget i hi]
        have k0 := hcell i hi 0 (by omega)
        have k1 := hcell i hi 1 (by omega)
        have k2 := hcell i hi 2 (by omega)
        rw [Addr.add_lit, Addr.add_lit] at k0 k1 k2
        exact ⟨k0, k1, k2⟩
      · rw [hlen] at hi
        rw [hget i hi]
        exact (hf i hi).2
      · have := World.block_lt_of_cell? _ _ hc0
        simpa [Addr.add_lit] using this
end

set_option maxRecDepth 100000 in
set_option maxHeartbeats 1000000 in
theorem writes_none (ao : Option Addr) (c : Nat) (W : World) :
    Calls Try.prog 3 #[.slice ao 0 c] W fun e w' => e = .returned (.bool true) ∧ Below W.heap.size W w' := by
  have hI0 : Inv W (W.alloc (.cells #[.slice none 0 0, .int .i64 0] 78)) W.heap.size [] (.slice none 0 0) (.slice none 0 0) :=
    ⟨wr_new_s W, World.ownsRow_nil _ _ _ _, fun i hi => absurd hi (by simp), (Below.refl _ W).alloc (Nat.le_refl _) _, Nat.le_refl _, fun g hg => (by cases hg), fun g hg => (by cases hg)⟩
  have HINV := hid_of hI0
  have hd1 := hid_of (hI0.done (by simp))
  clear hI0
  go_enter Try.func3, Try.ntmps3
  go_wp2_with fail
  refine (new_any W).mono ?_
  rintro e w1 ⟨rfl, rfl⟩
  go_wp2
  go_loop [4, 5] (fun nv i => nv = .slice none 0 0 ∧ i = .int .i64 0) (fun _ _ => 0)
  case atStart => exact ⟨rfl, rfl⟩
  case round =>
    obtain ⟨rfl, rfl⟩ := hrel
    go_wp2_with fail
    refine hd1.out.mono ?_
    rintro e w2 ⟨rfl, hk2⟩
    have hd2 := hid_of ((HINV.out.new hk2).done (by simp))
    have HB2 := hid_of (HINV.out.new hk2).below
    clear hd1 hk2
    go_wp2_with fail
    refine hd2.out.mono ?_
    rintro e w3 ⟨rfl, hk3⟩
    have HB3 := hid_of (HB2.out.trans (hk3.below HB2.out.size (fun _ f => f.elim)))
    clear hd2 hk3
    go_wp2
    go_ret
    exact ⟨by first | rfl | simp, HB3.out⟩

namespace mintWrites
theorem own : ownKnob Try.prog.godebug = none := by kernel_rfl
theorem laidOut : laidOutB Try.prog = true := by kernel_rfl

set_option maxRecDepth 100000 in
theorem lifted (os : Os) (started : os.Started) (H : Type) (enc : TypeId × Value → H) :
    ReturnsInHanded {} Try.checked os 3 .any (Rows.mintWritesSpec.pre6 enc Try.prog Try.f3 Rows.mintWritesRow.domain false) (Rows.mintWritesSpec.post enc Try.prog Try.f3 false true false false) := by
  refine returnsInHanded_of_change (C := Try.checked) own started (by kernel_rfl) Try.func3
    (ChangeSpec.witness6 (enc := enc) (C := Try.checked) false ⟨#[], #[.slice none 0 0], []⟩ 8 (by kernel_rfl) (by kernel_rfl) (by kernel_rfl) (by kernel_rfl)) ?_
  intro W base args ds gs before hval0 hW hcnd _
  have hval : ∀ (j : Nat) t v, Try.f3.params[j]? = some t → args[j]? = some v → Value.okWide Try.prog W .any base t v := hval0
  have hW' := hW
  obtain ⟨p, q, hA0, hV, rfl, hfz, hnd⟩ := hW
  have hA : DataW.TrodAll enc Try.prog W 0 (fun _ => true) true Try.f3.params.toList args.toList ds p := hA0
  rw [Try.params3] at hA hval
  obtain ⟨v0, vs0, d0, ds0, p0, q0, hargs, rfl, rfl, h0, r0⟩ := trodAll_cons hA
  obtain ⟨rfl, rfl, rfl⟩ := trodAll_nil r0
  obtain rfl : args = #[v0] := by cases args; simp_all
  obtain ⟨rfl, rfl⟩ := trodVars_none hV
  have k0 := h0
  have lt0 : ∀ x ∈ p0, x.block < W.heap.size := by obtain ⟨m, hm⟩ := k0; exact DataW.trod_lt m _ _ _ hm
  obtain ⟨ao, len, cap, rfl⟩ := okWide_slice Try.underlying22 (hval 0 22 v0 rfl rfl)
  obtain ⟨fuel, hf⟩ := h0
  have hf' : DataW.trod enc Try.prog W 0 (fun _ => true) true fuel 22 [.slice ao len cap] = some (d0, p0) := by simpa [Value.cells] using hf
  clear hA0 hval0
  have walk : Calls Try.prog 3 #[.slice ao len cap] W fun e w' => e = .returned (.bool true) ∧ Below W.heap.size W w' := by
    rcases open_items hf' with ⟨ao', c', e⟩ | ⟨b, o, c', arg, e, hl, hit, hok, hb⟩
    · rw [e]
      exact writes_none ao' c' W
    · rw [e]
      exact writes_walk b o c' arg arg.length W rfl hl hit hok (fun _ => hb)
  refine walk.mono fun e W' ⟨he, bel⟩ => ?_
  subst he
  exact ⟨_, rfl, _, _, _, [], _, [], hW', trodAll_mk1 (shut_bool Try.underlying4 _), (trodAll_cons_mk (Below.trod laidOut (by kernel_rfl) (of_decide_eq_true (by kernel_rfl)) k0 bel lt0) trodAll_mk0), rfl, bel.frame _, fun h => by cases h⟩

theorem over : Rows.mintWritesRow.holds Try.pinned (OpenSpec.ofChange Rows.mintWritesSpec) :=
  OpenClaim.holds_of_wide 3 Try.f3 rfl rfl rfl rfl rfl rfl rfl ⟨rfl, rfl, rfl, rfl, rfl⟩ rfl rfl rfl rfl rfl (by kernel_rfl) Try.func3 (by kernel_rfl)
    (of_decide_eq_true (by kernel_rfl)) (by unfold Func.isWrapper; first | (rw [if_pos (by decide +kernel)]; kernel_rfl) | (rw [if_neg (by decide +kernel)]; exact ⟨rfl, rfl⟩))
    (fun os started H enc _ => lifted os started H enc)
end mintWrites

theorem mintWrites_holds : Rows.MintWritesSaid := mintWrites.over
#print axioms mintWrites_holds
end Go.Proofs.Ytffabihenhejfaa
