/-
  MintBack: the walk and the given statement.
-/
import Derived.Test.YtffabihenhejfaaRsheet
namespace Go.Proofs.Ytffabihenhejfaa
open Go.ChangeShapes Go.WideShapes Go.ChangeAt Go.RowKit
set_option linter.unusedVariables false

/-- same, of a sheet that is done and the things that were put. -/
theorem same_done (w4 w' : World) (s B : Nat) (allv tv lv : Value) (its told : List ItV) (hsd : SDone w4 w' s allv its tv lv told) (hm : its.length ≤ 1000) (hnil : its = [] → allv = .slice none 0 0) (hrow : w'.ownsRow B 27 3 allv its.length (its.flatMap ItV.cells))
    (hgood : ∀ i, i < its.length → Good (its.getD i ItV.default) ∧ IsB w' (its.getD i ItV.default).bv (its.getD i ItV.default).xs) :
    Calls Try.prog 24 #[tv, allv] w' fun e w'' => e = .returned (.bool true) ∧ ∃ n, w'' = w'.drewN n := by
  obtain ⟨_, h2⟩ := hsd
  rcases h2 with ⟨rfl, rfl⟩ | ⟨h0, gt, tc, gl, lc, rfl, e2, e3, e4, e5, e6, e7, e8⟩
  · rw [hnil rfl]
    refine (same_items_none none none 0 0 w').mono ?_
    rintro e w'' ⟨rfl, rfl⟩
    exact ⟨rfl, 0, rfl⟩
  · obtain ⟨gw, c, rfl⟩ : ∃ gw c, allv = .slice (some ⟨gw, 0, none⟩) its.length c := by
      rcases World.ownsRow.mk' hrow with ⟨_, hn⟩ | ⟨gw, c, e⟩
      · exact absurd (List.length_eq_zero_iff.1 hn) h0
      · exact ⟨gw, c, e⟩
    have hr : Row w' (.slice (some ⟨gw, 0, none⟩) its.length c) its := by
      refine ⟨hrow.1, ?_⟩
      rcases hrow.2 with h | ⟨g, cap, cur, e, hb, r⟩
      · exact .inl h
      · exact .inr ⟨g, cap, cur, e, Nat.zero_le _, r⟩
    exact same_items gt tc gw c its.length told its w' hm e4 rfl e3 (Row.items hr) (fun i hi => ⟨(e8 i hi).1, (e8 i hi).2.1, (e8 i hi).2.2.1, (e8 i hi).2.2.2.1, (hgood i hi).2, (hgood i hi).1.2.2.2.2.2.2.2⟩)

set_option maxRecDepth 100000 in
set_option maxHeartbeats 4000000 in
theorem back_walk (v : Value) (W : World) (h : (∃ ao c, v = .slice ao 0 c) ∨ ∃ (b o c : Nat) (arg : List ItV), v = .slice (some ⟨b, o, none⟩) arg.length c ∧ arg.length ≤ maxLen ∧ ArgItems W b o arg ∧ (∀ i, i < arg.length → ArgOk W (arg.getD i ItV.default)) ∧ b < W.heap.size) :
    Calls Try.prog 5 #[v] W fun e w' => e = .returned (.bool true) ∧ Below W.heap.size W w' := by
  have hrt := hid_of (rights_any v 400 8192 W h (by omega) (by omega))
  have hmk := hmf
  clear h
  go_enter Try.func5, Try.ntmps5
  go_wp2_with fail
  refine hrt.out.mono ?_
  rintro e w1 ⟨allv, its, rfl, hgs, hil, hxl, hk1, hnil⟩
  have hgood1 : ∀ i, i < its.length → Good (its.getD i ItV.default) ∧ IsB w1 (its.getD i ItV.default).bv (its.getD i ItV.default).xs := fun i hi => ⟨(hgs.good i hi).1, (hgs.good i hi).2.kept hk1 (fun _ _ f => f)⟩
  have hen : (encs its).length ≤ 4194304 := by
    have := encs_few its 8192 (by omega) (fun i hi => (hgood1 i hi).1) hxl its.length (Nat.le_refl _)
    rw [List.take_of_length_le (Nat.le_refl _)] at this
    have h2 : its.length * (8192 + 9) ≤ 400 * (8192 + 9) := Nat.mul_le_mul_right _ hil
    omega
  have hwr := hid_of (written_any allv W.heap.size its w1 ⟨hgs.row, hgood1⟩ (by omega) hen hnil)
  obtain ⟨alo, alc, hav⟩ := ownsRow_shape hgs.row
  have HROW := hid_of hgs.row
  have HG1 := hid_of hgood1
  have HK1 := hid_of hk1
  have HNIL := hid_of hnil
  have hs1 := hk1.size
  clear hrt hgs hxl hk1 hnil hgood1
  subst hav
  go_wp2_with fail
  refine hwr.out.mono ?_
  rintro e w2 ⟨bv, rfl, ho2, hk2⟩
  obtain ⟨bo, bc, hbv⟩ := ownsRow_shape ho2
  -- the sheet, in a new block; then the bytes are lent
  have hB3 : IsB (w2.alloc (.cells #[.slice alo its.length alc, .slice none 0 0, .slice none 0 0, .pointer none] 64)) bv (encs its) := isB_own (ho2.alloc _)
  have hld := hid_of (lend_any bv (encs its) _ hB3 (by omega))
  have HB2 := hid_of (isB_own ho2)
  have HO2 := hid_of ho2
  have HK2 := hid_of hk2
  have hs2 := hk2.size
  clear hwr hk2 ho2 hB3
  subst hbv
  go_wp2_with fail
  refine hld.out.mono ?_
  rintro e w4 ⟨rfl, hLe, hk4⟩
  rw [show (w2.alloc (.cells #[.slice alo its.length alc, .slice none 0 0, .slice none 0 0, .pointer none] 64)).heap.size = w2.heap.size + 1 from by simp] at hLe ⊢
  have hk24 : Kept (fun _ => False) w2 w4 := ((Kept.refl _ _).alloc _).trans hk4
  have hsh4 : Sh w4 w2.heap.size (.slice alo its.length alc) (.slice none 0 0) (.slice none 0 0) (.pointer none) := (hk4.block _ (by simp) (fun f => f)).trans (heap_alloc_new w2 _)
  have hk14 : Kept (fun _ => False) w1 w4 := HK2.out.trans hk24
  have hrow4 := hk14.ownsRow HROW.out (fun _ _ f => f)
  have hgood4 : ∀ i, i < its.length → Good (its.getD i ItV.default) ∧ IsB w4 (its.getD i ItV.default).bv (its.getD i ItV.default).xs := fun i hi => ⟨(HG1.out i hi).1, (HG1.out i hi).2.kept hk14 (fun _ _ f => f)⟩
  have hgl4 : w2.heap.size + 1 < w4.heap.size := by obtain ⟨cur, hc, _⟩ := hLe; exact (Array.getElem?_eq_some_iff.1 hc).1
  have hx4 : IsR w4 (w2.heap.size + 1) (.slice (some ⟨w2.heap.size + 1, 0, none⟩) (encs its).length ((encs its).length + 5)) (encs its) := by
    refine .inr ⟨0, _, rfl, by omega, by omega, by unfold maxLen; omega, fun i hi => ?_⟩
    obtain ⟨cur, h0, h1, h2, h3⟩ := hLe
    rw [cell_block _ _ _ _ _ _ h0, Nat.zero_add]
    exact h2 i hi
  have halo : ∀ q, (Value.slice alo its.length alc).ownBlock = some q → q < w1.heap.size := fun q hq => (World.ownsRow.lt HROW.out q hq).2
  have hbvo : ∀ q, (Value.slice bo (encs its).length bc).ownBlock = some q → q < w2.heap.size := fun q hq => (World.ownsRow.lt HO2.out q hq).2
  have rs := hid_of (read_sheet (.slice alo its.length alc) W.heap.size w2.heap.size (w2.heap.size + 1) _ _ _ its w4 hsh4 hrow4 HNIL.out hgood4 (by omega) hx4 hgl4 (by omega) (fun e => by have := halo _ e; omega))
  have HB4 := hid_of (HB2.out.kept hk24 (fun _ _ f => f))
  have HLE := hid_of hLe
  have HK14 := hid_of hk14
  have HROW4 := hid_of hrow4
  have HG4 := hid_of hgood4
  have HALO := hid_of halo
  have HBVO := hid_of hbvo
  clear hld hLe hk4 hk24 hsh4 hk14 hrow4 hgood4 hx4 halo hbvo HB2 HO2 HROW HK2
  generalize hxs : encs its = xs at *
  clear hxs
  go_wp2_with fail
  refine rs.out.mono ?_
  rintro e w5 ⟨rfl, hk5, tv, lv, told, hsd⟩
  have hs5 := hk5.size
  have hbk := hid_of (back_any (w2.heap.size + 1) (.slice bo xs.length bc) xs w5 (HLE.out.kept hk5 (by omega)) (HB4.out.kept hk5 (fun q hq e => by have := HBVO.out q hq; omega)) (by omega))
  have HK5 := hid_of hk5
  have HSD := hid_of hsd
  clear rs hk5 hsd HLE HB4
  go_wp2_with fail
  refine hbk.out.mono ?_
  rintro e w6 ⟨rfl, hk6⟩
  have hsd6 := HSD.out.kept hk6 (by omega) (fun q hq e => by omega)
  have hk46 : Kept (fun q => q = w2.heap.size ∨ q = w2.heap.size + 1) w4 w6 := (HK5.out.mono (fun _ _ e => .inl e)).trans (hk6.mono (fun _ _ e => .inr e))
  have hrow6 := hk46.ownsRow HROW4.out (fun q hq e => by have := HALO.out q hq; omega)
  have hgood6 : ∀ i, i < its.length → Good (its.getD i ItV.default) ∧ IsB w6 (its.getD i ItV.default).bv (its.getD i ItV.default).xs := fun i hi => ⟨(HG4.out i hi).1, (HG4.out i hi).2.kept2 hk46 (fun hne q hq e => by have := (HG1.out i hi).2.lt hne q hq; omega)⟩
  have hsm := hid_of (same_done w4 w6 w2.heap.size W.heap.size _ tv lv its told hsd6 (by omega) HNIL.out hrow6 hgood6)
  obtain ⟨⟨rp, hsh6⟩, hcs⟩ := hsd6
  obtain ⟨_, d1, d2, _⟩ := hsh6.cells
  have HB6 : Hid (Below W.heap.size W w6) := ((HK1.out.trans HK14.out).below (Nat.le_refl _) (fun q f => f.elim)).trans (hk46.below (by have := HK14.out.size; omega) (fun q e => by omega))
  have HCS := hid_of hcs
  clear hbk hk6 hk46 hrow6 hgood6 hsh6 hcs HSD HK5 HROW4 HG4 HG1 HK1 HK14 HALO HBVO
  go_wp2_with fail
  refine hsm.out.mono ?_
  rintro e w7 ⟨rfl, n, rfl⟩
  clear hsm
  rcases HCS.out with ⟨h0, _⟩ | ⟨h0, gt, tc, gl, lc, _, _, _, _, hlv, _, hlc, _⟩
  · subst h0
    clear HCS
    go_wp2
    go_ret
    exact ⟨by first | rfl | simp, below_drewN HB6.out n⟩
  · have hpos : 0 < its.length := List.length_pos_iff.2 h0
    have hne : ((its.length : Int) == 0) = false := by simp; omega
    have hidx : (its.length : Int) - 1 < (its.length : Int) := by omega
    have hidx0 : (0 : Int) ≤ (its.length : Int) - 1 := by omega
    subst hlv
    clear HCS h0 HNIL
    go_wp2
    go_ret
    exact ⟨by first | rfl | simp, below_drewN HB6.out n⟩

namespace mintBack
theorem own : ownKnob Try.prog.godebug = none := by kernel_rfl
theorem laidOut : laidOutB Try.prog = true := by kernel_rfl

set_option maxRecDepth 100000 in
theorem lifted (os : Os) (started : os.Started) (H : Type) (enc : TypeId × Value → H) :
    ReturnsInHanded {} Try.checked os 5 .any (Rows.mintBackSpec.pre6 enc Try.prog Try.f5 Rows.mintBackRow.domain false) (Rows.mintBackSpec.post enc Try.prog Try.f5 false true false false) := by
  refine returnsInHanded_of_change (C := Try.checked) own started (by kernel_rfl) Try.func5
    (ChangeSpec.witness6 (enc := enc) (C := Try.checked) false ⟨#[], #[.slice none 0 0], []⟩ 8 (by kernel_rfl) (by kernel_rfl) (by kernel_rfl) (by kernel_rfl)) ?_
  intro W base args ds gs before hval0 hW hcnd _
  have hval : ∀ (j : Nat) t v, Try.f5.params[j]? = some t → args[j]? = some v → Value.okWide Try.prog W .any base t v := hval0
  have hW' := hW
  obtain ⟨p, q, hA0, hV, rfl, hfz, hnd⟩ := hW
  have hA : DataW.TrodAll enc Try.prog W 0 (fun _ => true) true Try.f5.params.toList args.toList ds p := hA0
  rw [Try.params5] at hA hval
  obtain ⟨v0, vs0, d0, ds0, p0, q0, hargs, rfl, rfl, h0, r0⟩ := trodAll_cons hA
  obtain ⟨rfl, rfl, rfl⟩ := trodAll_nil r0
  obtain rfl : args = #[v0] := by cases args; simp_all
  obtain ⟨rfl, rfl⟩ := trodVars_none hV
  have k0 := h0
  have lt0 : ∀ x ∈ p0, x.block < W.heap.size := by obtain ⟨m, hm⟩ := k0; exact DataW.trod_lt m _ _ _ hm
  obtain ⟨ao, len, cap, rfl⟩ := okWide_slice Try.underlying22 (hval 0 22 v0 rfl rfl)
  obtain ⟨fuel, hf⟩ := h0
  have hf' : DataW.trod enc Try.prog W 0 (fun _ => true) true fuel 22 [.slice ao len cap] = some (d0, p0) := by simpa [Value.cells] using hf
  clear hA0 hval0
  refine (back_walk _ W (open_items hf')).mono fun e W' ⟨he, bel⟩ => ?_
  subst he
  exact ⟨_, rfl, _, _, _, [], _, [], hW', trodAll_mk1 (shut_bool Try.underlying4 _), (trodAll_cons_mk (Below.trod laidOut (by kernel_rfl) (of_decide_eq_true (by kernel_rfl)) k0 bel lt0) trodAll_mk0), rfl, bel.frame _, fun h => by cases h⟩

theorem over : Rows.mintBackRow.holds Try.pinned (OpenSpec.ofChange Rows.mintBackSpec) :=
  OpenClaim.holds_of_wide 5 Try.f5 rfl rfl rfl rfl rfl rfl rfl ⟨rfl, rfl, rfl, rfl, rfl⟩ rfl rfl rfl rfl rfl (by kernel_rfl) Try.func5 (by kernel_rfl)
    (of_decide_eq_true (by kernel_rfl)) (by unfold Func.isWrapper; first | (rw [if_pos (by decide +kernel)]; kernel_rfl) | (rw [if_neg (by decide +kernel)]; exact ⟨rfl, rfl⟩))
    (fun os started H enc _ => lifted os started H enc)
end mintBack

theorem mintBack_holds : Rows.MintBackSaid := mintBack.over
#print axioms mintBack_holds
end Go.Proofs.Ytffabihenhejfaa
