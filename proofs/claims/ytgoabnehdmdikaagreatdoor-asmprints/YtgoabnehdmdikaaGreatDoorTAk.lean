/-
  TAk: Ak, Al.
-/
import Derived.Test.YtgoabnehdmdikaaGreatDoorTAh
namespace Go.Proofs.YtgoabnehdmdikaaGreatDoor
open Go.RowKit
set_option linter.unusedVariables false
set_option linter.unusedSimpArgs false
set_option maxRecDepth 100000

abbrev srcB : ByteArray := ⟨#[102, 117, 110, 99, 32, 109, 97, 105, 110, 32, 48, 32, 48, 32, 49, 10, 114, 101, 116]⟩
abbrev ln1B : ByteArray := ⟨#[102, 117, 110, 99, 32, 109, 97, 105, 110, 32, 48, 32, 48, 32, 49]⟩
abbrev ln2B : ByteArray := ⟨#[114, 101, 116]⟩
abbrev nlB : ByteArray := ⟨#[10]⟩
theorem split_is : (Lib.splitB nlB 0 (Lib.countB srcB nlB) srcB).map Value.string = [.string ln1B, .string ln2B] := by rfl
theorem count_is : Lib.countB srcB nlB + 1 = 2 := by rfl
def p1 : PG := ⟨0, [], [⟨0, 0, 1, [⟨18, 0⟩]⟩]⟩
theorem p1_ok : p1.Ok := by
  refine ⟨by decide, ⟨by simp [p1], by simp [p1]⟩, fun f hf => ?_, by decide⟩
  simp [p1] at hf
  subst hf
  exact ⟨by decide, by decide, by decide, fun y hy => by simp at hy; subst hy; exact ⟨by decide, by decide⟩, by decide⟩
theorem p1_check : checkP p1 = 0 := by kernel_rfl
theorem pg_of {w0 w : World} {r : Nat} {cv : Value} (h : RdB w0 w r 0 0 1 cv) (ho : w.ownsRow w0.heap.size 75 2 cv 1 [.int .i64 18, .int .i64 0]) :
    ∃ fa fc mv lv, w.heap[r]? = some (.cells #[.int .i64 0, .slice none 0 0, .slice fa 1 fc, .bool false, mv, lv, .slice none 0 0] 99 (0, 0)) ∧ PgIs w w.heap.size (.agg #[.int .i64 0, .slice none 0 0, .slice fa 1 fc]) p1 := by
  obtain ⟨fv, lv, mv, hb, hf⟩ := h.ex
  obtain ⟨gf, cf, rfl⟩ := own_at hf (by decide)
  obtain ⟨gc, cc, rfl⟩ := own_at ho (by decide)
  refine ⟨_, _, _, _, hb, _, _, rfl, .inl ⟨rfl, _, _, rfl⟩, (fun q hq => by cases hq), .inr ⟨gf, 0, cf, rfl, (hf.lt gf rfl).2, fun i f hi => ?_⟩⟩
  have hi0 : i = 0 := by
    have := (List.getElem?_eq_some_iff.1 hi).1
    simp [p1] at this
    exact this
  subst hi0
  simp [p1] at hi
  subst hi
  refine ⟨_, fun j v hv => ?_, .inr ⟨gc, 0, cc, rfl, fun i y hy => ?_⟩, fun q hq _ => (ho.lt q hq).2⟩
  · have := hf.cells (g := gf) rfl j v hv
    rw [Addr.add_lit, Nat.zero_add] at this
    simpa using this
  · have hi0 : i = 0 := by
      have := (List.getElem?_eq_some_iff.1 hy).1
      simp at this
      exact this
    subst hi0
    simp at hy
    subst hy
    intro j v hv
    have := ho.cells (g := gc) rfl j v hv
    rw [Addr.add_lit, Nat.zero_add] at this
    simpa using this
end Go.Proofs.YtgoabnehdmdikaaGreatDoor

namespace Go.Proofs.YtgoabnehdmdikaaGreatDoor
open Go.RowKit
set_option linter.unusedVariables false
set_option linter.unusedSimpArgs false
set_option maxRecDepth 100000

abbrev qs1 : List Pc := [⟨0, funcB, 0⟩, ⟨0, mainB, 0⟩, ⟨1, ⟨#[]⟩, 0⟩, ⟨1, ⟨#[]⟩, 0⟩, ⟨1, ⟨#[]⟩, 1⟩]
abbrev qs2 : List Pc := [⟨0, ln2B, 0⟩]
theorem size37 : (Tryz.prog.info? 26).map (·.size) = some 3 := by kernel_rfl
theorem RdB.put {w0 w w' : World} {r p0 : Nat} {a b d : Int} {cv : Value} {cs : Array Value} (h : RdB w0 w r a b d cv) (hp : w.heap[p0]? = some (.cells cs 26 (0, 0))) (hk : Kept (fun q => q = p0) w w') (hl : w0.heap.size ≤ p0) : RdB w0 w' r a b d cv := by
  obtain ⟨fv, lv, mv, hb, hf⟩ := h.ex
  refine ⟨⟨fv, lv, mv, box_kept hk hb (fun e => ?_), hk.ownsRow hf (fun q hq e => own_box2 hf hp (by decide) (by rw [hq, e]))⟩, h.kept.step hk (fun i hi e => by omega), h.lo⟩
  rw [e, hp] at hb
  cases hb
/-- The program of one instruction, in rows of its own. -/
def Pg1 (w : World) (B : Nat) (fv : Value) : Prop := ∃ cv, w.ownsRow B 78 4 fv 1 [.int .i64 0, .int .i64 0, .int .i64 1, cv] ∧ w.ownsRow B 75 2 cv 1 [.int .i64 18, .int .i64 0]
theorem Pg1.same {w w' : World} {B : Nat} {fv : Value} (h : Pg1 w B fv) (hk : Kept (fun _ => False) w w') : Pg1 w' B fv := by
  obtain ⟨cv, h1, h2⟩ := h
  exact ⟨cv, hk.ownsRow h1 (fun _ _ f => f), hk.ownsRow h2 (fun _ _ f => f)⟩
theorem Pg1.put {w w' : World} {B p0 : Nat} {fv : Value} {cs : Array Value} (h : Pg1 w B fv) (hp : w.heap[p0]? = some (.cells cs 26 (0, 0))) (hk : Kept (fun q => q = p0) w w') : Pg1 w' B fv := by
  obtain ⟨cv, h1, h2⟩ := h
  exact ⟨cv, hk.ownsRow h1 (fun q hq e => own_box2 h1 hp (by decide) (by rw [hq, e])), hk.ownsRow h2 (fun q hq e => own_box2 h2 hp (by decide) (by rw [hq, e]))⟩
theorem Pg1.mono {w : World} {B B' : Nat} {fv : Value} (h : Pg1 w B fv) (hB : B' ≤ B) : Pg1 w B' fv := by
  obtain ⟨cv, h1, h2⟩ := h
  exact ⟨cv, own_mono h1 hB, own_mono h2 hB⟩
theorem Pg1.pg {w : World} {B : Nat} {fv : Value} (h : Pg1 w B fv) : PgIs w w.heap.size (.agg #[.int .i64 0, .slice none 0 0, fv]) p1 := by
  obtain ⟨cv, hf, ho⟩ := h
  obtain ⟨gf, cf, rfl⟩ := own_at hf (by decide)
  obtain ⟨gc, cc, rfl⟩ := own_at ho (by decide)
  refine ⟨_, _, rfl, .inl ⟨rfl, _, _, rfl⟩, (fun q hq => by cases hq), .inr ⟨gf, 0, cf, rfl, (hf.lt gf rfl).2, fun i f hi => ?_⟩⟩
  have hi0 : i = 0 := by
    have := (List.getElem?_eq_some_iff.1 hi).1
    simp [p1] at this
    exact this
  subst hi0
  simp [p1] at hi
  subst hi
  refine ⟨_, fun j v hv => ?_, .inr ⟨gc, 0, cc, rfl, fun i y hy => ?_⟩, fun q hq _ => (ho.lt q hq).2⟩
  · have := hf.cells (g := gf) rfl j v hv
    rw [Addr.add_lit, Nat.zero_add] at this
    simpa using this
  · have hi0 : i = 0 := by
      have := (List.getElem?_eq_some_iff.1 hy).1
      simp at this
      exact this
    subst hi0
    simp at hy
    subst hy
    intro j v hv
    have := ho.cells (g := gc) rfl j v hv
    rw [Addr.add_lit, Nat.zero_add] at this
    simpa using this
set_option maxHeartbeats 16000000 in
theorem read_src (hc1 : CutR ln1B qs1) (hc2 : CutR ln2B qs2) (w : World) (hG : Gl w) :
    Calls Tryz.prog 19 #[.string srcB] w fun e w' => ∃ fa fc, e = .returned (.tuple #[.agg #[.int .i64 0, .slice none 0 0, .slice fa 1 fc], .int .i64 0, .int .i64 0]) ∧ Kept (fun _ => False) w w' ∧ Pg1 w' w.heap.size (.slice fa 1 fc) := by
  obtain ⟨W1, hW1⟩ : ∃ W, W = w.alloc (.cells #[.int .i64 0, .slice none 0 0, .slice none 0 0] 26) := ⟨_, rfl⟩
  have k1 : Kept (fun _ => False) w W1 := by rw [hW1]; exact (Kept.refl _ _).alloc _
  have x1 : W1.heap[w.heap.size]? = some (.cells #[.int .i64 0, .slice none 0 0, .slice none 0 0] 26 (0, 0)) := by rw [hW1]; exact heap_alloc_new _ _
  have hs1 : W1.heap.size = w.heap.size + 1 := by rw [hW1]; simp
  have HC1 := hid_of hc1
  have HC2 := hid_of hc2
  have HG1 := hid_of (hG.same k1)
  have HG0 := hid_of hG
  have HK1 := hid_of k1
  have HX1 := hid_of x1
  have hmm := @run_makeMap Tryz.prog
  clear hc1 hc2 hG k1 x1
  go_enter Tryz.func19, Tryz.ntmps19
  go_upto_region 1 with fail
  rw [← hW1]
  obtain ⟨p0, hp0⟩ : ∃ p, p = w.heap.size := ⟨_, rfl⟩
  rw [← hp0] at HX1 ⊢
  have HPW : Hid (w.heap.size ≤ p0) := by rw [hp0]; exact Nat.le_refl _
  have HP1 : Hid (p0 < W1.heap.size) := by unfold Hid; rw [hs1, hp0]; omega
  clear hW1 hs1 hp0
  have hkm : Kept (fun _ => False) W1 (W1.alloc (.map #[] 0)) := (Kept.refl _ _).alloc _
  have hmp := heap_alloc_new W1 (.map #[] 0)
  have hszm : (W1.alloc (.map #[] 0)).heap.size = W1.heap.size + 1 := by simp
  obtain ⟨W3, hW3⟩ : ∃ W, W = (W1.alloc (.map #[] 0)).alloc (.cells #[.int .i64 0, .slice none 0 0, .slice none 0 0, .bool false, .map (some W1.heap.size), .slice none 0 0, .slice none 0 0] 99) := ⟨_, rfl⟩
  have hkr : Kept (fun _ => False) (W1.alloc (.map #[] 0)) W3 := by rw [hW3]; exact (Kept.refl _ _).alloc _
  have hrd : W3.heap[W1.heap.size + 1]? = some (.cells #[.int .i64 0, .slice none 0 0, .slice none 0 0, .bool false, .map (some W1.heap.size), .slice none 0 0, .slice none 0 0] 99 (0, 0)) := by
    have := heap_alloc_new (W1.alloc (.map #[] 0)) (.cells #[.int .i64 0, .slice none 0 0, .slice none 0 0, .bool false, .map (some W1.heap.size), .slice none 0 0, .slice none 0 0] 99)
    rw [hszm, ← hW3] at this
    exact this
  have HRA : Hid (RdA W3 (W1.heap.size + 1) W1.heap.size) := ⟨hrd, 0, box_kept hkr hmp (fun f => f)⟩
  have HK3 := hid_of (hkm.trans hkr)
  have HRW0 : Hid (w.heap.size ≤ W1.heap.size + 1) := Nat.le_trans HK1.out.size (Nat.le_succ _)
  clear hkm hmp hszm hkr hrd
  go_upto_region 4 with fail
  rw [← hW3]
  generalize W1.heap.size + 1 = r at *
  clear hW3 hmm
  have HGM : Hid (W1.heap.size = W1.heap.size) := rfl
  obtain ⟨gm, hgm⟩ : ∃ g, g = W1.heap.size := ⟨_, rfl⟩
  rw [← hgm] at HRA
  have HGMW : Hid (w.heap.size ≤ gm) := by rw [hgm]; exact HK1.out.size
  have HRW : Hid (w.heap.size ≤ r) := HRW0
  have HG3 := hid_of (HG1.out.same HK3.out)
  have HK03 := hid_of (HK1.out.trans HK3.out)
  have HX3 := hid_of (box_kept HK3.out HX1.out (fun f => f))
  obtain ⟨m, q1⟩ := HG3.out.len
  have HSP := hid_of (Tryz.strings_Split srcB nlB m W3 (by decide) q1 (by decide))
  rw [split_is, count_is] at HSP
  clear q1 HGM hgm HK1 HG1 HX1 HK3
  go_wp2_with fail
  refine HSP.out.mono ?_
  rintro e W4 ⟨rfl, hw4⟩
  have k4 : Kept (fun _ => False) W3 W4 := by rw [hw4]; exact (Kept.refl _ _).alloc _
  have x4 : W4.heap[W3.heap.size]? = some (.cells #[.string ln1B, .string ln2B] 9 (0, 0)) := by rw [hw4]; exact heap_alloc_new _ _
  have HRA4 := hid_of (HRA.out.kept k4 (fun f => f) (fun f => f))
  have HK4 := hid_of (HK03.out.trans k4)
  have HG4 := hid_of (HG3.out.same k4)
  have HX4 := hid_of (box_kept k4 HX3.out (fun f => f))
  have HT4 := hid_of x4
  clear hw4 k4 x4 HSP HRA HK03 HG3 HX3
  generalize W3.heap.size = gt at *
  go_wp2_with fail
  go_loopw [22] (fun iv wr => Hid (Kept (fun _ => False) w wr) ∧ Hid (Oth W4 wr) ∧ ((iv = .int .i64 0 ∧ Hid (RdA wr r gm)) ∨ (iv = .int .i64 1 ∧ Hid (RdB w wr r 0 0 1 (.slice none 0 0))) ∨ (iv = .int .i64 2 ∧ Hid (∃ cv, RdB w wr r 0 0 1 cv ∧ wr.ownsRow w.heap.size 75 2 cv 1 [.int .i64 18, .int .i64 0])))) (fun iv _ => 2 - (intOf iv).toNat)
  case atStart => exact ⟨HK4, (Kept.refl (fun _ => False) W4).oth, .inl ⟨rfl, HRA4⟩⟩
  case round =>
    clear HRA4 HK4
    obtain ⟨HK, HO, hcase⟩ := hrel
    have hT := HO.out gt _ 9 HT4.out (by decide) (by decide)
    rcases hcase with ⟨rfl, HRA⟩ | ⟨rfl, HRB⟩ | ⟨rfl, HRC⟩
    · have t0 := cell_block _ _ 0 _ _ _ hT
      have HL := hid_of (line_func r gm 1 0 0 0 0 1 ln1B mainB ⟨#[]⟩ ⟨#[]⟩ ⟨#[]⟩ HC1.out w wr HRA.out HK.out HRW.out HGMW.out (HG0.out.same HK.out))
      clear hT
      go_wp2_with fail
      refine HL.out.mono ?_
      rintro e w5 ⟨rfl, h5, h5o⟩
      have H5 := hid_of h5
      have HK5 := hid_of h5.kept
      have HO5 := hid_of (HO.out.trans h5o)
      clear h5 h5o t0 HL
      go_wp2
      go_roundw
      case rel => exact ⟨HK5, HO5, .inr (.inl ⟨rfl, H5⟩)⟩
      case measure => simp [intOf]
    · have t1 := cell_block _ _ 1 _ _ _ hT
      have HL := hid_of (line_ret r 2 0 0 0 1 ln2B HC2.out w wr HRB.out (HG0.out.same HK.out))
      clear hT
      go_wp2_with fail
      refine HL.out.mono ?_
      rintro e w5 ⟨rfl, cv, h5, h5c, h5o⟩
      have H5 : Hid (∃ cv, RdB w w5 r 0 0 1 cv ∧ w5.ownsRow w.heap.size 75 2 cv 1 [.int .i64 18, .int .i64 0]) := ⟨cv, h5, h5c⟩
      have HK5 := hid_of h5.kept
      have HO5 := hid_of (HO.out.trans h5o)
      clear h5 h5c h5o t1 HL
      go_wp2
      go_roundw
      case rel => exact ⟨HK5, HO5, .inr (.inr ⟨rfl, H5⟩)⟩
      case measure => simp [intOf]
    · obtain ⟨cv, hrb, hro⟩ := HRC.out
      obtain ⟨fa, fc, mv, lv, hbx, hpg⟩ := pg_of hrb hro
      have HST := hid_of (settle_none r _ _ _ _ _ _ wr hbx)
      have HRB := hid_of hrb
      have HRO := hid_of hro
      have HBX := hid_of hbx
      have HPG := hid_of hpg
      have HX5 := hid_of (HO.out p0 _ 26 HX4.out (by decide) (by decide))
      clear hT hrb hro hbx hpg HRC
      go_wp2_with fail
      refine HST.out.mono ?_
      rintro e w5 ⟨rfl, hw⟩
      have hw := hw.symm
      subst hw
      clear HST
      have HRP : Hid (¬ r = p0) := fun e => by
        have h1 := HBX.out
        rw [e, HX5.out] at h1
        cases h1
      have HCK := hid_of (check_p _ p1 wr _ HPG.out (Nat.le_refl _) p1_ok)
      rw [p1_check] at HCK
      have r0 := cell_block _ _ 0 _ _ _ HBX.out
      have r1 := cell_block _ _ 1 _ _ _ HBX.out
      have r2 := cell_block _ _ 2 _ _ _ HBX.out
      go_wp2_with fail
      refine HCK.out.mono ?_
      rintro e w6 ⟨rfl, hk6⟩
      have hx6 := box_kept hk6 HX5.out (fun f => f)
      obtain ⟨hx, hkx⟩ := set3 w6 p0 26 _ _ _ (.int .i64 0) (.slice none 0 0) (.slice fa 1 fc) hx6
      have HRB6 := hid_of ((HRB.out.same hk6).put hx6 hkx HPW.out)
      have hro6 := hk6.ownsRow HRO.out (fun _ _ f => f)
      have HRO6 := hid_of (hkx.ownsRow hro6 (fun q hq e => own_box2 hro6 hx6 (by decide) (by rw [hq, e])))
      have hbx6 := box_kept hk6 HBX.out (fun f => f)
      have HBX6 := hid_of (box_kept hkx hbx6 HRP.out)
      have HX6 := hid_of hx
      clear r0 r1 r2
      have r0 := cell_block _ _ 0 _ _ _ hbx6
      have r1 := cell_block _ _ 1 _ _ _ hbx6
      have r2 := cell_block _ _ 2 _ _ _ hbx6
      obtain ⟨c0, c1, c2, f0, f1, f2⟩ := look3 hx6
      clear hx hkx hx6 hro6 hbx6 hk6 HCK HRB HRO HBX HPG
      go_wp2
      refine bodyPost_ret (v := .tuple #[.agg #[.int .i64 0, .slice none 0 0, .slice fa 1 fc], .int .i64 0, .int .i64 0]) ?_ rfl ⟨fa, fc, rfl, HRB6.out.kept, ?_⟩
      · exact results_rowtt (by rfl) _ _ p0 26 _ (0, 0) _ _ _ (by rfl) (by rfl) (by rfl) HX6.out Tryz.underlying26 rfl size37
      · obtain ⟨fv2, lv2, mv2, hb2, hf2⟩ := HRB6.out.ex
        have hb1 := HBX6.out
        rw [hb2] at hb1
        cases hb1
        exact ⟨_, hf2, HRO6.out⟩
set_option maxHeartbeats 4000000 in
theorem parse_src (hc1 : CutR ln1B qs1) (hc2 : CutR ln2B qs2) (w : World) (hG : Gl w) :
    Calls Tryz.prog 8 #[.string srcB] w fun e w' => ∃ fa fc, e = .returned (.tuple #[.agg #[.int .i64 0, .slice none 0 0, .slice fa 1 fc], .nilIface]) ∧ Kept (fun _ => False) w w' ∧ Pg1 w' w.heap.size (.slice fa 1 fc) := by
  have hka : Kept (fun _ => False) w (w.alloc (.cells #[.int .i64 0, .slice none 0 0, .slice none 0 0] 26)) := (Kept.refl _ _).alloc _
  have HX := hid_of (heap_alloc_new w (.cells #[.int .i64 0, .slice none 0 0, .slice none 0 0] 26))
  have HR := hid_of (read_src hc1 hc2 _ (hG.same hka))
  have HK := hid_of hka
  have hsz : (w.alloc (.cells #[.int .i64 0, .slice none 0 0, .slice none 0 0] 26)).heap.size = w.heap.size + 1 := by simp
  rw [hsz] at HR
  clear hc1 hc2 hG hka hsz
  go_enter Tryz.func8, Tryz.ntmps8
  go_wp2_with fail
  refine HR.out.mono ?_
  rintro e w2 ⟨fa, fc, rfl, hk2, hpg⟩
  have HX2 := hid_of (box_kept hk2 HX.out (fun f => f))
  have HK2 := hid_of (HK.out.trans hk2)
  have HPG := hid_of hpg
  obtain ⟨p0, hp0⟩ : ∃ p, p = w.heap.size := ⟨_, rfl⟩
  rw [← hp0] at HX2 HPG ⊢
  have HPW : Hid (w.heap.size ≤ p0) := by rw [hp0]; exact Nat.le_refl _
  have hka : Kept (fun _ => False) w2 (w2.alloc (.cells #[.int .i64 0, .slice none 0 0, .slice fa 1 fc] 26)) := (Kept.refl _ _).alloc _
  have HX3 := hid_of (box_kept hka HX2.out (fun f => f))
  have HY3 := hid_of (heap_alloc_new w2 (.cells #[.int .i64 0, .slice none 0 0, .slice fa 1 fc] 26))
  have HK3 := hid_of (HK2.out.trans hka)
  have HPG3 := hid_of (HPG.out.same hka)
  clear hk2 hpg hka HR HX HK HX2 HK2 HPG hp0
  go_upto_region 2 with fail
  generalize w2.alloc (.cells #[.int .i64 0, .slice none 0 0, .slice fa 1 fc] 26) = w3 at *
  generalize w2.heap.size = gy at *
  obtain ⟨hx, hkx⟩ := set3 w3 p0 26 _ _ _ (.int .i64 0) (.slice none 0 0) (.slice fa 1 fc) HX3.out
  obtain ⟨c0, c1, c2, f0, f1, f2⟩ := look3 HX3.out
  obtain ⟨d0, d1, d2, _⟩ := look3 HY3.out
  have HX4 := hid_of hx
  have HK4 := hid_of (HK3.out.step hkx (fun i hi e => by have := HPW.out; omega))
  have HPG4 := hid_of ((HPG3.out.put HX3.out hkx).mono (B' := w.heap.size) (by have := HPW.out; omega))
  clear hx hkx HX3 HY3 HK3 HPG3
  go_wp2
  refine bodyPost_ret (v := .tuple #[.agg #[.int .i64 0, .slice none 0 0, .slice fa 1 fc], .nilIface]) ?_ rfl ⟨fa, fc, rfl, HK4.out, HPG4.out⟩
  exact results_row_tmp (by rfl) _ _ ⟨p0, 0, none⟩ _ _ (by rfl) (by rfl) (run_loadVar_row _ p0 26 26 _ (0, 0) _ HX4.out Tryz.underlying26 rfl size37)
end Go.Proofs.YtgoabnehdmdikaaGreatDoor
