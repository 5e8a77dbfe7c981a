/-
  The fixed program as text.
-/
import Derived.Test.YtkilngknklpadaaGreatDoorAo
import Derived.Lib.SlBytesConst
namespace Go.Proofs.YtkilngknklpadaaGreatDoor
open Go.RowKit
set_option linter.unusedVariables false
set_option linter.unusedSimpArgs false
set_option maxRecDepth 100000

abbrev memY : List Value := [.int .u8 109, .int .u8 101, .int .u8 109, .int .u8 111, .int .u8 114, .int .u8 121]
def allY : List Value := memY ++ [.int .u8 32, .int .u8 48] ++ [.int .u8 10] ++ funY
abbrev memC : Array Value := #[.int .u8 109, .int .u8 101, .int .u8 109, .int .u8 111, .int .u8 114, .int .u8 121]
theorem own_new (w0 W : World) (hk : Kept (fun _ => False) w0 W) : (W.alloc (.cells memC 5)).ownsRow w0.heap.size 5 1 (.slice (some ⟨W.heap.size, 0, none⟩) 6 6) 6 memY :=
  ⟨rfl, .inr ⟨W.heap.size, 6, _, rfl, hk.size, heap_alloc_new W _, Nat.le_refl _, by decide, rfl, rfl⟩⟩
theorem own_at_block {w w' : World} {B e s n : Nat} {v : Value} {xs : List Value} (h : w.ownsRow B e s v n xs) (hb : ∀ g, v.ownBlock = some g → w'.heap[g]? = w.heap[g]?) : w'.ownsRow B e s v n xs := by
  refine ⟨h.1, ?_⟩
  rcases h.2 with hh | ⟨g, cap, cur, rfl, hbg, hgg, rest⟩
  · exact .inl hh
  · exact .inr ⟨g, cap, cur, rfl, hbg, (hb g rfl).trans hgg, rest⟩
/-- The first byte behind a constant's row (it is full): a new row. -/
theorem push_first (w0 wa : World) (hk : Kept (fun _ => False) w0 wa) (x : Int) :
    ∃ ao' m' c' w', (Builtin.append_ #[34, 34] 34 #[.slice (some ⟨wa.heap.size, 0, none⟩) 6 6, .slice (some ⟨wa.heap.size + 1, 0, none⟩) 1 1]).run Tryz.prog ((wa.alloc (.cells memC 5 (6, 7))).alloc (.cells #[.int .u8 x] 5)) = .ok (.slice ao' m' c') w' ∧ w'.ownsRow w0.heap.size 5 1 (.slice ao' m' c') m' (memY ++ [.int .u8 x]) ∧ Kept (fun _ => False) wa w' := by
  obtain ⟨i0, hi, hz0, hz1, hz2⟩ := info_parts Tryz.info5
  have hsu : (wa.alloc (.cells memC 5)).heap.size = wa.heap.size + 1 := by simp
  obtain ⟨v', wu, hr, ho, hk0, hk1, hn⟩ := push_byte (own_new w0 wa hk) (.int .u8 x) rfl (hk.trans ((Kept.refl _ _).alloc _)) (by omega)
  rw [hsu] at hr
  have hg := fun (W : World) (h1 : ∀ j v, memY[j]? = some v → W.cell? ((⟨wa.heap.size, 0, none⟩ : Addr).add j) = some v) (h2 : ∀ j v, [Value.int .u8 x][j]? = some v → W.cell? ((⟨wa.heap.size + 1, 0, none⟩ : Addr).add j) = some v) =>
    run_append_grow (P := Tryz.prog) W 34 34 5 i0 (.int .u8 0) Tryz.underlying34 hi hz0 ⟨wa.heap.size, 0, none⟩ 6 6 memY (by rw [hz1]; rfl) h1 ⟨wa.heap.size + 1, 0, none⟩ 1 1 [.int .u8 x] (by rw [hz1]; rfl) h2 (by omega) (by decide) (growslice_fits (by decide) (by rw [hz2]; decide))
  have cells : ∀ f : Nat × Nat, (∀ j v, memY[j]? = some v → ((wa.alloc (.cells memC 5 f)).alloc (.cells #[.int .u8 x] 5)).cell? ((⟨wa.heap.size, 0, none⟩ : Addr).add j) = some v) ∧ (∀ j v, [Value.int .u8 x][j]? = some v → ((wa.alloc (.cells memC 5 f)).alloc (.cells #[.int .u8 x] 5)).cell? ((⟨wa.heap.size + 1, 0, none⟩ : Addr).add j) = some v) := fun f => by
    have hsz : (wa.alloc (.cells memC 5 f)).heap.size = wa.heap.size + 1 := by simp
    have ha : ((wa.alloc (.cells memC 5 f)).alloc (.cells #[.int .u8 x] 5)).heap[wa.heap.size]? = some (.cells memC 5 f) := by
      rw [heap_alloc_old _ _ (by simp)]
      exact heap_alloc_new wa _
    have hb : ((wa.alloc (.cells memC 5 f)).alloc (.cells #[.int .u8 x] 5)).heap[wa.heap.size + 1]? = some (.cells #[.int .u8 x] 5) := hsz ▸ heap_alloc_new _ _
    refine ⟨fun j v hj => ?_, fun j v hj => ?_⟩
    · rw [Addr.add_lit, Nat.zero_add, cell_block _ _ _ _ _ _ ha]
      simpa using hj
    · rw [Addr.add_lit, Nat.zero_add, cell_block _ _ _ _ _ _ hb]
      simpa using hj
  have hu := hg _ (cells (0, 0)).1 (cells (0, 0)).2
  have hm := hg _ (cells (6, 7)).1 (cells (6, 7)).2
  rw [hu] at hr
  injection hr with e1 e2
  subst e1 e2
  have ec : grownCap ((wa.alloc (.cells memC 5 (6, 7))).alloc (.cells #[.int .u8 x] 5)) (6 + 1) 6 5 = grownCap ((wa.alloc (.cells memC 5)).alloc (.cells #[.int .u8 x] 5)) (6 + 1) 6 5 := rfl
  have es1 : ((wa.alloc (.cells memC 5)).alloc (.cells #[.int .u8 x] 5)).heap.size = wa.heap.size + 2 := by simp
  have es2 : ((wa.alloc (.cells memC 5 (6, 7))).alloc (.cells #[.int .u8 x] 5)).heap.size = wa.heap.size + 2 := by simp
  refine ⟨_, _, _, _, hm, ?_, (((Kept.refl (fun _ => False) wa).alloc _).alloc _).drew.alloc _⟩
  rw [ec, es2]
  rw [es1] at ho
  refine own_at_block ho (fun g hg' => ?_)
  have eg : g = wa.heap.size + 2 := by simpa [Value.ownBlock] using hg'.symm
  subst eg
  have n1 := heap_alloc_new ((wa.alloc (.cells memC 5 (6, 7))).alloc (.cells #[.int .u8 x] 5)).drew (.cells (memY.toArray ++ [Value.int .u8 x].toArray ++ Builtin.zeroCells (Value.int .u8 0).cells (grownCap ((wa.alloc (.cells memC 5)).alloc (.cells #[.int .u8 x] 5)) (6 + 1) 6 5 - (6 + 1))) 5)
  have n2 := heap_alloc_new ((wa.alloc (.cells memC 5)).alloc (.cells #[.int .u8 x] 5)).drew (.cells (memY.toArray ++ [Value.int .u8 x].toArray ++ Builtin.zeroCells (Value.int .u8 0).cells (grownCap ((wa.alloc (.cells memC 5)).alloc (.cells #[.int .u8 x] 5)) (6 + 1) 6 5 - (6 + 1))) 5)
  rw [show ((wa.alloc (.cells memC 5 (6, 7))).alloc (.cells #[.int .u8 x] 5)).drew.heap.size = wa.heap.size + 2 from es2] at n1
  rw [show ((wa.alloc (.cells memC 5)).alloc (.cells #[.int .u8 x] 5)).drew.heap.size = wa.heap.size + 2 from es1] at n2
  exact n1.trans n2.symm
set_option maxHeartbeats 4000000 in
theorem num_first (w0 wa : World) (hG0 : 13 ≤ w0.heap.size) (hG : Gl wa) (hk : Kept (fun _ => False) w0 wa) :
    Calls Tryz.prog 26 #[.slice (some ⟨wa.heap.size, 0, none⟩) 6 6, .int .i64 0] (wa.alloc (.cells memC 5 (6, 7))) fun e w' => ∃ ao m c, e = .returned (.slice ao m c) ∧ Bs w0 wa w' ao m c (memY ++ [.int .u8 32, .int .u8 48]) := by
  obtain ⟨a1, m1, c1, w2, hr, ho2, hk2⟩ := push_first w0 wa hk 32
  have hm1 : m1 = 7 := by have := ho2.1; have e : (memY ++ [Value.int .u8 32]).length = 7 := rfl; omega
  have HA := hid_of (Tryz.strconv_AppendInt_10 w0.heap.size m1 0 (by decide) (by decide) _ _ w2 ho2 (hk.trans hk2).size (by omega) ((hG.same hk2).tab5 hG0))
  have HK2 := hid_of (hk.trans hk2)
  have HT2 := hid_of (oth5_kept hk2)
  have HR := hid_of hr
  have HO := hid_of hm1
  clear hr ho2 hk2 hk hG hG0 hm1
  go_enter Tryz.func26, Tryz.ntmps26
  go_wp2_with (at_builtin; refine wp_app2 rfl (.tmp 5) (.tmp 6) 34 34 rfl _ _ rfl rfl _ w2 HR.out ?_)
  refine HA.out.mono ?_
  rintro e w3 ⟨v3, rfl, ho3, hb3, hot3⟩
  rw [itoa0, List.append_assoc] at ho3
  obtain ⟨a3, c3, hv3⟩ := ownsRow_shape ho3
  obtain ⟨m3, hm3⟩ : ∃ m, m = m1 + [(48 : UInt8)].length := ⟨_, rfl⟩
  rw [← hm3] at hv3 ho3
  subst hv3
  have HB : Hid (Bs w0 wa w3 a3 m3 c3 (memY ++ [.int .u8 32, .int .u8 48])) := ⟨ho3, bel_kept HK2.out hb3, HT2.out.trans hot3⟩
  clear ho3 hb3 hot3 hm3 HA HR
  go_wp2
  go_ret
  exact ⟨_, _, _, rfl, HB.out⟩
theorem range_own {w : World} {B e s g n c m : Nat} {xs : List Value} (h : w.ownsRow B e s (.slice (some ⟨g, 0, none⟩) n c) m xs) : w.rangeAt g 0 xs := fun j v hv => by
  have := h.cells (g := g) rfl j v hv
  rw [Addr.add_lit, Nat.zero_add] at this
  rw [Nat.zero_add]
  exact this
set_option maxHeartbeats 16000000 in
theorem written_one (fv : Value) (B : Nat) (w : World) (hG : Gl w) (hP : Pg1 w B fv) :
    Calls Tryz.prog 19 #[.agg #[.int .i64 0, .slice none 0 0, fv]] w fun e w' => ∃ ao m c, e = .returned (.slice ao m c) ∧ w'.ownsRow w.heap.size 5 1 (.slice ao m c) m allY ∧ Kept (fun _ => False) w w' := by
  obtain ⟨cv, hf, hc⟩ := hP
  obtain ⟨gf, cf, rfl⟩ := own_at hf (by decide)
  obtain ⟨gc, cc, rfl⟩ := own_at hc (by decide)
  have HG := hid_of hG
  have hka : Kept (fun _ => False) w (w.alloc (.cells #[.int .i64 0, .slice none 0 0, .slice (some ⟨gf, 0, none⟩) 1 cf] 37)) := (Kept.refl _ _).alloc _
  have HX := hid_of (heap_alloc_new w (.cells #[.int .i64 0, .slice none 0 0, .slice (some ⟨gf, 0, none⟩) 1 cf] 37))
  have HF := hid_of (hka.ownsRow hf (fun _ _ f => f))
  have HC := hid_of (hka.ownsRow hc (fun _ _ f => f))
  have HK := hid_of hka
  clear hf hc hG hka
  go_enter Tryz.func19, Tryz.ntmps19
  go_upto_region 1 with fail
  generalize w.alloc (.cells #[.int .i64 0, .slice none 0 0, .slice (some ⟨gf, 0, none⟩) 1 cf] 37) = wa at *
  obtain ⟨gx, hgx⟩ : ∃ g, g = w.heap.size := ⟨_, rfl⟩
  rw [← hgx] at HX ⊢
  have HGX := hid_of hgx
  clear hgx
  have hkb : Kept (fun _ => False) wa (wa.alloc (.cells memC 5)) := (Kept.refl _ _).alloc _
  have hkm : Kept (fun _ => False) wa (wa.alloc (.cells memC 5 (6, 7))) := (Kept.refl _ _).alloc _
  obtain ⟨x0, x1, x2, _⟩ := look3 (box_kept hkm HX.out (fun f => f))
  have hcv := Lib.run_convert_bytes_const (P := Tryz.prog) wa 34 5 memC 6 6 Tryz.underlying34 Tryz.underlying5
  rw [show memC.size = 6 from rfl] at hcv
  have HNU := hid_of (num_first w wa HG.out.lo (HG.out.same HK.out) HK.out)
  clear hkb hkm
  go_wp2_with fail
  refine HNU.out.mono ?_
  rintro e w2 ⟨a2, m2, c2, rfl, hb2⟩
  have HB2 := hid_of hb2
  have HM2 : Hid (m2 = 8) := hb2.len
  clear hb2 HNU hcv x0 x1 x2
  obtain ⟨a3, m3, c3, w3, hr3, hb3⟩ := HB2.out.byte 10 (by have := HM2.out; omega)
  have HR3 := hid_of hr3
  have HB3 := hid_of hb3
  have HM3 : Hid (m3 = 9) := hb3.len
  obtain ⟨x0, x1, x2, _⟩ := look3 (Oth5.box hb3.oth HX.out (by decide))
  clear hr3 hb3 HM2
  go_wp2_with (at_builtin; refine wp_app2 rfl (.tmp 11) (.tmp 12) 34 34 rfl _ _ rfl rfl _ w3 HR3.out ?_)
  clear x0 x1 x2 HR3 HB2
  go_loopw [3, 30] (fun bv iv wr => ((iv = .int .i64 0 ∧ ∃ (a : Option Addr) (m c : Nat), bv = .slice a m c ∧ Hid (m = 9) ∧ Hid (Bs w wa wr a m c (memY ++ [.int .u8 32, .int .u8 48] ++ [.int .u8 10]))) ∨ (iv = .int .i64 1 ∧ ∃ (a : Option Addr) (m c : Nat), bv = .slice a m c ∧ Hid (Bs w wa wr a m c allY)))) (fun _ iv _ => 1 - (intOf iv).toNat)
  case atStart => exact .inl ⟨rfl, _, _, _, rfl, HM3, HB3⟩
  case round =>
    clear HB3 HM3
    rcases hrel with ⟨rfl, a, m, c, rfl, HM, HB⟩ | ⟨rfl, a, m, c, rfl, HB⟩
    · have hf4 := Oth5.row HB.out.oth HF.out (by decide)
      have hrg := range_own hf4
      have r0 : wr.cell? ⟨gf, 0, none⟩ = some (.int .i64 0) := hrg 0 _ rfl
      have r1 : wr.cell? ⟨gf, 1, none⟩ = some (.int .i64 0) := hrg 1 _ rfl
      have r2 : wr.cell? ⟨gf, 2, none⟩ = some (.int .i64 1) := hrg 2 _ rfl
      have r3 : wr.cell? ⟨gf, 3, none⟩ = some (.slice (some ⟨gc, 0, none⟩) 1 cc) := hrg 3 _ rfl
      have hkc : Kept (fun _ => False) wr (wr.alloc (.cells #[.int .i64 0, .int .i64 0, .int .i64 1, .slice (some ⟨gc, 0, none⟩) 1 cc] 54)) := (Kept.refl _ _).alloc _
      have HY := hid_of (heap_alloc_new wr (.cells #[.int .i64 0, .int .i64 0, .int .i64 1, .slice (some ⟨gc, 0, none⟩) 1 cc] 54))
      have HB5 := hid_of (HB.out.same hkc)
      clear hf4 hrg hkc
      go_upto_region 10 with fail
      clear r0 r1 r2 r3
      generalize wr.alloc (.cells #[.int .i64 0, .int .i64 0, .int .i64 1, .slice (some ⟨gc, 0, none⟩) 1 cc] 54) = w5 at *
      generalize wr.heap.size = gy at *
      obtain ⟨y0, y1, y2, y3, _⟩ := look4 HY.out
      obtain ⟨x0, x1, x2, _⟩ := look3 (Oth5.box HB5.out.oth HX.out (by decide))
      have HCT : Hid (∀ w', Lib.OthersKept 5 none w5 w' → w'.rangeAt gc 0 [.int .i64 18, .int .i64 0]) := fun w' hw => range_own (Oth5.row (HB5.out.oth.trans hw) HC.out (by decide))
      have HFU := hid_of (funcB_one a m c gc 0 cc _ w wa w5 HG.out HB5.out (by have := HM.out; omega) (HCT.out w5 (Lib.OthersKept.refl _ _ _)) HCT.out)
      go_wp2_with fail
      refine HFU.out.mono ?_
      rintro e w6 ⟨a6, m6, c6, rfl, hb6⟩
      have HB6 : Hid (Bs w wa w6 a6 m6 c6 allY) := hb6
      clear hb6 HFU HCT HB5 HY x0 x1 x2 y0 y1 y2 y3
      go_wp2
      go_roundw
      case rel => exact .inr ⟨by go_num, _, _, _, rfl, HB6⟩
      case measure => simp [intOf]
    · go_wp2
      go_ret
      exact ⟨_, _, _, rfl, HB.out.own, HB.out.kept⟩
set_option maxHeartbeats 8000000 in
theorem print_one (fa : Option Addr) (fc B : Nat) (w : World) (hG : Gl w) (hP : Pg1 w B (.slice fa 1 fc)) :
    Calls Tryz.prog 10 #[.agg #[.int .i64 0, .slice none 0 0, .slice fa 1 fc]] w fun e w' => e = .returned (.tuple #[.string ⟨#[109, 101, 109, 111, 114, 121, 32, 48, 10, 102, 117, 110, 99, 32, 102, 48, 32, 48, 32, 48, 32, 49, 10, 9, 114, 101, 116, 10]⟩, .int .i64 0]) ∧ Kept (fun _ => False) w w' := by
  have hka : Kept (fun _ => False) w (w.alloc (.cells #[.int .i64 0, .slice none 0 0, .slice fa 1 fc] 37)) := (Kept.refl _ _).alloc _
  have HX := hid_of (heap_alloc_new w (.cells #[.int .i64 0, .slice none 0 0, .slice fa 1 fc] 37))
  have HP := hid_of (hP.same hka)
  have HG := hid_of (hG.same hka)
  have HK := hid_of hka
  clear hP hG hka
  go_enter Tryz.func10, Tryz.ntmps10
  go_upto_region 1 with fail
  generalize w.alloc (.cells #[.int .i64 0, .slice none 0 0, .slice fa 1 fc] 37) = wa at *
  generalize w.heap.size = gx at *
  obtain ⟨x0, x1, x2, _⟩ := look3 HX.out
  have HCK := hid_of (check_p _ p1 wa _ HP.out.pg (Nat.le_refl _) p1_ok)
  rw [p1_check] at HCK
  go_wp2_with fail
  refine HCK.out.mono ?_
  rintro e w2 ⟨rfl, hk2⟩
  have HX2 := hid_of (box_kept hk2 HX.out (fun f => f))
  have HW := hid_of (written_one (.slice fa 1 fc) B w2 (HG.out.same hk2) (HP.out.same hk2))
  have HK2 := hid_of (HK.out.trans hk2)
  clear hk2 HCK HX HG HP HK x0 x1 x2
  obtain ⟨x0, x1, x2, _⟩ := look3 HX2.out
  go_wp2_with fail
  refine HW.out.mono ?_
  rintro e w3 ⟨a, m, c, rfl, ho, hk3⟩
  have HK3 := hid_of (HK2.out.trans hk3)
  have hm : m = 28 := by have := ho.1; have e : allY.length = 28 := rfl; omega
  subst hm
  have hcv := conv_str w3 (.slice a 28 c) [109, 101, 109, 111, 114, 121, 32, 48, 10, 102, 117, 110, 99, 32, 102, 48, 32, 48, 32, 48, 32, 49, 10, 9, 114, 101, 116, 10] (isB_own ho)
  rw [show str [109, 101, 109, 111, 114, 121, 32, 48, 10, 102, 117, 110, 99, 32, 102, 48, 32, 48, 32, 48, 32, 49, 10, 9, 114, 101, 116, 10] = ⟨#[109, 101, 109, 111, 114, 121, 32, 48, 10, 102, 117, 110, 99, 32, 102, 48, 32, 48, 32, 48, 32, 49, 10, 9, 114, 101, 116, 10]⟩ by rfl] at hcv
  clear hk3 ho HW HX2 HK2 x0 x1 x2
  go_wp2
  refine bodyPost_ret (results_tmp2 rfl _ _ _) rfl ?_
  exact ⟨rfl, HK3.out⟩
end Go.Proofs.YtkilngknklpadaaGreatDoor
