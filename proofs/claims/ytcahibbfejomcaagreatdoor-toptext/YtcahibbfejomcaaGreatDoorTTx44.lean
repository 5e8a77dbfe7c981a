import Derived.Test.YtcahibbfejomcaaGreatDoorTTx43
import Derived.Test.YtcahibbfejomcaaGreatDoorTTx42
import Derived.Deep.RegionHeld3
import Derived.Deep.QuietTactic
namespace Go.Proofs.YtcahibbfejomcaaGreatDoor
open Go.ChangeShapes Go.WideShapes Go.ChangeAt Go.RowKit Go.Deep
set_option linter.unusedVariables false
set_option linter.unusedSimpArgs false
set_option maxRecDepth 100000
set_option maxHeartbeats 4000000 in
theorem equal_ins (cao cao' : Option Addr) (cc cc' : Nat) (ys zs : List IN) (w : World) (h1 : RowI w (.slice cao ys.length cc) ys) (h2 : RowI w (.slice cao' zs.length cc') zs) (hl : ys.length ≤ 9223372036854775807) (hl2 : zs.length ≤ 9223372036854775807) :
  Calls Tryz.prog 33 #[.slice cao ys.length cc, .slice cao' zs.length cc'] w fun e w' => e = .returned (.bool (sameI ys zs)) ∧ ∃ d, w' = w.drewN d := by
 obtain ⟨nc, hnc⟩ := nmd (ys.length)
 obtain ⟨nc', hnc'⟩ := nmd (zs.length)
 rw [← hnc] at h1 hl ⊢
 rw [← hnc'] at h2 hl2 ⊢
 have HNC := hid_of hnc
 have HNC' := hid_of hnc'
 have HRI := hid_of h1
 have HRI' := hid_of h2
 clear hnc hnc' h1 h2
 by_cases q4 : nc = nc'
 ·subst q4
  go_enter Tryz.func33, Tryz.ntmps33
  go_wp2_with fail
  go_loopw [13] (fun i wq => ∃ j d : Nat, j ≤ nc ∧ i = .int .i64 j ∧ Hid (sameI ys zs = sameI (ys.drop j) (zs.drop j)) ∧ wq = w.drewN d) (fun i _ => nc - (intOf i).toNat)
  case atStart => exact ⟨0, 0, by omega, rfl, rfl, rfl⟩
  case round =>
   obtain ⟨j, d, hj, rfl, HSI, rfl⟩ := hrel
   by_cases hjl : j < nc
   ·have hjI : (j : Int) < (nc : Int) := by omega
    obtain ⟨b1, o1, yv, ⟨e1, hy1, r1⟩⟩ : ∃ b1 o1 yv, cao = some ⟨b1, o1, none⟩ ∧ ys[j]? = some yv ∧ w.rangeAt b1 (o1 + j * 2) yv.cells := by
     rcases HRI.out with ⟨e, _⟩ | ⟨b1, o1, d1, e1, r1⟩
     ·have := HNC.out; rw [e] at this; simp at this; omega
     ·cases e1
      have hk : j < ys.length := by rw [← HNC.out]; exact hjl
      exact ⟨b1, o1, _, rfl, List.getElem?_eq_getElem hk, r1 j _ (List.getElem?_eq_getElem hk)⟩
    obtain ⟨b2, o2, zv, ⟨e2, hy2, r2⟩⟩ : ∃ b1 o1 yv, cao' = some ⟨b1, o1, none⟩ ∧ zs[j]? = some yv ∧ w.rangeAt b1 (o1 + j * 2) yv.cells := by
     rcases HRI'.out with ⟨e, _⟩ | ⟨b1, o1, d1, e1, r1⟩
     ·have := HNC'.out; rw [e] at this; simp at this; omega
     ·cases e1
      have hk : j < zs.length := by rw [← HNC'.out]; exact hjl
      exact ⟨b1, o1, _, rfl, List.getElem?_eq_getElem hk, r1 j _ (List.getElem?_eq_getElem hk)⟩
    subst e1
    subst e2
    obtain ⟨yo, ya⟩ := yv
    obtain ⟨zo, za⟩ := zv
    have k0 : w.cell? ⟨b1, o1 + j * 2, none⟩ = some (.int .i64 yo) := r1 0 _ rfl
    have k1 : w.cell? ⟨b1, o1 + j * 2 + 1, none⟩ = some (.int .i64 ya) := r1 1 _ rfl
    have k2 : w.cell? ⟨b2, o2 + j * 2, none⟩ = some (.int .i64 zo) := r2 0 _ rfl
    have k3 : w.cell? ⟨b2, o2 + j * 2 + 1, none⟩ = some (.int .i64 za) := r2 1 _ rfl
    have HAT := hid_of (sameI_at hy1 hy2)
    have hq := fun w => run_neq52 w yo ya zo za
    clear r1 r2 hy1 hy2
    go_upto_region 6 with fail
    go_quiet (fail)
    go_wp2
    ·rename_i hbad
     have HF3 : Hid (sameI ys zs = false) := by
      unfold Hid
      rw [HSI.out, HAT.out]
      simp only [Bool.and_eq_false_iff]
      left
      rcases hbad with h | h
      ·left; simpa using h
      ·right; simpa using h
     go_ret
     exact ⟨by rw [HF3.out]; rfl, _, rfl⟩
    ·rename_i hok
     have HT : Hid (sameI ys zs = sameI (ys.drop (j + 1)) (zs.drop (j + 1))) := by
      unfold Hid
      rw [HSI.out, HAT.out]
      have h1 : (yo == zo) = true := by simpa using hok.1
      have h2 : (ya == za) = true := by simpa using hok.2
      simp [h1, h2]
     go_roundw
     case rel => exact ⟨j + 1, _, by omega, by go_num, HT, rfl⟩
     case measure => simp [intOf]; omega
   ·have hjn : ¬ ((j : Int) < (nc : Int)) := by omega
    have HT : Hid (sameI ys zs = true) := by
     unfold Hid
     rw [HSI.out, List.drop_of_length_le (by rw [← HNC.out]; omega), List.drop_of_length_le (by rw [← HNC'.out]; omega)]
     rfl
    go_wp2
    go_ret
    exact ⟨by rw [HT.out]; rfl, _, rfl⟩
 ·have hb : ((nc : Int) == (nc' : Int)) = false := by rw [beq_eq_false_iff_ne]; omega
  have hb2 : ((nc : Int) != (nc' : Int)) = true := by rw [bne_iff_ne]; omega
  have HR : Hid (sameI ys zs = false) := sameI_lens _ _ (by rw [← HNC.out, ← HNC'.out]; exact q4)
  go_enter Tryz.func33, Tryz.ntmps33
  go_wp2
  go_ret
  exact ⟨by rw [HR.out]; rfl, 0, by simp [World.drewN]⟩
set_option maxHeartbeats 1000000 in
theorem head_p (fa fl fr : Int) (ao : Option Addr) (nc cc : Nat) (w : World) : Calls Tryz.prog 32 #[.agg #[.int .i64 fa, .int .i64 fl, .int .i64 fr, .slice ao nc cc]] w fun e w' => e = .returned (.agg #[.int .i64 fa, .int .i64 fl, .int .i64 fr]) ∧ Kept (fun _ => False) w w' := by
 have hkA : Kept (fun _ => False) w ((w.alloc (.cells #[.int .i64 fa, .int .i64 fl, .int .i64 fr, .slice ao nc cc] 56)).alloc (.cells #[.int .i64 fa, .int .i64 fl, .int .i64 fr] 83)) := ((Kept.refl _ _).alloc _).alloc _
 have hbA := heap_alloc_new w (.cells #[.int .i64 fa, .int .i64 fl, .int .i64 fr, .slice ao nc cc] 56)
 have hbB := heap_alloc_new (w.alloc (.cells #[.int .i64 fa, .int .i64 fl, .int .i64 fr, .slice ao nc cc] 56)) (.cells #[.int .i64 fa, .int .i64 fl, .int .i64 fr] 83)
 rw [show (w.alloc (.cells #[.int .i64 fa, .int .i64 fl, .int .i64 fr, .slice ao nc cc] 56)).heap.size = w.heap.size + 1 by simp] at hbB
 have y0 := cell_block _ (w.heap.size + 1) 0 _ _ _ hbB
 have y1 := cell_block _ (w.heap.size + 1) 1 _ _ _ hbB
 have y2 := cell_block _ (w.heap.size + 1) 2 _ _ _ hbB
 have HK := hid_of hkA
 clear hkA hbA hbB
 go_enter Tryz.func32, Tryz.ntmps32
 go_wp2
 exact bodyPost_ret (v := .agg #[.int .i64 fa, .int .i64 fl, .int .i64 fr]) (by simp [results, Tryz.results32, go_sem]) rfl ⟨rfl, HK.out⟩
set_option maxHeartbeats 8000000 in
theorem samefn_p (fa fl fr : Int) (cao : Option Addr) (nc cc : Nat) (fa' fl' fr' : Int) (cao' : Option Addr) (nc' cc' : Nat) (w : World) (f f' : FN) (h1 : fa = f.a) (h2 : fl = f.l) (h3 : fr = f.r) (h4 : nc = f.code.length) (h1' : fa' = f'.a) (h2' : fl' = f'.l) (h3' : fr' = f'.r) (h4' : nc' = f'.code.length)
  (hr : RowI w (.slice cao nc cc) f.code) (hr' : RowI w (.slice cao' nc' cc') f'.code) (hl : f.code.length * 16 ≤ 140737488351232) (hl' : f'.code.length * 16 ≤ 140737488351232) :
  Calls Tryz.prog 18 #[.agg #[.int .i64 fa, .int .i64 fl, .int .i64 fr, .slice cao nc cc], .agg #[.int .i64 fa', .int .i64 fl', .int .i64 fr', .slice cao' nc' cc']] w fun e w' => e = .returned (.bool (sameF f f')) ∧ Kept (fun _ => False) w w' := by
 have hkA : Kept (fun _ => False) w ((w.alloc (.cells #[.int .i64 fa, .int .i64 fl, .int .i64 fr, .slice cao nc cc] 56)).alloc (.cells #[.int .i64 fa', .int .i64 fl', .int .i64 fr', .slice cao' nc' cc'] 56)) := ((Kept.refl _ _).alloc _).alloc _
 have hbA : ((w.alloc (.cells #[.int .i64 fa, .int .i64 fl, .int .i64 fr, .slice cao nc cc] 56)).alloc (.cells #[.int .i64 fa', .int .i64 fl', .int .i64 fr', .slice cao' nc' cc'] 56)).heap[w.heap.size]? = some (.cells #[.int .i64 fa, .int .i64 fl, .int .i64 fr, .slice cao nc cc] 56 (0, 0)) := by
  rw [heap_alloc_old _ _ (by simp)]
  exact heap_alloc_new w _
 have hbB := heap_alloc_new (w.alloc (.cells #[.int .i64 fa, .int .i64 fl, .int .i64 fr, .slice cao nc cc] 56)) (.cells #[.int .i64 fa', .int .i64 fl', .int .i64 fr', .slice cao' nc' cc'] 56)
 rw [show (w.alloc (.cells #[.int .i64 fa, .int .i64 fl, .int .i64 fr, .slice cao nc cc] 56)).heap.size = w.heap.size + 1 by simp] at hbB
 have HEQ : Hid (∀ W, Kept (fun _ => False) ((w.alloc (.cells #[.int .i64 fa, .int .i64 fl, .int .i64 fr, .slice cao nc cc] 56)).alloc (.cells #[.int .i64 fa', .int .i64 fl', .int .i64 fr', .slice cao' nc' cc'] 56)) W → Calls Tryz.prog 33 #[.slice cao nc cc, .slice cao' nc' cc'] W fun e w' => e = .returned (.bool (sameI f.code f'.code)) ∧ Kept (fun _ => False) W w') := fun W hW => by
  rw [h4, h4']
  rw [h4] at hr
  rw [h4'] at hr'
  refine (equal_ins cao cao' cc cc' f.code f'.code W (hr.kept (hkA.trans hW) (fun _ _ f => f)) (hr'.kept (hkA.trans hW) (fun _ _ f => f)) (by omega) (by omega)).mono ?_
  rintro e w' ⟨he, d, rfl⟩
  exact ⟨he, kept_drewN (Kept.refl _ _) d⟩
 have HSF : Hid (sameF f f' = ((fa == fa' && (fl == fl' && fr == fr')) && sameI f.code f'.code)) := by unfold Hid sameF; rw [h1, h2, h3, h1', h2', h3']; simp only [Bool.and_assoc]
 have HKA := hid_of hkA
 have HBA := hid_of hbA
 have HBB := hid_of hbB
 clear hkA hbA hbB hr hr' h1 h2 h3 h4 h1' h2' h3' h4'
 generalize sameI f.code f'.code = sm at *
 rw [HSF.out]
 clear HSF hl hl'
 go_enter Tryz.func18, Tryz.ntmps18
 go_upto_region 1 with fail
 generalize (w.alloc (.cells #[.int .i64 fa, .int .i64 fl, .int .i64 fr, .slice cao nc cc] 56)).alloc (.cells #[.int .i64 fa', .int .i64 fl', .int .i64 fr', .slice cao' nc' cc'] 56) = w1 at *
 generalize w.heap.size + 1 = gy at *
 generalize w.heap.size = gx at *
 have HX0 := hid_of (show w1.cell? ⟨gx, 0, none⟩ = some (.int .i64 fa) from cell_block _ gx 0 _ _ _ HBA.out)
 have HX1 := hid_of (show w1.cell? ⟨gx, 1, none⟩ = some (.int .i64 fl) from cell_block _ gx 1 _ _ _ HBA.out)
 have HX2 := hid_of (show w1.cell? ⟨gx, 2, none⟩ = some (.int .i64 fr) from cell_block _ gx 2 _ _ _ HBA.out)
 have HX3 := hid_of (show w1.cell? ⟨gx, 3, none⟩ = some (.slice cao nc cc) from cell_block _ gx 3 _ _ _ HBA.out)
 have HY0 := hid_of (show w1.cell? ⟨gy, 0, none⟩ = some (.int .i64 fa') from cell_block _ gy 0 _ _ _ HBB.out)
 have HY1 := hid_of (show w1.cell? ⟨gy, 1, none⟩ = some (.int .i64 fl') from cell_block _ gy 1 _ _ _ HBB.out)
 have HY2 := hid_of (show w1.cell? ⟨gy, 2, none⟩ = some (.int .i64 fr') from cell_block _ gy 2 _ _ _ HBB.out)
 have HY3 := hid_of (show w1.cell? ⟨gy, 3, none⟩ = some (.slice cao' nc' cc') from cell_block _ gy 3 _ _ _ HBB.out)
 cases hb : (fa == fa' && (fl == fl' && fr == fr'))
 ·have HB := hid_of hb
  refine wp_region_held_drew (S := fun w' => Kept (fun _ => False) w1 w') (by kernel_rfl) (Kept.refl _ _).drew (fun hHeld => ?_)
  refine wpAnyH_take (i := 0) (v := ?_) rfl (by kernel_rfl) (by kernel_rfl) (by kernel_rfl) (fun _ _ _ h => h) (Or.inl ⟨by rfl, ?_⟩) (by assumption) ?_
  rotate_left 1
  ·intro w hSw
   have q0 := Kept.cell hSw HX0.out id
   have q1 := Kept.cell hSw HX1.out id
   have q2 := Kept.cell hSw HX2.out id
   have q3 := Kept.cell hSw HX3.out id
   go_simp
   try with_reducible rfl
  try simp only [Act.put, List.getElem_toArray, List.getElem_cons_zero, List.getElem_cons_succ, List.setIfInBounds_toArray, List.set_cons_zero, List.set_cons_succ]
  refine wpAnyH_take (i := 2) (v := ?_) rfl (by kernel_rfl) (by kernel_rfl) (by kernel_rfl) (fun _ _ _ h => h) (Or.inl ⟨by rfl, ?_⟩) (by assumption) ?_
  rotate_left 1
  ·intro w hSw
   have q0 := Kept.cell hSw HY0.out id
   have q1 := Kept.cell hSw HY1.out id
   have q2 := Kept.cell hSw HY2.out id
   have q3 := Kept.cell hSw HY3.out id
   go_simp
   try with_reducible rfl
  try simp only [Act.put, List.getElem_toArray, List.getElem_cons_zero, List.getElem_cons_succ, List.setIfInBounds_toArray, List.set_cons_zero, List.set_cons_succ]
  refine wpAnyH_ready (rs := [1]) (by kernel_rfl) (by simp) ?_
  refine AllReadyH.cons rfl (fun K hK => ?_) AllReadyH.nil
  go_simp
  refine (head_p fa fl fr cao nc cc _).mono ?_
  rintro e wn ⟨rfl, hkn⟩
  refine hK.out _ _ (Kept.trans hHeld hkn) (fun hHeld => ?_)
  clear hK K hkn
  try simp only [Act.put, List.getElem_toArray, List.getElem_cons_zero, List.getElem_cons_succ, List.setIfInBounds_toArray, List.set_cons_zero, List.set_cons_succ]
  refine wpAnyH_ready (rs := [3]) (by kernel_rfl) (by simp) ?_
  refine AllReadyH.cons rfl (fun K hK => ?_) AllReadyH.nil
  go_simp
  refine (head_p fa' fl' fr' cao' nc' cc' _).mono ?_
  rintro e wn ⟨rfl, hkn⟩
  refine hK.out _ _ (Kept.trans hHeld hkn) (fun hHeld => ?_)
  clear hK K hkn
  try simp only [Act.put, List.getElem_toArray, List.getElem_cons_zero, List.getElem_cons_succ, List.setIfInBounds_toArray, List.set_cons_zero, List.set_cons_succ]
  refine wpAnyH_take (i := 4) (v := (.bool false)) rfl (by kernel_rfl) (by kernel_rfl) (by kernel_rfl) (fun _ _ _ h => h) (Or.inl ⟨by rfl, ?_⟩) (by assumption) ?_
  ·intro w hSw
   go_simp
   intro h1 h2 h3
   simp [h1, h2, h3] at hb
  try simp only [Act.put, List.getElem_toArray, List.getElem_cons_zero, List.getElem_cons_succ, List.setIfInBounds_toArray, List.set_cons_zero, List.set_cons_succ]
  refine wpAnyH_take (i := 5) (v := ?_) rfl (by kernel_rfl) (by kernel_rfl) (by kernel_rfl) (fun _ _ _ h => h) (Or.inl ⟨by rfl, ?_⟩) (by assumption) ?_
  rotate_left 1
  ·intro w hSw
   go_simp
   try with_reducible rfl
  try simp only [Act.put, List.getElem_toArray, List.getElem_cons_zero, List.getElem_cons_succ, List.setIfInBounds_toArray, List.set_cons_zero, List.set_cons_succ]
  refine wpAnyH_take (i := 6) (v := undef) rfl (by kernel_rfl) (by kernel_rfl) (by kernel_rfl) (fun _ _ _ h => h) (Or.inr ⟨by rfl, rfl⟩) (by assumption) ?_
  try simp only [Act.put, List.getElem_toArray, List.getElem_cons_zero, List.getElem_cons_succ, List.setIfInBounds_toArray, List.set_cons_zero, List.set_cons_succ]
  refine wpAnyH_take (i := 7) (v := undef) rfl (by kernel_rfl) (by kernel_rfl) (by kernel_rfl) (fun _ _ _ h => h) (Or.inr ⟨by rfl, rfl⟩) (by assumption) ?_
  try simp only [Act.put, List.getElem_toArray, List.getElem_cons_zero, List.getElem_cons_succ, List.setIfInBounds_toArray, List.set_cons_zero, List.set_cons_succ]
  refine wpAnyH_take (i := 8) (v := undef) rfl (by kernel_rfl) (by kernel_rfl) (by kernel_rfl) (fun _ _ _ h => h) (Or.inr ⟨by rfl, rfl⟩) (by assumption) ?_
  try simp only [Act.put, List.getElem_toArray, List.getElem_cons_zero, List.getElem_cons_succ, List.setIfInBounds_toArray, List.set_cons_zero, List.set_cons_succ]
  refine wpAnyH_take (i := 9) (v := undef) rfl (by kernel_rfl) (by kernel_rfl) (by kernel_rfl) (fun _ _ _ h => h) (Or.inr ⟨by rfl, rfl⟩) (by assumption) ?_
  try simp only [Act.put, List.getElem_toArray, List.getElem_cons_zero, List.getElem_cons_succ, List.setIfInBounds_toArray, List.set_cons_zero, List.set_cons_succ]
  refine wpAnyH_take (i := 10) (v := undef) rfl (by kernel_rfl) (by kernel_rfl) (by kernel_rfl) (fun _ _ _ h => h) (Or.inr ⟨by rfl, rfl⟩) (by assumption) ?_
  try simp only [Act.put, List.getElem_toArray, List.getElem_cons_zero, List.getElem_cons_succ, List.setIfInBounds_toArray, List.set_cons_zero, List.set_cons_succ]
  refine wpAnyH_take (i := 11) (v := ?_) rfl (by kernel_rfl) (by kernel_rfl) (by kernel_rfl) (fun _ _ _ h => h) (Or.inl ⟨by rfl, ?_⟩) (by assumption) ?_
  rotate_left 1
  ·intro w hSw
   go_simp
   try with_reducible rfl
  try simp only [Act.put, List.getElem_toArray, List.getElem_cons_zero, List.getElem_cons_succ, List.setIfInBounds_toArray, List.set_cons_zero, List.set_cons_succ]
  refine wpAnyH_take (i := 12) (v := ?_) rfl (by kernel_rfl) (by kernel_rfl) (by kernel_rfl) (fun _ _ _ h => h) (Or.inl ⟨by rfl, ?_⟩) (by assumption) ?_
  rotate_left 1
  ·intro w hSw
   go_simp
   try with_reducible rfl
  try simp only [Act.put, List.getElem_toArray, List.getElem_cons_zero, List.getElem_cons_succ, List.setIfInBounds_toArray, List.set_cons_zero, List.set_cons_succ]
  refine wpAnyH_done (by kernel_rfl) ?_ _
  go_wp2
  go_ret
  exact ⟨rfl, HKA.out.trans hHeld⟩
 ·have HB := hid_of hb
  refine wp_region_held_drew (S := fun w' => Kept (fun _ => False) w1 w') (by kernel_rfl) (Kept.refl _ _).drew (fun hHeld => ?_)
  refine wpAnyH_take (i := 0) (v := ?_) rfl (by kernel_rfl) (by kernel_rfl) (by kernel_rfl) (fun _ _ _ h => h) (Or.inl ⟨by rfl, ?_⟩) (by assumption) ?_
  rotate_left 1
  ·intro w hSw
   have q0 := Kept.cell hSw HX0.out id
   have q1 := Kept.cell hSw HX1.out id
   have q2 := Kept.cell hSw HX2.out id
   have q3 := Kept.cell hSw HX3.out id
   go_simp
   try with_reducible rfl
  try simp only [Act.put, List.getElem_toArray, List.getElem_cons_zero, List.getElem_cons_succ, List.setIfInBounds_toArray, List.set_cons_zero, List.set_cons_succ]
  refine wpAnyH_take (i := 2) (v := ?_) rfl (by kernel_rfl) (by kernel_rfl) (by kernel_rfl) (fun _ _ _ h => h) (Or.inl ⟨by rfl, ?_⟩) (by assumption) ?_
  rotate_left 1
  ·intro w hSw
   have q0 := Kept.cell hSw HY0.out id
   have q1 := Kept.cell hSw HY1.out id
   have q2 := Kept.cell hSw HY2.out id
   have q3 := Kept.cell hSw HY3.out id
   go_simp
   try with_reducible rfl
  try simp only [Act.put, List.getElem_toArray, List.getElem_cons_zero, List.getElem_cons_succ, List.setIfInBounds_toArray, List.set_cons_zero, List.set_cons_succ]
  refine wpAnyH_ready (rs := [1]) (by kernel_rfl) (by simp) ?_
  refine AllReadyH.cons rfl (fun K hK => ?_) AllReadyH.nil
  go_simp
  refine (head_p fa fl fr cao nc cc _).mono ?_
  rintro e wn ⟨rfl, hkn⟩
  refine hK.out _ _ (Kept.trans hHeld hkn) (fun hHeld => ?_)
  clear hK K hkn
  try simp only [Act.put, List.getElem_toArray, List.getElem_cons_zero, List.getElem_cons_succ, List.setIfInBounds_toArray, List.set_cons_zero, List.set_cons_succ]
  refine wpAnyH_ready (rs := [3]) (by kernel_rfl) (by simp) ?_
  refine AllReadyH.cons rfl (fun K hK => ?_) AllReadyH.nil
  go_simp
  refine (head_p fa' fl' fr' cao' nc' cc' _).mono ?_
  rintro e wn ⟨rfl, hkn⟩
  refine hK.out _ _ (Kept.trans hHeld hkn) (fun hHeld => ?_)
  clear hK K hkn
  try simp only [Act.put, List.getElem_toArray, List.getElem_cons_zero, List.getElem_cons_succ, List.setIfInBounds_toArray, List.set_cons_zero, List.set_cons_succ]
  refine wpAnyH_take (i := 4) (v := (.bool true)) rfl (by kernel_rfl) (by kernel_rfl) (by kernel_rfl) (fun _ _ _ h => h) (Or.inl ⟨by rfl, ?_⟩) (by assumption) ?_
  ·intro w hSw
   have hb' : fa = fa' ∧ fl = fl' ∧ fr = fr' := by simpa using hb
   go_simp
  try simp only [Act.put, List.getElem_toArray, List.getElem_cons_zero, List.getElem_cons_succ, List.setIfInBounds_toArray, List.set_cons_zero, List.set_cons_succ]
  refine wpAnyH_take (i := 5) (v := ?_) rfl (by kernel_rfl) (by kernel_rfl) (by kernel_rfl) (fun _ _ _ h => h) (Or.inl ⟨by rfl, ?_⟩) (by assumption) ?_
  rotate_left 1
  ·intro w hSw
   go_simp
   try with_reducible rfl
  try simp only [Act.put, List.getElem_toArray, List.getElem_cons_zero, List.getElem_cons_succ, List.setIfInBounds_toArray, List.set_cons_zero, List.set_cons_succ]
  refine wpAnyH_take (i := 6) (v := ?_) rfl (by kernel_rfl) (by kernel_rfl) (by kernel_rfl) (fun _ _ _ h => h) (Or.inl ⟨by rfl, ?_⟩) (by assumption) ?_
  rotate_left 1
  ·intro w hSw
   go_simp
   try with_reducible rfl
  try simp only [Act.put, List.getElem_toArray, List.getElem_cons_zero, List.getElem_cons_succ, List.setIfInBounds_toArray, List.set_cons_zero, List.set_cons_succ]
  refine wpAnyH_take (i := 7) (v := ?_) rfl (by kernel_rfl) (by kernel_rfl) (by kernel_rfl) (fun _ _ _ h => h) (Or.inl ⟨by rfl, ?_⟩) (by assumption) ?_
  rotate_left 1
  ·intro w hSw
   have q3 := Kept.cell hSw HX3.out id
   go_simp
   try with_reducible rfl
  try simp only [Act.put, List.getElem_toArray, List.getElem_cons_zero, List.getElem_cons_succ, List.setIfInBounds_toArray, List.set_cons_zero, List.set_cons_succ]
  refine wpAnyH_take (i := 8) (v := ?_) rfl (by kernel_rfl) (by kernel_rfl) (by kernel_rfl) (fun _ _ _ h => h) (Or.inl ⟨by rfl, ?_⟩) (by assumption) ?_
  rotate_left 1
  ·intro w hSw
   go_simp
   try with_reducible rfl
  try simp only [Act.put, List.getElem_toArray, List.getElem_cons_zero, List.getElem_cons_succ, List.setIfInBounds_toArray, List.set_cons_zero, List.set_cons_succ]
  refine wpAnyH_take (i := 9) (v := ?_) rfl (by kernel_rfl) (by kernel_rfl) (by kernel_rfl) (fun _ _ _ h => h) (Or.inl ⟨by rfl, ?_⟩) (by assumption) ?_
  rotate_left 1
  ·intro w hSw
   have q3 := Kept.cell hSw HY3.out id
   go_simp
   try with_reducible rfl
  try simp only [Act.put, List.getElem_toArray, List.getElem_cons_zero, List.getElem_cons_succ, List.setIfInBounds_toArray, List.set_cons_zero, List.set_cons_succ]
  refine wpAnyH_ready (rs := [10]) (by kernel_rfl) (by simp) ?_
  refine AllReadyH.cons rfl (fun K hK => ?_) AllReadyH.nil
  go_simp
  refine (HEQ.out _ hHeld).mono ?_
  rintro e wn2 ⟨rfl, hkn⟩
  refine hK.out _ _ (Kept.trans hHeld hkn) (fun hHeld => ?_)
  clear hK K hkn
  try simp only [Act.put, List.getElem_toArray, List.getElem_cons_zero, List.getElem_cons_succ, List.setIfInBounds_toArray, List.set_cons_zero, List.set_cons_succ]
  refine wpAnyH_take (i := 11) (v := ?_) rfl (by kernel_rfl) (by kernel_rfl) (by kernel_rfl) (fun _ _ _ h => h) (Or.inl ⟨by rfl, ?_⟩) (by assumption) ?_
  rotate_left 1
  ·intro w hSw
   go_simp
   try with_reducible rfl
  try simp only [Act.put, List.getElem_toArray, List.getElem_cons_zero, List.getElem_cons_succ, List.setIfInBounds_toArray, List.set_cons_zero, List.set_cons_succ]
  refine wpAnyH_take (i := 12) (v := ?_) rfl (by kernel_rfl) (by kernel_rfl) (by kernel_rfl) (fun _ _ _ h => h) (Or.inl ⟨by rfl, ?_⟩) (by assumption) ?_
  rotate_left 1
  ·intro w hSw
   go_simp
   try with_reducible rfl
  try simp only [Act.put, List.getElem_toArray, List.getElem_cons_zero, List.getElem_cons_succ, List.setIfInBounds_toArray, List.set_cons_zero, List.set_cons_succ]
  refine wpAnyH_done (by kernel_rfl) ?_ _
  go_wp2
  go_ret
  exact ⟨rfl, HKA.out.trans hHeld⟩
set_option maxHeartbeats 8000000 in
theorem eqfns_p (u v : Value) (fs gs : List FN) (w : World) (B : Nat) (hf : RowF w B u fs) (hg : RowF w B v gs) (hof : ∀ f ∈ fs, f.Ok) (hog : ∀ f ∈ gs, f.Ok) (hlf : fs.length * 48 ≤ 140737488351232) (hlg : gs.length * 48 ≤ 140737488351232) :
  Calls Tryz.prog 17 #[u, v, .func (.func 18) #[] #[]] w fun e w' => e = .returned (.bool (sameFs fs gs)) ∧ Kept (fun _ => False) w w' := by
 obtain ⟨fao, fc, rfl⟩ := hf.shape
 obtain ⟨gao, gc, rfl⟩ := hg.shape
 obtain ⟨nf, hnf⟩ := nmd (fs.length)
 obtain ⟨ng, hng⟩ := nmd (gs.length)
 rw [← hnf] at hf hlf ⊢
 rw [← hng] at hg hlg ⊢
 have HF := hid_of hf
 have HG := hid_of hg
 have HO := hid_of hof
 have HO2 := hid_of hog
 have HNF := hid_of hnf
 have HNG := hid_of hng
 clear hf hg hof hog hnf hng
 by_cases hn : nf = ng
 ·subst hn
  go_enter Tryz.func17, Tryz.ntmps17
  go_wp2_with fail
  go_loopw [17] (fun i wr => ∃ k : Nat, k ≤ nf ∧ i = .int .i64 k ∧ Hid (sameFs fs gs = sameFs (fs.drop k) (gs.drop k)) ∧ Hid (Kept (fun _ => False) w wr)) (fun i _ => nf - (intOf i).toNat)
  case atStart => exact ⟨0, by omega, rfl, rfl, Kept.refl _ _⟩
  case round =>
   obtain ⟨k, hk, rfl, HSD, HKR⟩ := hrel
   by_cases hlt : k < nf
   ·have hltI : (k : Int) < (nf : Int) := by omega
    obtain ⟨g, o, f, e1, hgB, hfi, hfa⟩ := (HF.out.kept HKR.out (fun _ _ f => f)).at (i := k) (by rw [← HNF.out]; exact hlt)
    subst e1
    obtain ⟨cao, cc, x0, x1, x2, x3, hri, hcl⟩ := fn_read hfa
    obtain ⟨g', o', f', e1', hgB', hfi', hfa'⟩ := (HG.out.kept HKR.out (fun _ _ f => f)).at (i := k) (by rw [← HNG.out]; exact hlt)
    subst e1'
    obtain ⟨cao', cc', x0', x1', x2', x3', hri', hcl'⟩ := fn_read hfa'
    have HDR := hid_of (sameFs_drop fs gs k f f' hfi hfi')
    have hlc := (HO.out f (List.mem_of_getElem? hfi)).len
    have hlc' := (HO2.out f' (List.mem_of_getElem? hfi')).len
    obtain ⟨fa, hfa1⟩ := nmd (f.a)
    obtain ⟨fl, hfl1⟩ := nmd (f.l)
    obtain ⟨fr, hfr1⟩ := nmd (f.r)
    obtain ⟨nc, hnc1⟩ := nmd (f.code.length)
    obtain ⟨fa', hfa2⟩ := nmd (f'.a)
    obtain ⟨fl', hfl2⟩ := nmd (f'.l)
    obtain ⟨fr', hfr2⟩ := nmd (f'.r)
    obtain ⟨nc', hnc2⟩ := nmd (f'.code.length)
    rw [← hfa1] at x0
    rw [← hfl1] at x1
    rw [← hfr1] at x2
    rw [← hnc1] at x3 hri
    rw [← hfa2] at x0'
    rw [← hfl2] at x1'
    rw [← hfr2] at x2'
    rw [← hnc2] at x3' hri'
    have hkB : Kept (fun _ => False) wr ((wr.alloc (.cells #[.int .i64 fa, .int .i64 fl, .int .i64 fr, .slice cao nc cc] 56)).alloc (.cells #[.int .i64 fa', .int .i64 fl', .int .i64 fr', .slice cao' nc' cc'] 56)) := ((Kept.refl _ _).alloc _).alloc _
    have hbB : ((wr.alloc (.cells #[.int .i64 fa, .int .i64 fl, .int .i64 fr, .slice cao nc cc] 56)).alloc (.cells #[.int .i64 fa', .int .i64 fl', .int .i64 fr', .slice cao' nc' cc'] 56)).heap[wr.heap.size]? = some (.cells #[.int .i64 fa, .int .i64 fl, .int .i64 fr, .slice cao nc cc] 56 (0, 0)) := by
     rw [heap_alloc_old _ _ (by simp)]
     exact heap_alloc_new wr _
    have hbC := heap_alloc_new (wr.alloc (.cells #[.int .i64 fa, .int .i64 fl, .int .i64 fr, .slice cao nc cc] 56)) (.cells #[.int .i64 fa', .int .i64 fl', .int .i64 fr', .slice cao' nc' cc'] 56)
    rw [show (wr.alloc (.cells #[.int .i64 fa, .int .i64 fl, .int .i64 fr, .slice cao nc cc] 56)).heap.size = wr.heap.size + 1 by simp] at hbC
    have HSM := hid_of (samefn_p fa fl fr cao nc cc fa' fl' fr' cao' nc' cc' _ f f' hfa1 hfl1 hfr1 hnc1 hfa2 hfl2 hfr2 hnc2 (hri.kept hkB (fun _ _ f => f)) (hri'.kept hkB (fun _ _ f => f)) hlc hlc')
    have HK5 := hid_of (HKR.out.trans hkB)
    have HBB5 := hid_of hbB
    have HBC5 := hid_of hbC
    clear hfa1 hfl1 hfr1 hnc1 hfa2 hfl2 hfr2 hnc2 hri hri' hcl hcl' hfa hfa' hfi hfi' hkB hbB hbC hlc hlc'
    have hg2 : g' < wr.heap.size := World.block_lt_of_cell? wr _ x0'
    go_upto_region 7 with fail
    clear hg2
    generalize (wr.alloc (.cells #[.int .i64 fa, .int .i64 fl, .int .i64 fr, .slice cao nc cc] 56)).alloc (.cells #[.int .i64 fa', .int .i64 fl', .int .i64 fr', .slice cao' nc' cc'] 56) = w5 at *
    generalize wr.heap.size + 1 = gy at *
    generalize wr.heap.size = gx at *
    clear x0 x1 x2 x3 x0' x1' x2' x3'
    have y0 := cell_block _ gx 0 _ _ _ HBB5.out
    have y1 := cell_block _ gx 1 _ _ _ HBB5.out
    have y2 := cell_block _ gx 2 _ _ _ HBB5.out
    have y3 := cell_block _ gx 3 _ _ _ HBB5.out
    have z0 := cell_block _ gy 0 _ _ _ HBC5.out
    have z1 := cell_block _ gy 1 _ _ _ HBC5.out
    have z2 := cell_block _ gy 2 _ _ _ HBC5.out
    have z3 := cell_block _ gy 3 _ _ _ HBC5.out
    cases hsf : sameF f f'
    ·rw [hsf] at HSM
     have HR : Hid (sameFs fs gs = false) := by unfold Hid; rw [HSD.out, HDR.out, hsf]; rfl
     clear hsf
     go_wp2_with fail
     refine HSM.out.mono ?_
     rintro e w6 ⟨rfl, hk6⟩
     have HK6 := hid_of (HK5.out.trans hk6)
     clear HSM hk6 y0 y1 y2 y3 z0 z1 z2 z3
     go_wp2
     go_ret
     exact ⟨by rw [HR.out]; rfl, HK6.out⟩
    ·rw [hsf] at HSM
     have HT : Hid (sameFs fs gs = sameFs (fs.drop (k + 1)) (gs.drop (k + 1))) := by unfold Hid; rw [HSD.out, HDR.out, hsf]; rfl
     clear hsf
     go_wp2_with fail
     refine HSM.out.mono ?_
     rintro e w6 ⟨rfl, hk6⟩
     have HK6 := hid_of (HK5.out.trans hk6)
     clear HSM hk6 y0 y1 y2 y3 z0 z1 z2 z3
     go_wp2
     go_roundw
     case rel => exact ⟨k + 1, by omega, by go_num, HT, HK6⟩
     case measure => simp [intOf]; omega
   ·have hnl : ¬ ((k : Int) < (nf : Int)) := by omega
    have HR : Hid (sameFs fs gs = true) := by
     unfold Hid
     rw [HSD.out, List.drop_of_length_le (by rw [← HNF.out]; omega), List.drop_of_length_le (by rw [← HNG.out]; omega)]
     rfl
    go_wp2
    go_ret
    exact ⟨by rw [HR.out]; rfl, HKR.out⟩
 ·have hb : ((nf : Int) == (ng : Int)) = false := by rw [beq_eq_false_iff_ne]; omega
  have hb2 : ((nf : Int) != (ng : Int)) = true := by rw [bne_iff_ne]; omega
  have HR : Hid (sameFs fs gs = false) := sameFs_len _ _ (by rw [← HNF.out, ← HNG.out]; exact hn)
  go_enter Tryz.func17, Tryz.ntmps17
  go_wp2
  go_ret
  exact ⟨by rw [HR.out]; rfl, Kept.refl _ _⟩
set_option maxHeartbeats 4000000 in
theorem eqbytes_p (u v : Value) (xs ys : List Int) (w : World) (hx : IsB w u xs) (hy : IsB w v ys) : Calls Tryz.prog 16 #[u, v] w fun e w' => e = .returned (.bool ((str xs).toList == (str ys).toList)) ∧ w' = w := by
 have hs1 := conv_str _ _ _ hx
 have hs2 := conv_str _ _ _ hy
 obtain ⟨dao, dc, rfl⟩ := hx.shape
 obtain ⟨eao, ec, rfl⟩ := hy.shape
 obtain ⟨sa, hsa⟩ := nmd (str xs)
 obtain ⟨sb, hsb⟩ := nmd (str ys)
 rw [← hsa] at hs1 ⊢
 rw [← hsb] at hs2 ⊢
 clear hx hy hsa hsb
 generalize xs.length = n at *
 generalize ys.length = m at *
 go_enter Tryz.func16, Tryz.ntmps16
 go_wp2
 go_ret
 exact ⟨rfl, rfl⟩
set_option maxHeartbeats 8000000 in
theorem same_p (u v : Value) (p q : PG) (w : World) (B : Nat) (hp : PgIs w B u p) (hq : PgIs w B v q) (hB : B ≤ w.heap.size) (ho : p.Ok) (ho2 : q.Ok) :
  Calls Tryz.prog 6 #[u, v] w fun e w' => e = .returned (.bool (sameP p q)) ∧ Kept (fun _ => False) w w' := by
 obtain ⟨dv, fv, rfl, hd, hdl, hf⟩ := hp
 obtain ⟨dao, dc, rfl⟩ := hd.shape
 obtain ⟨fao, fc, rfl⟩ := hf.shape
 obtain ⟨ev, gv, rfl, he, hel, hg⟩ := hq
 obtain ⟨eao, ec, rfl⟩ := he.shape
 obtain ⟨gao, gc, rfl⟩ := hg.shape
 obtain ⟨nd, hnd⟩ := nmd (p.data.length)
 obtain ⟨nf, hnf⟩ := nmd (p.fns.length)
 obtain ⟨mem, hmem⟩ := nmd (p.mem)
 obtain ⟨ne, hne⟩ := nmd (q.data.length)
 obtain ⟨ng, hng⟩ := nmd (q.fns.length)
 obtain ⟨mem2, hmem2⟩ := nmd (q.mem)
 rw [← hnd] at hd
 rw [← hne] at he
 rw [← hnf] at hf
 rw [← hng] at hg
 rw [← hmem, ← hnd, ← hnf, ← hmem2, ← hne, ← hng]
 have hkA : Kept (fun _ => False) w ((w.alloc (.cells #[.int .i64 mem, .slice dao nd dc, .slice fao nf fc] 25)).alloc (.cells #[.int .i64 mem2, .slice eao ne ec, .slice gao ng gc] 25)) := ((Kept.refl _ _).alloc _).alloc _
 have hbA : ((w.alloc (.cells #[.int .i64 mem, .slice dao nd dc, .slice fao nf fc] 25)).alloc (.cells #[.int .i64 mem2, .slice eao ne ec, .slice gao ng gc] 25)).heap[w.heap.size]? = some (.cells #[.int .i64 mem, .slice dao nd dc, .slice fao nf fc] 25 (0, 0)) := by
  rw [heap_alloc_old _ _ (by simp)]
  exact heap_alloc_new w _
 have hbB := heap_alloc_new (w.alloc (.cells #[.int .i64 mem, .slice dao nd dc, .slice fao nf fc] 25)) (.cells #[.int .i64 mem2, .slice eao ne ec, .slice gao ng gc] 25)
 rw [show (w.alloc (.cells #[.int .i64 mem, .slice dao nd dc, .slice fao nf fc] 25)).heap.size = w.heap.size + 1 by simp] at hbB
 obtain ⟨bd, hbd⟩ := nmd (((str p.data).toList == (str q.data).toList))
 obtain ⟨bf, hbf⟩ := nmd (sameFs p.fns q.fns)
 have HSP : Hid (sameP p q = (mem == mem2 && (bd && bf))) := by unfold Hid sameP; rw [hmem, hmem2, hbd, hbf]
 have hE1 := eqbytes_p _ _ _ _ _ (hd.kept hkA (fun _ _ f => f)) (he.kept hkA (fun _ _ f => f))
 rw [← hbd] at hE1
 have HE1 := hid_of hE1
 have hE2 := eqfns_p _ _ _ _ _ B (hf.kept hkA (fun _ _ f => f)) (hg.kept hkA (fun _ _ f => f)) ho.fns ho2.fns ho.len ho2.len
 rw [← hbf] at hE2
 have HE2 := hid_of hE2
 have HKA := hid_of hkA
 have HBA := hid_of hbA
 have HBB := hid_of hbB
 rw [HSP.out]
 clear hd hdl hf he hel hg ho ho2 hnf hnd hmem hne hng hmem2 hB hkA hbA hbB hbd hbf hE1 hE2 HSP
 go_enter Tryz.func6, Tryz.ntmps6
 go_upto_region 1 with fail
 generalize (w.alloc (.cells #[.int .i64 mem, .slice dao nd dc, .slice fao nf fc] 25)).alloc (.cells #[.int .i64 mem2, .slice eao ne ec, .slice gao ng gc] 25) = w1 at *
 generalize w.heap.size + 1 = gq at *
 generalize w.heap.size = gp at *
 have a0 := cell_block _ gp 0 _ _ _ HBA.out
 have a1 := cell_block _ gp 1 _ _ _ HBA.out
 have a2 := cell_block _ gp 2 _ _ _ HBA.out
 have b0 := cell_block _ gq 0 _ _ _ HBB.out
 have b1 := cell_block _ gq 1 _ _ _ HBB.out
 have b2 := cell_block _ gq 2 _ _ _ HBB.out
 by_cases hm : mem = mem2
 ·subst hm
  have HM : Hid ((mem == mem) = true) := by unfold Hid; simp
  cases bd
  ·go_wp2_with fail
   refine HE1.out.mono ?_
   rintro e w2 ⟨rfl, rfl⟩
   go_wp2
   go_ret
   exact ⟨by rw [HM.out]; rfl, HKA.out⟩
  ·go_wp2_with fail
   refine HE1.out.mono ?_
   rintro e w2 ⟨rfl, rfl⟩
   go_wp2_with fail
   refine HE2.out.mono ?_
   rintro e w3 ⟨rfl, hk3⟩
   have HK3 := hid_of (HKA.out.trans hk3)
   clear hk3
   go_wp2
   go_ret
   exact ⟨by rw [HM.out]; rfl, HK3.out⟩
 ·have hb : (mem == mem2) = false := by simpa using hm
  have HM := hid_of hb
  go_wp2
  go_ret
  exact ⟨by rw [HM.out]; rfl, HKA.out⟩
end Go.Proofs.YtcahibbfejomcaaGreatDoor
