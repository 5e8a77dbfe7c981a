/-
  The fixed unit: what looks at a part.
-/
import Derived.Test.YtfblffledokjkaaDoorUb
namespace Go.Proofs.YtfblffledokjkaaDoor
open Go.RowKit
set_option linter.unusedVariables false
set_option linter.unusedSimpArgs false
set_option maxRecDepth 100000

def tk : List Int := [0, 0, 0, 0, 0, 0, 0, 0, 0, 0, 0, 0, 0, 0, 0, 0, 0, 0, 0, 0, 2, 2, 2, 2, 2, 2, 2, 2, 2, 2, 2, 2, 2, 2, 1, 1, 2, 2, 2, 2, 2, 2, 1, 1, 1, 1]
def Laid (w : World) : Prop := ∀ t, t < 46 → w.cell? ⟨0, t, none⟩ = some (.int .u8 (tk.getD t 0))
theorem Laid.kept {S : Nat → Prop} {w w' : World} (h : Laid w) (hk : Kept S w w') (h0 : ¬ S 0) : Laid w' := fun t ht => hk.cell (h t ht) h0
set_option maxHeartbeats 1000000 in
theorem stands_1 (w : World) : Calls Tryd.prog 74 #[.int .i64 1, .int .i64 0] w fun e w' => e = .returned (.bool true) ∧ w' = w := by
  go_enter Tryd.func74, Tryd.ntmps74
  go_wp2
  go_ret
  exact ⟨rfl, rfl⟩
set_option maxHeartbeats 1000000 in
theorem stands_9 (w : World) : Calls Tryd.prog 74 #[.int .i64 9, .int .i64 1] w fun e w' => e = .returned (.bool true) ∧ w' = w := by
  go_enter Tryd.func74, Tryd.ntmps74
  go_wp2
  go_ret
  exact ⟨rfl, rfl⟩
set_option maxHeartbeats 1000000 in
theorem stands_20 (w : World) : Calls Tryd.prog 74 #[.int .i64 20, .int .i64 2] w fun e w' => e = .returned (.bool true) ∧ w' = w := by
  go_enter Tryd.func74, Tryd.ntmps74
  go_wp2
  go_ret
  exact ⟨rfl, rfl⟩
set_option maxHeartbeats 1000000 in
theorem stands_12 (w : World) : Calls Tryd.prog 74 #[.int .i64 12, .int .i64 2] w fun e w' => e = .returned (.bool true) ∧ w' = w := by
  go_enter Tryd.func74, Tryd.ntmps74
  go_wp2
  go_ret
  exact ⟨rfl, rfl⟩
set_option maxHeartbeats 1000000 in
theorem least_1 (w : World) : Calls Tryd.prog 77 #[.int .i64 1] w fun e w' => e = .returned (.int .i64 0) ∧ w' = w := by
  go_enter Tryd.func77, Tryd.ntmps77
  go_wp2
  go_ret
  exact ⟨rfl, rfl⟩
set_option maxHeartbeats 1000000 in
theorem least_9 (w : World) : Calls Tryd.prog 77 #[.int .i64 9] w fun e w' => e = .returned (.int .i64 0) ∧ w' = w := by
  go_enter Tryd.func77, Tryd.ntmps77
  go_wp2
  go_ret
  exact ⟨rfl, rfl⟩
set_option maxHeartbeats 1000000 in
theorem least_20 (w : World) : Calls Tryd.prog 77 #[.int .i64 20] w fun e w' => e = .returned (.int .i64 0) ∧ w' = w := by
  go_enter Tryd.func77, Tryd.ntmps77
  go_wp2
  go_ret
  exact ⟨rfl, rfl⟩
set_option maxHeartbeats 1000000 in
theorem least_12 (w : World) : Calls Tryd.prog 77 #[.int .i64 12] w fun e w' => e = .returned (.int .i64 1) ∧ w' = w := by
  go_enter Tryd.func77, Tryd.ntmps77
  go_wp2
  go_ret
  exact ⟨rfl, rfl⟩
set_option maxHeartbeats 1000000 in
theorem place_1_0 (w : World) : Calls Tryd.prog 78 #[.int .i64 1, .int .i64 0] w fun e w' => e = .returned (.int .i64 1) ∧ w' = w := by
  go_enter Tryd.func78, Tryd.ntmps78
  go_wp2
  go_ret
  exact ⟨rfl, rfl⟩
set_option maxHeartbeats 1000000 in
theorem place_9_0 (w : World) : Calls Tryd.prog 78 #[.int .i64 9, .int .i64 0] w fun e w' => e = .returned (.int .i64 2) ∧ w' = w := by
  go_enter Tryd.func78, Tryd.ntmps78
  go_wp2
  go_ret
  exact ⟨rfl, rfl⟩
set_option maxHeartbeats 1000000 in
theorem place_20_0 (w : World) : Calls Tryd.prog 78 #[.int .i64 20, .int .i64 0] w fun e w' => e = .returned (.int .i64 2) ∧ w' = w := by
  go_enter Tryd.func78, Tryd.ntmps78
  go_wp2
  go_ret
  exact ⟨rfl, rfl⟩
set_option maxHeartbeats 1000000 in
theorem place_20_1 (w : World) : Calls Tryd.prog 78 #[.int .i64 20, .int .i64 1] w fun e w' => e = .returned (.int .i64 2) ∧ w' = w := by
  go_enter Tryd.func78, Tryd.ntmps78
  go_wp2
  go_ret
  exact ⟨rfl, rfl⟩
set_option maxHeartbeats 1000000 in
theorem wanted_1_0 (w : World) : Calls Tryd.prog 79 #[.int .i64 1, .int .i64 0, .int .i64 2] w fun e w' => e = .returned (.int .i64 0) ∧ w' = w := by
  go_enter Tryd.func79, Tryd.ntmps79
  go_wp2
  go_ret
  exact ⟨rfl, rfl⟩
set_option maxHeartbeats 1000000 in
theorem wanted_9_0 (w : World) : Calls Tryd.prog 79 #[.int .i64 9, .int .i64 0, .int .i64 2] w fun e w' => e = .returned (.int .i64 2) ∧ w' = w := by
  go_enter Tryd.func79, Tryd.ntmps79
  go_wp2
  go_ret
  exact ⟨rfl, rfl⟩
set_option maxHeartbeats 1000000 in
theorem wanted_20_0 (w : World) : Calls Tryd.prog 79 #[.int .i64 20, .int .i64 0, .int .i64 1] w fun e w' => e = .returned (.int .i64 1) ∧ w' = w := by
  go_enter Tryd.func79, Tryd.ntmps79
  go_wp2
  go_ret
  exact ⟨rfl, rfl⟩
set_option maxHeartbeats 1000000 in
theorem wanted_20_1 (w : World) : Calls Tryd.prog 79 #[.int .i64 20, .int .i64 1, .int .i64 1] w fun e w' => e = .returned (.int .i64 2) ∧ w' = w := by
  go_enter Tryd.func79, Tryd.ntmps79
  go_wp2
  go_ret
  exact ⟨rfl, rfl⟩
set_option maxHeartbeats 1000000 in
theorem fails_no (e : Int) (w : World) : Calls Tryd.prog 87 #[.bool false, .int .i64 e] w fun e w' => e = .returned (.int .i64 0) ∧ w' = w := by
  go_enter Tryd.func87, Tryd.ntmps87
  go_wp2
  go_ret
  exact ⟨rfl, rfl⟩
set_option maxHeartbeats 1000000 in
theorem has_20 (w : World) (hL : Laid w) : Calls Tryd.prog 94 #[.int .i64 20, .int .u8 2] w fun e w' => e = .returned (.bool true) ∧ w' = w := by
  have hc : w.cell? ⟨0, 20, none⟩ = some (.int .u8 2) := hL 20 (by decide)
  go_enter Tryd.func94, Tryd.ntmps94
  go_wp2
  go_ret
  exact ⟨rfl, rfl⟩
set_option maxHeartbeats 1000000 in
theorem has2_20 (w : World) (hL : Laid w) : Calls Tryd.prog 90 #[.int .i64 20] w fun e w' => e = .returned (.bool true) ∧ w' = w := by
  have H := hid_of (has_20 w hL)
  go_enter Tryd.func90, Tryd.ntmps90
  go_wp2_with fail
  refine H.out.mono ?_
  rintro e w9 ⟨rfl, hw⟩
  have hw' := hw.symm
  clear hw
  subst hw'
  go_wp2
  go_ret
  exact ⟨rfl, rfl⟩
set_option maxHeartbeats 2000000 in
theorem number_12 (c : Value) (n kk : Int) (w : World) (hL : Laid w) : Calls Tryd.prog 75 #[c, .agg #[.int .i64 12, .int .i64 n, .int .i64 kk], .int .i64 0] w fun e w' => e = .returned (.int .i64 0) ∧ Kept (fun _ => False) w w' := by
  obtain ⟨W, hW⟩ : ∃ W, W = w.alloc (.cells #[.int .i64 12, .int .i64 n, .int .i64 kk] 88) := ⟨_, rfl⟩
  have hk : Kept (fun _ => False) w W := by rw [hW]; exact (Kept.refl _ _).alloc _
  have hb : W.heap[w.heap.size]? = some (.cells #[.int .i64 12, .int .i64 n, .int .i64 kk] 88 (0, 0)) := by rw [hW]; exact heap_alloc_new w _
  obtain ⟨c0, c1, c2, _⟩ := look3 hb
  have HK := hid_of hk
  clear hb hk
  go_enter Tryd.func75, Tryd.ntmps75
  go_upto_region 1 with fail
  rw [← hW]
  clear hW
  go_wp2
  go_ret
  exact ⟨rfl, HK.out⟩
set_option maxHeartbeats 2000000 in
theorem number_9 (c : Value) (w : World) (hL : Laid w) : Calls Tryd.prog 75 #[c, .agg #[.int .i64 9, .int .i64 0, .int .i64 1], .int .i64 0] w fun e w' => e = .returned (.int .i64 0) ∧ Kept (fun _ => False) w w' := by
  obtain ⟨W, hW⟩ : ∃ W, W = w.alloc (.cells #[.int .i64 9, .int .i64 0, .int .i64 1] 88) := ⟨_, rfl⟩
  have hk : Kept (fun _ => False) w W := by rw [hW]; exact (Kept.refl _ _).alloc _
  have hb : W.heap[w.heap.size]? = some (.cells #[.int .i64 9, .int .i64 0, .int .i64 1] 88 (0, 0)) := by rw [hW]; exact heap_alloc_new w _
  obtain ⟨c0, c1, c2, _⟩ := look3 hb
  have HK := hid_of hk
  clear hb hk
  have H0 := hid_of (fails_no 171 W)
  go_enter Tryd.func75, Tryd.ntmps75
  go_upto_region 1 with fail
  rw [← hW]
  clear hW
  go_wp2_with fail
  refine H0.out.mono ?_
  rintro e w9 ⟨rfl, hw⟩
  have hw' := hw.symm
  clear hw
  subst hw'
  go_wp2
  go_ret
  exact ⟨rfl, HK.out⟩
set_option maxHeartbeats 2000000 in
theorem number_1 (c : Value) (w : World) (hL : Laid w) : Calls Tryd.prog 75 #[c, .agg #[.int .i64 1, .int .i64 0, .int .i64 1], .int .i64 0] w fun e w' => e = .returned (.int .i64 0) ∧ Kept (fun _ => False) w w' := by
  obtain ⟨W, hW⟩ : ∃ W, W = w.alloc (.cells #[.int .i64 1, .int .i64 0, .int .i64 1] 88) := ⟨_, rfl⟩
  have hk : Kept (fun _ => False) w W := by rw [hW]; exact (Kept.refl _ _).alloc _
  have hb : W.heap[w.heap.size]? = some (.cells #[.int .i64 1, .int .i64 0, .int .i64 1] 88 (0, 0)) := by rw [hW]; exact heap_alloc_new w _
  obtain ⟨c0, c1, c2, _⟩ := look3 hb
  have HK := hid_of hk
  clear hb hk
  have H0 := hid_of (fails_no 171 W)
  go_enter Tryd.func75, Tryd.ntmps75
  go_upto_region 1 with fail
  rw [← hW]
  clear hW
  go_wp2_with fail
  refine H0.out.mono ?_
  rintro e w9 ⟨rfl, hw⟩
  have hw' := hw.symm
  clear hw
  subst hw'
  go_wp2
  go_ret
  exact ⟨rfl, HK.out⟩
set_option maxHeartbeats 2000000 in
theorem number_20 (c : Value) (w : World) (hL : Laid w) : Calls Tryd.prog 75 #[c, .agg #[.int .i64 20, .int .i64 20, .int .i64 2], .int .i64 0] w fun e w' => e = .returned (.int .i64 0) ∧ Kept (fun _ => False) w w' := by
  obtain ⟨W, hW⟩ : ∃ W, W = w.alloc (.cells #[.int .i64 20, .int .i64 20, .int .i64 2] 88) := ⟨_, rfl⟩
  have hk : Kept (fun _ => False) w W := by rw [hW]; exact (Kept.refl _ _).alloc _
  have hb : W.heap[w.heap.size]? = some (.cells #[.int .i64 20, .int .i64 20, .int .i64 2] 88 (0, 0)) := by rw [hW]; exact heap_alloc_new w _
  obtain ⟨c0, c1, c2, _⟩ := look3 hb
  have HK := hid_of hk
  clear hb hk
  have H0 := hid_of (has2_20 W (hL.kept HK.out (fun f => f)))
  have H1 := hid_of (fails_no 171 W)
  go_enter Tryd.func75, Tryd.ntmps75
  go_upto_region 1 with fail
  rw [← hW]
  clear hW
  go_wp2_with fail
  refine H0.out.mono ?_
  rintro e w9 ⟨rfl, hw⟩
  have hw' := hw.symm
  clear hw
  subst hw'
  go_wp2_with fail
  refine H1.out.mono ?_
  rintro e w9 ⟨rfl, hw⟩
  have hw' := hw.symm
  clear hw
  subst hw'
  go_wp2
  go_ret
  exact ⟨rfl, HK.out⟩
set_option maxHeartbeats 2000000 in
theorem kids_12 (c : Value) (n : Int) (w : World) : Calls Tryd.prog 76 #[c, .agg #[.int .i64 12, .int .i64 n, .int .i64 0]] w fun e w' => e = .returned (.int .i64 0) ∧ Kept (fun _ => False) w w' := by
  obtain ⟨W, hW⟩ : ∃ W, W = w.alloc (.cells #[.int .i64 12, .int .i64 n, .int .i64 0] 88) := ⟨_, rfl⟩
  have hk : Kept (fun _ => False) w W := by rw [hW]; exact (Kept.refl _ _).alloc _
  have hb : W.heap[w.heap.size]? = some (.cells #[.int .i64 12, .int .i64 n, .int .i64 0] 88 (0, 0)) := by rw [hW]; exact heap_alloc_new w _
  obtain ⟨c0, c1, c2, _⟩ := look3 hb
  have HK := hid_of hk
  clear hb hk
  have H0 := hid_of (fails_no 171 W)
  go_enter Tryd.func76, Tryd.ntmps76
  go_upto_region 1 with fail
  rw [← hW]
  clear hW
  go_wp2_with fail
  refine H0.out.mono ?_
  rintro e w9 ⟨rfl, hw⟩
  have hw' := hw.symm
  clear hw
  subst hw'
  go_wp2
  go_ret
  exact ⟨rfl, HK.out⟩
set_option maxHeartbeats 2000000 in
theorem kids_9 (c : Value) (w : World) : Calls Tryd.prog 76 #[c, .agg #[.int .i64 9, .int .i64 0, .int .i64 1]] w fun e w' => e = .returned (.int .i64 0) ∧ Kept (fun _ => False) w w' := by
  obtain ⟨W, hW⟩ : ∃ W, W = w.alloc (.cells #[.int .i64 9, .int .i64 0, .int .i64 1] 88) := ⟨_, rfl⟩
  have hk : Kept (fun _ => False) w W := by rw [hW]; exact (Kept.refl _ _).alloc _
  have hb : W.heap[w.heap.size]? = some (.cells #[.int .i64 9, .int .i64 0, .int .i64 1] 88 (0, 0)) := by rw [hW]; exact heap_alloc_new w _
  obtain ⟨c0, c1, c2, _⟩ := look3 hb
  have HK := hid_of hk
  clear hb hk
  have H0 := hid_of (fails_no 171 W)
  go_enter Tryd.func76, Tryd.ntmps76
  go_upto_region 1 with fail
  rw [← hW]
  clear hW
  go_wp2_with fail
  refine H0.out.mono ?_
  rintro e w9 ⟨rfl, hw⟩
  have hw' := hw.symm
  clear hw
  subst hw'
  go_wp2
  go_ret
  exact ⟨rfl, HK.out⟩
set_option maxHeartbeats 2000000 in
theorem kids_1 (c : Value) (w : World) : Calls Tryd.prog 76 #[c, .agg #[.int .i64 1, .int .i64 0, .int .i64 1]] w fun e w' => e = .returned (.int .i64 0) ∧ Kept (fun _ => False) w w' := by
  obtain ⟨W, hW⟩ : ∃ W, W = w.alloc (.cells #[.int .i64 1, .int .i64 0, .int .i64 1] 88) := ⟨_, rfl⟩
  have hk : Kept (fun _ => False) w W := by rw [hW]; exact (Kept.refl _ _).alloc _
  have hb : W.heap[w.heap.size]? = some (.cells #[.int .i64 1, .int .i64 0, .int .i64 1] 88 (0, 0)) := by rw [hW]; exact heap_alloc_new w _
  obtain ⟨c0, c1, c2, _⟩ := look3 hb
  have HK := hid_of hk
  clear hb hk
  have H0 := hid_of (fails_no 171 W)
  go_enter Tryd.func76, Tryd.ntmps76
  go_upto_region 1 with fail
  rw [← hW]
  clear hW
  go_wp2_with fail
  refine H0.out.mono ?_
  rintro e w9 ⟨rfl, hw⟩
  have hw' := hw.symm
  clear hw
  subst hw'
  go_wp2
  go_ret
  exact ⟨rfl, HK.out⟩
set_option maxHeartbeats 2000000 in
theorem kids_20 (c : Value) (w : World) : Calls Tryd.prog 76 #[c, .agg #[.int .i64 20, .int .i64 20, .int .i64 2]] w fun e w' => e = .returned (.int .i64 0) ∧ Kept (fun _ => False) w w' := by
  obtain ⟨W, hW⟩ : ∃ W, W = w.alloc (.cells #[.int .i64 20, .int .i64 20, .int .i64 2] 88) := ⟨_, rfl⟩
  have hk : Kept (fun _ => False) w W := by rw [hW]; exact (Kept.refl _ _).alloc _
  have hb : W.heap[w.heap.size]? = some (.cells #[.int .i64 20, .int .i64 20, .int .i64 2] 88 (0, 0)) := by rw [hW]; exact heap_alloc_new w _
  obtain ⟨c0, c1, c2, _⟩ := look3 hb
  have HK := hid_of hk
  clear hb hk
  have H0 := hid_of (fails_no 171 W)
  go_enter Tryd.func76, Tryd.ntmps76
  go_upto_region 1 with fail
  rw [← hW]
  clear hW
  go_wp2_with fail
  refine H0.out.mono ?_
  rintro e w9 ⟨rfl, hw⟩
  have hw' := hw.symm
  clear hw
  subst hw'
  go_wp2
  go_ret
  exact ⟨rfl, HK.out⟩
end Go.Proofs.YtfblffledokjkaaDoor
