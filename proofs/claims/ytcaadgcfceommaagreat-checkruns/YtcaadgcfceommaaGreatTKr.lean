import Derived.Test.YtcaadgcfceommaaGreatTKp
import Derived.Test.YtcaadgcfceommaaGreatTKs
import Derived.Test.YtcaadgcfceommaaGreatTKj
import Derived.Test.YtcaadgcfceommaaGreatTKa
namespace Go.Proofs.YtcaadgcfceommaaGreat
open Go.RowKit
set_option linter.unusedVariables false
set_option linter.unusedSimpArgs false
set_option maxRecDepth 100000
theorem next63 (gp gs N n : Nat) (v : Value) (W : World) (hb : W.heap[gp]? = some (.cells #[.slice (some ⟨gs, 0, none⟩) N N] 75 (0, 0))) (hc : W.cell? ⟨gs, n * 5 + 4, none⟩ = some v) (hn : n < N) (hN : N ≤ 5000) :
  Calls Tryz.prog 63 #[.int .i64 (n : Int), .pointer (some ⟨gp, 0, none⟩)] W fun e w' => e = .returned v ∧ w' = W := by
 have b0 := cell_block _ _ 0 _ _ _ hb
 have hnI : (n : Int) < (N : Int) := by omega
 clear hb
 go_enter Tryz.func63, Tryz.ntmps63
 go_wp2
 go_ret
 exact ⟨rfl, rfl⟩
theorem Tryz.info4b : (Tryz.prog.info? 4).map (fun i => (i.zero, i.size, i.bytes)) = some (some (.bool false), 1, 1) := by kernel_rfl
def zbool (n : Nat) : Array Value := madeCells (Value.bool false).cells n
theorem zbool_size (n : Nat) : (zbool n).size = n := size_madeCells _ n
theorem zbool_at (n i : Nat) (h : i < n) : (zbool n)[i]? = some (.bool false) := by simp [zbool, madeCells, h, Value.cells, Nat.mod_one]
theorem makeBool (W : World) (l : Nat) (h : l ≤ 10000) : (Instr.makeSlice 31 (.int .i64 (l : Int)) (.int .i64 (l : Int))).run Tryz.prog W = .ok (.slice (some ⟨W.heap.size, 0, none⟩) l l) (W.alloc (.cells (zbool l) 4)) := by
 obtain ⟨i0, hi, hz0, hz1, hz2⟩ := info_parts Tryz.info4b
 have := run_make (P := Tryz.prog) W 31 4 i0 _ Tryz.underlying31 hi hz0 .i64 .i64 (l : Int) (l : Int) (by omega) (by omega) (by rw [hz2]; omega) (by omega)
 simpa [zbool, hz1] using this
theorem own_zint (W : World) (base g n : Nat) (h : W.heap[g]? = some (.cells (zint n) 3 (0, 0))) (hb : base ≤ g) (hn : n ≤ 10000) : W.ownsRow base 3 1 (.slice (some ⟨g, 0, none⟩) n n) n (ints (List.replicate n 0)) := by
 refine ⟨by simp [ints], .inr ⟨g, n, _, rfl, hb, h, Nat.le_refl _, by unfold maxLen; omega, by rw [zint_size]; omega, ?_⟩⟩
 apply List.ext_getElem?
 intro i
 rw [List.getElem?_take]
 by_cases hi : i < n
 ·rw [if_pos (by omega)]
  have := zint_at n i hi
  simp [ints, hi]
  simpa using this
 ·rw [if_neg (by omega)]
  simp [ints, hi]
theorem own_zbool (W : World) (base g n : Nat) (h : W.heap[g]? = some (.cells (zbool n) 4 (0, 0))) (hb : base ≤ g) (hn : n ≤ 10000) : W.ownsRow base 4 1 (.slice (some ⟨g, 0, none⟩) n n) n (bools (List.replicate n false)) := by
 refine ⟨by simp [bools], .inr ⟨g, n, _, rfl, hb, h, Nat.le_refl _, by unfold maxLen; omega, by rw [zbool_size]; omega, ?_⟩⟩
 apply List.ext_getElem?
 intro i
 rw [List.getElem?_take]
 by_cases hi : i < n
 ·rw [if_pos (by omega)]
  have := zbool_at n i hi
  simp [bools, hi]
  simpa using this
 ·rw [if_neg (by omega)]
  simp [bools, hi]
def tour0 (N : Nat) : TS := ⟨List.replicate N 0, 0, [], [], List.replicate N false⟩
theorem TI.tour0 (N : Nat) (R : Nat → Prop) : TI N R (tour0 N) := by
 refine ⟨by simp [YtcaadgcfceommaaGreat.tour0], by simp [YtcaadgcfceommaaGreat.tour0], fun m hm => by simp [YtcaadgcfceommaaGreat.tour0] at hm, fun m hm => by simp [YtcaadgcfceommaaGreat.tour0] at hm, ?_, ?_⟩
 ·simp [YtcaadgcfceommaaGreat.tour0, zc]
 ·simp [YtcaadgcfceommaaGreat.tour0, zc]
def tourP (nx : Nat → List Int) (N : Nat) : TS := (meetP nx N (tour0 N) 0).1
def TourR (w : World) (N : Nat) (nf : Value) (nx : Nat → List Int) (R : Nat → Prop) (e : Ending) (w' : World) : Prop := ∃ a gt ct ga ca vo vr, e = .returned (.pointer (some ⟨a, 0, none⟩)) ∧ TI N R (tourP nx N) ∧ Tr w w' N a nf gt ct vo vr ga ca (tourP nx N)
theorem tour_start63 (wd w : World) (N : Nat) (cap : Value) (nx : Nat → List Int) (o1 o2 : Obj) (s : Nat) (hs : s = wd.heap.size) (hN : N ≤ 5000) (hN1 : 1 ≤ N) (hk : KF w wd) (R : Nat → Prop) (hR : R 0) (hnl : ∀ n, n < N → R n → (nx n).length ≤ 5000 ∧ ∀ m ∈ nx n, 0 ≤ m ∧ m < N ∧ R m.toNat)
  (hnx : ∀ n, n < N → ∀ W, KF w W → Calls Tryz.prog 63 #[.int .i64 (n : Int), cap] W fun e w' => (∃ v, e = .returned v ∧ OwnN w 0 v (nx n)) ∧ w' = W)
  (W1 W2 : World) (h1 : W1 = ((wd.alloc (.cells (zint N) 3)).alloc (.cells (zbool N) 4)).alloc (.cells #[.func (.func 63) #[] #[cap], .slice (some ⟨s, 0, none⟩) N N, .int .i64 0, .slice none 0 0, .slice none 0 0, .slice (some ⟨s + 1, 0, none⟩) N N] 118)) :
  Calls Tryz.prog 88 #[.pointer (some ⟨s + 2, 0, none⟩), .int .i64 0] W1 (MetR w N R (s + 2) (.func (.func 63) #[] #[cap]) s N (s + 1) N (tour0 N) (meetP nx N (tour0 N) 0)) := by
 obtain ⟨k1, b1, b2, b3⟩ := allocs3 _ _ _ _ _ _ _ _ h1
 rw [← hs] at b1 b2 b3
 have hsw : w.heap.size ≤ s := by rw [hs]; exact hk.size
 refine meet_63 w N (s + 2) cap s N (s + 1) N nx R hN hnl hnx N (tour0 N) 0 W1 (.slice none 0 0) (.slice none 0 0) (TI.tour0 N R) hN1 hR (by simp [tour0, List.getD, List.getElem?_replicate]; split <;> rfl) (by simp [tour0, zc]) ⟨b3, own_zint _ _ _ _ b1 hsw (by omega), World.ownsRow_nil _ _ _ _, World.ownsRow_nil _ _ _ _, own_zbool _ _ _ _ b2 (by omega) (by omega), (fun e => by cases e), (fun e => by cases e), (fun q hq => by cases hq), hk.trans k1, by omega⟩
theorem tour_other63 (wd w : World) (N : Nat) (cap : Value) (nx : Nat → List Int) (s : Nat) (hs : s = wd.heap.size) (hN : N ≤ 5000) (hN1 : 1 ≤ N) (hk : KF w wd) (R : Nat → Prop) (hR : R 0) (hnl : ∀ n, n < N → R n → (nx n).length ≤ 5000 ∧ ∀ m ∈ nx n, 0 ≤ m ∧ m < N ∧ R m.toNat)
  (hnx : ∀ n, n < N → ∀ W, KF w W → Calls Tryz.prog 63 #[.int .i64 (n : Int), cap] W fun e w' => (∃ v, e = .returned v ∧ OwnN w 0 v (nx n)) ∧ w' = W)
  (W1 : World) (h1 : W1 = ((wd.alloc (.cells (zbool N) 4)).alloc (.cells (zint N) 3)).alloc (.cells #[.func (.func 63) #[] #[cap], .slice (some ⟨s + 1, 0, none⟩) N N, .int .i64 0, .slice none 0 0, .slice none 0 0, .slice (some ⟨s, 0, none⟩) N N] 118)) :
  Calls Tryz.prog 88 #[.pointer (some ⟨s + 2, 0, none⟩), .int .i64 0] W1 (MetR w N R (s + 2) (.func (.func 63) #[] #[cap]) (s + 1) N s N (tour0 N) (meetP nx N (tour0 N) 0)) := by
 obtain ⟨k1, b1, b2, b3⟩ := allocs3 _ _ _ _ _ _ _ _ h1
 rw [← hs] at b1 b2 b3
 have hsw : w.heap.size ≤ s := by rw [hs]; exact hk.size
 refine meet_63 w N (s + 2) cap (s + 1) N s N nx R hN hnl hnx N (tour0 N) 0 W1 (.slice none 0 0) (.slice none 0 0) (TI.tour0 N R) hN1 hR (by simp [tour0, List.getD, List.getElem?_replicate]; split <;> rfl) (by simp [tour0, zc]) ⟨b3, own_zint _ _ _ _ b2 (by omega) (by omega), World.ownsRow_nil _ _ _ _, World.ownsRow_nil _ _ _ _, own_zbool _ _ _ _ b1 hsw (by omega), (fun e => by cases e), (fun e => by cases e), (fun q hq => by cases hq), hk.trans k1, by omega⟩
set_option maxHeartbeats 4000000 in
theorem tour_63 (w : World) (N : Nat) (cap : Value) (nx : Nat → List Int) (hN : N ≤ 5000) (hN1 : 1 ≤ N) (R : Nat → Prop) (hR : R 0) (hnl : ∀ n, n < N → R n → (nx n).length ≤ 5000 ∧ ∀ m ∈ nx n, 0 ≤ m ∧ m < N ∧ R m.toNat)
  (hnx : ∀ n, n < N → ∀ W, KF w W → Calls Tryz.prog 63 #[.int .i64 (n : Int), cap] W fun e w' => (∃ v, e = .returned v ∧ OwnN w 0 v (nx n)) ∧ w' = W) :
  Calls Tryz.prog 62 #[.int .i64 (N : Int), .func (.func 63) #[] #[cap]] w (TourR w N (.func (.func 63) #[] #[cap]) nx R) := by
 have HA := hid_of (fun W1 h => tour_start63 w.drew w N cap nx (.cells #[] 0) (.cells #[] 0) _ rfl hN hN1 (Kept.refl _ _).drew R hR hnl hnx W1 W1 h)
 have HB := hid_of (fun W1 h => tour_other63 w.drew w N cap nx _ rfl hN hN1 (Kept.refl _ _).drew R hR hnl hnx W1 h)
 clear hnl hnx hR
 have hN0 : (0 : Int) ≤ (N : Int) := by omega
 go_enter Tryz.func62, Tryz.ntmps62
 go_upto_region 1 with fail
 refine wp_region_held_drew (S := fun w' => KF w w') (by kernel_rfl) ((Kept.refl _ _).drew) (fun hHeld => ?_)
 generalize w.drew = wd at *
 iterate 2
  refine tkn (v := ?_) 0 rfl ?_ ?_; rotate_left 1
  ·intro w hSw; go_simp; try with_reducible rfl
  try simp only [Act.put, tdy]
 iterate 1
  refine tkn (v := ?_) 3 rfl ?_ ?_; rotate_left 1
  ·intro w hSw; go_simp; try with_reducible rfl
  try simp only [Act.put, tdy]
 have hMI := fun W => makeInt W N (by omega)
 have hMB := fun W => makeBool W N (by omega)
 refine wpAnyH_ready (rs := [2, 4]) (by kernel_rfl) (by simp) ?_
 refine AllReadyH.cons rfl (fun K hK => ?_) (AllReadyH.cons rfl (fun K hK => ?_) AllReadyH.nil)
 ·go_simp
  refine hK.out _ _ (hHeld.alloc _) (fun hHeld => ?_)
  clear hK K
  try simp only [Act.put, tdy]
  refine rdy 4 rfl (fun K hK => ?_)
  go_simp
  refine hK.out _ _ (hHeld.alloc _) (fun hHeld => ?_)
  clear hK K
  try simp only [Act.put, tdy]
  iterate 1
   refine tkn (v := ?_) 5 rfl ?_ ?_; rotate_left 1
   ·intro w hSw; go_simp; try with_reducible rfl
   try simp only [Act.put, tdy]
  refine rdy 6 rfl (fun K hK => ?_)
  go_simp
  refine hK.out _ _ (hHeld.alloc _) (fun hHeld => ?_)
  clear hK K
  try simp only [Act.put, tdy]
  iterate 1
   refine tkn (v := ?_) 7 rfl ?_ ?_; rotate_left 1
   ·intro w hSw; go_simp; try with_reducible rfl
   try simp only [Act.put, tdy]
  refine wpAnyH_done (by kernel_rfl) ?_ _
  have HM := hid_of (HA.out _ rfl)
  clear hHeld hMI hMB HA HB
  go_wp2_with fail
  refine HM.out.mono ?_
  rintro e w9 ⟨rfl, hI9, ho9, hz9, vo9, vr9, hT9⟩
  have HT9 := hid_of hT9
  have HI9 := hid_of hI9
  clear hI9 ho9 hz9 hT9 HM
  go_wp2
  go_ret
  exact ⟨_, _, _, _, _, _, _, rfl, HI9.out, HT9.out⟩
 ·go_simp
  refine hK.out _ _ (hHeld.alloc _) (fun hHeld => ?_)
  clear hK K
  try simp only [Act.put, tdy]
  refine rdy 2 rfl (fun K hK => ?_)
  go_simp
  refine hK.out _ _ (hHeld.alloc _) (fun hHeld => ?_)
  clear hK K
  try simp only [Act.put, tdy]
  iterate 1
   refine tkn (v := ?_) 5 rfl ?_ ?_; rotate_left 1
   ·intro w hSw; go_simp; try with_reducible rfl
   try simp only [Act.put, tdy]
  refine rdy 6 rfl (fun K hK => ?_)
  go_simp
  refine hK.out _ _ (hHeld.alloc _) (fun hHeld => ?_)
  clear hK K
  try simp only [Act.put, tdy]
  iterate 1
   refine tkn (v := ?_) 7 rfl ?_ ?_; rotate_left 1
   ·intro w hSw; go_simp; try with_reducible rfl
   try simp only [Act.put, tdy]
  refine wpAnyH_done (by kernel_rfl) ?_ _
  have HM := hid_of (HB.out _ rfl)
  clear hHeld hMI hMB HA HB
  go_wp2_with fail
  refine HM.out.mono ?_
  rintro e w9 ⟨rfl, hI9, ho9, hz9, vo9, vr9, hT9⟩
  have HT9 := hid_of hT9
  have HI9 := hid_of hI9
  clear hI9 ho9 hz9 hT9 HM
  go_wp2
  go_ret
  exact ⟨_, _, _, _, _, _, _, rfl, HI9.out, HT9.out⟩
theorem tour_start66 (wd w : World) (N : Nat) (cap : Value) (nx : Nat → List Int) (o1 o2 : Obj) (s : Nat) (hs : s = wd.heap.size) (hN : N ≤ 5000) (hN1 : 1 ≤ N) (hk : KF w wd) (R : Nat → Prop) (hR : R 0) (hnl : ∀ n, n < N → R n → (nx n).length ≤ 5000 ∧ ∀ m ∈ nx n, 0 ≤ m ∧ m < N ∧ R m.toNat)
  (hnx : ∀ n, n < N → ∀ W, KF w W → Calls Tryz.prog 66 #[.int .i64 (n : Int), cap] W fun e w' => (∃ v, e = .returned v ∧ OwnN w 0 v (nx n)) ∧ w' = W)
  (W1 W2 : World) (h1 : W1 = ((wd.alloc (.cells (zint N) 3)).alloc (.cells (zbool N) 4)).alloc (.cells #[.func (.func 66) #[] #[cap], .slice (some ⟨s, 0, none⟩) N N, .int .i64 0, .slice none 0 0, .slice none 0 0, .slice (some ⟨s + 1, 0, none⟩) N N] 118)) :
  Calls Tryz.prog 88 #[.pointer (some ⟨s + 2, 0, none⟩), .int .i64 0] W1 (MetR w N R (s + 2) (.func (.func 66) #[] #[cap]) s N (s + 1) N (tour0 N) (meetP nx N (tour0 N) 0)) := by
 obtain ⟨k1, b1, b2, b3⟩ := allocs3 _ _ _ _ _ _ _ _ h1
 rw [← hs] at b1 b2 b3
 have hsw : w.heap.size ≤ s := by rw [hs]; exact hk.size
 refine meet_66 w N (s + 2) cap s N (s + 1) N nx R hN hnl hnx N (tour0 N) 0 W1 (.slice none 0 0) (.slice none 0 0) (TI.tour0 N R) hN1 hR (by simp [tour0, List.getD, List.getElem?_replicate]; split <;> rfl) (by simp [tour0, zc]) ⟨b3, own_zint _ _ _ _ b1 hsw (by omega), World.ownsRow_nil _ _ _ _, World.ownsRow_nil _ _ _ _, own_zbool _ _ _ _ b2 (by omega) (by omega), (fun e => by cases e), (fun e => by cases e), (fun q hq => by cases hq), hk.trans k1, by omega⟩
theorem tour_other66 (wd w : World) (N : Nat) (cap : Value) (nx : Nat → List Int) (s : Nat) (hs : s = wd.heap.size) (hN : N ≤ 5000) (hN1 : 1 ≤ N) (hk : KF w wd) (R : Nat → Prop) (hR : R 0) (hnl : ∀ n, n < N → R n → (nx n).length ≤ 5000 ∧ ∀ m ∈ nx n, 0 ≤ m ∧ m < N ∧ R m.toNat)
  (hnx : ∀ n, n < N → ∀ W, KF w W → Calls Tryz.prog 66 #[.int .i64 (n : Int), cap] W fun e w' => (∃ v, e = .returned v ∧ OwnN w 0 v (nx n)) ∧ w' = W)
  (W1 : World) (h1 : W1 = ((wd.alloc (.cells (zbool N) 4)).alloc (.cells (zint N) 3)).alloc (.cells #[.func (.func 66) #[] #[cap], .slice (some ⟨s + 1, 0, none⟩) N N, .int .i64 0, .slice none 0 0, .slice none 0 0, .slice (some ⟨s, 0, none⟩) N N] 118)) :
  Calls Tryz.prog 88 #[.pointer (some ⟨s + 2, 0, none⟩), .int .i64 0] W1 (MetR w N R (s + 2) (.func (.func 66) #[] #[cap]) (s + 1) N s N (tour0 N) (meetP nx N (tour0 N) 0)) := by
 obtain ⟨k1, b1, b2, b3⟩ := allocs3 _ _ _ _ _ _ _ _ h1
 rw [← hs] at b1 b2 b3
 have hsw : w.heap.size ≤ s := by rw [hs]; exact hk.size
 refine meet_66 w N (s + 2) cap (s + 1) N s N nx R hN hnl hnx N (tour0 N) 0 W1 (.slice none 0 0) (.slice none 0 0) (TI.tour0 N R) hN1 hR (by simp [tour0, List.getD, List.getElem?_replicate]; split <;> rfl) (by simp [tour0, zc]) ⟨b3, own_zint _ _ _ _ b2 (by omega) (by omega), World.ownsRow_nil _ _ _ _, World.ownsRow_nil _ _ _ _, own_zbool _ _ _ _ b1 hsw (by omega), (fun e => by cases e), (fun e => by cases e), (fun q hq => by cases hq), hk.trans k1, by omega⟩
set_option maxHeartbeats 4000000 in
theorem tour_66 (w : World) (N : Nat) (cap : Value) (nx : Nat → List Int) (hN : N ≤ 5000) (hN1 : 1 ≤ N) (R : Nat → Prop) (hR : R 0) (hnl : ∀ n, n < N → R n → (nx n).length ≤ 5000 ∧ ∀ m ∈ nx n, 0 ≤ m ∧ m < N ∧ R m.toNat)
  (hnx : ∀ n, n < N → ∀ W, KF w W → Calls Tryz.prog 66 #[.int .i64 (n : Int), cap] W fun e w' => (∃ v, e = .returned v ∧ OwnN w 0 v (nx n)) ∧ w' = W) :
  Calls Tryz.prog 62 #[.int .i64 (N : Int), .func (.func 66) #[] #[cap]] w (TourR w N (.func (.func 66) #[] #[cap]) nx R) := by
 have HA := hid_of (fun W1 h => tour_start66 w.drew w N cap nx (.cells #[] 0) (.cells #[] 0) _ rfl hN hN1 (Kept.refl _ _).drew R hR hnl hnx W1 W1 h)
 have HB := hid_of (fun W1 h => tour_other66 w.drew w N cap nx _ rfl hN hN1 (Kept.refl _ _).drew R hR hnl hnx W1 h)
 clear hnl hnx hR
 have hN0 : (0 : Int) ≤ (N : Int) := by omega
 go_enter Tryz.func62, Tryz.ntmps62
 go_upto_region 1 with fail
 refine wp_region_held_drew (S := fun w' => KF w w') (by kernel_rfl) ((Kept.refl _ _).drew) (fun hHeld => ?_)
 generalize w.drew = wd at *
 iterate 2
  refine tkn (v := ?_) 0 rfl ?_ ?_; rotate_left 1
  ·intro w hSw; go_simp; try with_reducible rfl
  try simp only [Act.put, tdy]
 iterate 1
  refine tkn (v := ?_) 3 rfl ?_ ?_; rotate_left 1
  ·intro w hSw; go_simp; try with_reducible rfl
  try simp only [Act.put, tdy]
 have hMI := fun W => makeInt W N (by omega)
 have hMB := fun W => makeBool W N (by omega)
 refine wpAnyH_ready (rs := [2, 4]) (by kernel_rfl) (by simp) ?_
 refine AllReadyH.cons rfl (fun K hK => ?_) (AllReadyH.cons rfl (fun K hK => ?_) AllReadyH.nil)
 ·go_simp
  refine hK.out _ _ (hHeld.alloc _) (fun hHeld => ?_)
  clear hK K
  try simp only [Act.put, tdy]
  refine rdy 4 rfl (fun K hK => ?_)
  go_simp
  refine hK.out _ _ (hHeld.alloc _) (fun hHeld => ?_)
  clear hK K
  try simp only [Act.put, tdy]
  iterate 1
   refine tkn (v := ?_) 5 rfl ?_ ?_; rotate_left 1
   ·intro w hSw; go_simp; try with_reducible rfl
   try simp only [Act.put, tdy]
  refine rdy 6 rfl (fun K hK => ?_)
  go_simp
  refine hK.out _ _ (hHeld.alloc _) (fun hHeld => ?_)
  clear hK K
  try simp only [Act.put, tdy]
  iterate 1
   refine tkn (v := ?_) 7 rfl ?_ ?_; rotate_left 1
   ·intro w hSw; go_simp; try with_reducible rfl
   try simp only [Act.put, tdy]
  refine wpAnyH_done (by kernel_rfl) ?_ _
  have HM := hid_of (HA.out _ rfl)
  clear hHeld hMI hMB HA HB
  go_wp2_with fail
  refine HM.out.mono ?_
  rintro e w9 ⟨rfl, hI9, ho9, hz9, vo9, vr9, hT9⟩
  have HT9 := hid_of hT9
  have HI9 := hid_of hI9
  clear hI9 ho9 hz9 hT9 HM
  go_wp2
  go_ret
  exact ⟨_, _, _, _, _, _, _, rfl, HI9.out, HT9.out⟩
 ·go_simp
  refine hK.out _ _ (hHeld.alloc _) (fun hHeld => ?_)
  clear hK K
  try simp only [Act.put, tdy]
  refine rdy 2 rfl (fun K hK => ?_)
  go_simp
  refine hK.out _ _ (hHeld.alloc _) (fun hHeld => ?_)
  clear hK K
  try simp only [Act.put, tdy]
  iterate 1
   refine tkn (v := ?_) 5 rfl ?_ ?_; rotate_left 1
   ·intro w hSw; go_simp; try with_reducible rfl
   try simp only [Act.put, tdy]
  refine rdy 6 rfl (fun K hK => ?_)
  go_simp
  refine hK.out _ _ (hHeld.alloc _) (fun hHeld => ?_)
  clear hK K
  try simp only [Act.put, tdy]
  iterate 1
   refine tkn (v := ?_) 7 rfl ?_ ?_; rotate_left 1
   ·intro w hSw; go_simp; try with_reducible rfl
   try simp only [Act.put, tdy]
  refine wpAnyH_done (by kernel_rfl) ?_ _
  have HM := hid_of (HB.out _ rfl)
  clear hHeld hMI hMB HA HB
  go_wp2_with fail
  refine HM.out.mono ?_
  rintro e w9 ⟨rfl, hI9, ho9, hz9, vo9, vr9, hT9⟩
  have HT9 := hid_of hT9
  have HI9 := hid_of hI9
  clear hI9 ho9 hz9 hT9 HM
  go_wp2
  go_ret
  exact ⟨_, _, _, _, _, _, _, rfl, HI9.out, HT9.out⟩
def costM (cs : List Int) (l : List Int) (c : Int) : Int := l.foldl (fun c x => max2 c (cs.getD x.toNat 0)) c
def costC (s : ST) (others : List Int) (c : Int) : Int := if s.op = 17 then wrap64 (c + others.getD s.a.toNat 0) else c
def costF (b : BD) (others cs : List Int) (m : Int) : List Int := cs.set m.toNat (wrap64 (1 + costC (b.ss.getD m.toNat st0) others (costM cs (b.ss.getD m.toNat st0).nx 0)))
def costP (b : BD) (n : Nat) (others : List Int) : Int := (b.order.foldl (costF b others) (List.replicate n 0)).getD 0 0
theorem own_put {w0 W : World} {g c n : Nat} {l : List Int} (h : OwnN W w0.heap.size (.slice (some ⟨g, 0, none⟩) n c) l) (hk : KF w0 W) (i : Nat) (x : Int) : OwnN (W.setCell ⟨g, i, none⟩ (.int .i64 x)) w0.heap.size (.slice (some ⟨g, 0, none⟩) n c) (l.set i x) ∧ KF w0 (W.setCell ⟨g, i, none⟩ (.int .i64 x)) := by
 obtain ⟨ao, c', e⟩ := ownsRow_shape h
 simp only [Value.slice.injEq] at e
 obtain ⟨_, rfl, _⟩ := e
 refine ⟨?_, hk.setCell (.inl (h.lt g rfl).1) _⟩
 unfold OwnN
 rw [show ints (l.set i x) = (ints l).set i (.int .i64 x) by simp [ints, List.map_set], List.length_set]
 exact (World.ownsRow.stored h i (.int .i64 x)).1
theorem own_frz {W : World} {base g c n : Nat} {l : List Int} (h : OwnN W base (.slice (some ⟨g, 0, none⟩) n c) l) (i : Nat) : W.frozen? ⟨g, i, none⟩ = false := by
 obtain ⟨ao, c', e⟩ := ownsRow_shape h
 simp only [Value.slice.injEq] at e
 obtain ⟨_, rfl, _⟩ := e
 exact World.ownsRow.frozenAt h i
theorem own_zero (W : World) (base g n : Nat) (h : W.heap[g]? = some (.cells (zint n) 3 (0, 0))) (hb : base ≤ g) (hn : n ≤ 10000) : OwnN W base (.slice (some ⟨g, 0, none⟩) n n) (List.replicate n 0) := by
 have := own_zint W base g n h hb hn
 unfold OwnN
 rw [List.length_replicate]
 exact this
set_option maxHeartbeats 8000000 in
theorem cost_any (w : World) (base gs n : Nat) (hv lv ov : Value) (b : BD) (h : BdAt w base gs n hv lv ov b) (hok : BdOk n b) (oth : Value) (others : List Int) (base2 : Nat) (hoth : OwnN w base2 oth others)
  (hcl : ∀ m ∈ callsP b, 0 ≤ (b.ss.getD m.toNat st0).a ∧ (b.ss.getD m.toNat st0).a < others.length) (hol : others.length ≤ 5000)
  (hnx : ∀ m ∈ b.order, (b.ss.getD m.toNat st0).nx.length ≤ 5000 ∧ ∀ x ∈ (b.ss.getD m.toNat st0).nx, 0 ≤ x ∧ x < n) :
  Calls Tryz.prog 93 #[.agg #[.slice (some ⟨gs, 0, none⟩) n n, hv, lv, ov], oth] w fun e w' => e = .returned (.int .i64 (costP b n others)) ∧ KF w w' := by
 have hkA : KF w (w.alloc (.cells #[.slice (some ⟨gs, 0, none⟩) n n, hv, lv, ov] 77)) := (Kept.refl _ _).alloc _
 have hbA := heap_alloc_new w (.cells #[.slice (some ⟨gs, 0, none⟩) n n, hv, lv, ov] 77)
 obtain ⟨oao, oc, hov⟩ := ownsRow_shape h.od
 obtain ⟨hao, hc, hhv⟩ := ownsRow_shape h.hs
 obtain ⟨lao, lc, hlv⟩ := ownsRow_shape h.lo
 obtain ⟨m, hm⟩ := nmd (b.order.length)
 rw [← hm] at hov
 rw [h.hl] at hhv
 obtain ⟨ll, hll⟩ := nmd (b.loops.length)
 rw [← hll] at hlv
 subst hov hhv hlv
 obtain ⟨tao, tc, htv⟩ := ownsRow_shape hoth
 obtain ⟨nf, hnf⟩ := nmd (others.length)
 rw [← hnf] at htv
 subst htv
 have HNF := hid_of hnf
 have HOT := hid_of hoth
 have HCLS := hid_of hcl
 have HNX := hid_of hnx
 have hnf5 : nf ≤ 5000 := by omega
 obtain ⟨hn1, hn4⟩ := hok.n1
 have hMI := makeInt (w.alloc (.cells #[.slice (some ⟨gs, 0, none⟩) n n, .slice hao n hc, .slice lao ll lc, .slice oao m oc] 77)) n (by omega)
 have hk1 := hkA.alloc (.cells (zint n) 3)
 have hb1 := heap_alloc_new (w.alloc (.cells #[.slice (some ⟨gs, 0, none⟩) n n, .slice hao n hc, .slice lao ll lc, .slice oao m oc] 77)) (.cells (zint n) 3)
 have hkB : KF (w.alloc (.cells #[.slice (some ⟨gs, 0, none⟩) n n, .slice hao n hc, .slice lao ll lc, .slice oao m oc] 77)) ((w.alloc (.cells #[.slice (some ⟨gs, 0, none⟩) n n, .slice hao n hc, .slice lao ll lc, .slice oao m oc] 77)).alloc (.cells (zint n) 3)) := (Kept.refl _ _).alloc _
 have hbB := box_kept hkB hbA id
 have c0 := cell_block _ _ 0 _ _ _ hbA
 have c3 := cell_block _ _ 3 _ _ _ hbB
 have hown := own_zero _ w.heap.size _ n hb1 (by simp) (by omega)
 rw [show (w.alloc (.cells #[.slice (some ⟨gs, 0, none⟩) n n, .slice hao n hc, .slice lao ll lc, .slice oao m oc] 77)).heap.size = w.heap.size + 1 by simp] at hown
 have HOW := hid_of hown
 have HK1 := hid_of hk1
 have HBB := hid_of hbB
 have HB := hid_of h
 have HOK := hid_of hok
 have HM := hid_of hm
 have hmn : m ≤ 4096 := by have := hok.ol; omega
 have HT : Hid (costP b n others = ((b.order.drop 0).foldl (costF b others) (List.replicate n 0)).getD 0 0) := rfl
 obtain ⟨tp, htp⟩ := nmd (costP b n others)
 rw [← htp] at HT ⊢
 have HL0 : Hid ((List.replicate n (0 : Int)).length = n) := by simp [Hid]
 generalize List.replicate n (0 : Int) = l0 at *
 clear h hok hm hll hkA hbA hoth hcl hol hnf hnx hk1 hb1 hkB hbB hown htp
 go_enter Tryz.func93, Tryz.ntmps93
 go_wp2
 clear c0 c3 hMI
 generalize (w.alloc (.cells #[.slice (some ⟨gs, 0, none⟩) n n, .slice hao n hc, .slice lao ll lc, .slice oao m oc] 77)).alloc (.cells (zint n) 3) = w1 at *
 generalize hgc : w.heap.size + 1 = gc at *
 clear hgc
 obtain ⟨gb, hgb⟩ := nmd (w.heap.size)
 rw [← hgb] at HBB ⊢
 clear hgb
 go_loopw [19] (fun iv wr => ∃ (k : Nat) (cs : List Int), k ≤ m ∧ iv = .int .i64 (k : Int) ∧ Hid (tp = ((b.order.drop k).foldl (costF b others) cs).getD 0 0) ∧ Hid (cs.length = n) ∧ Hid (OwnN wr w.heap.size (.slice (some ⟨gc, 0, none⟩) n n) cs) ∧ Hid (KF w wr) ∧ Hid (wr.heap[gb]? = some (.cells #[.slice (some ⟨gs, 0, none⟩) n n, .slice hao n hc, .slice lao ll lc, .slice oao m oc] 77 (0, 0)))) (fun iv _ => m - (intOf iv).toNat)
 case atStart => exact ⟨0, l0, by omega, rfl, HT, HL0, HOW, HK1, HBB⟩
 case round =>
  clear HT HL0 HOW HK1 HBB
  obtain ⟨k, cs, hk, rfl, HT, HCS, HOW, HK, HBX⟩ := hrel
  by_cases hlt : k < m
  ·have hltI : (k : Int) < (m : Int) := by omega
   have hkl : k < b.order.length := by rw [← HM.out]; exact hlt
   have hB := HB.out.same HK.out
   have hmo := getD_mem hkl
   obtain ⟨q, hq⟩ : ∃ q : Nat, b.order.getD k 0 = (q : Int) := ⟨(b.order.getD k 0).toNat, by have := (HOK.out.od _ hmo).1; omega⟩
   have hqn : q < n := by have := (HOK.out.od _ hmo).2; omega
   have hqI : (q : Int) < (n : Int) := by omega
   have hcl : (b.ss.getD q st0).op = 17 → 0 ≤ (b.ss.getD q st0).a ∧ (b.ss.getD q st0).a < others.length := fun e => by
    have := HCLS.out (q : Int) (List.mem_filter.2 ⟨hq ▸ hmo, by show decide _ = true; rw [Int.toNat_natCast]; exact decide_eq_true e⟩)
    rwa [Int.toNat_natCast] at this
   have hnx := HNX.out _ hmo
   rw [hq, Int.toNat_natCast] at hnx
   obtain ⟨go, co, e1, hco⟩ := own_look hB.od hkl
   simp only [Value.slice.injEq] at e1
   obtain ⟨rfl, hx8, rfl⟩ := e1
   clear hx8
   rw [hq] at hco
   obtain ⟨nv, hrg, hone, hsm, hnv⟩ := ss_look hB hqn
   obtain ⟨nao, nc, hnvs⟩ := ownsRow_shape hnv
   obtain ⟨nl, hnl⟩ := nmd ((b.ss.getD q st0).nx.length)
   rw [← hnl] at hnvs
   subst hnvs
   have HTN : Hid (tp = ((b.order.drop (k + 1)).foldl (costF b others) (cs.set q (wrap64 (1 + costC (b.ss.getD q st0) others (costM cs (b.ss.getD q st0).nx 0))))).getD 0 0) := by
    unfold Hid
    rw [HT.out, List.drop_eq_getElem_cons hkl]
    have e : b.order[k] = (q : Int) := by rw [← hq]; simp [List.getD, List.getElem?_eq_getElem hkl]
    rw [e]
    show List.getD (List.foldl _ (costF b others cs (q : Int)) _) _ _ = _
    unfold costF
    rw [Int.toNat_natCast]
   have b0 := cell_block _ _ 0 _ _ _ HBX.out
   generalize b.ss.getD q st0 = sq at *
   obtain ⟨op, ja, tk, gv, nx⟩ := sq
   have r0 : wr.cell? ⟨gs, q * 5, none⟩ = some (.int .i64 op) := hrg 0 _ rfl
   have r1 : wr.cell? ⟨gs, q * 5 + 1, none⟩ = some (.int .i64 ja) := hrg 1 _ rfl
   have r2 : wr.cell? ⟨gs, q * 5 + 2, none⟩ = some (.int .i64 tk) := hrg 2 _ rfl
   have r3 : wr.cell? ⟨gs, q * 5 + 3, none⟩ = some (.int .i64 gv) := hrg 3 _ rfl
   have r4 : wr.cell? ⟨gs, q * 5 + 4, none⟩ = some (.slice nao nl nc) := hrg 4 _ rfl
   have hkN : KF wr (wr.alloc (.cells #[.int .i64 op, .int .i64 ja, .int .i64 tk, .int .i64 gv, .slice nao nl nc] 115)) := (Kept.refl _ _).alloc _
   have hbN := heap_alloc_new wr (.cells #[.int .i64 op, .int .i64 ja, .int .i64 tk, .int .i64 gv, .slice nao nl nc] 115)
   have n0 := cell_block _ _ 0 _ _ _ hbN
   have n1 := cell_block _ _ 1 _ _ _ hbN
   have n4 := cell_block _ _ 4 _ _ _ hbN
   have HNV := hid_of (hkN.ownsRow hnv (fun _ _ f => f))
   have HOT4 := hid_of ((HK.out.trans hkN).ownsRow HOT.out (fun _ _ f => f))
   have HOW4 := hid_of (hkN.ownsRow HOW.out (fun _ _ f => f))
   have HK4 := hid_of (HK.out.trans hkN)
   have HBX4 := hid_of (box_kept hkN HBX.out id)
   have HNL : Hid (nl = nx.length) := hnl
   have hnl5 : nl ≤ 5000 := by rw [HNL.out]; exact hnx.1
   have HNXq : Hid (∀ x ∈ nx, 0 ≤ x ∧ x < n) := hnx.2
   have HCLq : Hid (op = 17 → 0 ≤ ja ∧ ja < others.length) := hcl
   have HC0 : Hid (costM cs nx 0 = costM cs (nx.drop 0) 0) := rfl
   simp only at HTN
   have HCC : Hid (costC ⟨op, ja, tk, gv, nx⟩ others (costM cs nx 0) = if op = 17 then wrap64 (costM cs nx 0 + others.getD ja.toNat 0) else costM cs nx 0) := rfl
   generalize costC ⟨op, ja, tk, gv, nx⟩ others (costM cs nx 0) = ccq at *
   obtain ⟨cm, hcm⟩ := nmd (costM cs nx 0)
   rw [← hcm] at HC0 HCC
   clear hB hmo hq hrg hone hsm hnv hnl hnx hcl hkN hbN hkl HT HK HOW HBX hcm
   go_wp2
   clear n4 r0 r1 r2 r3 r4 b0 hco
   generalize wr.alloc (.cells #[.int .i64 op, .int .i64 ja, .int .i64 tk, .int .i64 gv, .slice nao nl nc] 115) = w4 at *
   generalize wr.heap.size = gx at *
   go_loopw [9, 31] (fun cv iv wi => ∃ (j : Nat) (x : Int), j ≤ nl ∧ cv = .int .i64 x ∧ iv = .int .i64 (j : Int) ∧ Hid (cm = costM cs (nx.drop j) x) ∧ wi = w4) (fun _ iv _ => nl - (intOf iv).toNat)
   case atStart => exact ⟨0, 0, by omega, rfl, rfl, HC0, rfl⟩
   case round =>
    clear HC0
    obtain ⟨j, x, hj, rfl, rfl, HC, hwi⟩ := hrel
    have hwi := hwi.symm
    subst hwi
    by_cases hjn : j < nl
    ·have hjI : (j : Int) < (nl : Int) := by omega
     have hjl : j < nx.length := by rw [← HNL.out]; exact hjn
     obtain ⟨gn, cn, e5, hcn⟩ := own_look HNV.out hjl
     simp only [Value.slice.injEq] at e5
     obtain ⟨rfl, hx5, rfl⟩ := e5
     clear hx5
     obtain ⟨hx0, hx1⟩ := HNXq.out _ (getD_mem hjl)
     obtain ⟨r, hr⟩ : ∃ r : Nat, nx.getD j 0 = (r : Int) := ⟨(nx.getD j 0).toNat, by omega⟩
     rw [hr] at hcn hx1
     have hrn : r < n := by omega
     obtain ⟨g6, c6, e6, hc6⟩ := own_look HOW4.out (i := r) (by rw [HCS.out]; exact hrn)
     simp only [Value.slice.injEq, Option.some.injEq, Addr.mk.injEq] at e6
     obtain ⟨⟨rfl, hz1⟩, hz2, rfl⟩ := e6
     clear hz1 hz2
     have HCN : Hid (cm = costM cs (nx.drop (j + 1)) (max2 x (cs.getD r 0))) := by
      unfold Hid
      rw [HC.out, List.drop_eq_getElem_cons hjl]
      have e : nx[j] = (r : Int) := by rw [← hr]; simp [List.getD, List.getElem?_eq_getElem hjl]
      rw [e]
      rfl
     generalize cs.getD r 0 = cz at *
     have hmx := fun W => run_max2 W x cz
     clear hr hx0 hjl HC
     go_wp2
     go_roundw
     case rel => exact ⟨j + 1, _, by omega, rfl, by go_num, HCN, trivial⟩
     case measure => simp [intOf]; omega
    ·have e : j = nl := by omega
     subst e
     have HX : Hid (cm = x) := by
      have := HC.out
      rw [List.drop_of_length_le (by rw [← HNL.out]; omega)] at this
      exact this
     have hfz : w4.frozen? ⟨gc, q, none⟩ = false := own_frz HOW4.out _
     obtain ⟨g6, c6, e6, hc6⟩ := own_look HOW4.out (i := q) (by rw [HCS.out]; exact hqn)
     simp only [Value.slice.injEq, Option.some.injEq, Addr.mk.injEq] at e6
     obtain ⟨⟨rfl, hz1⟩, hz2, rfl⟩ := e6
     clear hz1 hz2
     generalize cs.getD q 0 = cz at *
     obtain ⟨ho9, hk9⟩ := own_put HOW4.out HK4.out q (wrap64 (1 + ccq))
     have hb9 := box_kept (kept_set w4 gc q (.int .i64 (wrap64 (1 + ccq)))) HBX4.out (fun e => own_box2 HOW4.out HBX4.out (by decide) (by rw [e]; rfl))
     have HO9 := hid_of ho9
     have HK9 := hid_of hk9
     have HB9 := hid_of hb9
     have HL9 : Hid ((cs.set q (wrap64 (1 + ccq))).length = n) := by unfold Hid; rw [List.length_set]; exact HCS.out
     clear HC ho9 hk9 hb9
     by_cases h17 : op = 17
     ·have hcc := HCC.out
      rw [if_pos h17] at hcc
      obtain ⟨hj0, hj1⟩ := HCLq.out h17
      obtain ⟨ia, hia⟩ : ∃ ia : Nat, ja = (ia : Int) := ⟨ja.toNat, by omega⟩
      subst hia
      rw [Int.toNat_natCast, HX.out] at hcc
      obtain ⟨gt, ct, e3, hct⟩ := own_look HOT4.out (i := ia) (by omega)
      simp only [Value.slice.injEq] at e3
      obtain ⟨rfl, hx7, rfl⟩ := e3
      clear hx7
      have hiaI : (ia : Int) < (nf : Int) := by rw [HNF.out]; omega
      generalize others.getD ia 0 = oq at *
      have HCC2 := hid_of hcc
      rw [h17] at n0
      clear hcc hj0 hj1 HCC h17 HX
      go_wp2
      rw [← HCC2.out]
      go_roundw
      case rel => exact ⟨k + 1, _, by omega, by go_num, HTN, HL9, HO9, HK9, HB9⟩
      case measure => simp [intOf]; omega
     ·have hcc := HCC.out
      rw [if_neg h17, HX.out] at hcc
      have h17b : (op == 17) = false := by simp; exact h17
      have HCC2 := hid_of hcc
      clear hcc HCC h17 HX
      go_wp2
      rw [← HCC2.out]
      go_roundw
      case rel => exact ⟨k + 1, _, by omega, by go_num, HTN, HL9, HO9, HK9, HB9⟩
      case measure => simp [intOf]; omega
  ·have e : k = m := by omega
   subst e
   have HX : Hid (tp = cs.getD 0 0) := by
    have := HT.out
    rw [List.drop_of_length_le (by rw [← HM.out]; omega)] at this
    exact this
   obtain ⟨g0, cp0, e0, h0⟩ := own_look HOW.out (i := 0) (by rw [HCS.out]; omega)
   simp only [Value.slice.injEq, Option.some.injEq, Addr.mk.injEq] at e0
   obtain ⟨⟨rfl, hz1⟩, hz2, rfl⟩ := e0
   clear hz1 hz2
   have hnI : (0 : Int) < (n : Int) := by omega
   generalize cs.getD 0 0 = cz at *
   clear HT HCS HOW HBX
   go_wp2
   go_ret
   refine ⟨?_, HK.out⟩
   rw [HX.out]
   rfl
structure IC (ss : List ST) (n : Nat) (hs l : List Int) : Prop where
 rg : ∀ x ∈ hs, -1 ≤ x ∧ x ≤ 256
 cl : ∀ i s, i < n → ss[i]? = some s → hs.getD i 0 ≠ -1 → (i : Int) ∈ l ∨ ∀ x ∈ s.nx, 0 ≤ x ∧ x < n ∧ hs.getD x.toNat 0 ≠ -1
theorem getD_set_ne {l : List Int} {i j : Nat} (x : Int) (h : i ≠ j) : (l.set i x).getD j 0 = l.getD j 0 := by simp [List.getD, List.getElem?_set, h]
theorem getD_set_eq {l : List Int} {i : Nat} (x : Int) (h : i < l.length) : (l.set i x).getD i 0 = x := by simp [List.getD, h]
theorem swp_keep {l : List Int} {i j : Nat} (hi : i < l.length) (hj : j < l.length) {x : Int} (h : x ∈ l) : x ∈ swp l i j := by
 obtain ⟨k, hk, rfl⟩ := List.getElem_of_mem h
 unfold swp
 by_cases e1 : k = i
 ·subst e1
  refine List.mem_iff_getElem.2 ⟨j, by simpa using hj, ?_⟩
  simp [List.getD, List.getElem?_eq_getElem hk]
 ·by_cases e2 : k = j
  ·subst e2
   by_cases e3 : i = k
   ·exact absurd e3.symm e1
   ·refine List.mem_iff_getElem.2 ⟨i, by simpa using hi, ?_⟩
    rw [List.getElem_set_ne (Ne.symm e3) (by simpa using hi)]
    simp [List.getD, List.getElem?_eq_getElem hk]
  ·refine List.mem_iff_getElem.2 ⟨k, by simpa using hk, ?_⟩
   rw [List.getElem_set_ne (Ne.symm e2) (by simpa using hk), List.getElem_set_ne (Ne.symm e1) (by simpa using hk)]
theorem upL_keep : ∀ (f : Nat) (l : List Int) (j : Nat) (x : Int), j < l.length → x ∈ l → x ∈ upL f l j
 | 0, l, j, x, _, h => h
 | f + 1, l, j, x, hj, h => by
  rw [upL]
  split
  ·exact h
  ·exact upL_keep f _ _ x (by rw [swp_len]; omega) (swp_keep (by omega) hj h)
theorem downL_keep : ∀ (f : Nat) (l : List Int) (i n : Nat) (x : Int), i < n ∨ i = 0 → n < l.length → x ∈ l → x ∈ downL f l i n
 | 0, l, i, n, x, _, _, h => h
 | f + 1, l, i, n, x, hi, hn, h => by
  rw [downL]
  split
  ·exact h
  ·rename_i h1
   split
   ·exact h
   ·have h2 := lesser_lt (l := l) (show 2 * i + 1 < n by omega)
    exact downL_keep f _ _ n x (.inl h2) (by rw [swp_len]; exact hn) (swp_keep (by omega) (by omega) h)
theorem popL_keep (l : List Int) (h : 0 < l.length) (x : Int) (hx : x ∈ l) : x = (popL l).1 ∨ x ∈ (popL l).2 := by
 have h1 : x ∈ downL (l.length - 1 + 1) (swp l 0 (l.length - 1)) 0 (l.length - 1) := downL_keep _ _ _ _ x (.inr rfl) (by rw [swp_len]; omega) (swp_keep h (by omega) hx)
 have h2 : (downL (l.length - 1 + 1) (swp l 0 (l.length - 1)) 0 (l.length - 1)).length = l.length := by rw [downL_len, swp_len]
 obtain ⟨k, hk, e⟩ := List.getElem_of_mem h1
 by_cases hkl : k = l.length - 1
 ·left
  show x = List.getD _ _ _
  rw [← e]
  subst hkl
  simp [List.getD, List.getElem?_eq_getElem hk]
 ·right
  show x ∈ List.take _ _
  rw [← e]
  exact List.mem_iff_getElem.2 ⟨k, by rw [List.length_take]; omega, by simp⟩
theorem joinH_ok (ss : List ST) (n : Nat) (b : Int) (hb : 0 ≤ b ∧ b ≤ 256) : ∀ (ms hs l hs' l' : List Int), IH n hs l → (∀ x ∈ hs, -1 ≤ x ∧ x ≤ 256) → (∀ m ∈ ms, 0 ≤ m ∧ m < n) → joinH b ms hs l = some (hs', l') →
  IH n hs' l' ∧ (∀ x ∈ hs', -1 ≤ x ∧ x ≤ 256) ∧ hs'.count (-1) + l'.length = hs.count (-1) + l.length ∧ (∀ m ∈ ms, hs'.getD m.toNat 0 ≠ -1) ∧ (∀ i, i < n → hs.getD i 0 ≠ -1 → hs'.getD i 0 = hs.getD i 0) ∧ (∀ x ∈ l, x ∈ l') ∧ (∀ i, i < n → hs.getD i 0 = -1 → hs'.getD i 0 ≠ -1 → (i : Int) ∈ l')
 | [], hs, l, hs', l', hI, hr, hm, h => by
  simp only [joinH, Option.some.injEq, Prod.mk.injEq] at h
  obtain ⟨rfl, rfl⟩ := h
  exact ⟨hI, hr, rfl, fun m hm => by simp at hm, fun i _ _ => rfl, fun x hx => hx, fun i _ h1 h2 => absurd h1 h2⟩
 | m :: ms, hs, l, hs', l', hI, hr, hm, h => by
  obtain ⟨hm0, hm1⟩ := hm m (by simp)
  have hml : m.toNat < hs.length := by rw [hI.len]; omega
  rw [joinH] at h
  split at h
  ·rename_i h1
   obtain ⟨hI2, hM2⟩ := hI.push m b ⟨hm0, hm1⟩ hb h1
   have hr2 : ∀ x ∈ hs.set m.toNat b, -1 ≤ x ∧ x ≤ 256 := fun x hx => by
    rcases List.mem_or_eq_of_mem_set hx with hx | rfl
    ·exact hr x hx
    ·omega
   obtain ⟨a1, a2, a3, a4, a5, a6, a7⟩ := joinH_ok ss n b hb ms _ _ hs' l' hI2 hr2 (fun x hx => hm x (by simp [hx])) h
   have hset : (hs.set m.toNat b).getD m.toNat 0 = b := getD_set_eq b hml
   refine ⟨a1, a2, by omega, fun x hx => ?_, fun i hi h2 => ?_, fun x hx => a6 x (upL_keep _ _ _ x (by simp) (by simp [hx])), fun i hi h2 h3 => ?_⟩
   ·rcases List.mem_cons.1 hx with rfl | hx
    ·rw [a5 x.toNat (by omega) (by rw [hset]; omega), hset]
     omega
    ·exact a4 x hx
   ·have hne : m.toNat ≠ i := fun e => h2 (by rw [← e]; exact h1)
    rw [a5 i hi (by rw [getD_set_ne b hne]; exact h2), getD_set_ne b hne]
   ·by_cases hne : m.toNat = i
    ·have : (i : Int) = m := by omega
     rw [this]
     exact a6 m (upL_keep _ _ _ m (by simp) (by simp))
    ·exact a7 i hi (by rw [getD_set_ne b hne]; exact h2) h3
  ·rename_i h1
   split at h
   ·rename_i h2
    obtain ⟨a1, a2, a3, a4, a5, a6, a7⟩ := joinH_ok ss n b hb ms _ _ hs' l' hI hr (fun x hx => hm x (by simp [hx])) h
    refine ⟨a1, a2, a3, fun x hx => ?_, a5, a6, a7⟩
    rcases List.mem_cons.1 hx with rfl | hx
    ·rw [a5 x.toNat (by omega) h1]
     exact h1
    ·exact a4 x hx
   ·cases h
theorem fault_zero {s : ST} {h n : Int} (hs : STB s) (hcp : s.op = 5 → s.tk = 0) (hnx : ∀ m ∈ s.nx, 0 ≤ m ∧ m ≤ n) (h0 : faultS s h n = 0) : 0 ≤ behindS s h ∧ behindS s h ≤ 256 ∧ ∀ m ∈ s.nx, 0 ≤ m ∧ m < n := by
 unfold faultS at h0
 split at h0
 ·cases h0
 ·split at h0
  ·cases h0
  ·rename_i hw
   split at h0
   ·cases h0
   ·rename_i hb
    split at h0
    ·cases h0
    ·rename_i hnm
     refine ⟨?_, by omega, fun m hm => ⟨(hnx m hm).1, ?_⟩⟩
     ·have h1 := hs.tk
      have h2 := hs.gv
      unfold wantsS at hw
      unfold behindS
      split at hw
      ·rename_i h5
       have h7 := hs.a h5
       rw [hcp h5]
       omega
      ·omega
     ·have := (hnx m hm).2
      have hne : m ≠ n := fun e => hnm (e ▸ hm)
      omega
theorem runH_ok (ss : List ST) (n : Nat) (hok : SsOk ss n) : ∀ (f : Nat) (hs l hs' : List Int), IH n hs l → IC ss n hs l → hs.count (-1) + l.length < f → runH ss n f hs l = .ok hs' → hs'.length = n ∧ IC ss n hs' [] ∧ (∀ i, i < n → hs.getD i 0 ≠ -1 → hs'.getD i 0 ≠ -1)
 | 0, hs, l, hs', hI, hC, hf, h => by omega
 | f + 1, hs, l, hs', hI, hC, hf, h => by
  rw [runH] at h
  split at h
  ·rename_i hl
   cases h
   have : l = [] := List.length_eq_zero_iff.1 hl
   subst this
   exact ⟨hI.len, hC, fun i _ h => h⟩
  ·rename_i hl
   have hl0 : 0 < l.length := by omega
   obtain ⟨hpm, hps, hpl⟩ := popL_spec l hl0
   obtain ⟨e1, e2, e3, e4⟩ := hI.el _ hpm
   obtain ⟨hI2, hc2, hc3⟩ := hI.pop hl0
   have hlt : (popL l).1.toNat < ss.length := by rw [hok.len]; omega
   split at h
   ·rename_i hnone
    rw [List.getElem?_eq_getElem hlt] at hnone
    cases hnone
   ·rename_i s hsome
    have hsm := List.mem_of_getElem? hsome
    split at h
    ·cases h
    ·rename_i hft
     have hft0 : faultS s (hs.getD (popL l).1.toNat 0) n = 0 := by
      by_cases e : faultS s (hs.getD (popL l).1.toNat 0) n = 0
      ·exact e
      ·exact absurd e hft
     obtain ⟨b1, b2, b3⟩ := fault_zero (hok.stb s hsm) (hok.cp s hsm) (fun m hm => (hok.nx s hsm).1 m hm) hft0
     split at h
     ·cases h
     ·rename_i r hj
      obtain ⟨a1, a2, a3, a4, a5, a6, a7⟩ := joinH_ok ss n _ ⟨b1, b2⟩ s.nx hs (popL l).2 r.1 r.2 hI2 hC.rg b3 hj
      have hC2 : IC ss n r.1 r.2 := by
       refine ⟨a2, fun i s' hi hs' hne => ?_⟩
       by_cases hold : hs.getD i 0 = -1
       ·exact .inl (a7 i hi hold hne)
       ·rcases hC.cl i s' hi hs' hold with hin | hcl
        ·rcases popL_keep l hl0 _ hin with he | hin
         ·right
          have : i = (popL l).1.toNat := by omega
          subst this
          rw [hsome] at hs'
          cases hs'
          exact fun x hx => ⟨(b3 x hx).1, (b3 x hx).2, a4 x hx⟩
         ·exact .inl (a6 _ hin)
        ·right
         intro x hx
         obtain ⟨c1, c2, c3⟩ := hcl x hx
         exact ⟨c1, c2, by rw [a5 x.toNat (by omega) c3]; exact c3⟩
      obtain ⟨d1, d2, d3⟩ := runH_ok ss n hok f r.1 r.2 hs' a1 hC2 (by omega) h
      exact ⟨d1, d2, fun i hi hne => d3 i hi (by rw [a5 i hi hne]; exact hne)⟩
theorem heights_ok (ss : List ST) (n : Nat) (hok : SsOk ss n) (hs : List Int) (h : heightsD ss n = .ok hs) : hs.length = n ∧ (∀ x ∈ hs, -1 ≤ x ∧ x ≤ 256) ∧ hs.getD 0 0 ≠ -1 ∧ ∀ i s, i < n → ss[i]? = some s → hs.getD i 0 ≠ -1 → ∀ x ∈ s.nx, 0 ≤ x ∧ x < n ∧ hs.getD x.toNat 0 ≠ -1 := by
 have hn := hok.pos.1
 have h00 : ((List.replicate n (-1 : Int)).set 0 0).getD 0 0 = 0 := getD_set_eq 0 (by simp; omega)
 have hI := IH.start n hn
 obtain ⟨d1, d2, d3⟩ := runH_ok ss n hok (n + 1) _ [0] hs hI ⟨fun x hx => by
  rcases List.mem_or_eq_of_mem_set hx with hx | rfl
  ·rw [List.eq_of_mem_replicate hx]; omega
  ·omega, fun i s hi hs hne => by
  left
  by_cases e : i = 0
  ·subst e; simp
  ·exfalso
   apply hne
   rw [getD_set_ne 0 (Ne.symm e)]
   simp [List.getD, List.getElem?_replicate, hi]⟩ (by have := hI.cnt; omega) h
 refine ⟨d1, d2.rg, d3 0 (by omega) (by rw [h00]; omega), fun i s hi hs' hne x hx => ?_⟩
 rcases d2.cl i s hi hs' hne with h | h
 ·simp at h
 ·exact h x hx
structure FnOk (p : PG) (f : FN) : Prop where
 a : 0 ≤ f.a ∧ f.a ≤ 16
 l : 0 ≤ f.l ∧ f.l ≤ 64
 r : 0 ≤ f.r ∧ f.r ≤ 1
 n : 1 ≤ f.code.length ∧ f.code.length ≤ 4096
 err : ∀ x ∈ f.code, errI x = 0
 str : ∀ x ∈ f.code, strayE p f x = 0
theorem firstF_z : ∀ (fs : List FN), firstF fs = 0 → ∀ f ∈ fs, errF f = 0
 | [], _, f, hf => by simp at hf
 | g :: fs, h, f, hf => by
  rw [firstF] at h
  split at h
  ·rename_i hg
   rcases List.mem_cons.1 hf with rfl | hf
   ·exact hg
   ·exact firstF_z fs h f hf
  ·rename_i hg
   exact absurd h hg
theorem firstBad_z : ∀ (xs : List IN), firstBad xs = 0 → ∀ x ∈ xs, errI x = 0
 | [], _, f, hf => by simp at hf
 | g :: fs, h, f, hf => by
  rw [firstBad] at h
  split at h
  ·rename_i hg
   rcases List.mem_cons.1 hf with rfl | hf
   ·exact hg
   ·exact firstBad_z fs h f hf
  ·rename_i hg
   exact absurd h hg
theorem codeS_none (p : PG) (f : FN) : ∀ (xs : List IN) (j : Nat), codeS p f xs j = none → ∀ x ∈ xs, strayE p f x = 0
 | [], _, _, x, hx => by simp at hx
 | y :: xs, j, h, x, hx => by
  rw [codeS] at h
  split at h
  ·rename_i hg
   rcases List.mem_cons.1 hx with rfl | hx
   ·exact hg
   ·exact codeS_none p f xs _ h x hx
  ·cases h
theorem codeS_some (p : PG) (f : FN) : ∀ (xs : List IN) (j : Nat) (r : Int × Nat), codeS p f xs j = some r → r.1 ≠ 0
 | [], _, _, h => by cases h
 | y :: xs, j, r, h => by
  rw [codeS] at h
  split at h
  ·exact codeS_some p f xs _ r h
  ·rename_i hg
   cases h
   exact hg
theorem fnsS_zero (p : PG) : ∀ (fs : List FN) (i : Nat), ((fnsS p fs i).getD (0, 0, 0)).1 = 0 → ∀ f ∈ fs, ∀ x ∈ f.code, strayE p f x = 0
 | [], _, _, f, hf => by simp at hf
 | g :: fs, i, h, f, hf => by
  rw [fnsS] at h
  split at h
  ·rename_i e j hc
   exact absurd h (codeS_some p g _ _ _ hc)
  ·rename_i hc
   rcases List.mem_cons.1 hf with rfl | hf
   ·exact codeS_none p f _ _ hc
   ·exact fnsS_zero p fs _ h f hf
theorem plain_ok (p : PG) (h : (plainD p).1 = 0) : (1 ≤ p.fns.length ∧ p.fns.length ≤ 64) ∧ ∀ f ∈ p.fns, FnOk p f := by
 unfold plainD at h
 split at h
 ·rename_i hc
  exact absurd h hc
 ·rename_i hc
  have hck : checkP p = 0 := Classical.not_not.1 hc
  split at h
  ·cases h
  ·unfold checkP at hck
   rcases bad_cases p with ⟨_, hb⟩ | ⟨hb, hb2⟩
   ·rw [if_pos hb] at hck
    cases hck
   ·rw [if_neg (by rw [hb2]; decide)] at hck
    refine ⟨by omega, fun f hf => ?_⟩
    have he := firstF_z _ hck f hf
    rcases badF_cases f with ⟨_, h2⟩ | ⟨h1, h2⟩
    ·rw [h2] at he
     cases he
    ·rw [h2] at he
     unfold encE at he
     rw [if_neg (by omega)] at he
     exact ⟨by omega, by omega, by omega, by omega, firstBad_z _ he, fnsS_zero p _ _ h f hf⟩
theorem ins_rng : ∀ k : Fin 46, k.val ≠ 17 → k.val ≠ 18 → k.val ≠ 19 → 0 ≤ (insL.getD k.val Sh.none).t ∧ (insL.getD k.val Sh.none).t ≤ 1000 ∧ 0 ≤ (insL.getD k.val Sh.none).g ∧ (insL.getD k.val Sh.none).g ≤ 1000 := by decide
theorem sys_rng : ∀ k : Fin 5, 0 ≤ (sysL.getD k.val Sh.none).t ∧ (sysL.getD k.val Sh.none).t ≤ 1000 ∧ 0 ≤ (sysL.getD k.val Sh.none).g ∧ (sysL.getD k.val Sh.none).g ≤ 1000 := by decide
theorem rowS_ins (n : Int) (h1 : n ≠ 17) (h2 : n ≠ 18) (h3 : n ≠ 19) : 0 ≤ (rowS insL n).t ∧ (rowS insL n).t ≤ 1000 ∧ 0 ≤ (rowS insL n).g ∧ (rowS insL n).g ≤ 1000 := by
 unfold rowS
 split
 ·rename_i h
  have hl : n < 46 := h.2
  exact ins_rng ⟨n.toNat, by omega⟩ (by simp; omega) (by simp; omega) (by simp; omega)
 ·decide
theorem rowS_sys (n : Int) : 0 ≤ (rowS sysL n).t ∧ (rowS sysL n).t ≤ 1000 ∧ 0 ≤ (rowS sysL n).g ∧ (rowS sysL n).g ≤ 1000 := by
 unfold rowS
 split
 ·rename_i h
  have hl : n < 5 := h.2
  exact sys_rng ⟨n.toNat, by omega⟩
 ·decide
theorem tkgv_rng (p : PG) (f : FN) (x : IN) (hf : FnOk p f) (hp : ∀ g ∈ p.fns, FnOk p g) : (0 ≤ (tkgv p f x).1 ∧ (tkgv p f x).1 ≤ 1000) ∧ 0 ≤ (tkgv p f x).2 ∧ (tkgv p f x).2 ≤ 1000 := by
 unfold tkgv
 split
 ·split
  ·split
   ·rename_i g hg
    have := hp g (List.mem_of_getElem? hg)
    have h1 := this.a
    have h2 := this.r
    simp only
    omega
   ·simp
  ·simp
 ·split
  ·have := hf.r
   simp only
   omega
  ·split
   ·have := rowS_sys x.a
    simp only
    omega
   ·have := rowS_ins x.op (by assumption) (by assumption) (by assumption)
    simp only
    omega
theorem way_rng (p : PG) (f : FN) (x : IN) (i : Nat) (hi : i < f.code.length) (h : strayE p f x = 0) : (∀ m ∈ wayL x i, 0 ≤ m ∧ m ≤ f.code.length) ∧ (wayL x i).length ≤ 2 := by
 have hj : x.op = 14 ∨ x.op = 15 ∨ x.op = 16 → 0 ≤ x.a ∧ x.a < f.code.length := fun hop => by
  unfold strayE at h
  rw [if_pos hop] at h
  split at h
  ·rename_i ha
   exact (amg_iff _ _).1 ha
  ·cases h
 unfold wayL
 split
 ·simp
 ·split
  ·rename_i h14
   have := hj (.inl h14)
   simp
   omega
  ·split
   ·rename_i h15
    have := hj (.inr h15)
    split
    ·simp
     omega
    ·split
     ·simp
      omega
     ·simp
      omega
   ·simp
    omega
theorem kof5 : kOf 5 = 6 := by decide
theorem stepsL_mem {p : PG} {f : FN} {s : ST} (h : s ∈ stepsL p f) : ∃ i x, i < f.code.length ∧ f.code[i]? = some x ∧ s = stepAt p f i x := by
 obtain ⟨i, hi, e⟩ := List.getElem_of_mem h
 have hl : i < f.code.length := by simpa [stepsL] using hi
 exact ⟨i, f.code[i], hl, List.getElem?_eq_getElem hl, by rw [← e]; simp [stepsL]⟩
theorem steps_ok (p : PG) (f : FN) (hf : FnOk p f) (hp : ∀ g ∈ p.fns, FnOk p g) : SsOk (stepsL p f) f.code.length := by
 refine ⟨by simp [stepsL], hf.n, fun s hs => ?_, fun s hs => ?_, fun s hs h5 => ?_⟩
 ·obtain ⟨i, x, hi, hx, rfl⟩ := stepsL_mem hs
  obtain ⟨h1, h2⟩ := tkgv_rng p f x hf hp
  refine ⟨h1, h2, fun h5 => ?_⟩
  have h5' : x.op = 5 := h5
  have he := hf.err x (List.mem_of_getElem? hx)
  unfold errI at he
  rw [h5', kof5] at he
  show 0 ≤ x.a ∧ x.a ≤ 1000000
  split at he
  ·split at he
   ·rename_i hm
    simp only [mayP, Bool.and_eq_true, decide_eq_true_eq] at hm
    have : endOf 6 ≤ 1000000 := by decide
    omega
   ·cases he
  ·cases he
 ·obtain ⟨i, x, hi, hx, rfl⟩ := stepsL_mem hs
  exact way_rng p f x i hi (hf.str x (List.mem_of_getElem? hx))
 ·obtain ⟨i, x, hi, hx, rfl⟩ := stepsL_mem hs
  have h5' : x.op = 5 := h5
  show (tkgv p f x).1 = 0
  unfold tkgv
  rw [h5', if_neg (by decide), if_neg (by decide), if_neg (by decide)]
  decide
theorem steps_call (p : PG) (f : FN) (hf : FnOk p f) : ∀ s ∈ stepsL p f, s.op = 17 → 0 ≤ s.a ∧ s.a < p.fns.length := fun s hs h17 => by
 obtain ⟨i, x, hi, hx, rfl⟩ := stepsL_mem hs
 have h17' : x.op = 17 := h17
 have h := hf.str x (List.mem_of_getElem? hx)
 unfold strayE at h
 rw [h17', if_neg (by decide), if_neg (by decide), if_pos rfl] at h
 split at h
 ·rename_i ha
  exact (amg_iff _ _).1 ha
 ·cases h
end Go.Proofs.YtcaadgcfceommaaGreat
