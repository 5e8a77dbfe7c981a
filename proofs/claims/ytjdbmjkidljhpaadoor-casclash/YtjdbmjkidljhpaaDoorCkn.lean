/-
  Ckn: Cknsame, Cknclash, Cknapart.
-/
import Derived.Test.YtjdbmjkidljhpaaDoorCone
import Derived.Maps.AppendAt
namespace Go.Proofs.YtjdbmjkidljhpaaDoor
open Go.RowKit
set_option linter.unusedVariables false
set_option linter.unusedSimpArgs false
set_option maxRecDepth 100000

set_option maxHeartbeats 8000000 in
theorem clash_n_same (x : Int) (k : Nat) (hk : 1 + x % 32 = (k : Int)) (h1 : 1 ≤ k) (h2 : k ≤ 32) (hx0 : -9223372036854775808 ≤ x) (hx1 : x ≤ 9223372036854775807) (av bv : Value) (al bs : List Int) (W : World) (hL : Laid W) (ha : BIn W av al) (hb : BIn W bv bs) (har : ∀ y ∈ al, 0 ≤ y ∧ y < 256) (hbr : ∀ y ∈ bs, 0 ≤ y ∧ y < 256) (hla : al.length ≤ 8192) (hlb : bs.length ≤ 8192) (hq : frontOf k bs = frontOf k al) (hy : al = bs) :
    Calls Tryd.prog 5 #[.int .i64 x, av, bv, .bool false] W fun e w' => e = .returned (.bool true) ∧ Kept (fun _ => False) W w' := by
  obtain ⟨ao, ac, hav, _, _⟩ := id ha
  subst hav
  obtain ⟨bo, bc, hbv, _, _⟩ := id hb
  subst hbv
  have hL0 := hL.size
  have HL := hid_of hL
  have HAX := hid_of ha
  have HBX := hid_of hb
  have HAG : Hid (al ≠ [] → ∀ g, (Value.slice ao al.length ac).ownBlock = some g → g ≠ W.heap.size) := fun h0 g hg => by have := ha.blt h0 g hg; omega
  have HBG : Hid (bs ≠ [] → ∀ g, (Value.slice bo bs.length bc).ownBlock = some g → g ≠ W.heap.size) := fun h0 g hg => by have := hb.blt h0 g hg; omega
  have hA8 : ¬ (8192 : Int) < (al.length : Int) := by omega
  have hB8 : ¬ (8192 : Int) < (bs.length : Int) := by omega
  have HFR := hid_of (fresh_any x 67108864 W hx0 hx1 (by decide) (by decide))
  rw [hk] at HFR
  have hdl := frontOf_len k al h2
  have hdr := front_range k al h2
  have hds := size28_of (frontOf k al) hdl
  have hone := oneCells .u8 (frontOf k al)
  have HOS : Hid (32 = ((frontOf k al).map (Value.int .u8)).toArray.size) := by show 32 = _; simp [hdl]
  have HEQD : Hid (∀ W' : World, (Op.equalIn 10000 28 (dv (frontOf k al)) (dv (frontOf k al))).run Tryd.prog W' = .ok true W') := fun W' => by
    have := run_eq_arr W' 9998 28 32 (frontOf k al) (frontOf k al) Tryd.underlying28 hdl hdl
    simpa [dv] using this
  have HHD : Hid (∀ W', Kept (fun _ => False) W W' → Calls Tryd.prog 17 #[] W' fun e w' => e = .returned (.bool true) ∧ Kept (fun _ => False) W' w') := fun W' hW => head_any W' (laid_kept hL hW (fun f => f))
  have HOFA : Hid (∀ W', Kept (fun _ => False) W W' → Calls Tryd.prog 8 #[.int .i64 (k : Int), .slice ao al.length ac] W' fun e w' => e = .returned (dv (frontOf k al)) ∧ Kept (fun _ => False) W' w') := fun W' hW => rof4_any k h1 h2 _ al W' (ha.kept2 hW (fun _ _ _ f => f)) har (by omega)
  have HOFB : Hid (∀ W', Kept (fun _ => False) W W' → Calls Tryd.prog 8 #[.int .i64 (k : Int), .slice bo bs.length bc] W' fun e w' => e = .returned (dv (frontOf k bs)) ∧ Kept (fun _ => False) W' w') := fun W' hW => rof4_any k h1 h2 _ bs W' (hb.kept2 hW (fun _ _ _ f => f)) hbr (by omega)
  obtain ⟨d, hdef⟩ : ∃ d, d = frontOf k al := ⟨_, rfl⟩
  clear ha hb hL
  have HDEF := hid_of hdef
  have HQ := hid_of hq
  have HY := hid_of hy
  clear hdef hq hk hy
  have HBD := hid_of HQ.out
  rw [HQ.out] at HOFB
  go_enter Tryd.func5, Tryd.ntmps5
  go_wp2_with fail
  refine HFR.out.mono ?_
  rintro e w1 ⟨rfl, rfl⟩
  have HS1 := hid_of (stor_new W (k : Int) 67108864)
  have HK1 : Hid (Kept (fun _ => False) W (W.alloc (.cells ((Sg.new (k : Int) 67108864).cells (.map none)) 63))) := (Kept.refl _ W).alloc _
  generalize W.alloc (.cells ((Sg.new (k : Int) 67108864).cells (.map none)) 63) = w1 at *
  clear HFR
  have HP1 := hid_of (put_ok0 HS1.out (laid_kept HL.out HK1.out (fun f => f)) (by omega) k rfl h1 h2 _ al (HAX.out.kept2 HK1.out (fun _ _ _ f => f)) har (by omega) HAG.out (show (0 : Int) ≤ 0 by decide) (show (0 : Int) ≤ 1099511627776 by decide) rfl (show (0 : Int) ≤ 0 by decide) (show (0 : Int) ≤ 1099511627776 by decide) (show (0 : Int) ≤ 0 by decide) (show (0 : Int) ≤ 1099511627776 by decide) (by rw [used_empty _ _ _ rfl]; show (0 : Int) + ((al.length : Int) + 32) ≤ 67108864; omega))
  go_wp2_with fail
  refine HP1.out.mono ?_
  rintro e w2 ⟨rfl, mv1, σ1, hlo, hS2, hk2, hmv⟩
  have hm1 : ∀ r, mv1 = .map (some r) → W.heap.size ≤ r := fun r hr => by
    rcases hmv with h | ⟨r', h, hle⟩
    · rw [h] at hr; cases hr
    · rw [h] at hr; cases hr; exact Nat.le_trans HK1.out.size hle
  have HO1 := hid_of (one_first hlo hm1)
  have HK2 := hid_of (kept_own HK1.out hk2 (Nat.le_refl _) (fun r hr => by cases hr))
  have HS2 := hid_of hS2
  clear hlo hS2 hk2 hmv HP1 HS1 HK1
  unfold dv at HEQD HOFA HOFB
  have HDV : Hid (dv (frontOf k al) = .agg ((frontOf k al).map (Value.int .u8)).toArray) := rfl
  rw [HDV.out]
  generalize ((frontOf k al).map (Value.int .u8)).toArray = ds at *
  have HD3 : Hid ((w2.alloc (.cells ds 28)).heap[w2.heap.size]? = some (.cells ds 28 (0, 0))) := alloc_new _ _ rfl
  have HS3 : Hid (Stor (w2.alloc (.cells ds 28)) W.heap.size mv1 σ1) := HS2.out.kept ((Kept.refl (fun _ => False) w2).alloc _) (fun _ _ f => f)
  have HK3 : Hid (Kept (fun _ => False) W (w2.alloc (.cells ds 28))) := HK2.out.alloc _
  have hbd := HS2.out.lt
  go_wp2_with (refine wpList_store_row rfl 28 _ _ rfl w2.heap.size ds rfl rfl 28 _ (alloc_new _ _ rfl) hds HOS.out hone ?_; rw [setRow_new _ _ _ _ rfl])
  try simp only [Act.put]
  generalize hgbd : w2.heap.size = bd at *
  generalize w2.alloc (.cells ds 28) = w3 at *
  clear HS2 HK2 hgbd
  have HWD1 : Hid (∀ W', Stor W' W.heap.size mv1 σ1 → Calls Tryd.prog 9 #[.pointer (some ⟨W.heap.size, 0, none⟩)] W' fun e w' => e = .returned (.int .i64 (k : Int)) ∧ w' = W') := fun W' hW => by
    have := width_any hW
    rwa [HO1.out.wd] at this
  refine wp_region_held_drew (S := fun w' => w'.heap[bd]? = some (.cells ds 28 (0, 0))) (by kernel_rfl) HD3.out (fun hHeld => ?_)
  refine wpAnyH_take (i := 0) (v := ?_) rfl (by kernel_rfl) (by kernel_rfl) (by kernel_rfl) (fun _ _ _ h => h) (Or.inl ⟨by rfl, ?_⟩) (by assumption) ?_
  rotate_left 1
  · intro w hSw
    go_simp
    try with_reducible rfl
  try simp only [Act.put, List.getElem_toArray, List.getElem_cons_zero, List.getElem_cons_succ, List.setIfInBounds_toArray, List.set_cons_zero, List.set_cons_succ]
  refine wpAnyH_take (i := 1) (v := ?_) rfl (by kernel_rfl) (by kernel_rfl) (by kernel_rfl) (fun _ _ _ h => h) (Or.inl ⟨by rfl, ?_⟩) (by assumption) ?_
  rotate_left 1
  · intro w hSw
    go_simp
    try with_reducible rfl
  try simp only [Act.put, List.getElem_toArray, List.getElem_cons_zero, List.getElem_cons_succ, List.setIfInBounds_toArray, List.set_cons_zero, List.set_cons_succ]
  refine wpAnyH_take (i := 2) (v := ?_) rfl (by kernel_rfl) (by kernel_rfl) (by kernel_rfl) (fun _ _ _ h => h) (Or.inl ⟨by rfl, ?_⟩) (by assumption) ?_
  rotate_left 1
  · intro w hSw
    go_simp
    try with_reducible rfl
  try simp only [Act.put, List.getElem_toArray, List.getElem_cons_zero, List.getElem_cons_succ, List.setIfInBounds_toArray, List.set_cons_zero, List.set_cons_succ]
  refine wpAnyH_take (i := 3) (v := .agg ds) rfl (by kernel_rfl) (by kernel_rfl) (by kernel_rfl) (fun _ _ _ h => h) (yields_row (by rfl) 28 _ rfl bd rfl 28 ds (0, 0) _ (fun w hSw => hSw) Tryd.underlying28 rfl hds) (by assumption) ?_
  try simp only [Act.put, List.getElem_toArray, List.getElem_cons_zero, List.getElem_cons_succ, List.setIfInBounds_toArray, List.set_cons_zero, List.set_cons_succ]
  refine wpAnyH_take (i := 4) (v := ?_) rfl (by kernel_rfl) (by kernel_rfl) (by kernel_rfl) (fun _ _ _ h => h) (Or.inl ⟨by rfl, ?_⟩) (by assumption) ?_
  rotate_left 1
  · intro w hSw
    go_simp
    try with_reducible rfl
  try simp only [Act.put, List.getElem_toArray, List.getElem_cons_zero, List.getElem_cons_succ, List.setIfInBounds_toArray, List.set_cons_zero, List.set_cons_succ]
  refine wpAnyH_take (i := 6) (v := ?_) rfl (by kernel_rfl) (by kernel_rfl) (by kernel_rfl) (fun _ _ _ h => h) (Or.inl ⟨by rfl, ?_⟩) (by assumption) ?_
  rotate_left 1
  · intro w hSw
    go_simp
    try with_reducible rfl
  try simp only [Act.put, List.getElem_toArray, List.getElem_cons_zero, List.getElem_cons_succ, List.setIfInBounds_toArray, List.set_cons_zero, List.set_cons_succ]
  refine wpAnyH_ready (rs := [5]) (by kernel_rfl) (by simp) ?_
  refine AllReadyH.cons rfl (fun K hK => ?_) AllReadyH.nil
  go_simp
  refine (HWD1.out w3.drew (HS3.out.kept (Kept.refl (fun _ => False) w3).drew (fun _ _ f => f))).mono ?_
  rintro e w' ⟨rfl, rfl⟩
  refine hK.out _ _ HD3.out (fun hHeld => ?_)
  clear hK K
  try simp only [Act.put, List.getElem_toArray, List.getElem_cons_zero, List.getElem_cons_succ, List.setIfInBounds_toArray, List.set_cons_zero, List.set_cons_succ]
  refine wpAnyH_ready (rs := [7]) (by kernel_rfl) (by simp) ?_
  refine AllReadyH.cons rfl (fun K hK => ?_) AllReadyH.nil
  go_simp
  refine (HOFA.out w3.drew (HK3.out.drew)).mono ?_
  rintro e w4 ⟨rfl, hk4⟩
  have hk4' : Kept (fun _ => False) w3 w4 := (Kept.refl _ w3).drew.trans hk4
  have HS4 := hid_of (HS3.out.kept (hk4') (fun _ _ f => f))
  have HK4 := hid_of (HK3.out.trans (hk4'))
  have HD4 := hid_of (((hk4').block _ (heap_lt HD3.out) (fun f => f)).trans HD3.out)
  clear hk4 hk4'
  refine hK.out _ _ HD4.out (fun hHeld => ?_)
  clear hK K
  try simp only [Act.put, List.getElem_toArray, List.getElem_cons_zero, List.getElem_cons_succ, List.setIfInBounds_toArray, List.set_cons_zero, List.set_cons_succ]
  refine wpAnyH_take (i := 8) (v := ?_) rfl (by kernel_rfl) (by kernel_rfl) (by kernel_rfl) (fun _ _ _ h => h) (Or.inl ⟨by rfl, ?_⟩) (by assumption) ?_
  rotate_left 1
  · intro w hSw
    have hq := HEQD.out w
    go_simp
    try with_reducible rfl
  try simp only [Act.put, List.getElem_toArray, List.getElem_cons_zero, List.getElem_cons_succ, List.setIfInBounds_toArray, List.set_cons_zero, List.set_cons_succ]
  refine wpAnyH_take (i := 9) (v := ?_) rfl (by kernel_rfl) (by kernel_rfl) (by kernel_rfl) (fun _ _ _ h => h) (Or.inl ⟨by rfl, ?_⟩) (by assumption) ?_
  rotate_left 1
  · intro w hSw
    go_simp
    try with_reducible rfl
  try simp only [Act.put, List.getElem_toArray, List.getElem_cons_zero, List.getElem_cons_succ, List.setIfInBounds_toArray, List.set_cons_zero, List.set_cons_succ]
  refine wpAnyH_done (by kernel_rfl) ?_ _
  clear HS3 HK3 HD3 HOFA
  have HWT : Hid (∀ W', Kept (fun _ => False) W W' → Stor W' W.heap.size mv1 σ1 → Calls Tryd.prog 22 #[.pointer (some ⟨W.heap.size, 0, none⟩), .agg ds] W' fun e w' => e = .returned (.bool true) ∧ Kept (fun _ => False) W' w') := fun W' hW hSW => by
    have := whole_any hSW (laid_kept HL.out hW (fun f => f)) k HO1.out.wd h1 h2 (frontOf k al) hdl
    rw [HO1.out.whole, HDV.out] at this
    rw [HY.out, HBD.out, decide_eq_true rfl] at this
    exact this
  have HRT : Hid (∀ W', Stor W' W.heap.size mv1 σ1 → Calls Tryd.prog 19 #[.pointer (some ⟨W.heap.size, 0, none⟩), .agg ds] W' fun e w' => ∃ v, e = .returned (.tuple #[v, .bool true]) ∧ BIn w' v al ∧ (∀ g, v.ownBlock = some g → W'.heap.size ≤ g) ∧ Kept (fun _ => False) W' w') := fun W' hSW => by
    have := raw_any hSW (frontOf k al) hdl
    rw [HO1.out.raw.1, HO1.out.raw.2, HDV.out] at this
    exact this
  go_wp2_with (refine wpList_load_row rfl 28 _ rfl bd rfl 28 ds (0, 0) _ HD4.out Tryd.underlying28 rfl hds ?_)
  refine (HWT.out w4 HK4.out HS4.out).mono ?_
  rintro e wa ⟨rfl, hka⟩
  have HSa := hid_of (HS4.out.kept (hka) (fun _ _ f => f))
  have HKa := hid_of (HK4.out.trans (hka))
  have HDa := hid_of (((hka).block _ (heap_lt HD4.out) (fun f => f)).trans HD4.out)
  clear hka HS4 HK4 HD4 HWT
  go_wp2_with (refine wpList_load_row rfl 28 _ rfl bd rfl 28 ds (0, 0) _ HDa.out Tryd.underlying28 rfl hds ?_)
  refine (HRT.out wa HSa.out).mono ?_
  rintro e wb ⟨nv, rfl, hnv, hnf, hkb⟩
  have HSb := hid_of (HSa.out.kept (hkb) (fun _ _ f => f))
  have HKb := hid_of (HKa.out.trans (hkb))
  have HDb := hid_of (((hkb).block _ (heap_lt HDa.out) (fun f => f)).trans HDa.out)
  obtain ⟨no, nc, hnn, _, _⟩ := id hnv
  subst hnn
  have HNV := hid_of hnv
  have HNF : Hid (∀ g, (Value.slice no (al).length nc).ownBlock = some g → g ≠ W.heap.size) := fun g hg => by have h7 := hnf g hg; have h8 := HSa.out.lt; omega
  clear hnv hnf hkb HSa HKa HDa
  obtain ⟨e0, he0, hex0⟩ := HO1.out.look
  rw [← HBD.out] at he0
  have HPB := hid_of (put_same HSb.out (laid_kept HL.out HKb.out (fun f => f)) (by omega) k HO1.out.wd h1 h2 _ bs (HBX.out.kept2 HKb.out (fun _ _ _ f => f)) hbr (by omega) HBG.out (by rw [HO1.out.pt]; decide) (by rw [HO1.out.pt]; decide) e0 he0 (by rw [hex0]; exact HY.out))
  rw [HBD.out, HDV.out] at HPB
  clear he0 hex0
  go_wp2_with fail
  refine HPB.out.mono ?_
  rintro e wc ⟨rfl, hSc, hkc⟩
  have HSc := hid_of hSc
  have HKc := hid_of (kept_s HKb.out hkc (Nat.le_refl _))
  have HDc := hid_of ((hkc.block _ (heap_lt HDb.out) (by omega)).trans HDb.out)
  have HNc := hid_of (HNV.out.kept2 hkc (fun _ g hg => HNF.out g hg))
  clear hSc hkc HPB HSb HKb HDb HNV
  have HLI : Hid (Lies W.heap.size k d bs mv1 σ1.put1) := by
    obtain ⟨e1, he1, hex1⟩ := HO1.out.look
    refine ⟨HO1.out.wd, HO1.out.gt, ?_, ?_, HO1.out.mv⟩
    · rw [HDEF.out]
      show wholeB k σ1.es (frontOf k al) = true
      rw [HO1.out.whole, HY.out, HBD.out]
      exact decide_eq_true rfl
    · rw [HDEF.out]
      show rawX σ1.es (frontOf k al) = bs
      rw [HO1.out.raw.1, HY.out]
  have hkd : Kept (fun _ => False) wc (wc.alloc (.cells ds 28)) := (Kept.refl _ wc).alloc _
  have HSd := hid_of (HSc.out.kept hkd (fun _ _ f => f))
  have HKd := hid_of (HKc.out.trans hkd)
  have HDd := hid_of ((hkd.block _ (heap_lt HDc.out) (fun f => f)).trans HDc.out)
  have HNd := hid_of (HNc.out.kept2 hkd (fun _ _ _ f => f))
  have HXd : Hid ((wc.alloc (.cells ds 28)).heap[wc.heap.size]? = some (.cells ds 28 (0, 0))) := alloc_new _ _ rfl
  have hbx : bd < wc.heap.size := heap_lt HDc.out
  clear hkd HSc HKc HDc HNc
  go_wp2_with (refine wpList_store_row rfl 28 _ _ rfl wc.heap.size ds rfl rfl 28 _ (alloc_new _ _ rfl) hds HOS.out hone ?_; rw [setRow_new _ _ _ _ rfl])
  try simp only [Act.put]
  generalize hgbx : wc.heap.size = bx at *
  generalize (wc.alloc (.cells ds 28)) = wd at *
  clear hgbx
  have HWDT : Hid (∀ W', Stor W' W.heap.size mv1 σ1.put1 → Calls Tryd.prog 9 #[.pointer (some ⟨W.heap.size, 0, none⟩)] W' fun e w' => e = .returned (.int .i64 (k : Int)) ∧ w' = W') := fun W' hW => by
    have := width_any hW
    rwa [HLI.out.wd] at this
  refine wp_region_held_drew (S := fun w' => w'.heap[bd]? = some (.cells ds 28 (0, 0))) (by kernel_rfl) HDd.out (fun hHeld => ?_)
  refine wpAnyH_take (i := 0) (v := ?_) rfl (by kernel_rfl) (by kernel_rfl) (by kernel_rfl) (fun _ _ _ h => h) (Or.inl ⟨by rfl, ?_⟩) (by assumption) ?_
  rotate_left 1
  · intro w hSw
    go_simp
    try with_reducible rfl
  try simp only [Act.put, List.getElem_toArray, List.getElem_cons_zero, List.getElem_cons_succ, List.setIfInBounds_toArray, List.set_cons_zero, List.set_cons_succ]
  refine wpAnyH_take (i := 2) (v := ?_) rfl (by kernel_rfl) (by kernel_rfl) (by kernel_rfl) (fun _ _ _ h => h) (Or.inl ⟨by rfl, ?_⟩) (by assumption) ?_
  rotate_left 1
  · intro w hSw
    go_simp
    try with_reducible rfl
  try simp only [Act.put, List.getElem_toArray, List.getElem_cons_zero, List.getElem_cons_succ, List.setIfInBounds_toArray, List.set_cons_zero, List.set_cons_succ]
  refine wpAnyH_take (i := 4) (v := .agg ds) rfl (by kernel_rfl) (by kernel_rfl) (by kernel_rfl) (fun _ _ _ h => h) (yields_row (by rfl) 28 _ rfl bd rfl 28 ds (0, 0) _ (fun w hSw => hSw) Tryd.underlying28 rfl hds) (by assumption) ?_
  try simp only [Act.put, List.getElem_toArray, List.getElem_cons_zero, List.getElem_cons_succ, List.setIfInBounds_toArray, List.set_cons_zero, List.set_cons_succ]
  refine wpAnyH_ready (rs := [1]) (by kernel_rfl) (by simp) ?_
  refine AllReadyH.cons rfl (fun K hK => ?_) AllReadyH.nil
  go_simp
  refine (HWDT.out wd.drew (HSd.out.kept (Kept.refl (fun _ => False) wd).drew (fun _ _ f => f))).mono ?_
  rintro e w' ⟨rfl, rfl⟩
  refine hK.out _ _ HDd.out (fun hHeld => ?_)
  clear hK K
  try simp only [Act.put, List.getElem_toArray, List.getElem_cons_zero, List.getElem_cons_succ, List.setIfInBounds_toArray, List.set_cons_zero, List.set_cons_succ]
  refine wpAnyH_ready (rs := [3]) (by kernel_rfl) (by simp) ?_
  refine AllReadyH.cons rfl (fun K hK => ?_) AllReadyH.nil
  go_simp
  refine (HOFB.out wd.drew (HKd.out.drew)).mono ?_
  rintro e we ⟨rfl, hke⟩
  have hke' : Kept (fun _ => False) wd we := (Kept.refl _ wd).drew.trans hke
  have HSe := hid_of (HSd.out.kept (hke') (fun _ _ f => f))
  have HKe := hid_of (HKd.out.trans (hke'))
  have HDe := hid_of (((hke').block _ (heap_lt HDd.out) (fun f => f)).trans HDd.out)
  have HNe := hid_of (HNd.out.kept2 hke' (fun _ _ _ f => f))
  have HXe := hid_of ((hke'.block _ (heap_lt HXd.out) (fun f => f)).trans HXd.out)
  clear hke hke'
  refine hK.out _ _ HDe.out (fun hHeld => ?_)
  clear hK K
  try simp only [Act.put, List.getElem_toArray, List.getElem_cons_zero, List.getElem_cons_succ, List.setIfInBounds_toArray, List.set_cons_zero, List.set_cons_succ]
  refine wpAnyH_take (i := 5) (v := ?_) rfl (by kernel_rfl) (by kernel_rfl) (by kernel_rfl) (fun _ _ _ h => h) (Or.inl ⟨by rfl, ?_⟩) (by assumption) ?_
  rotate_left 1
  · intro w hSw
    have hq := HEQD.out w
    go_simp
    try with_reducible rfl
  try simp only [Act.put, List.getElem_toArray, List.getElem_cons_zero, List.getElem_cons_succ, List.setIfInBounds_toArray, List.set_cons_zero, List.set_cons_succ]
  refine wpAnyH_take (i := 6) (v := ?_) rfl (by kernel_rfl) (by kernel_rfl) (by kernel_rfl) (fun _ _ _ h => h) (Or.inl ⟨by rfl, ?_⟩) (by assumption) ?_
  rotate_left 1
  · intro w hSw
    go_simp
    try with_reducible rfl
  try simp only [Act.put, List.getElem_toArray, List.getElem_cons_zero, List.getElem_cons_succ, List.setIfInBounds_toArray, List.set_cons_zero, List.set_cons_succ]
  refine wpAnyH_take (i := 7) (v := ?_) rfl (by kernel_rfl) (by kernel_rfl) (by kernel_rfl) (fun _ _ _ h => h) (Or.inl ⟨by rfl, ?_⟩) (by assumption) ?_
  rotate_left 1
  · intro w hSw
    go_simp
    try with_reducible rfl
  try simp only [Act.put, List.getElem_toArray, List.getElem_cons_zero, List.getElem_cons_succ, List.setIfInBounds_toArray, List.set_cons_zero, List.set_cons_succ]
  refine wpAnyH_take (i := 8) (v := ?_) rfl (by kernel_rfl) (by kernel_rfl) (by kernel_rfl) (fun _ _ _ h => h) (Or.inl ⟨by rfl, ?_⟩) (by assumption) ?_
  rotate_left 1
  · intro w hSw
    go_simp
    try with_reducible rfl
  try simp only [Act.put, List.getElem_toArray, List.getElem_cons_zero, List.getElem_cons_succ, List.setIfInBounds_toArray, List.set_cons_zero, List.set_cons_succ]
  refine wpAnyH_take (i := 9) (v := ?_) rfl (by kernel_rfl) (by kernel_rfl) (by kernel_rfl) (fun _ _ _ h => h) (Or.inl ⟨by rfl, ?_⟩) (by assumption) ?_
  rotate_left 1
  · intro w hSw
    go_simp
    try with_reducible rfl
  try simp only [Act.put, List.getElem_toArray, List.getElem_cons_zero, List.getElem_cons_succ, List.setIfInBounds_toArray, List.set_cons_zero, List.set_cons_succ]
  refine wpAnyH_take (i := 10) (v := ?_) rfl (by kernel_rfl) (by kernel_rfl) (by kernel_rfl) (fun _ _ _ h => h) (Or.inl ⟨by rfl, ?_⟩) (by assumption) ?_
  rotate_left 1
  · intro w hSw
    go_simp
    try with_reducible rfl
  try simp only [Act.put, List.getElem_toArray, List.getElem_cons_zero, List.getElem_cons_succ, List.setIfInBounds_toArray, List.set_cons_zero, List.set_cons_succ]
  refine wpAnyH_take (i := 11) (v := ?_) rfl (by kernel_rfl) (by kernel_rfl) (by kernel_rfl) (fun _ _ _ h => h) (Or.inl ⟨by rfl, ?_⟩) (by assumption) ?_
  rotate_left 1
  · intro w hSw
    go_simp
    try with_reducible rfl
  try simp only [Act.put, List.getElem_toArray, List.getElem_cons_zero, List.getElem_cons_succ, List.setIfInBounds_toArray, List.set_cons_zero, List.set_cons_succ]
  have HSAM : Hid (∀ W', BIn W' (.slice no (al).length nc) al → BIn W' (.slice bo bs.length bc) bs → Calls Tryd.prog 23 #[.slice no (al).length nc, .slice bo bs.length bc] W' fun e w' => e = .returned (.bool true) ∧ Kept (fun _ => False) W' w') := fun W' h7 h8 => by
    have := same_any _ _ _ _ W' h7 h8 (by unfold maxLen; (try simp); omega)
    rwa [decide_eq_true HY.out] at this
  refine wpAnyH_ready (rs := [12]) (by kernel_rfl) (by simp) ?_
  refine AllReadyH.cons rfl (fun K hK => ?_) AllReadyH.nil
  go_simp
  refine (HSAM.out we HNe.out (HBX.out.kept2 HKe.out (fun _ _ _ f => f))).mono ?_
  rintro e wf ⟨rfl, hkf⟩
  have HSf := hid_of (HSe.out.kept (hkf) (fun _ _ f => f))
  have HKf := hid_of (HKe.out.trans (hkf))
  have HDf := hid_of (((hkf).block _ (heap_lt HDe.out) (fun f => f)).trans HDe.out)
  have HNf := hid_of (HNe.out.kept2 hkf (fun _ _ _ f => f))
  have HXf := hid_of ((hkf.block _ (heap_lt HXe.out) (fun f => f)).trans HXe.out)
  clear hkf
  refine hK.out _ _ HDf.out (fun hHeld => ?_)
  clear hK K
  try simp only [Act.put, List.getElem_toArray, List.getElem_cons_zero, List.getElem_cons_succ, List.setIfInBounds_toArray, List.set_cons_zero, List.set_cons_succ]
  refine wpAnyH_take (i := 13) (v := ?_) rfl (by kernel_rfl) (by kernel_rfl) (by kernel_rfl) (fun _ _ _ h => h) (Or.inl ⟨by rfl, ?_⟩) (by assumption) ?_
  rotate_left 1
  · intro w hSw
    go_simp
    try with_reducible rfl
  try simp only [Act.put, List.getElem_toArray, List.getElem_cons_zero, List.getElem_cons_succ, List.setIfInBounds_toArray, List.set_cons_zero, List.set_cons_succ]
  refine wpAnyH_take (i := 14) (v := ?_) rfl (by kernel_rfl) (by kernel_rfl) (by kernel_rfl) (fun _ _ _ h => h) (Or.inl ⟨by rfl, ?_⟩) (by assumption) ?_
  rotate_left 1
  · intro w hSw
    go_simp
    try with_reducible rfl
  try simp only [Act.put, List.getElem_toArray, List.getElem_cons_zero, List.getElem_cons_succ, List.setIfInBounds_toArray, List.set_cons_zero, List.set_cons_succ]
  refine wpAnyH_take (i := 15) (v := ?_) rfl (by kernel_rfl) (by kernel_rfl) (by kernel_rfl) (fun _ _ _ h => h) (Or.inl ⟨by rfl, ?_⟩) (by assumption) ?_
  rotate_left 1
  · intro w hSw
    go_simp
    try with_reducible rfl
  try simp only [Act.put, List.getElem_toArray, List.getElem_cons_zero, List.getElem_cons_succ, List.setIfInBounds_toArray, List.set_cons_zero, List.set_cons_succ]
  refine wpAnyH_done (by kernel_rfl) ?_ _
  have HGT := hid_of (get_ok HSf.out (laid_kept HL.out HKf.out (fun f => f)) (by omega) k HLI.out.wd h1 h2 (frontOf k al) hdl (by rw [HLI.out.gt]; decide) (by rw [HLI.out.gt]; decide) (by rw [← HDEF.out]; exact HLI.out.whole))
  rw [← HDEF.out, HLI.out.raw, HDEF.out, HDV.out] at HGT
  go_wp2_with (refine wpList_load_row rfl 28 _ rfl bx rfl 28 ds (0, 0) _ HXf.out Tryd.underlying28 rfl hds ?_)
  refine HGT.out.mono ?_
  rintro e wg ⟨gv, rfl, hgv, _, hSg, hkg⟩
  have HKg := hid_of (kept_s HKf.out hkg (Nat.le_refl _))
  obtain ⟨go, gc, hgg, _, _⟩ := id hgv
  subst hgg
  have HSM : Hid (Calls Tryd.prog 23 #[.slice go bs.length gc, .slice bo bs.length bc] wg fun e w' => e = .returned (.bool true) ∧ Kept (fun _ => False) wg w') := by
    have := same_any _ _ _ _ wg hgv (HBX.out.kept2 HKg.out (fun _ _ _ f => f)) (by unfold maxLen; omega)
    rwa [decide_eq_true rfl] at this
  clear hgv hSg hkg HGT
  go_wp2_with fail
  refine HSM.out.mono ?_
  rintro e wh' ⟨rfl, hkh⟩
  have HKh := hid_of (HKg.out.trans hkh)
  clear hkh HSM
  go_wp2_with fail
  refine (HHD.out wh' HKh.out).mono ?_
  rintro e wi ⟨rfl, hki⟩
  have HKi := hid_of (HKh.out.trans hki)
  clear hki
  go_wp2
  go_ret
  exact ⟨rfl, HKi.out⟩
end Go.Proofs.YtjdbmjkidljhpaaDoor

namespace Go.Proofs.YtjdbmjkidljhpaaDoor
open Go.RowKit
set_option linter.unusedVariables false
set_option linter.unusedSimpArgs false
set_option maxRecDepth 100000

set_option maxHeartbeats 8000000 in
theorem clash_n_clash (x : Int) (k : Nat) (hk : 1 + x % 32 = (k : Int)) (h1 : 1 ≤ k) (h2 : k ≤ 32) (hx0 : -9223372036854775808 ≤ x) (hx1 : x ≤ 9223372036854775807) (av bv : Value) (al bs : List Int) (W : World) (hL : Laid W) (ha : BIn W av al) (hb : BIn W bv bs) (har : ∀ y ∈ al, 0 ≤ y ∧ y < 256) (hbr : ∀ y ∈ bs, 0 ≤ y ∧ y < 256) (hla : al.length ≤ 8192) (hlb : bs.length ≤ 8192) (hq : frontOf k bs = frontOf k al) (hy : al ≠ bs) (hw : frontOf k al = frontOf k al) :
    Calls Tryd.prog 5 #[.int .i64 x, av, bv, .bool false] W fun e w' => e = .returned (.bool true) ∧ Kept (fun _ => False) W w' := by
  obtain ⟨ao, ac, hav, _, _⟩ := id ha
  subst hav
  obtain ⟨bo, bc, hbv, _, _⟩ := id hb
  subst hbv
  have hL0 := hL.size
  have HL := hid_of hL
  have HAX := hid_of ha
  have HBX := hid_of hb
  have HAG : Hid (al ≠ [] → ∀ g, (Value.slice ao al.length ac).ownBlock = some g → g ≠ W.heap.size) := fun h0 g hg => by have := ha.blt h0 g hg; omega
  have HBG : Hid (bs ≠ [] → ∀ g, (Value.slice bo bs.length bc).ownBlock = some g → g ≠ W.heap.size) := fun h0 g hg => by have := hb.blt h0 g hg; omega
  have hA8 : ¬ (8192 : Int) < (al.length : Int) := by omega
  have hB8 : ¬ (8192 : Int) < (bs.length : Int) := by omega
  have HFR := hid_of (fresh_any x 67108864 W hx0 hx1 (by decide) (by decide))
  rw [hk] at HFR
  have hdl := frontOf_len k al h2
  have hdr := front_range k al h2
  have hds := size28_of (frontOf k al) hdl
  have hone := oneCells .u8 (frontOf k al)
  have HOS : Hid (32 = ((frontOf k al).map (Value.int .u8)).toArray.size) := by show 32 = _; simp [hdl]
  have HEQD : Hid (∀ W' : World, (Op.equalIn 10000 28 (dv (frontOf k al)) (dv (frontOf k al))).run Tryd.prog W' = .ok true W') := fun W' => by
    have := run_eq_arr W' 9998 28 32 (frontOf k al) (frontOf k al) Tryd.underlying28 hdl hdl
    simpa [dv] using this
  have HHD : Hid (∀ W', Kept (fun _ => False) W W' → Calls Tryd.prog 17 #[] W' fun e w' => e = .returned (.bool true) ∧ Kept (fun _ => False) W' w') := fun W' hW => head_any W' (laid_kept hL hW (fun f => f))
  have HOFA : Hid (∀ W', Kept (fun _ => False) W W' → Calls Tryd.prog 8 #[.int .i64 (k : Int), .slice ao al.length ac] W' fun e w' => e = .returned (dv (frontOf k al)) ∧ Kept (fun _ => False) W' w') := fun W' hW => rof4_any k h1 h2 _ al W' (ha.kept2 hW (fun _ _ _ f => f)) har (by omega)
  have HOFB : Hid (∀ W', Kept (fun _ => False) W W' → Calls Tryd.prog 8 #[.int .i64 (k : Int), .slice bo bs.length bc] W' fun e w' => e = .returned (dv (frontOf k bs)) ∧ Kept (fun _ => False) W' w') := fun W' hW => rof4_any k h1 h2 _ bs W' (hb.kept2 hW (fun _ _ _ f => f)) hbr (by omega)
  obtain ⟨d, hdef⟩ : ∃ d, d = frontOf k al := ⟨_, rfl⟩
  clear ha hb hL
  have HDEF := hid_of hdef
  have HQ := hid_of hq
  have HY := hid_of hy
  have HWX := hid_of hw
  clear hdef hq hk hy hw
  have HBD := hid_of HQ.out
  rw [HQ.out] at HOFB
  go_enter Tryd.func5, Tryd.ntmps5
  go_wp2_with fail
  refine HFR.out.mono ?_
  rintro e w1 ⟨rfl, rfl⟩
  have HS1 := hid_of (stor_new W (k : Int) 67108864)
  have HK1 : Hid (Kept (fun _ => False) W (W.alloc (.cells ((Sg.new (k : Int) 67108864).cells (.map none)) 63))) := (Kept.refl _ W).alloc _
  generalize W.alloc (.cells ((Sg.new (k : Int) 67108864).cells (.map none)) 63) = w1 at *
  clear HFR
  have HP1 := hid_of (put_ok0 HS1.out (laid_kept HL.out HK1.out (fun f => f)) (by omega) k rfl h1 h2 _ al (HAX.out.kept2 HK1.out (fun _ _ _ f => f)) har (by omega) HAG.out (show (0 : Int) ≤ 0 by decide) (show (0 : Int) ≤ 1099511627776 by decide) rfl (show (0 : Int) ≤ 0 by decide) (show (0 : Int) ≤ 1099511627776 by decide) (show (0 : Int) ≤ 0 by decide) (show (0 : Int) ≤ 1099511627776 by decide) (by rw [used_empty _ _ _ rfl]; show (0 : Int) + ((al.length : Int) + 32) ≤ 67108864; omega))
  go_wp2_with fail
  refine HP1.out.mono ?_
  rintro e w2 ⟨rfl, mv1, σ1, hlo, hS2, hk2, hmv⟩
  have hm1 : ∀ r, mv1 = .map (some r) → W.heap.size ≤ r := fun r hr => by
    rcases hmv with h | ⟨r', h, hle⟩
    · rw [h] at hr; cases hr
    · rw [h] at hr; cases hr; exact Nat.le_trans HK1.out.size hle
  have HO1 := hid_of (one_first hlo hm1)
  have HK2 := hid_of (kept_own HK1.out hk2 (Nat.le_refl _) (fun r hr => by cases hr))
  have HS2 := hid_of hS2
  clear hlo hS2 hk2 hmv HP1 HS1 HK1
  unfold dv at HEQD HOFA HOFB
  have HDV : Hid (dv (frontOf k al) = .agg ((frontOf k al).map (Value.int .u8)).toArray) := rfl
  rw [HDV.out]
  generalize ((frontOf k al).map (Value.int .u8)).toArray = ds at *
  have HD3 : Hid ((w2.alloc (.cells ds 28)).heap[w2.heap.size]? = some (.cells ds 28 (0, 0))) := alloc_new _ _ rfl
  have HS3 : Hid (Stor (w2.alloc (.cells ds 28)) W.heap.size mv1 σ1) := HS2.out.kept ((Kept.refl (fun _ => False) w2).alloc _) (fun _ _ f => f)
  have HK3 : Hid (Kept (fun _ => False) W (w2.alloc (.cells ds 28))) := HK2.out.alloc _
  have hbd := HS2.out.lt
  go_wp2_with (refine wpList_store_row rfl 28 _ _ rfl w2.heap.size ds rfl rfl 28 _ (alloc_new _ _ rfl) hds HOS.out hone ?_; rw [setRow_new _ _ _ _ rfl])
  try simp only [Act.put]
  generalize hgbd : w2.heap.size = bd at *
  generalize w2.alloc (.cells ds 28) = w3 at *
  clear HS2 HK2 hgbd
  have HWD1 : Hid (∀ W', Stor W' W.heap.size mv1 σ1 → Calls Tryd.prog 9 #[.pointer (some ⟨W.heap.size, 0, none⟩)] W' fun e w' => e = .returned (.int .i64 (k : Int)) ∧ w' = W') := fun W' hW => by
    have := width_any hW
    rwa [HO1.out.wd] at this
  refine wp_region_held_drew (S := fun w' => w'.heap[bd]? = some (.cells ds 28 (0, 0))) (by kernel_rfl) HD3.out (fun hHeld => ?_)
  refine wpAnyH_take (i := 0) (v := ?_) rfl (by kernel_rfl) (by kernel_rfl) (by kernel_rfl) (fun _ _ _ h => h) (Or.inl ⟨by rfl, ?_⟩) (by assumption) ?_
  rotate_left 1
  · intro w hSw
    go_simp
    try with_reducible rfl
  try simp only [Act.put, List.getElem_toArray, List.getElem_cons_zero, List.getElem_cons_succ, List.setIfInBounds_toArray, List.set_cons_zero, List.set_cons_succ]
  refine wpAnyH_take (i := 1) (v := ?_) rfl (by kernel_rfl) (by kernel_rfl) (by kernel_rfl) (fun _ _ _ h => h) (Or.inl ⟨by rfl, ?_⟩) (by assumption) ?_
  rotate_left 1
  · intro w hSw
    go_simp
    try with_reducible rfl
  try simp only [Act.put, List.getElem_toArray, List.getElem_cons_zero, List.getElem_cons_succ, List.setIfInBounds_toArray, List.set_cons_zero, List.set_cons_succ]
  refine wpAnyH_take (i := 2) (v := ?_) rfl (by kernel_rfl) (by kernel_rfl) (by kernel_rfl) (fun _ _ _ h => h) (Or.inl ⟨by rfl, ?_⟩) (by assumption) ?_
  rotate_left 1
  · intro w hSw
    go_simp
    try with_reducible rfl
  try simp only [Act.put, List.getElem_toArray, List.getElem_cons_zero, List.getElem_cons_succ, List.setIfInBounds_toArray, List.set_cons_zero, List.set_cons_succ]
  refine wpAnyH_take (i := 3) (v := .agg ds) rfl (by kernel_rfl) (by kernel_rfl) (by kernel_rfl) (fun _ _ _ h => h) (yields_row (by rfl) 28 _ rfl bd rfl 28 ds (0, 0) _ (fun w hSw => hSw) Tryd.underlying28 rfl hds) (by assumption) ?_
  try simp only [Act.put, List.getElem_toArray, List.getElem_cons_zero, List.getElem_cons_succ, List.setIfInBounds_toArray, List.set_cons_zero, List.set_cons_succ]
  refine wpAnyH_take (i := 4) (v := ?_) rfl (by kernel_rfl) (by kernel_rfl) (by kernel_rfl) (fun _ _ _ h => h) (Or.inl ⟨by rfl, ?_⟩) (by assumption) ?_
  rotate_left 1
  · intro w hSw
    go_simp
    try with_reducible rfl
  try simp only [Act.put, List.getElem_toArray, List.getElem_cons_zero, List.getElem_cons_succ, List.setIfInBounds_toArray, List.set_cons_zero, List.set_cons_succ]
  refine wpAnyH_take (i := 6) (v := ?_) rfl (by kernel_rfl) (by kernel_rfl) (by kernel_rfl) (fun _ _ _ h => h) (Or.inl ⟨by rfl, ?_⟩) (by assumption) ?_
  rotate_left 1
  · intro w hSw
    go_simp
    try with_reducible rfl
  try simp only [Act.put, List.getElem_toArray, List.getElem_cons_zero, List.getElem_cons_succ, List.setIfInBounds_toArray, List.set_cons_zero, List.set_cons_succ]
  refine wpAnyH_ready (rs := [5]) (by kernel_rfl) (by simp) ?_
  refine AllReadyH.cons rfl (fun K hK => ?_) AllReadyH.nil
  go_simp
  refine (HWD1.out w3.drew (HS3.out.kept (Kept.refl (fun _ => False) w3).drew (fun _ _ f => f))).mono ?_
  rintro e w' ⟨rfl, rfl⟩
  refine hK.out _ _ HD3.out (fun hHeld => ?_)
  clear hK K
  try simp only [Act.put, List.getElem_toArray, List.getElem_cons_zero, List.getElem_cons_succ, List.setIfInBounds_toArray, List.set_cons_zero, List.set_cons_succ]
  refine wpAnyH_ready (rs := [7]) (by kernel_rfl) (by simp) ?_
  refine AllReadyH.cons rfl (fun K hK => ?_) AllReadyH.nil
  go_simp
  refine (HOFA.out w3.drew (HK3.out.drew)).mono ?_
  rintro e w4 ⟨rfl, hk4⟩
  have hk4' : Kept (fun _ => False) w3 w4 := (Kept.refl _ w3).drew.trans hk4
  have HS4 := hid_of (HS3.out.kept (hk4') (fun _ _ f => f))
  have HK4 := hid_of (HK3.out.trans (hk4'))
  have HD4 := hid_of (((hk4').block _ (heap_lt HD3.out) (fun f => f)).trans HD3.out)
  clear hk4 hk4'
  refine hK.out _ _ HD4.out (fun hHeld => ?_)
  clear hK K
  try simp only [Act.put, List.getElem_toArray, List.getElem_cons_zero, List.getElem_cons_succ, List.setIfInBounds_toArray, List.set_cons_zero, List.set_cons_succ]
  refine wpAnyH_take (i := 8) (v := ?_) rfl (by kernel_rfl) (by kernel_rfl) (by kernel_rfl) (fun _ _ _ h => h) (Or.inl ⟨by rfl, ?_⟩) (by assumption) ?_
  rotate_left 1
  · intro w hSw
    have hq := HEQD.out w
    go_simp
    try with_reducible rfl
  try simp only [Act.put, List.getElem_toArray, List.getElem_cons_zero, List.getElem_cons_succ, List.setIfInBounds_toArray, List.set_cons_zero, List.set_cons_succ]
  refine wpAnyH_take (i := 9) (v := ?_) rfl (by kernel_rfl) (by kernel_rfl) (by kernel_rfl) (fun _ _ _ h => h) (Or.inl ⟨by rfl, ?_⟩) (by assumption) ?_
  rotate_left 1
  · intro w hSw
    go_simp
    try with_reducible rfl
  try simp only [Act.put, List.getElem_toArray, List.getElem_cons_zero, List.getElem_cons_succ, List.setIfInBounds_toArray, List.set_cons_zero, List.set_cons_succ]
  refine wpAnyH_done (by kernel_rfl) ?_ _
  clear HS3 HK3 HD3 HOFA
  have HWT : Hid (∀ W', Kept (fun _ => False) W W' → Stor W' W.heap.size mv1 σ1 → Calls Tryd.prog 22 #[.pointer (some ⟨W.heap.size, 0, none⟩), .agg ds] W' fun e w' => e = .returned (.bool true) ∧ Kept (fun _ => False) W' w') := fun W' hW hSW => by
    have := whole_any hSW (laid_kept HL.out hW (fun f => f)) k HO1.out.wd h1 h2 (frontOf k al) hdl
    rw [HO1.out.whole, HDV.out] at this
    rw [decide_eq_true rfl] at this
    exact this
  have HRT : Hid (∀ W', Stor W' W.heap.size mv1 σ1 → Calls Tryd.prog 19 #[.pointer (some ⟨W.heap.size, 0, none⟩), .agg ds] W' fun e w' => ∃ v, e = .returned (.tuple #[v, .bool true]) ∧ BIn w' v al ∧ (∀ g, v.ownBlock = some g → W'.heap.size ≤ g) ∧ Kept (fun _ => False) W' w') := fun W' hSW => by
    have := raw_any hSW (frontOf k al) hdl
    rw [HO1.out.raw.1, HO1.out.raw.2, HDV.out] at this
    exact this
  go_wp2_with (refine wpList_load_row rfl 28 _ rfl bd rfl 28 ds (0, 0) _ HD4.out Tryd.underlying28 rfl hds ?_)
  refine (HWT.out w4 HK4.out HS4.out).mono ?_
  rintro e wa ⟨rfl, hka⟩
  have HSa := hid_of (HS4.out.kept (hka) (fun _ _ f => f))
  have HKa := hid_of (HK4.out.trans (hka))
  have HDa := hid_of (((hka).block _ (heap_lt HD4.out) (fun f => f)).trans HD4.out)
  clear hka HS4 HK4 HD4 HWT
  go_wp2_with (refine wpList_load_row rfl 28 _ rfl bd rfl 28 ds (0, 0) _ HDa.out Tryd.underlying28 rfl hds ?_)
  refine (HRT.out wa HSa.out).mono ?_
  rintro e wb ⟨nv, rfl, hnv, hnf, hkb⟩
  have HSb := hid_of (HSa.out.kept (hkb) (fun _ _ f => f))
  have HKb := hid_of (HKa.out.trans (hkb))
  have HDb := hid_of (((hkb).block _ (heap_lt HDa.out) (fun f => f)).trans HDa.out)
  obtain ⟨no, nc, hnn, _, _⟩ := id hnv
  subst hnn
  have HNV := hid_of hnv
  have HNF : Hid (∀ g, (Value.slice no (al).length nc).ownBlock = some g → g ≠ W.heap.size) := fun g hg => by have h7 := hnf g hg; have h8 := HSa.out.lt; omega
  clear hnv hnf hkb HSa HKa HDa
  obtain ⟨e0, he0, hex0⟩ := HO1.out.look
  rw [← HBD.out] at he0
  have HPB := hid_of (put_clash HSb.out (laid_kept HL.out HKb.out (fun f => f)) (by omega) k HO1.out.wd h1 h2 _ bs (HBX.out.kept2 HKb.out (fun _ _ _ f => f)) hbr (by omega) HBG.out (by rw [HO1.out.pt]; decide) (by rw [HO1.out.pt]; decide) e0 he0 (by rw [hex0]; exact HY.out) (by rw [HBD.out, HO1.out.whole]; exact decide_eq_true rfl))
  have HZV : Hid (dv zeros32 = .agg #[.int .u8 0, .int .u8 0, .int .u8 0, .int .u8 0, .int .u8 0, .int .u8 0, .int .u8 0, .int .u8 0, .int .u8 0, .int .u8 0, .int .u8 0, .int .u8 0, .int .u8 0, .int .u8 0, .int .u8 0, .int .u8 0, .int .u8 0, .int .u8 0, .int .u8 0, .int .u8 0, .int .u8 0, .int .u8 0, .int .u8 0, .int .u8 0, .int .u8 0, .int .u8 0, .int .u8 0, .int .u8 0, .int .u8 0, .int .u8 0, .int .u8 0, .int .u8 0]) := rfl
  rw [HZV.out] at HPB
  clear he0 hex0
  go_wp2_with fail
  refine HPB.out.mono ?_
  rintro e wc ⟨rfl, hSc, hkc⟩
  have HSc := hid_of hSc
  have HKc := hid_of (kept_s HKb.out hkc (Nat.le_refl _))
  have HDc := hid_of ((hkc.block _ (heap_lt HDb.out) (by omega)).trans HDb.out)
  have HNc := hid_of (HNV.out.kept2 hkc (fun _ g hg => HNF.out g hg))
  clear hSc hkc HPB HSb HKb HDb HNV
  have hz28 : (Tryd.prog.info? 28).map (·.size) = some (#[.int .u8 0, .int .u8 0, .int .u8 0, .int .u8 0, .int .u8 0, .int .u8 0, .int .u8 0, .int .u8 0, .int .u8 0, .int .u8 0, .int .u8 0, .int .u8 0, .int .u8 0, .int .u8 0, .int .u8 0, .int .u8 0, .int .u8 0, .int .u8 0, .int .u8 0, .int .u8 0, .int .u8 0, .int .u8 0, .int .u8 0, .int .u8 0, .int .u8 0, .int .u8 0, .int .u8 0, .int .u8 0, .int .u8 0, .int .u8 0, .int .u8 0, .int .u8 0] : Array Value).size := size28
  have hzone : (#[.int .u8 0, .int .u8 0, .int .u8 0, .int .u8 0, .int .u8 0, .int .u8 0, .int .u8 0, .int .u8 0, .int .u8 0, .int .u8 0, .int .u8 0, .int .u8 0, .int .u8 0, .int .u8 0, .int .u8 0, .int .u8 0, .int .u8 0, .int .u8 0, .int .u8 0, .int .u8 0, .int .u8 0, .int .u8 0, .int .u8 0, .int .u8 0, .int .u8 0, .int .u8 0, .int .u8 0, .int .u8 0, .int .u8 0, .int .u8 0, .int .u8 0, .int .u8 0] : Array Value).all (·.oneCell') = true := oneCells .u8 zeros32
  have hkd : Kept (fun _ => False) wc (wc.alloc (.cells #[.int .u8 0, .int .u8 0, .int .u8 0, .int .u8 0, .int .u8 0, .int .u8 0, .int .u8 0, .int .u8 0, .int .u8 0, .int .u8 0, .int .u8 0, .int .u8 0, .int .u8 0, .int .u8 0, .int .u8 0, .int .u8 0, .int .u8 0, .int .u8 0, .int .u8 0, .int .u8 0, .int .u8 0, .int .u8 0, .int .u8 0, .int .u8 0, .int .u8 0, .int .u8 0, .int .u8 0, .int .u8 0, .int .u8 0, .int .u8 0, .int .u8 0, .int .u8 0] 28)) := (Kept.refl _ wc).alloc _
  have HSd := hid_of (HSc.out.kept hkd (fun _ _ f => f))
  have HKd := hid_of (HKc.out.trans hkd)
  have HDd := hid_of ((hkd.block _ (heap_lt HDc.out) (fun f => f)).trans HDc.out)
  have HNd := hid_of (HNc.out.kept2 hkd (fun _ _ _ f => f))
  have HXd : Hid ((wc.alloc (.cells #[.int .u8 0, .int .u8 0, .int .u8 0, .int .u8 0, .int .u8 0, .int .u8 0, .int .u8 0, .int .u8 0, .int .u8 0, .int .u8 0, .int .u8 0, .int .u8 0, .int .u8 0, .int .u8 0, .int .u8 0, .int .u8 0, .int .u8 0, .int .u8 0, .int .u8 0, .int .u8 0, .int .u8 0, .int .u8 0, .int .u8 0, .int .u8 0, .int .u8 0, .int .u8 0, .int .u8 0, .int .u8 0, .int .u8 0, .int .u8 0, .int .u8 0, .int .u8 0] 28)).heap[wc.heap.size]? = some (.cells #[.int .u8 0, .int .u8 0, .int .u8 0, .int .u8 0, .int .u8 0, .int .u8 0, .int .u8 0, .int .u8 0, .int .u8 0, .int .u8 0, .int .u8 0, .int .u8 0, .int .u8 0, .int .u8 0, .int .u8 0, .int .u8 0, .int .u8 0, .int .u8 0, .int .u8 0, .int .u8 0, .int .u8 0, .int .u8 0, .int .u8 0, .int .u8 0, .int .u8 0, .int .u8 0, .int .u8 0, .int .u8 0, .int .u8 0, .int .u8 0, .int .u8 0, .int .u8 0] 28 (0, 0))) := alloc_new _ _ rfl
  have hbx : bd < wc.heap.size := heap_lt HDc.out
  clear hkd HSc HKc HDc HNc
  go_wp2_with (refine wpList_store_row rfl 28 _ _ rfl wc.heap.size #[.int .u8 0, .int .u8 0, .int .u8 0, .int .u8 0, .int .u8 0, .int .u8 0, .int .u8 0, .int .u8 0, .int .u8 0, .int .u8 0, .int .u8 0, .int .u8 0, .int .u8 0, .int .u8 0, .int .u8 0, .int .u8 0, .int .u8 0, .int .u8 0, .int .u8 0, .int .u8 0, .int .u8 0, .int .u8 0, .int .u8 0, .int .u8 0, .int .u8 0, .int .u8 0, .int .u8 0, .int .u8 0, .int .u8 0, .int .u8 0, .int .u8 0, .int .u8 0] rfl rfl 28 _ (alloc_new _ _ rfl) hz28 rfl hzone ?_; rw [setRow_new _ _ _ _ rfl])
  try simp only [Act.put]
  generalize hgbx : wc.heap.size = bx at *
  generalize (wc.alloc (.cells #[.int .u8 0, .int .u8 0, .int .u8 0, .int .u8 0, .int .u8 0, .int .u8 0, .int .u8 0, .int .u8 0, .int .u8 0, .int .u8 0, .int .u8 0, .int .u8 0, .int .u8 0, .int .u8 0, .int .u8 0, .int .u8 0, .int .u8 0, .int .u8 0, .int .u8 0, .int .u8 0, .int .u8 0, .int .u8 0, .int .u8 0, .int .u8 0, .int .u8 0, .int .u8 0, .int .u8 0, .int .u8 0, .int .u8 0, .int .u8 0, .int .u8 0, .int .u8 0] 28)) = wd at *
  clear hgbx
  have HWDT : Hid (∀ W', Stor W' W.heap.size mv1 σ1.put1 → Calls Tryd.prog 9 #[.pointer (some ⟨W.heap.size, 0, none⟩)] W' fun e w' => e = .returned (.int .i64 (k : Int)) ∧ w' = W') := fun W' hW => by
    have := width_any hW
    rwa [show σ1.put1.wd = (k : Int) from HO1.out.wd] at this
  refine wp_region_held_drew (S := fun w' => w'.heap[bd]? = some (.cells ds 28 (0, 0))) (by kernel_rfl) HDd.out (fun hHeld => ?_)
  refine wpAnyH_take (i := 0) (v := ?_) rfl (by kernel_rfl) (by kernel_rfl) (by kernel_rfl) (fun _ _ _ h => h) (Or.inl ⟨by rfl, ?_⟩) (by assumption) ?_
  rotate_left 1
  · intro w hSw
    go_simp
    try with_reducible rfl
  try simp only [Act.put, List.getElem_toArray, List.getElem_cons_zero, List.getElem_cons_succ, List.setIfInBounds_toArray, List.set_cons_zero, List.set_cons_succ]
  refine wpAnyH_take (i := 2) (v := ?_) rfl (by kernel_rfl) (by kernel_rfl) (by kernel_rfl) (fun _ _ _ h => h) (Or.inl ⟨by rfl, ?_⟩) (by assumption) ?_
  rotate_left 1
  · intro w hSw
    go_simp
    try with_reducible rfl
  try simp only [Act.put, List.getElem_toArray, List.getElem_cons_zero, List.getElem_cons_succ, List.setIfInBounds_toArray, List.set_cons_zero, List.set_cons_succ]
  refine wpAnyH_take (i := 4) (v := .agg ds) rfl (by kernel_rfl) (by kernel_rfl) (by kernel_rfl) (fun _ _ _ h => h) (yields_row (by rfl) 28 _ rfl bd rfl 28 ds (0, 0) _ (fun w hSw => hSw) Tryd.underlying28 rfl hds) (by assumption) ?_
  try simp only [Act.put, List.getElem_toArray, List.getElem_cons_zero, List.getElem_cons_succ, List.setIfInBounds_toArray, List.set_cons_zero, List.set_cons_succ]
  refine wpAnyH_ready (rs := [1]) (by kernel_rfl) (by simp) ?_
  refine AllReadyH.cons rfl (fun K hK => ?_) AllReadyH.nil
  go_simp
  refine (HWDT.out wd.drew (HSd.out.kept (Kept.refl (fun _ => False) wd).drew (fun _ _ f => f))).mono ?_
  rintro e w' ⟨rfl, rfl⟩
  refine hK.out _ _ HDd.out (fun hHeld => ?_)
  clear hK K
  try simp only [Act.put, List.getElem_toArray, List.getElem_cons_zero, List.getElem_cons_succ, List.setIfInBounds_toArray, List.set_cons_zero, List.set_cons_succ]
  refine wpAnyH_ready (rs := [3]) (by kernel_rfl) (by simp) ?_
  refine AllReadyH.cons rfl (fun K hK => ?_) AllReadyH.nil
  go_simp
  refine (HOFB.out wd.drew (HKd.out.drew)).mono ?_
  rintro e we ⟨rfl, hke⟩
  have hke' : Kept (fun _ => False) wd we := (Kept.refl _ wd).drew.trans hke
  have HSe := hid_of (HSd.out.kept (hke') (fun _ _ f => f))
  have HKe := hid_of (HKd.out.trans (hke'))
  have HDe := hid_of (((hke').block _ (heap_lt HDd.out) (fun f => f)).trans HDd.out)
  have HNe := hid_of (HNd.out.kept2 hke' (fun _ _ _ f => f))
  have HXe := hid_of ((hke'.block _ (heap_lt HXd.out) (fun f => f)).trans HXd.out)
  clear hke hke'
  refine hK.out _ _ HDe.out (fun hHeld => ?_)
  clear hK K
  try simp only [Act.put, List.getElem_toArray, List.getElem_cons_zero, List.getElem_cons_succ, List.setIfInBounds_toArray, List.set_cons_zero, List.set_cons_succ]
  refine wpAnyH_take (i := 5) (v := ?_) rfl (by kernel_rfl) (by kernel_rfl) (by kernel_rfl) (fun _ _ _ h => h) (Or.inl ⟨by rfl, ?_⟩) (by assumption) ?_
  rotate_left 1
  · intro w hSw
    have hq := HEQD.out w
    go_simp
    try with_reducible rfl
  try simp only [Act.put, List.getElem_toArray, List.getElem_cons_zero, List.getElem_cons_succ, List.setIfInBounds_toArray, List.set_cons_zero, List.set_cons_succ]
  refine wpAnyH_take (i := 6) (v := ?_) rfl (by kernel_rfl) (by kernel_rfl) (by kernel_rfl) (fun _ _ _ h => h) (Or.inl ⟨by rfl, ?_⟩) (by assumption) ?_
  rotate_left 1
  · intro w hSw
    go_simp
    try with_reducible rfl
  try simp only [Act.put, List.getElem_toArray, List.getElem_cons_zero, List.getElem_cons_succ, List.setIfInBounds_toArray, List.set_cons_zero, List.set_cons_succ]
  refine wpAnyH_take (i := 7) (v := ?_) rfl (by kernel_rfl) (by kernel_rfl) (by kernel_rfl) (fun _ _ _ h => h) (Or.inl ⟨by rfl, ?_⟩) (by assumption) ?_
  rotate_left 1
  · intro w hSw
    go_simp
    try with_reducible rfl
  try simp only [Act.put, List.getElem_toArray, List.getElem_cons_zero, List.getElem_cons_succ, List.setIfInBounds_toArray, List.set_cons_zero, List.set_cons_succ]
  refine wpAnyH_take (i := 8) (v := ?_) rfl (by kernel_rfl) (by kernel_rfl) (by kernel_rfl) (fun _ _ _ h => h) (Or.inl ⟨by rfl, ?_⟩) (by assumption) ?_
  rotate_left 1
  · intro w hSw
    go_simp
    try with_reducible rfl
  try simp only [Act.put, List.getElem_toArray, List.getElem_cons_zero, List.getElem_cons_succ, List.setIfInBounds_toArray, List.set_cons_zero, List.set_cons_succ]
  refine wpAnyH_take (i := 9) (v := ?_) rfl (by kernel_rfl) (by kernel_rfl) (by kernel_rfl) (fun _ _ _ h => h) (Or.inl ⟨by rfl, ?_⟩) (by assumption) ?_
  rotate_left 1
  · intro w hSw
    go_simp
    try with_reducible rfl
  try simp only [Act.put, List.getElem_toArray, List.getElem_cons_zero, List.getElem_cons_succ, List.setIfInBounds_toArray, List.set_cons_zero, List.set_cons_succ]
  refine wpAnyH_take (i := 10) (v := ?_) rfl (by kernel_rfl) (by kernel_rfl) (by kernel_rfl) (fun _ _ _ h => h) (Or.inl ⟨by rfl, ?_⟩) (by assumption) ?_
  rotate_left 1
  · intro w hSw
    go_simp
    try with_reducible rfl
  try simp only [Act.put, List.getElem_toArray, List.getElem_cons_zero, List.getElem_cons_succ, List.setIfInBounds_toArray, List.set_cons_zero, List.set_cons_succ]
  refine wpAnyH_take (i := 11) (v := ?_) rfl (by kernel_rfl) (by kernel_rfl) (by kernel_rfl) (fun _ _ _ h => h) (Or.inl ⟨by rfl, ?_⟩) (by assumption) ?_
  rotate_left 1
  · intro w hSw
    go_simp
    try with_reducible rfl
  try simp only [Act.put, List.getElem_toArray, List.getElem_cons_zero, List.getElem_cons_succ, List.setIfInBounds_toArray, List.set_cons_zero, List.set_cons_succ]
  have HSAM : Hid (∀ W', BIn W' (.slice no (al).length nc) al → BIn W' (.slice bo bs.length bc) bs → Calls Tryd.prog 23 #[.slice no (al).length nc, .slice bo bs.length bc] W' fun e w' => e = .returned (.bool false) ∧ Kept (fun _ => False) W' w') := fun W' h7 h8 => by
    have := same_any _ _ _ _ W' h7 h8 (by unfold maxLen; (try simp); omega)
    rwa [decide_eq_false HY.out] at this
  refine wpAnyH_ready (rs := [12]) (by kernel_rfl) (by simp) ?_
  refine AllReadyH.cons rfl (fun K hK => ?_) AllReadyH.nil
  go_simp
  refine (HSAM.out we HNe.out (HBX.out.kept2 HKe.out (fun _ _ _ f => f))).mono ?_
  rintro e wf ⟨rfl, hkf⟩
  have HSf := hid_of (HSe.out.kept (hkf) (fun _ _ f => f))
  have HKf := hid_of (HKe.out.trans (hkf))
  have HDf := hid_of (((hkf).block _ (heap_lt HDe.out) (fun f => f)).trans HDe.out)
  have HNf := hid_of (HNe.out.kept2 hkf (fun _ _ _ f => f))
  have HXf := hid_of ((hkf.block _ (heap_lt HXe.out) (fun f => f)).trans HXe.out)
  clear hkf
  refine hK.out _ _ HDf.out (fun hHeld => ?_)
  clear hK K
  try simp only [Act.put, List.getElem_toArray, List.getElem_cons_zero, List.getElem_cons_succ, List.setIfInBounds_toArray, List.set_cons_zero, List.set_cons_succ]
  refine wpAnyH_take (i := 13) (v := ?_) rfl (by kernel_rfl) (by kernel_rfl) (by kernel_rfl) (fun _ _ _ h => h) (Or.inl ⟨by rfl, ?_⟩) (by assumption) ?_
  rotate_left 1
  · intro w hSw
    go_simp
    try with_reducible rfl
  try simp only [Act.put, List.getElem_toArray, List.getElem_cons_zero, List.getElem_cons_succ, List.setIfInBounds_toArray, List.set_cons_zero, List.set_cons_succ]
  refine wpAnyH_take (i := 14) (v := ?_) rfl (by kernel_rfl) (by kernel_rfl) (by kernel_rfl) (fun _ _ _ h => h) (Or.inl ⟨by rfl, ?_⟩) (by assumption) ?_
  rotate_left 1
  · intro w hSw
    go_simp
    try with_reducible rfl
  try simp only [Act.put, List.getElem_toArray, List.getElem_cons_zero, List.getElem_cons_succ, List.setIfInBounds_toArray, List.set_cons_zero, List.set_cons_succ]
  refine wpAnyH_take (i := 15) (v := ?_) rfl (by kernel_rfl) (by kernel_rfl) (by kernel_rfl) (fun _ _ _ h => h) (Or.inl ⟨by rfl, ?_⟩) (by assumption) ?_
  rotate_left 1
  · intro w hSw
    go_simp
    try with_reducible rfl
  try simp only [Act.put, List.getElem_toArray, List.getElem_cons_zero, List.getElem_cons_succ, List.setIfInBounds_toArray, List.set_cons_zero, List.set_cons_succ]
  refine wpAnyH_done (by kernel_rfl) ?_ _
  have HRT2 : Hid (∀ W', Stor W' W.heap.size mv1 σ1.put1 → Calls Tryd.prog 19 #[.pointer (some ⟨W.heap.size, 0, none⟩), .agg ds] W' fun e w' => ∃ v, e = .returned (.tuple #[v, .bool true]) ∧ BIn w' v al ∧ (∀ g, v.ownBlock = some g → W'.heap.size ≤ g) ∧ Kept (fun _ => False) W' w') := fun W' hSW => by
    have := raw_any hSW (frontOf k al) hdl
    rw [show σ1.put1.es = σ1.es from rfl, HO1.out.raw.1, HO1.out.raw.2, HDV.out] at this
    exact this
  go_wp2_with (refine wpList_load_row rfl 28 _ rfl bd rfl 28 ds (0, 0) _ HDf.out Tryd.underlying28 rfl hds ?_)
  refine (HRT2.out wf HSf.out).mono ?_
  rintro e wg ⟨tv, rfl, htv, _, hkg⟩
  have HSg := hid_of (HSf.out.kept (hkg) (fun _ _ f => f))
  have HKg := hid_of (HKf.out.trans (hkg))
  have HDg := hid_of (((hkg).block _ (heap_lt HDf.out) (fun f => f)).trans HDf.out)
  have HNg := hid_of (HNf.out.kept2 hkg (fun _ _ _ f => f))
  have HXg := hid_of ((hkg.block _ (heap_lt HXf.out) (fun f => f)).trans HXf.out)
  obtain ⟨tn, tc, htt, _, _⟩ := id htv
  subst htt
  have HTV := hid_of htv
  clear hkg htv
  have HSM : Hid (Calls Tryd.prog 23 #[.slice tn (al).length tc, .slice no (al).length nc] wg fun e w' => e = .returned (.bool true) ∧ Kept (fun _ => False) wg w') := by
    have := same_any _ _ _ _ wg HTV.out HNg.out (by unfold maxLen; (try simp); omega)
    rwa [decide_eq_true rfl] at this
  have hzz := zz_eq
  go_wp2_with (refine wpList_load_wanted (by rfl) 28 _ rfl bx rfl 28 #[.int .u8 0, .int .u8 0, .int .u8 0, .int .u8 0, .int .u8 0, .int .u8 0, .int .u8 0, .int .u8 0, .int .u8 0, .int .u8 0, .int .u8 0, .int .u8 0, .int .u8 0, .int .u8 0, .int .u8 0, .int .u8 0, .int .u8 0, .int .u8 0, .int .u8 0, .int .u8 0, .int .u8 0, .int .u8 0, .int .u8 0, .int .u8 0, .int .u8 0, .int .u8 0, .int .u8 0, .int .u8 0, .int .u8 0, .int .u8 0, .int .u8 0, .int .u8 0] (0, 0) _ HXg.out Tryd.underlying28 rfl hz28 ?_)
  refine HSM.out.mono ?_
  rintro e wh' ⟨rfl, hkh⟩
  have HKh := hid_of (HKg.out.trans hkh)
  clear hkh HSM
  go_wp2_with fail
  refine (HHD.out wh' HKh.out).mono ?_
  rintro e wi ⟨rfl, hki⟩
  have HKi := hid_of (HKh.out.trans hki)
  clear hki
  go_wp2
  go_ret
  exact ⟨rfl, HKi.out⟩
end Go.Proofs.YtjdbmjkidljhpaaDoor

namespace Go.Proofs.YtjdbmjkidljhpaaDoor
open Go.RowKit
set_option linter.unusedVariables false
set_option linter.unusedSimpArgs false
set_option maxRecDepth 100000

set_option maxHeartbeats 8000000 in
theorem clash_n_apart (x : Int) (k : Nat) (hk : 1 + x % 32 = (k : Int)) (h1 : 1 ≤ k) (h2 : k ≤ 32) (hx0 : -9223372036854775808 ≤ x) (hx1 : x ≤ 9223372036854775807) (av bv : Value) (al bs : List Int) (W : World) (hL : Laid W) (ha : BIn W av al) (hb : BIn W bv bs) (har : ∀ y ∈ al, 0 ≤ y ∧ y < 256) (hbr : ∀ y ∈ bs, 0 ≤ y ∧ y < 256) (hla : al.length ≤ 8192) (hlb : bs.length ≤ 8192) (hq : frontOf k bs ≠ frontOf k al) :
    Calls Tryd.prog 5 #[.int .i64 x, av, bv, .bool false] W fun e w' => e = .returned (.bool true) ∧ Kept (fun _ => False) W w' := by
  obtain ⟨ao, ac, hav, _, _⟩ := id ha
  subst hav
  obtain ⟨bo, bc, hbv, _, _⟩ := id hb
  subst hbv
  have hL0 := hL.size
  have HL := hid_of hL
  have HAX := hid_of ha
  have HBX := hid_of hb
  have HAG : Hid (al ≠ [] → ∀ g, (Value.slice ao al.length ac).ownBlock = some g → g ≠ W.heap.size) := fun h0 g hg => by have := ha.blt h0 g hg; omega
  have HBG : Hid (bs ≠ [] → ∀ g, (Value.slice bo bs.length bc).ownBlock = some g → g ≠ W.heap.size) := fun h0 g hg => by have := hb.blt h0 g hg; omega
  have hA8 : ¬ (8192 : Int) < (al.length : Int) := by omega
  have hB8 : ¬ (8192 : Int) < (bs.length : Int) := by omega
  have HFR := hid_of (fresh_any x 67108864 W hx0 hx1 (by decide) (by decide))
  rw [hk] at HFR
  have hdl := frontOf_len k al h2
  have hdr := front_range k al h2
  have hds := size28_of (frontOf k al) hdl
  have hone := oneCells .u8 (frontOf k al)
  have HOS : Hid (32 = ((frontOf k al).map (Value.int .u8)).toArray.size) := by show 32 = _; simp [hdl]
  have HEQD : Hid (∀ W' : World, (Op.equalIn 10000 28 (dv (frontOf k al)) (dv (frontOf k al))).run Tryd.prog W' = .ok true W') := fun W' => by
    have := run_eq_arr W' 9998 28 32 (frontOf k al) (frontOf k al) Tryd.underlying28 hdl hdl
    simpa [dv] using this
  have HHD : Hid (∀ W', Kept (fun _ => False) W W' → Calls Tryd.prog 17 #[] W' fun e w' => e = .returned (.bool true) ∧ Kept (fun _ => False) W' w') := fun W' hW => head_any W' (laid_kept hL hW (fun f => f))
  have HOFA : Hid (∀ W', Kept (fun _ => False) W W' → Calls Tryd.prog 8 #[.int .i64 (k : Int), .slice ao al.length ac] W' fun e w' => e = .returned (dv (frontOf k al)) ∧ Kept (fun _ => False) W' w') := fun W' hW => rof4_any k h1 h2 _ al W' (ha.kept2 hW (fun _ _ _ f => f)) har (by omega)
  have HOFB : Hid (∀ W', Kept (fun _ => False) W W' → Calls Tryd.prog 8 #[.int .i64 (k : Int), .slice bo bs.length bc] W' fun e w' => e = .returned (dv (frontOf k bs)) ∧ Kept (fun _ => False) W' w') := fun W' hW => rof4_any k h1 h2 _ bs W' (hb.kept2 hW (fun _ _ _ f => f)) hbr (by omega)
  obtain ⟨d, hdef⟩ : ∃ d, d = frontOf k al := ⟨_, rfl⟩
  clear ha hb hL
  have HDEF := hid_of hdef
  have HQ := hid_of hq
  clear hdef hq hk
  have hdl' := frontOf_len k bs h2
  have hds' := size28_of (frontOf k bs) hdl'
  have hone' := oneCells .u8 (frontOf k bs)
  have HOS' : Hid (32 = ((frontOf k bs).map (Value.int .u8)).toArray.size) := by show 32 = _; simp [hdl']
  have HEQB : Hid (∀ W' : World, (Op.equalIn 10000 28 (dv (frontOf k bs)) (dv (frontOf k al))).run Tryd.prog W' = .ok false W') := fun W' => by
    have := run_eq_arr W' 9998 28 32 (frontOf k bs) (frontOf k al) Tryd.underlying28 hdl' hdl
    rw [decide_eq_false HQ.out] at this
    exact this
  go_enter Tryd.func5, Tryd.ntmps5
  go_wp2_with fail
  refine HFR.out.mono ?_
  rintro e w1 ⟨rfl, rfl⟩
  have HS1 := hid_of (stor_new W (k : Int) 67108864)
  have HK1 : Hid (Kept (fun _ => False) W (W.alloc (.cells ((Sg.new (k : Int) 67108864).cells (.map none)) 63))) := (Kept.refl _ W).alloc _
  generalize W.alloc (.cells ((Sg.new (k : Int) 67108864).cells (.map none)) 63) = w1 at *
  clear HFR
  have HP1 := hid_of (put_ok0 HS1.out (laid_kept HL.out HK1.out (fun f => f)) (by omega) k rfl h1 h2 _ al (HAX.out.kept2 HK1.out (fun _ _ _ f => f)) har (by omega) HAG.out (show (0 : Int) ≤ 0 by decide) (show (0 : Int) ≤ 1099511627776 by decide) rfl (show (0 : Int) ≤ 0 by decide) (show (0 : Int) ≤ 1099511627776 by decide) (show (0 : Int) ≤ 0 by decide) (show (0 : Int) ≤ 1099511627776 by decide) (by rw [used_empty _ _ _ rfl]; show (0 : Int) + ((al.length : Int) + 32) ≤ 67108864; omega))
  go_wp2_with fail
  refine HP1.out.mono ?_
  rintro e w2 ⟨rfl, mv1, σ1, hlo, hS2, hk2, hmv⟩
  have hm1 : ∀ r, mv1 = .map (some r) → W.heap.size ≤ r := fun r hr => by
    rcases hmv with h | ⟨r', h, hle⟩
    · rw [h] at hr; cases hr
    · rw [h] at hr; cases hr; exact Nat.le_trans HK1.out.size hle
  have HO1 := hid_of (one_first hlo hm1)
  have HK2 := hid_of (kept_own HK1.out hk2 (Nat.le_refl _) (fun r hr => by cases hr))
  have HS2 := hid_of hS2
  clear hlo hS2 hk2 hmv HP1 HS1 HK1
  unfold dv at HEQD HOFA HOFB HEQB
  have HDV : Hid (dv (frontOf k al) = .agg ((frontOf k al).map (Value.int .u8)).toArray) := rfl
  rw [HDV.out]
  have HDVB : Hid (dv (frontOf k bs) = .agg ((frontOf k bs).map (Value.int .u8)).toArray) := rfl
  generalize ((frontOf k bs).map (Value.int .u8)).toArray = dbs at *
  generalize ((frontOf k al).map (Value.int .u8)).toArray = ds at *
  have HD3 : Hid ((w2.alloc (.cells ds 28)).heap[w2.heap.size]? = some (.cells ds 28 (0, 0))) := alloc_new _ _ rfl
  have HS3 : Hid (Stor (w2.alloc (.cells ds 28)) W.heap.size mv1 σ1) := HS2.out.kept ((Kept.refl (fun _ => False) w2).alloc _) (fun _ _ f => f)
  have HK3 : Hid (Kept (fun _ => False) W (w2.alloc (.cells ds 28))) := HK2.out.alloc _
  have hbd := HS2.out.lt
  go_wp2_with (refine wpList_store_row rfl 28 _ _ rfl w2.heap.size ds rfl rfl 28 _ (alloc_new _ _ rfl) hds HOS.out hone ?_; rw [setRow_new _ _ _ _ rfl])
  try simp only [Act.put]
  generalize hgbd : w2.heap.size = bd at *
  generalize w2.alloc (.cells ds 28) = w3 at *
  clear HS2 HK2 hgbd
  have HWD1 : Hid (∀ W', Stor W' W.heap.size mv1 σ1 → Calls Tryd.prog 9 #[.pointer (some ⟨W.heap.size, 0, none⟩)] W' fun e w' => e = .returned (.int .i64 (k : Int)) ∧ w' = W') := fun W' hW => by
    have := width_any hW
    rwa [HO1.out.wd] at this
  refine wp_region_held_drew (S := fun w' => w'.heap[bd]? = some (.cells ds 28 (0, 0))) (by kernel_rfl) HD3.out (fun hHeld => ?_)
  refine wpAnyH_take (i := 0) (v := ?_) rfl (by kernel_rfl) (by kernel_rfl) (by kernel_rfl) (fun _ _ _ h => h) (Or.inl ⟨by rfl, ?_⟩) (by assumption) ?_
  rotate_left 1
  · intro w hSw
    go_simp
    try with_reducible rfl
  try simp only [Act.put, List.getElem_toArray, List.getElem_cons_zero, List.getElem_cons_succ, List.setIfInBounds_toArray, List.set_cons_zero, List.set_cons_succ]
  refine wpAnyH_take (i := 1) (v := ?_) rfl (by kernel_rfl) (by kernel_rfl) (by kernel_rfl) (fun _ _ _ h => h) (Or.inl ⟨by rfl, ?_⟩) (by assumption) ?_
  rotate_left 1
  · intro w hSw
    go_simp
    try with_reducible rfl
  try simp only [Act.put, List.getElem_toArray, List.getElem_cons_zero, List.getElem_cons_succ, List.setIfInBounds_toArray, List.set_cons_zero, List.set_cons_succ]
  refine wpAnyH_take (i := 2) (v := ?_) rfl (by kernel_rfl) (by kernel_rfl) (by kernel_rfl) (fun _ _ _ h => h) (Or.inl ⟨by rfl, ?_⟩) (by assumption) ?_
  rotate_left 1
  · intro w hSw
    go_simp
    try with_reducible rfl
  try simp only [Act.put, List.getElem_toArray, List.getElem_cons_zero, List.getElem_cons_succ, List.setIfInBounds_toArray, List.set_cons_zero, List.set_cons_succ]
  refine wpAnyH_take (i := 3) (v := .agg ds) rfl (by kernel_rfl) (by kernel_rfl) (by kernel_rfl) (fun _ _ _ h => h) (yields_row (by rfl) 28 _ rfl bd rfl 28 ds (0, 0) _ (fun w hSw => hSw) Tryd.underlying28 rfl hds) (by assumption) ?_
  try simp only [Act.put, List.getElem_toArray, List.getElem_cons_zero, List.getElem_cons_succ, List.setIfInBounds_toArray, List.set_cons_zero, List.set_cons_succ]
  refine wpAnyH_take (i := 4) (v := ?_) rfl (by kernel_rfl) (by kernel_rfl) (by kernel_rfl) (fun _ _ _ h => h) (Or.inl ⟨by rfl, ?_⟩) (by assumption) ?_
  rotate_left 1
  · intro w hSw
    go_simp
    try with_reducible rfl
  try simp only [Act.put, List.getElem_toArray, List.getElem_cons_zero, List.getElem_cons_succ, List.setIfInBounds_toArray, List.set_cons_zero, List.set_cons_succ]
  refine wpAnyH_take (i := 6) (v := ?_) rfl (by kernel_rfl) (by kernel_rfl) (by kernel_rfl) (fun _ _ _ h => h) (Or.inl ⟨by rfl, ?_⟩) (by assumption) ?_
  rotate_left 1
  · intro w hSw
    go_simp
    try with_reducible rfl
  try simp only [Act.put, List.getElem_toArray, List.getElem_cons_zero, List.getElem_cons_succ, List.setIfInBounds_toArray, List.set_cons_zero, List.set_cons_succ]
  refine wpAnyH_ready (rs := [5]) (by kernel_rfl) (by simp) ?_
  refine AllReadyH.cons rfl (fun K hK => ?_) AllReadyH.nil
  go_simp
  refine (HWD1.out w3.drew (HS3.out.kept (Kept.refl (fun _ => False) w3).drew (fun _ _ f => f))).mono ?_
  rintro e w' ⟨rfl, rfl⟩
  refine hK.out _ _ HD3.out (fun hHeld => ?_)
  clear hK K
  try simp only [Act.put, List.getElem_toArray, List.getElem_cons_zero, List.getElem_cons_succ, List.setIfInBounds_toArray, List.set_cons_zero, List.set_cons_succ]
  refine wpAnyH_ready (rs := [7]) (by kernel_rfl) (by simp) ?_
  refine AllReadyH.cons rfl (fun K hK => ?_) AllReadyH.nil
  go_simp
  refine (HOFA.out w3.drew (HK3.out.drew)).mono ?_
  rintro e w4 ⟨rfl, hk4⟩
  have hk4' : Kept (fun _ => False) w3 w4 := (Kept.refl _ w3).drew.trans hk4
  have HS4 := hid_of (HS3.out.kept (hk4') (fun _ _ f => f))
  have HK4 := hid_of (HK3.out.trans (hk4'))
  have HD4 := hid_of (((hk4').block _ (heap_lt HD3.out) (fun f => f)).trans HD3.out)
  clear hk4 hk4'
  refine hK.out _ _ HD4.out (fun hHeld => ?_)
  clear hK K
  try simp only [Act.put, List.getElem_toArray, List.getElem_cons_zero, List.getElem_cons_succ, List.setIfInBounds_toArray, List.set_cons_zero, List.set_cons_succ]
  refine wpAnyH_take (i := 8) (v := ?_) rfl (by kernel_rfl) (by kernel_rfl) (by kernel_rfl) (fun _ _ _ h => h) (Or.inl ⟨by rfl, ?_⟩) (by assumption) ?_
  rotate_left 1
  · intro w hSw
    have hq := HEQD.out w
    go_simp
    try with_reducible rfl
  try simp only [Act.put, List.getElem_toArray, List.getElem_cons_zero, List.getElem_cons_succ, List.setIfInBounds_toArray, List.set_cons_zero, List.set_cons_succ]
  refine wpAnyH_take (i := 9) (v := ?_) rfl (by kernel_rfl) (by kernel_rfl) (by kernel_rfl) (fun _ _ _ h => h) (Or.inl ⟨by rfl, ?_⟩) (by assumption) ?_
  rotate_left 1
  · intro w hSw
    go_simp
    try with_reducible rfl
  try simp only [Act.put, List.getElem_toArray, List.getElem_cons_zero, List.getElem_cons_succ, List.setIfInBounds_toArray, List.set_cons_zero, List.set_cons_succ]
  refine wpAnyH_done (by kernel_rfl) ?_ _
  clear HS3 HK3 HD3 HOFA
  have HWT : Hid (∀ W', Kept (fun _ => False) W W' → Stor W' W.heap.size mv1 σ1 → Calls Tryd.prog 22 #[.pointer (some ⟨W.heap.size, 0, none⟩), .agg ds] W' fun e w' => e = .returned (.bool (decide (frontOf k al = frontOf k al))) ∧ Kept (fun _ => False) W' w') := fun W' hW hSW => by
    have := whole_any hSW (laid_kept HL.out hW (fun f => f)) k HO1.out.wd h1 h2 (frontOf k al) hdl
    rw [HO1.out.whole, HDV.out] at this
    exact this
  generalize decide (frontOf k al = frontOf k al) = wh at *
  have HRT : Hid (∀ W', Stor W' W.heap.size mv1 σ1 → Calls Tryd.prog 19 #[.pointer (some ⟨W.heap.size, 0, none⟩), .agg ds] W' fun e w' => ∃ v, e = .returned (.tuple #[v, .bool true]) ∧ BIn w' v al ∧ (∀ g, v.ownBlock = some g → W'.heap.size ≤ g) ∧ Kept (fun _ => False) W' w') := fun W' hSW => by
    have := raw_any hSW (frontOf k al) hdl
    rw [HO1.out.raw.1, HO1.out.raw.2, HDV.out] at this
    exact this
  go_wp2_with (refine wpList_load_row rfl 28 _ rfl bd rfl 28 ds (0, 0) _ HD4.out Tryd.underlying28 rfl hds ?_)
  refine (HWT.out w4 HK4.out HS4.out).mono ?_
  rintro e wa ⟨rfl, hka⟩
  have HSa := hid_of (HS4.out.kept (hka) (fun _ _ f => f))
  have HKa := hid_of (HK4.out.trans (hka))
  have HDa := hid_of (((hka).block _ (heap_lt HD4.out) (fun f => f)).trans HD4.out)
  clear hka HS4 HK4 HD4 HWT
  go_wp2_with (refine wpList_load_row rfl 28 _ rfl bd rfl 28 ds (0, 0) _ HDa.out Tryd.underlying28 rfl hds ?_)
  refine (HRT.out wa HSa.out).mono ?_
  rintro e wb ⟨nv, rfl, hnv, hnf, hkb⟩
  have HSb := hid_of (HSa.out.kept (hkb) (fun _ _ f => f))
  have HKb := hid_of (HKa.out.trans (hkb))
  have HDb := hid_of (((hkb).block _ (heap_lt HDa.out) (fun f => f)).trans HDa.out)
  obtain ⟨no, nc, hnn, _, _⟩ := id hnv
  subst hnn
  have HNV := hid_of hnv
  have HNF : Hid (∀ g, (Value.slice no (al).length nc).ownBlock = some g → g ≠ W.heap.size) := fun g hg => by have h7 := hnf g hg; have h8 := HSa.out.lt; omega
  clear hnv hnf hkb HSa HKa HDa
  have HPB := hid_of (put_ok0 HSb.out (laid_kept HL.out HKb.out (fun f => f)) (by omega) k HO1.out.wd h1 h2 _ bs (HBX.out.kept2 HKb.out (fun _ _ _ f => f)) hbr (by omega) HBG.out (by rw [HO1.out.pt]; decide) (by rw [HO1.out.pt]; decide) (HO1.out.none HQ.out) (by rw [HO1.out.us]; (try simp); omega) (by rw [HO1.out.us]; (try simp); omega) HO1.out.sp.1 (by have := HO1.out.sp.2; omega) (by rw [HO1.out.used2 HQ.out, HO1.out.cp]; (try simp); omega))
  rw [HDVB.out] at HPB
  go_wp2_with fail
  refine HPB.out.mono ?_
  rintro e wc ⟨rfl, mvT, σT, hlo, hSc, hkc, hmv⟩
  have hmT : ∀ r, mvT = .map (some r) → W.heap.size ≤ r := fun r hr => by
    rcases hmv with h | ⟨r', h, hle⟩
    · rw [h] at hr; exact HO1.out.mv r hr
    · rw [h] at hr; cases hr; exact Nat.le_trans HKb.out.size hle
  have HLI : Hid (Lies W.heap.size k (frontOf k bs) bs mvT σT) := by
    exact lies_of hlo HO1.out.wd HO1.out.gt rfl hmT
  have HSc := hid_of hSc
  have HKc := hid_of (kept_own HKb.out hkc (Nat.le_refl _) HO1.out.mv)
  have HDc := hid_of ((hkc.block _ (heap_lt HDb.out) (cells_not_map (r := 0) HDb.out HSb.out (by omega))).trans HDb.out)
  have HNc := hid_of (HNV.out.own HSb.out hkc (fun _ => HNF.out))
  clear hlo hSc hkc hmv HPB HSb HKb HDb HNV
  have hkd : Kept (fun _ => False) wc (wc.alloc (.cells dbs 28)) := (Kept.refl _ wc).alloc _
  have HSd := hid_of (HSc.out.kept hkd (fun _ _ f => f))
  have HKd := hid_of (HKc.out.trans hkd)
  have HDd := hid_of ((hkd.block _ (heap_lt HDc.out) (fun f => f)).trans HDc.out)
  have HNd := hid_of (HNc.out.kept2 hkd (fun _ _ _ f => f))
  have HXd : Hid ((wc.alloc (.cells dbs 28)).heap[wc.heap.size]? = some (.cells dbs 28 (0, 0))) := alloc_new _ _ rfl
  have hbx : bd < wc.heap.size := heap_lt HDc.out
  clear hkd HSc HKc HDc HNc
  go_wp2_with (refine wpList_store_row rfl 28 _ _ rfl wc.heap.size dbs rfl rfl 28 _ (alloc_new _ _ rfl) hds' HOS'.out hone' ?_; rw [setRow_new _ _ _ _ rfl])
  try simp only [Act.put]
  generalize hgbx : wc.heap.size = bx at *
  generalize (wc.alloc (.cells dbs 28)) = wd at *
  clear hgbx
  have HWDT : Hid (∀ W', Stor W' W.heap.size mvT σT → Calls Tryd.prog 9 #[.pointer (some ⟨W.heap.size, 0, none⟩)] W' fun e w' => e = .returned (.int .i64 (k : Int)) ∧ w' = W') := fun W' hW => by
    have := width_any hW
    rwa [HLI.out.wd] at this
  refine wp_region_held_drew (S := fun w' => w'.heap[bd]? = some (.cells ds 28 (0, 0))) (by kernel_rfl) HDd.out (fun hHeld => ?_)
  refine wpAnyH_take (i := 0) (v := ?_) rfl (by kernel_rfl) (by kernel_rfl) (by kernel_rfl) (fun _ _ _ h => h) (Or.inl ⟨by rfl, ?_⟩) (by assumption) ?_
  rotate_left 1
  · intro w hSw
    go_simp
    try with_reducible rfl
  try simp only [Act.put, List.getElem_toArray, List.getElem_cons_zero, List.getElem_cons_succ, List.setIfInBounds_toArray, List.set_cons_zero, List.set_cons_succ]
  refine wpAnyH_take (i := 2) (v := ?_) rfl (by kernel_rfl) (by kernel_rfl) (by kernel_rfl) (fun _ _ _ h => h) (Or.inl ⟨by rfl, ?_⟩) (by assumption) ?_
  rotate_left 1
  · intro w hSw
    go_simp
    try with_reducible rfl
  try simp only [Act.put, List.getElem_toArray, List.getElem_cons_zero, List.getElem_cons_succ, List.setIfInBounds_toArray, List.set_cons_zero, List.set_cons_succ]
  refine wpAnyH_take (i := 4) (v := .agg ds) rfl (by kernel_rfl) (by kernel_rfl) (by kernel_rfl) (fun _ _ _ h => h) (yields_row (by rfl) 28 _ rfl bd rfl 28 ds (0, 0) _ (fun w hSw => hSw) Tryd.underlying28 rfl hds) (by assumption) ?_
  try simp only [Act.put, List.getElem_toArray, List.getElem_cons_zero, List.getElem_cons_succ, List.setIfInBounds_toArray, List.set_cons_zero, List.set_cons_succ]
  refine wpAnyH_ready (rs := [1]) (by kernel_rfl) (by simp) ?_
  refine AllReadyH.cons rfl (fun K hK => ?_) AllReadyH.nil
  go_simp
  refine (HWDT.out wd.drew (HSd.out.kept (Kept.refl (fun _ => False) wd).drew (fun _ _ f => f))).mono ?_
  rintro e w' ⟨rfl, rfl⟩
  refine hK.out _ _ HDd.out (fun hHeld => ?_)
  clear hK K
  try simp only [Act.put, List.getElem_toArray, List.getElem_cons_zero, List.getElem_cons_succ, List.setIfInBounds_toArray, List.set_cons_zero, List.set_cons_succ]
  refine wpAnyH_ready (rs := [3]) (by kernel_rfl) (by simp) ?_
  refine AllReadyH.cons rfl (fun K hK => ?_) AllReadyH.nil
  go_simp
  refine (HOFB.out wd.drew (HKd.out.drew)).mono ?_
  rintro e we ⟨rfl, hke⟩
  have hke' : Kept (fun _ => False) wd we := (Kept.refl _ wd).drew.trans hke
  have HSe := hid_of (HSd.out.kept (hke') (fun _ _ f => f))
  have HKe := hid_of (HKd.out.trans (hke'))
  have HDe := hid_of (((hke').block _ (heap_lt HDd.out) (fun f => f)).trans HDd.out)
  have HNe := hid_of (HNd.out.kept2 hke' (fun _ _ _ f => f))
  have HXe := hid_of ((hke'.block _ (heap_lt HXd.out) (fun f => f)).trans HXd.out)
  clear hke hke'
  refine hK.out _ _ HDe.out (fun hHeld => ?_)
  clear hK K
  try simp only [Act.put, List.getElem_toArray, List.getElem_cons_zero, List.getElem_cons_succ, List.setIfInBounds_toArray, List.set_cons_zero, List.set_cons_succ]
  refine wpAnyH_take (i := 5) (v := ?_) rfl (by kernel_rfl) (by kernel_rfl) (by kernel_rfl) (fun _ _ _ h => h) (Or.inl ⟨by rfl, ?_⟩) (by assumption) ?_
  rotate_left 1
  · intro w hSw
    have hq := HEQB.out w
    go_simp
    try with_reducible rfl
  try simp only [Act.put, List.getElem_toArray, List.getElem_cons_zero, List.getElem_cons_succ, List.setIfInBounds_toArray, List.set_cons_zero, List.set_cons_succ]
  refine wpAnyH_take (i := 6) (v := ?_) rfl (by kernel_rfl) (by kernel_rfl) (by kernel_rfl) (fun _ _ _ h => h) (Or.inl ⟨by rfl, ?_⟩) (by assumption) ?_
  rotate_left 1
  · intro w hSw
    go_simp
    try with_reducible rfl
  try simp only [Act.put, List.getElem_toArray, List.getElem_cons_zero, List.getElem_cons_succ, List.setIfInBounds_toArray, List.set_cons_zero, List.set_cons_succ]
  refine wpAnyH_take (i := 7) (v := undef) rfl (by kernel_rfl) (by kernel_rfl) (by kernel_rfl) (fun _ _ _ h => h) (Or.inr ⟨by rfl, rfl⟩) (by assumption) ?_
  try simp only [Act.put, List.getElem_toArray, List.getElem_cons_zero, List.getElem_cons_succ, List.setIfInBounds_toArray, List.set_cons_zero, List.set_cons_succ]
  refine wpAnyH_take (i := 8) (v := ?_) rfl (by kernel_rfl) (by kernel_rfl) (by kernel_rfl) (fun _ _ _ h => h) (Or.inl ⟨by rfl, ?_⟩) (by assumption) ?_
  rotate_left 1
  · intro w hSw
    go_simp
    try with_reducible rfl
  try simp only [Act.put, List.getElem_toArray, List.getElem_cons_zero, List.getElem_cons_succ, List.setIfInBounds_toArray, List.set_cons_zero, List.set_cons_succ]
  refine wpAnyH_take (i := 9) (v := ?_) rfl (by kernel_rfl) (by kernel_rfl) (by kernel_rfl) (fun _ _ _ h => h) (Or.inl ⟨by rfl, ?_⟩) (by assumption) ?_
  rotate_left 1
  · intro w hSw
    go_simp
    try with_reducible rfl
  try simp only [Act.put, List.getElem_toArray, List.getElem_cons_zero, List.getElem_cons_succ, List.setIfInBounds_toArray, List.set_cons_zero, List.set_cons_succ]
  refine wpAnyH_take (i := 10) (v := undef) rfl (by kernel_rfl) (by kernel_rfl) (by kernel_rfl) (fun _ _ _ h => h) (Or.inr ⟨by rfl, rfl⟩) (by assumption) ?_
  try simp only [Act.put, List.getElem_toArray, List.getElem_cons_zero, List.getElem_cons_succ, List.setIfInBounds_toArray, List.set_cons_zero, List.set_cons_succ]
  refine wpAnyH_take (i := 11) (v := undef) rfl (by kernel_rfl) (by kernel_rfl) (by kernel_rfl) (fun _ _ _ h => h) (Or.inr ⟨by rfl, rfl⟩) (by assumption) ?_
  try simp only [Act.put, List.getElem_toArray, List.getElem_cons_zero, List.getElem_cons_succ, List.setIfInBounds_toArray, List.set_cons_zero, List.set_cons_succ]
  refine wpAnyH_ready (rs := [12]) (by kernel_rfl) (by simp) ?_
  refine AllReadyH.cons rfl (fun K hK => ?_) AllReadyH.nil
  go_simp
  refine hK.out _ _ HDe.out (fun hHeld => ?_)
  clear hK K
  try simp only [Act.put, List.getElem_toArray, List.getElem_cons_zero, List.getElem_cons_succ, List.setIfInBounds_toArray, List.set_cons_zero, List.set_cons_succ]
  refine wpAnyH_take (i := 13) (v := undef) rfl (by kernel_rfl) (by kernel_rfl) (by kernel_rfl) (fun _ _ _ h => h) (Or.inr ⟨by rfl, rfl⟩) (by assumption) ?_
  try simp only [Act.put, List.getElem_toArray, List.getElem_cons_zero, List.getElem_cons_succ, List.setIfInBounds_toArray, List.set_cons_zero, List.set_cons_succ]
  refine wpAnyH_take (i := 14) (v := ?_) rfl (by kernel_rfl) (by kernel_rfl) (by kernel_rfl) (fun _ _ _ h => h) (Or.inl ⟨by rfl, ?_⟩) (by assumption) ?_
  rotate_left 1
  · intro w hSw
    go_simp
    try with_reducible rfl
  try simp only [Act.put, List.getElem_toArray, List.getElem_cons_zero, List.getElem_cons_succ, List.setIfInBounds_toArray, List.set_cons_zero, List.set_cons_succ]
  refine wpAnyH_take (i := 15) (v := ?_) rfl (by kernel_rfl) (by kernel_rfl) (by kernel_rfl) (fun _ _ _ h => h) (Or.inl ⟨by rfl, ?_⟩) (by assumption) ?_
  rotate_left 1
  · intro w hSw
    go_simp
    try with_reducible rfl
  try simp only [Act.put, List.getElem_toArray, List.getElem_cons_zero, List.getElem_cons_succ, List.setIfInBounds_toArray, List.set_cons_zero, List.set_cons_succ]
  refine wpAnyH_done (by kernel_rfl) ?_ _
  have HGT := hid_of (get_ok HSe.out (laid_kept HL.out HKe.out (fun f => f)) (by omega) k HLI.out.wd h1 h2 (frontOf k bs) hdl' (by rw [HLI.out.gt]; decide) (by rw [HLI.out.gt]; decide) (by exact HLI.out.whole))
  rw [HLI.out.raw, HDVB.out] at HGT
  go_wp2_with (refine wpList_load_row rfl 28 _ rfl bx rfl 28 dbs (0, 0) _ HXe.out Tryd.underlying28 rfl hds' ?_)
  refine HGT.out.mono ?_
  rintro e wg ⟨gv, rfl, hgv, _, hSg, hkg⟩
  have HKg := hid_of (kept_s HKe.out hkg (Nat.le_refl _))
  obtain ⟨go, gc, hgg, _, _⟩ := id hgv
  subst hgg
  have HSM : Hid (Calls Tryd.prog 23 #[.slice go bs.length gc, .slice bo bs.length bc] wg fun e w' => e = .returned (.bool true) ∧ Kept (fun _ => False) wg w') := by
    have := same_any _ _ _ _ wg hgv (HBX.out.kept2 HKg.out (fun _ _ _ f => f)) (by unfold maxLen; omega)
    rwa [decide_eq_true rfl] at this
  clear hgv hSg hkg HGT
  go_wp2_with fail
  refine HSM.out.mono ?_
  rintro e wh' ⟨rfl, hkh⟩
  have HKh := hid_of (HKg.out.trans hkh)
  clear hkh HSM
  go_wp2_with fail
  refine (HHD.out wh' HKh.out).mono ?_
  rintro e wi ⟨rfl, hki⟩
  have HKi := hid_of (HKh.out.trans hki)
  clear hki
  go_wp2
  go_ret
  exact ⟨rfl, HKi.out⟩
end Go.Proofs.YtjdbmjkidljhpaaDoor
