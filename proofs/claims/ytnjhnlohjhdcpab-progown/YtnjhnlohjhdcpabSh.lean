/-
  retortlaw12's small and known by contract.
-/
import Derived.Test.YtnjhnlohjhdcpabSb
import Derived.Test.YtnjhnlohjhdcpabScd
import Derived.Test.YtnjhnlohjhdcpabSg
namespace Go.Proofs.Ytnjhnlohjhdcpab
open Go.ChangeShapes Go.WideShapes Go.ChangeAt Go.RowKit Go.Deep
set_option linter.unusedVariables false
set_option linter.unusedSimpArgs false
set_option maxRecDepth 100000

theorem FnAt.up {w : World} {B B' g o : Nat} {f : FN} (h : FnAt w B g o f) (hb : B ≤ B') : FnAt w B' g o f := by
  obtain ⟨cv, h1, h2, h3⟩ := h
  exact ⟨cv, h1, h2, fun q hq h0 => Nat.lt_of_lt_of_le (h3 q hq h0) hb⟩
theorem RowF.up {w : World} {B B' : Nat} {v : Value} {fs : List FN} (h : RowF w B v fs) (hb : B ≤ B') : RowF w B' v fs := by
  rcases h with h | ⟨g, o, c, e, hg, h⟩
  · exact .inl h
  · exact .inr ⟨g, o, c, e, Nat.lt_of_lt_of_le hg hb, fun i f hf => (h i f hf).up hb⟩
theorem PgIs.up {w : World} {B B' : Nat} {v : Value} {p : PG} (h : PgIs w B v p) (hb : B ≤ B') : PgIs w B' v p := by
  obtain ⟨dv, fv, e, h1, h2, h3⟩ := h
  exact ⟨dv, fv, e, h1, fun q hq => Nat.lt_of_lt_of_le (h2 q hq) hb, h3.up hb⟩
/-- The program that is known, its bytes; no program at all. -/
def smallP : PG := ⟨4, [7], [⟨0, 0, 1, [⟨3, 3⟩, ⟨18, 0⟩]⟩]⟩
def kB : List Int := [2, 4, 1, 7, 1, 0, 0, 1, 3, 3, 6, 18]
def noneP : PG := ⟨0, [], []⟩
theorem small_enc : encPE smallP = 0 := by decide +kernel
theorem small_bytes : bytesP smallP = kB := by kernel_rfl
theorem small_dec : decPD kB = .ok smallP := by kernel_rfl
theorem none_small : sameP noneP smallP = false := by kernel_rfl
theorem none_check : checkP noneP = 121 := by decide +kernel
theorem smallP_ok : smallP.Ok := ⟨by decide, ⟨by decide, by decide⟩, fun f hf => by
  have e : f = ⟨0, 0, 1, [⟨3, 3⟩, ⟨18, 0⟩]⟩ := by simpa [smallP] using hf
  subst e
  exact ⟨by decide, by decide, by decide, fun y hy => by
    simp at hy
    rcases hy with rfl | rfl <;> exact ⟨by decide, by decide⟩, by decide⟩, by decide⟩
theorem noneP_ok : noneP.Ok := ⟨by decide, ⟨by decide, by decide⟩, fun f hf => by simp [noneP] at hf, by decide⟩
theorem noneP_is (w : World) (B : Nat) : PgIs w B (.agg #[.int .i64 0, .slice none 0 0, .slice none 0 0]) noneP := ⟨_, _, rfl, .inl ⟨rfl, none, 0, rfl⟩, (fun q hq => by cases hq), .inl ⟨rfl, none, 0, rfl⟩⟩
theorem kB_ok : BytesOk kB := ⟨by decide, by decide⟩
theorem kB_new (w : World) : IsB (w.alloc (.cells #[.int .u8 2, .int .u8 4, .int .u8 1, .int .u8 7, .int .u8 1, .int .u8 0, .int .u8 0, .int .u8 1, .int .u8 3, .int .u8 3, .int .u8 6, .int .u8 18] 5)) (.slice (some ⟨w.heap.size, 0, none⟩) 12 12) kB := .inr ⟨w.heap.size, 0, 12, rfl, fun i hi => by
  rw [cell_block _ _ _ _ _ _ (heap_alloc_new w _), Nat.zero_add]
  have h3 : i < 12 := hi
  match i, h3 with
  | 0, _ => rfl
  | 1, _ => rfl
  | 2, _ => rfl
  | 3, _ => rfl
  | 4, _ => rfl
  | 5, _ => rfl
  | 6, _ => rfl
  | 7, _ => rfl
  | 8, _ => rfl
  | 9, _ => rfl
  | 10, _ => rfl
  | 11, _ => rfl⟩

/-- The blocks that small makes. -/
def w3s (w : World) : World := (((w.alloc (.cells #[.int .i64 0, .slice none 0 0, .slice none 0 0] 25)).alloc (.cells #[.int .u8 7] 5)).alloc (.cells #[.int .i64 3, .int .i64 3, .int .i64 18, .int .i64 0] 46)).alloc (.cells #[.int .i64 0, .int .i64 0, .int .i64 1, .slice (some ⟨w.heap.size + 2, 0, none⟩) 2 2] 44)
theorem w3s_facts (w : World) : (w3s w).heap[w.heap.size]? = some (.cells #[.int .i64 0, .slice none 0 0, .slice none 0 0] 25 (0, 0)) ∧ (w3s w).heap[w.heap.size + 1]? = some (.cells #[.int .u8 7] 5 (0, 0)) ∧ (w3s w).heap[w.heap.size + 2]? = some (.cells #[.int .i64 3, .int .i64 3, .int .i64 18, .int .i64 0] 46 (0, 0)) ∧ (w3s w).heap[w.heap.size + 3]? = some (.cells #[.int .i64 0, .int .i64 0, .int .i64 1, .slice (some ⟨w.heap.size + 2, 0, none⟩) 2 2] 44 (0, 0)) ∧ (w3s w).heap.size = w.heap.size + 4 ∧ Kept (fun _ => False) w (w3s w) := by
  unfold w3s
  refine ⟨?_, ?_, ?_, ?_, by simp, ((((Kept.refl _ _).alloc _).alloc _).alloc _).alloc _⟩
  · rw [heap_alloc_old _ _ (by first | (simp; done) | (simp; omega)), heap_alloc_old _ _ (by first | (simp; done) | (simp; omega)), heap_alloc_old _ _ (by simp)]
    exact heap_alloc_new w _
  · rw [heap_alloc_old _ _ (by first | (simp; done) | (simp; omega)), heap_alloc_old _ _ (by simp)]
    have := heap_alloc_new (w.alloc (.cells #[.int .i64 0, .slice none 0 0, .slice none 0 0] 25)) (.cells #[.int .u8 7] 5)
    simpa using this
  · rw [heap_alloc_old _ _ (by simp)]
    have := heap_alloc_new ((w.alloc (.cells #[.int .i64 0, .slice none 0 0, .slice none 0 0] 25)).alloc (.cells #[.int .u8 7] 5)) (.cells #[.int .i64 3, .int .i64 3, .int .i64 18, .int .i64 0] 46)
    simpa using this
  · have := heap_alloc_new (((w.alloc (.cells #[.int .i64 0, .slice none 0 0, .slice none 0 0] 25)).alloc (.cells #[.int .u8 7] 5)).alloc (.cells #[.int .i64 3, .int .i64 3, .int .i64 18, .int .i64 0] 46)) (.cells #[.int .i64 0, .int .i64 0, .int .i64 1, .slice (some ⟨w.heap.size + 2, 0, none⟩) 2 2] 44)
    simpa using this
theorem small_is {W : World} {g : Nat} (h1 : W.heap[g + 1]? = some (.cells #[.int .u8 7] 5 (0, 0))) (h2 : W.heap[g + 2]? = some (.cells #[.int .i64 3, .int .i64 3, .int .i64 18, .int .i64 0] 46 (0, 0))) (h3 : W.heap[g + 3]? = some (.cells #[.int .i64 0, .int .i64 0, .int .i64 1, .slice (some ⟨g + 2, 0, none⟩) 2 2] 44 (0, 0))) :
    PgIs W W.heap.size (.agg #[.int .i64 4, .slice (some ⟨g + 1, 0, none⟩) 1 1, .slice (some ⟨g + 3, 0, none⟩) 1 1]) smallP := by
  refine ⟨_, _, rfl, .inr ⟨g + 1, 0, 1, rfl, fun i hi => ?_⟩, fun q hq => ?_, .inr ⟨g + 3, 0, 1, rfl, (Array.getElem?_eq_some_iff.1 h3).1, fun i f hf => ?_⟩⟩
  · have h : i < 1 := hi
    obtain rfl : i = 0 := by omega
    rw [cell_block _ _ _ _ _ _ h1]
    rfl
  · have e : g + 1 = q := Option.some.inj hq
    rw [← e]
    exact (Array.getElem?_eq_some_iff.1 h1).1
  · have h : i < 1 := (List.getElem?_eq_some_iff.1 hf).1
    obtain rfl : i = 0 := by omega
    have e : (⟨0, 0, 1, [⟨3, 3⟩, ⟨18, 0⟩]⟩ : FN) = f := by simpa [smallP] using hf
    subst e
    refine ⟨.slice (some ⟨g + 2, 0, none⟩) 2 2, fun j u hj => ?_, .inr ⟨g + 2, 0, 2, rfl, fun i y hy j u hj => ?_⟩, fun q hq _ => ?_⟩
    · rw [cell_block _ _ _ _ _ _ h3]
      have hj4 : j < 4 := (List.getElem?_eq_some_iff.1 hj).1
      match j, hj4, hj with
      | 0, _, hj => exact hj
      | 1, _, hj => exact hj
      | 2, _, hj => exact hj
      | 3, _, hj => exact hj
    · rw [cell_block _ _ _ _ _ _ h2]
      have hi : i < 2 := (List.getElem?_eq_some_iff.1 hy).1
      match i, hi with
      | 0, _ =>
        cases hy
        match j, hj with
        | 0, hj => exact hj
        | 1, hj => exact hj
      | 1, _ =>
        cases hy
        match j, hj with
        | 0, hj => exact hj
        | 1, hj => exact hj
    · have e : g + 2 = q := Option.some.inj hq
      rw [← e]
      exact (Array.getElem?_eq_some_iff.1 h2).1
set_option maxHeartbeats 4000000 in
theorem small_p (w : World) : Calls Try.prog 18 #[] w fun e w' => (∃ sd sf : Nat, e = .returned (.agg #[.int .i64 4, .slice (some ⟨sd, 0, none⟩) 1 1, .slice (some ⟨sf, 0, none⟩) 1 1]) ∧ PgIs w' w'.heap.size (.agg #[.int .i64 4, .slice (some ⟨sd, 0, none⟩) 1 1, .slice (some ⟨sf, 0, none⟩) 1 1]) smallP) ∧ Kept (fun _ => False) w w' := by
  obtain ⟨h0, h1, h2, h3, h4, hk⟩ := w3s_facts w
  have hkr := kept_row (w3s w) w.heap.size #[.int .i64 4, .slice (some ⟨w.heap.size + 1, 0, none⟩) 1 1, .slice (some ⟨w.heap.size + 3, 0, none⟩) 1 1]
  have HXR := hid_of (setRow_heap (w3s w) w.heap.size _ #[.int .i64 4, .slice (some ⟨w.heap.size + 1, 0, none⟩) 1 1, .slice (some ⟨w.heap.size + 3, 0, none⟩) 1 1] 25 (0, 0) h0)
  have HP := hid_of (small_is (g := w.heap.size) ((hkr.block _ (by omega) (by omega)).trans h1) ((hkr.block _ (by omega) (by omega)).trans h2) ((hkr.block _ (by omega) (by omega)).trans h3))
  have HK : Hid (Kept (fun _ => False) w ((w3s w).setRow w.heap.size #[.int .i64 4, .slice (some ⟨w.heap.size + 1, 0, none⟩) 1 1, .slice (some ⟨w.heap.size + 3, 0, none⟩) 1 1])) := hk.step hkr (fun i hi e => by omega)
  have H0 := hid_of h0
  unfold w3s at H0 HXR HP HK
  clear h0 h1 h2 h3 h4 hk hkr
  go_enter Try.func18, Try.ntmps18
  go_wp2_with (refine wpList_store_row rfl 25 _ _ rfl w.heap.size #[.int .i64 4, .slice (some ⟨w.heap.size + 1, 0, none⟩) 1 1, .slice (some ⟨w.heap.size + 3, 0, none⟩) 1 1] rfl rfl 25 _ H0.out size25 rfl (three_one _ _ _ rfl rfl rfl) ?_)
  refine bodyPost_ret (v := .agg #[.int .i64 4, .slice (some ⟨w.heap.size + 1, 0, none⟩) 1 1, .slice (some ⟨w.heap.size + 3, 0, none⟩) 1 1]) ?_ rfl ⟨⟨_, _, rfl, HP.out⟩, HK.out⟩
  exact results_cell_row (by rfl) _ _ w.heap.size 25 _ (0, 0) _ (by rfl) HXR.out Try.underlying25 rfl size25

set_option maxHeartbeats 8000000 in
theorem known_pos (w : World) : Calls Try.prog 5 #[] w fun e w' => e = .returned (.bool true) ∧ Kept (fun _ => False) w w' ∧ 0 < w'.heap.size := by
  go_enter Try.func5, Try.ntmps5
  go_wp2_with fail
  refine (small_p w).mono ?_
  rintro e w1 ⟨⟨sd, sf, rfl, hp1⟩, hk1⟩
  have HEN := hid_of (encode_p _ smallP w1 w1.heap.size hp1 (Nat.le_refl _) smallP_ok)
  have HK1 := hid_of hk1
  clear hp1 hk1
  go_wp2_with fail
  refine HEN.out.mono ?_
  rintro e w2 ⟨hk2, he⟩
  rw [if_pos small_enc, small_bytes] at he
  obtain ⟨v2, rfl, ho2⟩ := he
  obtain ⟨bo, bc, hv2⟩ := ownsRow_shape ho2
  subst hv2
  have hs2 : 0 < w2.heap.size := by
    have hz : (bytesP smallP).length = 12 := by rw [small_bytes]; rfl
    rcases ho2.2 with ⟨_, h0⟩ | ⟨g, cap, cur, _, _, hg, _⟩
    · cases h0
    · have := (Array.getElem?_eq_some_iff.1 hg).1; omega
  obtain ⟨gd, hgd, hri⟩ := isR_own2 ho2 hs2
  have HIB0 := hid_of (isB_own ho2)
  have HD := hid_of (decode_p gd bo bc kB w2 hri hgd kB_ok)
  have HK2 := hid_of (HK1.out.trans hk2)
  clear hk2 ho2 hs2 hri hgd HEN HK1
  rw [show kB.length = 12 from rfl] at *
  go_wp2_with fail
  refine HD.out.mono ?_
  rintro e w4 ⟨hk4, he⟩
  rw [small_dec] at he
  obtain ⟨⟨dv, fv, cvs, rfl, hop⟩, _⟩ := he
  obtain ⟨dao, dc, hds⟩ := ownsRow_shape hop.dat
  obtain ⟨fao, fc, hfs⟩ := ownsRow_shape hop.fns.row
  rw [show smallP.data.length = 1 from rfl] at hds
  rw [show smallP.fns.length = 1 from rfl] at hfs
  subst hds
  subst hfs
  rw [show smallP.mem = 4 from rfl]
  have hkA : Kept (fun _ => False) w4 (w4.alloc (.cells #[.int .i64 4, .slice dao 1 dc, .slice fao 1 fc] 25)) := (Kept.refl _ _).alloc _
  have hbA := heap_alloc_new w4 (.cells #[.int .i64 4, .slice dao 1 dc, .slice fao 1 fc] 25)
  have HPG := hid_of (show PgIs (w4.alloc (.cells #[.int .i64 4, .slice dao 1 dc, .slice fao 1 fc] 25)) (w4.alloc (.cells #[.int .i64 4, .slice dao 1 dc, .slice fao 1 fc] 25)).heap.size (.agg #[.int .i64 4, .slice dao 1 dc, .slice fao 1 fc]) smallP from (hop.pg.kept hkA (fun _ _ f => f)).up hkA.size)
  have HIB := hid_of ((HIB0.out.kept hk4 (fun _ _ f => f)).kept hkA (fun _ _ f => f))
  have HK4 := hid_of ((HK2.out.trans hk4).trans hkA)
  have HBA := hid_of hbA
  clear hk4 hop hkA hbA HK2 HIB0 HD
  go_upto_region 3 with fail
  generalize w4.alloc (.cells #[.int .i64 4, .slice dao 1 dc, .slice fao 1 fc] 25) = w3 at *
  generalize w4.heap.size = gx at *
  have HX0 := hid_of (show w3.cell? ⟨gx, 0, none⟩ = some (.int .i64 4) from cell_block _ gx 0 _ _ _ HBA.out)
  have HX1 := hid_of (show w3.cell? ⟨gx, 1, none⟩ = some (.slice dao 1 dc) from cell_block _ gx 1 _ _ _ HBA.out)
  have HX2 := hid_of (show w3.cell? ⟨gx, 2, none⟩ = some (.slice fao 1 fc) from cell_block _ gx 2 _ _ _ HBA.out)
  have HPOS : Hid (0 < w3.heap.size) := Nat.lt_of_le_of_lt (Nat.zero_le _) (Array.getElem?_eq_some_iff.1 HBA.out).1
  obtain ⟨sb, hsb⟩ : ∃ s, s = str kB := ⟨_, rfl⟩
  have HSB := hid_of hsb
  clear hsb
  refine wp_region_held_drew (S := fun w' => Kept (fun _ => False) w3 w') (by kernel_rfl) (Kept.refl _ _).drew (fun hHeld => ?_)
  refine wpAnyH_take (i := 0) (v := ?_) rfl (by kernel_rfl) (by kernel_rfl) (by kernel_rfl) (fun _ _ _ h => h) (Or.inl ⟨by rfl, ?_⟩) (by assumption) ?_
  rotate_left 1
  · intro w hSw
    go_simp
    try with_reducible rfl
  try simp only [Act.put, List.getElem_toArray, List.getElem_cons_zero, List.getElem_cons_succ, List.setIfInBounds_toArray, List.set_cons_zero, List.set_cons_succ]
  refine wpAnyH_take (i := 1) (v := ?_) rfl (by kernel_rfl) (by kernel_rfl) (by kernel_rfl) (fun _ _ _ h => h) (Or.inl ⟨by rfl, ?_⟩) (by assumption) ?_
  rotate_left 1
  · intro w hSw
    go_simp
    try with_reducible rfl
  try simp only [Act.put, List.getElem_toArray, List.getElem_cons_zero, List.getElem_cons_succ, List.setIfInBounds_toArray, List.set_cons_zero, List.set_cons_succ]
  refine wpAnyH_take (i := 2) (v := ?_) rfl (by kernel_rfl) (by kernel_rfl) (by kernel_rfl) (fun _ _ _ h => h) (Or.inl ⟨by rfl, ?_⟩) (by assumption) ?_
  rotate_left 1
  · intro w hSw
    go_simp
    try with_reducible rfl
  try simp only [Act.put, List.getElem_toArray, List.getElem_cons_zero, List.getElem_cons_succ, List.setIfInBounds_toArray, List.set_cons_zero, List.set_cons_succ]
  refine wpAnyH_take (i := 3) (v := ?_) rfl (by kernel_rfl) (by kernel_rfl) (by kernel_rfl) (fun _ _ _ h => h) (Or.inl ⟨by rfl, ?_⟩) (by assumption) ?_
  rotate_left 1
  · intro w hSw
    go_simp
    try with_reducible rfl
  try simp only [Act.put, List.getElem_toArray, List.getElem_cons_zero, List.getElem_cons_succ, List.setIfInBounds_toArray, List.set_cons_zero, List.set_cons_succ]
  refine wpAnyH_take (i := 4) (v := ?_) rfl (by kernel_rfl) (by kernel_rfl) (by kernel_rfl) (fun _ _ _ h => h) (Or.inl ⟨by rfl, ?_⟩) (by assumption) ?_
  rotate_left 1
  · intro w hSw
    go_simp
    try with_reducible rfl
  try simp only [Act.put, List.getElem_toArray, List.getElem_cons_zero, List.getElem_cons_succ, List.setIfInBounds_toArray, List.set_cons_zero, List.set_cons_succ]
  refine wpAnyH_take (i := 5) (v := ?_) rfl (by kernel_rfl) (by kernel_rfl) (by kernel_rfl) (fun _ _ _ h => h) (Or.inl ⟨by rfl, ?_⟩) (by assumption) ?_
  rotate_left 1
  · intro w hSw
    go_simp
    try with_reducible rfl
  try simp only [Act.put, List.getElem_toArray, List.getElem_cons_zero, List.getElem_cons_succ, List.setIfInBounds_toArray, List.set_cons_zero, List.set_cons_succ]
  refine wpAnyH_take (i := 6) (v := ?_) rfl (by kernel_rfl) (by kernel_rfl) (by kernel_rfl) (fun _ _ _ h => h) (Or.inl ⟨by rfl, ?_⟩) (by assumption) ?_
  rotate_left 1
  · intro w hSw
    go_simp
    try with_reducible rfl
  try simp only [Act.put, List.getElem_toArray, List.getElem_cons_zero, List.getElem_cons_succ, List.setIfInBounds_toArray, List.set_cons_zero, List.set_cons_succ]
  refine wpAnyH_take (i := 7) (v := ?_) rfl (by kernel_rfl) (by kernel_rfl) (by kernel_rfl) (fun _ _ _ h => h) (Or.inl ⟨by rfl, ?_⟩) (by assumption) ?_
  rotate_left 1
  · intro w hSw
    go_simp
    try with_reducible rfl
  try simp only [Act.put, List.getElem_toArray, List.getElem_cons_zero, List.getElem_cons_succ, List.setIfInBounds_toArray, List.set_cons_zero, List.set_cons_succ]
  refine wpAnyH_take (i := 8) (v := ?_) rfl (by kernel_rfl) (by kernel_rfl) (by kernel_rfl) (fun _ _ _ h => h) (Or.inl ⟨by rfl, ?_⟩) (by assumption) ?_
  rotate_left 1
  · intro w hSw
    have qs := conv_str w _ _ (HIB.out.kept hSw (fun _ _ f => f))
    rw [← HSB.out] at qs
    go_simp
    try with_reducible rfl
  try simp only [Act.put, List.getElem_toArray, List.getElem_cons_zero, List.getElem_cons_succ, List.setIfInBounds_toArray, List.set_cons_zero, List.set_cons_succ]
  refine wpAnyH_ready (rs := [9]) (by kernel_rfl) (by simp) ?_
  refine AllReadyH.cons rfl (fun K hK => ?_) AllReadyH.nil
  go_simp
  refine hK.out _ _ (Kept.alloc hHeld _) (fun hHeld2 => ?_)
  clear hK K
  try simp only [Act.put, List.getElem_toArray, List.getElem_cons_zero, List.getElem_cons_succ, List.setIfInBounds_toArray, List.set_cons_zero, List.set_cons_succ]
  have qs := conv_str _ _ _ ((kB_new w3).kept ((Kept.refl (fun _ => False) _).drew) (fun _ _ f => f))
  rw [← HSB.out] at qs
  refine wpAnyH_ready (rs := [10]) (by kernel_rfl) (by simp) ?_
  refine AllReadyH.cons rfl (fun K hK => ?_) AllReadyH.nil
  go_simp
  refine hK.out _ _ hHeld2 (fun hHeld => ?_)
  clear hK K qs
  try simp only [Act.put, List.getElem_toArray, List.getElem_cons_zero, List.getElem_cons_succ, List.setIfInBounds_toArray, List.set_cons_zero, List.set_cons_succ]
  refine wpAnyH_take (i := 11) (v := ?_) rfl (by kernel_rfl) (by kernel_rfl) (by kernel_rfl) (fun _ _ _ h => h) (Or.inl ⟨by rfl, ?_⟩) (by assumption) ?_
  rotate_left 1
  · intro w hSw
    go_simp
    try with_reducible rfl
  try simp only [Act.put, List.getElem_toArray, List.getElem_cons_zero, List.getElem_cons_succ, List.setIfInBounds_toArray, List.set_cons_zero, List.set_cons_succ]
  refine wpAnyH_take (i := 12) (v := ?_) rfl (by kernel_rfl) (by kernel_rfl) (by kernel_rfl) (fun _ _ _ h => h) (Or.inl ⟨by rfl, ?_⟩) (by assumption) ?_
  rotate_left 1
  · intro w hSw
    go_simp
    try with_reducible rfl
  try simp only [Act.put, List.getElem_toArray, List.getElem_cons_zero, List.getElem_cons_succ, List.setIfInBounds_toArray, List.set_cons_zero, List.set_cons_succ]
  refine wpAnyH_take (i := 13) (v := ?_) rfl (by kernel_rfl) (by kernel_rfl) (by kernel_rfl) (fun _ _ _ h => h) (Or.inl ⟨by rfl, ?_⟩) (by assumption) ?_
  rotate_left 1
  · intro w hSw
    go_simp
    try with_reducible rfl
  try simp only [Act.put, List.getElem_toArray, List.getElem_cons_zero, List.getElem_cons_succ, List.setIfInBounds_toArray, List.set_cons_zero, List.set_cons_succ]
  refine wpAnyH_take (i := 14) (v := ?_) rfl (by kernel_rfl) (by kernel_rfl) (by kernel_rfl) (fun _ _ _ h => h) (Or.inl ⟨by rfl, ?_⟩) (by assumption) ?_
  rotate_left 1
  · intro w hSw
    have q0 := Kept.cell hSw HX0.out (fun f => f)
    have q1 := Kept.cell hSw HX1.out (fun f => f)
    have q2 := Kept.cell hSw HX2.out (fun f => f)
    go_simp
    try with_reducible rfl
  try simp only [Act.put, List.getElem_toArray, List.getElem_cons_zero, List.getElem_cons_succ, List.setIfInBounds_toArray, List.set_cons_zero, List.set_cons_succ]
  refine wpAnyH_ready (rs := [15]) (by kernel_rfl) (by simp) ?_
  refine AllReadyH.cons rfl (fun K hK => ?_) AllReadyH.nil
  go_simp
  refine (small_p _).mono ?_
  rintro e wa ⟨⟨sd, sf, rfl, hpwa⟩, hkwa⟩
  refine hK.out _ _ (Kept.trans hHeld hkwa) (fun hHeld => ?_)
  clear hK K hkwa
  try simp only [Act.put, List.getElem_toArray, List.getElem_cons_zero, List.getElem_cons_succ, List.setIfInBounds_toArray, List.set_cons_zero, List.set_cons_succ]
  refine wpAnyH_ready (rs := [16]) (by kernel_rfl) (by simp) ?_
  refine AllReadyH.cons rfl (fun K hK => ?_) AllReadyH.nil
  go_simp
  refine (same_p _ _ smallP smallP _ wa.heap.size ((HPG.out.kept hHeld (fun _ _ f => f)).up hHeld.size) hpwa (Nat.le_refl _) smallP_ok smallP_ok).mono ?_
  rw [sameP_refl]
  rintro e wb ⟨rfl, hkb⟩
  refine hK.out _ _ (Kept.trans hHeld hkb) (fun hHeld => ?_)
  clear hK K hkb hpwa
  try simp only [Act.put, List.getElem_toArray, List.getElem_cons_zero, List.getElem_cons_succ, List.setIfInBounds_toArray, List.set_cons_zero, List.set_cons_succ]
  refine wpAnyH_take (i := 17) (v := ?_) rfl (by kernel_rfl) (by kernel_rfl) (by kernel_rfl) (fun _ _ _ h => h) (Or.inl ⟨by rfl, ?_⟩) (by assumption) ?_
  rotate_left 1
  · intro w hSw
    go_simp
    try with_reducible rfl
  try simp only [Act.put, List.getElem_toArray, List.getElem_cons_zero, List.getElem_cons_succ, List.setIfInBounds_toArray, List.set_cons_zero, List.set_cons_succ]
  refine wpAnyH_take (i := 18) (v := ?_) rfl (by kernel_rfl) (by kernel_rfl) (by kernel_rfl) (fun _ _ _ h => h) (Or.inl ⟨by rfl, ?_⟩) (by assumption) ?_
  rotate_left 1
  · intro w hSw
    go_simp
    try with_reducible rfl
  try simp only [Act.put, List.getElem_toArray, List.getElem_cons_zero, List.getElem_cons_succ, List.setIfInBounds_toArray, List.set_cons_zero, List.set_cons_succ]
  refine wpAnyH_take (i := 19) (v := ?_) rfl (by kernel_rfl) (by kernel_rfl) (by kernel_rfl) (fun _ _ _ h => h) (Or.inl ⟨by rfl, ?_⟩) (by assumption) ?_
  rotate_left 1
  · intro w hSw
    go_simp
    try with_reducible rfl
  try simp only [Act.put, List.getElem_toArray, List.getElem_cons_zero, List.getElem_cons_succ, List.setIfInBounds_toArray, List.set_cons_zero, List.set_cons_succ]
  refine wpAnyH_ready (rs := [20]) (by kernel_rfl) (by simp) ?_
  refine AllReadyH.cons rfl (fun K hK => ?_) AllReadyH.nil
  go_simp
  refine (small_p _).mono ?_
  rintro e wc ⟨⟨sd, sf, rfl, hpwc⟩, hkwc⟩
  refine hK.out _ _ (Kept.trans hHeld hkwc) (fun hHeld => ?_)
  clear hK K hkwc
  try simp only [Act.put, List.getElem_toArray, List.getElem_cons_zero, List.getElem_cons_succ, List.setIfInBounds_toArray, List.set_cons_zero, List.set_cons_succ]
  refine wpAnyH_ready (rs := [21]) (by kernel_rfl) (by simp) ?_
  refine AllReadyH.cons rfl (fun K hK => ?_) AllReadyH.nil
  go_simp
  refine (same_p _ _ noneP smallP _ wc.heap.size (noneP_is _ _) hpwc (Nat.le_refl _) noneP_ok smallP_ok).mono ?_
  rw [none_small]
  rintro e wd ⟨rfl, hkd⟩
  refine hK.out _ _ (Kept.trans hHeld hkd) (fun hHeld => ?_)
  clear hK K hkd hpwc
  try simp only [Act.put, List.getElem_toArray, List.getElem_cons_zero, List.getElem_cons_succ, List.setIfInBounds_toArray, List.set_cons_zero, List.set_cons_succ]
  refine wpAnyH_take (i := 22) (v := ?_) rfl (by kernel_rfl) (by kernel_rfl) (by kernel_rfl) (fun _ _ _ h => h) (Or.inl ⟨by rfl, ?_⟩) (by assumption) ?_
  rotate_left 1
  · intro w hSw
    go_simp
    try with_reducible rfl
  try simp only [Act.put, List.getElem_toArray, List.getElem_cons_zero, List.getElem_cons_succ, List.setIfInBounds_toArray, List.set_cons_zero, List.set_cons_succ]
  refine wpAnyH_take (i := 23) (v := ?_) rfl (by kernel_rfl) (by kernel_rfl) (by kernel_rfl) (fun _ _ _ h => h) (Or.inl ⟨by rfl, ?_⟩) (by assumption) ?_
  rotate_left 1
  · intro w hSw
    go_simp
    try with_reducible rfl
  try simp only [Act.put, List.getElem_toArray, List.getElem_cons_zero, List.getElem_cons_succ, List.setIfInBounds_toArray, List.set_cons_zero, List.set_cons_succ]
  refine wpAnyH_take (i := 24) (v := ?_) rfl (by kernel_rfl) (by kernel_rfl) (by kernel_rfl) (fun _ _ _ h => h) (Or.inl ⟨by rfl, ?_⟩) (by assumption) ?_
  rotate_left 1
  · intro w hSw
    go_simp
    try with_reducible rfl
  try simp only [Act.put, List.getElem_toArray, List.getElem_cons_zero, List.getElem_cons_succ, List.setIfInBounds_toArray, List.set_cons_zero, List.set_cons_succ]
  refine wpAnyH_take (i := 25) (v := ?_) rfl (by kernel_rfl) (by kernel_rfl) (by kernel_rfl) (fun _ _ _ h => h) (Or.inl ⟨by rfl, ?_⟩) (by assumption) ?_
  rotate_left 1
  · intro w hSw
    go_simp
    try with_reducible rfl
  try simp only [Act.put, List.getElem_toArray, List.getElem_cons_zero, List.getElem_cons_succ, List.setIfInBounds_toArray, List.set_cons_zero, List.set_cons_succ]
  refine wpAnyH_ready (rs := [26]) (by kernel_rfl) (by simp) ?_
  refine AllReadyH.cons rfl (fun K hK => ?_) AllReadyH.nil
  go_simp
  refine (check_p _ noneP _ wd.heap.size (noneP_is _ _) (Nat.le_refl _) noneP_ok).mono ?_
  rw [none_check]
  rintro e we ⟨rfl, hke⟩
  refine hK.out _ _ (Kept.trans hHeld hke) (fun hHeld => ?_)
  clear hK K hke
  try simp only [Act.put, List.getElem_toArray, List.getElem_cons_zero, List.getElem_cons_succ, List.setIfInBounds_toArray, List.set_cons_zero, List.set_cons_succ]
  refine wpAnyH_take (i := 27) (v := ?_) rfl (by kernel_rfl) (by kernel_rfl) (by kernel_rfl) (fun _ _ _ h => h) (Or.inl ⟨by rfl, ?_⟩) (by assumption) ?_
  rotate_left 1
  · intro w hSw
    go_simp
    try with_reducible rfl
  try simp only [Act.put, List.getElem_toArray, List.getElem_cons_zero, List.getElem_cons_succ, List.setIfInBounds_toArray, List.set_cons_zero, List.set_cons_succ]
  refine wpAnyH_take (i := 28) (v := ?_) rfl (by kernel_rfl) (by kernel_rfl) (by kernel_rfl) (fun _ _ _ h => h) (Or.inl ⟨by rfl, ?_⟩) (by assumption) ?_
  rotate_left 1
  · intro w hSw
    go_simp
    try with_reducible rfl
  try simp only [Act.put, List.getElem_toArray, List.getElem_cons_zero, List.getElem_cons_succ, List.setIfInBounds_toArray, List.set_cons_zero, List.set_cons_succ]
  refine wpAnyH_take (i := 29) (v := ?_) rfl (by kernel_rfl) (by kernel_rfl) (by kernel_rfl) (fun _ _ _ h => h) (Or.inl ⟨by rfl, ?_⟩) (by assumption) ?_
  rotate_left 1
  · intro w hSw
    go_simp
    try with_reducible rfl
  try simp only [Act.put, List.getElem_toArray, List.getElem_cons_zero, List.getElem_cons_succ, List.setIfInBounds_toArray, List.set_cons_zero, List.set_cons_succ]
  refine wpAnyH_done (by kernel_rfl) ?_ _
  go_wp2
  go_ret
  exact ⟨rfl, HK4.out.trans hHeld, Nat.lt_of_lt_of_le HPOS.out hHeld.size⟩
theorem known_any (w : World) : Calls Try.prog 5 #[] w fun e w' => e = .returned (.bool true) ∧ Kept (fun _ => False) w w' := (known_pos w).mono fun _ _ h => ⟨h.1, h.2.1⟩
end Go.Proofs.Ytnjhnlohjhdcpab
