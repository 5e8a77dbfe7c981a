/-
  The reference's Match, by contract.
-/
import Derived.Test.YthloacakomahaaaRof
import Derived.Test.YthloacakomahaaaRpat
import Derived.Test.YthloacakomahaaaRclean
import Derived.Test.YthloacakomahaaaPclean
namespace Go.Proofs.Ythloacakomahaaa
open Go.RowKit
set_option linter.unusedVariables false
set_option linter.unusedSimpArgs false

theorem split_count : ∀ l : List UInt8, (splitB l).length ≤ l.length + 1
  | [] => by simp [splitB]
  | c :: l => by
    have ih := split_count l
    obtain ⟨p, ps, e⟩ := splitB_some l
    by_cases hc : c = 47
    · rw [(splitB_cons c l).1 hc]
      simp only [List.length_cons]
      omega
    · rw [(splitB_cons c l).2 hc _ _ e]
      rw [e] at ih
      simp only [List.length_cons] at ih ⊢
      omega
theorem parts_count (l : List UInt8) : (partsOf l).length ≤ l.length + 1 := by
  rw [partsOf]
  split
  · simp
  · exact split_count l

set_option maxRecDepth 100000 in
set_option maxHeartbeats 1000000 in
theorem rmatch_long (s t : ByteArray) (h : 4096 < s.size ∨ 4096 < t.size) (h1 : s.size ≤ 9223372036854775807) (h2 : t.size ≤ 9223372036854775807) (w : World) :
    Calls Try.prog 29 #[.string s, .string t] w fun e w' => e = .returned (.tuple #[.bool false, .int .i64 2]) ∧ Kept (fun _ => False) w w' := by
  by_cases h3 : 4096 < s.size
  · go_enter Try.func29, Try.ntmps29
    go_wp2
    exact bodyPost_ret (v := .tuple #[.bool false, .int .i64 2]) (by simp [results, Try.results29, go_sem]) rfl ⟨rfl, Kept.refl _ _⟩
  · have h4 : 4096 < t.size := by omega
    go_enter Try.func29, Try.ntmps29
    go_wp2
    exact bodyPost_ret (v := .tuple #[.bool false, .int .i64 2]) (by simp [results, Try.results29, go_sem]) rfl ⟨rfl, Kept.refl _ _⟩

set_option maxRecDepth 100000 in
set_option maxHeartbeats 1000000 in
theorem rmatch_glob (s t : ByteArray) (h1 : s.size ≤ 4096) (h2 : t.size ≤ 4096) (hb : (partsOf s.data.toList).any badPart = true) (w : World) :
    Calls Try.prog 29 #[.string s, .string t] w fun e w' => e = .returned (.tuple #[.bool false, .int .i64 34]) ∧ Kept (fun _ => False) w w' := by
  have HP := hid_of (rpat_any s h1)
  rw [hb] at HP
  clear hb
  go_enter Try.func29, Try.ntmps29
  go_wp2_with fail
  refine (HP.out _).mono ?_
  rintro e w1 ⟨rfl, hk⟩
  have K1 := hid_of hk
  clear hk HP
  go_wp2
  exact bodyPost_ret (v := .tuple #[.bool false, .int .i64 34]) (by simp [results, Try.results29, go_sem]) rfl ⟨rfl, K1.out⟩

set_option maxRecDepth 100000 in
set_option maxHeartbeats 1000000 in
theorem rmatch_name (s t : ByteArray) (h1 : s.size ≤ 4096) (h2 : t.size ≤ 4096) (hb : (partsOf s.data.toList).any badPart = false) (hc : isClean t.data.toList = false) (w : World) :
    Calls Try.prog 29 #[.string s, .string t] w fun e w' => e = .returned (.tuple #[.bool false, .int .i64 31]) ∧ Kept (fun _ => False) w w' := by
  have HP := hid_of (rpat_any s h1)
  have HC := hid_of (risclean_any t (by omega))
  rw [← isClean_iff, hc] at HC
  rw [hb] at HP
  clear hb hc
  go_enter Try.func29, Try.ntmps29
  go_wp2_with fail
  refine (HP.out _).mono ?_
  rintro e w1 ⟨rfl, hk⟩
  have K1 := hid_of hk
  clear hk HP
  go_wp2_with fail
  refine (HC.out _).mono ?_
  rintro e w2 ⟨rfl, hk⟩
  have K2 := hid_of (K1.out.trans hk)
  clear hk HC
  go_wp2
  exact bodyPost_ret (v := .tuple #[.bool false, .int .i64 31]) (by simp [results, Try.results29, go_sem]) rfl ⟨rfl, K2.out⟩

set_option maxRecDepth 100000 in
set_option maxHeartbeats 4000000 in
theorem rmatch_go (s t : ByteArray) (h1s : s.size ≤ 4096) (h2s : t.size ≤ 4096) (hb : (partsOf s.data.toList).any badPart = false) (hc : isClean t.data.toList = true) (w : World) :
    Calls Try.prog 29 #[.string s, .string t] w fun e w' => e = .returned (.tuple #[.bool (matchParts (partsOf s.data.toList) (partsOf t.data.toList)), .int .i64 0]) ∧ Kept (fun _ => False) w w' := by
  have HP := hid_of (rpat_any s h1s)
  have HC := hid_of (risclean_any t (by omega))
  have HA1 := hid_of (rparts_any s (by omega))
  have HA2 := hid_of (rparts_any t (by omega))
  have HWS : Hid (∀ x ∈ partsOf s.data.toList, x ≠ [] ∧ x.length ≤ 4096) := fun x hx => by
    have h2 := parts_le _ _ hx
    have h3 : s.data.toList.length = s.size := by simp
    refine ⟨fun e => ?_, by omega⟩
    have : (partsOf s.data.toList).any badPart = true := List.any_eq_true.2 ⟨x, hx, by rw [e]; rfl⟩
    rw [hb] at this
    cases this
  have hcl := isClean_iff t.data.toList
  rw [hc] at hcl
  have hcl2 := (Bool.and_eq_true _ _).mp hcl.symm
  have HVS : Hid (∀ x ∈ partsOf t.data.toList, x ≠ [] ∧ x.length ≤ 4096) := fun x hx => by
    have h3 := name_ok (List.all_eq_true.1 hcl2.1 x hx)
    refine ⟨fun e => ?_, by omega⟩
    rw [e] at h3
    have := h3.1
    simp at this
  have hn : (partsOf t.data.toList).length ≤ 32 := of_decide_eq_true hcl2.2
  have hM : (partsOf s.data.toList).length ≤ 4097 := by
    have := parts_count s.data.toList
    have h3 : s.data.toList.length = s.size := by simp
    omega
  rw [← isClean_iff, hc] at HC
  rw [hb] at HP
  clear hb hc hcl hcl2
  have hp : matchParts (partsOf s.data.toList) (partsOf t.data.toList) = goesG (loW (partsOf s.data.toList)) (taW (partsOf s.data.toList) (partsOf t.data.toList)) (partsOf s.data.toList).length (partsOf t.data.toList).length := rfl
  rw [hp, ← table]
  clear hp
  generalize partsOf s.data.toList = ms at *
  generalize partsOf t.data.toList = rs at *
  go_enter Try.func29, Try.ntmps29
  go_wp2_with fail
  refine (HP.out _).mono ?_
  rintro e wa ⟨rfl, hk⟩
  have KA := hid_of hk
  clear hk HP
  go_wp2_with fail
  refine (HC.out _).mono ?_
  rintro e wb ⟨rfl, hk⟩
  have KB := hid_of (KA.out.trans hk)
  clear hk HC
  go_wp2_with fail
  refine (HA1.out _).mono ?_
  rintro e w1 ⟨v1, rfl, ho1, hk1⟩
  have K1 := hid_of (KB.out.trans hk1)
  obtain ⟨s1, c1, rfl, hc1, hm1, hx1⟩ := own_slice ho1
  have HX1 := hid_of hx1
  clear HA1 ho1 hk1 hx1 hc1 hm1
  go_wp2_with fail
  refine (HA2.out _).mono ?_
  rintro e w2 ⟨v2, rfl, ho2, hk2⟩
  have K2 := hid_of hk2
  obtain ⟨s2, c2, rfl, hc2, hm2, hx2⟩ := own_slice ho2
  have HX2 := hid_of hx2
  clear HA2 ho2 hk2 hx2 hc2 hm2
  have mk1 := make_bools w2 ms.length (by omega)
  have mk2 := make_nones (w2.alloc (.cells (falses ms.length) 4)) ms.length (by omega)
  have mk3 : ∀ W : World, (Instr.makeSlice 65 (.int .i64 (rs.length : Int)) (.int .i64 (rs.length : Int))).run Try.prog W = .ok (.slice (some ⟨W.heap.size, 0, none⟩) rs.length rs.length) (W.alloc (.cells (falses rs.length) 4)) := fun W => make_bools W rs.length (by omega)
  go_wp2
  go_loopw [10] (fun iv wr => ∃ (i : Nat) (bs : Nat → Nat), iv = .int .i64 i ∧ i ≤ ms.length ∧ Bs wr w2.heap.size ms.length (frontB (loW ms) i) ∧ Rs wr (w2.heap.size + 1) ms.length i rs.length bs (taW ms rs) ∧ Kept (fun _ => False) w2 wr) (fun iv _ => ms.length - (intOf iv).toNat)
  case atStart => 
    refine ⟨0, fun _ => 0, rfl, by omega, ?_, ?_, ((Kept.refl _ w2).alloc _).alloc _⟩
    · exact ((Bs.new w2 ms.length).keep ((Kept.refl _ _).alloc _)).same (fun j hj => rfl)
    · have := Rs.new (w2.alloc (.cells (falses ms.length) 4)) ms.length rs.length (fun _ => 0) (taW ms rs)
      rwa [show (w2.alloc (.cells (falses ms.length) 4)).heap.size = w2.heap.size + 1 from by simp] at this
  case round =>
    obtain ⟨i, bs, rfl, hi, hB, hR, hk⟩ := hrel
    have HB := hid_of hB
    have HR := hid_of hR
    have HK := hid_of hk
    by_cases h1 : i < ms.length
    case neg =>
      obtain rfl : i = ms.length := by omega
      have HG := hid_of (rgoes_any w2.heap.size (w2.heap.size + 1) bs wr (by omega) (by omega) (front_full hB) (fun j hj => hR.cell hj) hR.lt hR.bools)
      clear hB hR hk mk1 mk2 mk3
      go_wp2_with fail
      refine HG.out.mono ?_
      rintro e w3 ⟨rfl, hk3⟩
      have K3 := hid_of (((K1.out.trans K2.out).trans HK.out).trans hk3)
      clear hk3
      go_wp2
      exact bodyPost_ret (v := .tuple #[.bool (tabG (loW ms) (taW ms rs) ms.length rs.length), .int .i64 0]) (by simp [results, Try.results29, go_sem]) rfl ⟨rfl, K3.out⟩
    obtain ⟨p, ep⟩ : ∃ p, ms[i]? = some p := ⟨_, List.getElem?_eq_getElem h1⟩
    have hgp : ms.getD i [] = p := by rw [List.getD, ep]; rfl
    obtain ⟨g1, rfl, hg1a, hg1b, hg1⟩ := HX1.out i _ (texts_get _ _ _ ep)
    have HP := hid_of ep
    clear ep
    have hlo : loW ms i = (p == [42, 42]) := by rw [loW, hgp]
    have hcl := HK.out.cell (K2.out.cell hg1 (fun h => h)) (fun h => h)
    have hcm := hB.cell h1
    have hfm := hB.free (k := i)
    have hB' := front_next hB h1 (v := p == [42, 42]) hlo.symm
    have hR' := hR.set (b := w2.heap.size) (o := i) (by omega) (.bool (p == [42, 42]))
    have hk' := HK.out.setCell (p := ⟨w2.heap.size, i, none⟩) (.inl (Nat.le_refl _)) (.bool (p == [42, 42]))
    obtain ⟨⟨u, hu⟩, hfo⟩ := hR.there h1
    have hwm := hR.lt
    have HB' := hid_of hB'
    have HR' := hid_of hR'
    have HK' := hid_of hk'
    have HLO := hid_of hlo
    have hb0 : (0 : Int) ≤ (i : Int) := by omega
    have hb1 : (i : Int) < ms.length := by omega
    have HGL := hid_of (K2.out.cell hg1 (fun h => h))
    clear hB hR hk hB' hR' hk' hlo mk1 mk2 hg1
    go_wp2
    obtain ⟨W1, hW1⟩ : ∃ W1, W1 = wr.setCell ⟨w2.heap.size, i, none⟩ (.bool (p == [42, 42])) := ⟨_, rfl⟩
    have hsz : W1.heap.size = wr.heap.size := by rw [hW1]; simp [World.setCell]
    rw [← hW1] at HB' HR' HK'
    have hlt1 := HR'.out.lt
    have HBG := hid_of (HR'.out.begun)
    have HCG := hid_of (HR'.out.begun_cell h1)
    have HRK := hid_of (rowed_kept W1 (w2.heap.size + 1) i rs.length)
    obtain ⟨Y, hY⟩ : ∃ Y, Y = rowed W1 (w2.heap.size + 1) i rs.length := ⟨_, rfl⟩
    have hYs : Y.heap.size = W1.heap.size + 1 := by rw [hY]; exact rowed_size _ _ _ _
    have HKY : Hid (Kept (fun _ => False) w2 Y) := by
      rw [hY]
      exact HK'.out.step HRK.out (fun q hq e => by omega)
    have hbd : W1.heap.size ≠ w2.heap.size + 1 := by omega
    rw [hY.symm] at HBG HCG HRK
    go_loopw [11] (fun kv wr2 => ∃ k : Nat, kv = .int .i64 k ∧ k ≤ rs.length ∧ Bs wr2 W1.heap.size rs.length (frontB (taW ms rs i) k) ∧ Kept (fun q => q = W1.heap.size) Y wr2) (fun kv _ => rs.length - (intOf kv).toNat)
    case atStart =>
      have hE : ((wr.setCell ⟨w2.heap.size, i, none⟩ (.bool (p == [42, 42]))).setCell ⟨w2.heap.size + 1, i, none⟩ (.slice (some ⟨wr.heap.size, 0, none⟩) rs.length rs.length)).alloc (.cells (falses rs.length) 4) = Y := by
        rw [hY, ← hW1, ← hsz]
        exact (World.setCell_alloc_past _ _ _ _ hlt1).symm
      rw [hE]
      exact ⟨0, rfl, by omega, HBG.out.same (fun j hj => by unfold frontB; rw [if_neg (by omega)]), Kept.refl _ _⟩
    case round =>
      obtain ⟨k, rfl, hk1, hN, hk2⟩ := hrel
      have KW := HKY.out.step hk2 (fun q hq e => by omega)
      by_cases hkn : k < rs.length
      case neg =>
        obtain rfl : k = rs.length := by omega
        have HN : Hid (Rs wr (w2.heap.size + 1) ms.length (i + 1) rs.length (fun j => if j = i then W1.heap.size else bs j) (taW ms rs)) := HR'.out.next h1 (by rw [← hY]; exact hk2) (front_full hN)
        have HM : Hid (Bs wr w2.heap.size ms.length (frontB (loW ms) (i + 1))) := ((HB'.out.kept HRK.out (by omega)).kept hk2 (by omega))
        have HKW := hid_of KW
        clear hN hk2 KW
        go_wp2
        exact ⟨⟨i + 1, _, rfl, h1, HM.out, HN.out, HKW.out⟩, by simp [intOf]; omega⟩
      obtain ⟨q, eq⟩ : ∃ q, rs[k]? = some q := ⟨_, List.getElem?_eq_getElem hkn⟩
      have hgq : rs.getD k [] = q := by rw [List.getD, eq]; rfl
      obtain ⟨g2, rfl, hg2a, hg2b, hg2⟩ := HX2.out k _ (texts_get _ _ _ eq)
      have d1 := hk2.cell HCG.out (show ¬ (w2.heap.size + 1 = W1.heap.size) by omega)
      have d2 := KW.cell HGL.out (fun h => h)
      have d3 := KW.cell hg2 (fun h => h)
      have d4 := hN.cell hkn
      have d5 := hN.free (k := k)
      have hta : taW ms rs i k = partTakes p q := by rw [taW, hgp, hgq]
      have HT := hid_of hta
      have HN := hid_of hN
      have HK2 := hid_of hk2
      have hk0 : (0 : Int) ≤ (k : Int) := by omega
      have hk3 : (k : Int) < rs.length := by omega
      have hp1 := HWS.out p (List.mem_of_getElem? HP.out)
      have hq1 := HVS.out q (List.mem_of_getElem? eq)
      have HOF := hid_of (rof_any p q hp1.1 hq1.1 hp1.2 hq1.2)
      clear hN hk2 KW hta hgp hgq hW1 hsz hp1 hq1 eq
      generalize partTakes p q = tv at *
      go_wp2_with fail
      refine wp_region_held_drew (S := fun w' => w'.cell? ⟨w2.heap.size + 1, i, none⟩ = some (.slice (some ⟨W1.heap.size, 0, none⟩) rs.length rs.length) ∧ w'.cell? ⟨g1, i, none⟩ = some (.string ⟨p.toArray⟩) ∧ w'.cell? ⟨g2, k, none⟩ = some (.string ⟨q.toArray⟩)) (by kernel_rfl) ⟨d1, d2, d3⟩ (fun hHeld => ?_)
      refine wpAnyH_take (i := 0) (v := ?_) rfl (by kernel_rfl) (by kernel_rfl) (by kernel_rfl) (fun _ _ _ h => h) (Or.inl ⟨by rfl, ?_⟩) (by assumption) ?_
      rotate_left 1
      · intro w hSw
        obtain ⟨s1, s2, s3⟩ := hSw
        go_simp
        try with_reducible rfl
      try simp only [Act.put, List.getElem_toArray, List.getElem_cons_zero, List.getElem_cons_succ, List.setIfInBounds_toArray, List.set_cons_zero, List.set_cons_succ]
      refine wpAnyH_take (i := 1) (v := ?_) rfl (by kernel_rfl) (by kernel_rfl) (by kernel_rfl) (fun _ _ _ h => h) (Or.inl ⟨by rfl, ?_⟩) (by assumption) ?_
      rotate_left 1
      · intro w hSw
        obtain ⟨s1, s2, s3⟩ := hSw
        go_simp
        try with_reducible rfl
      try simp only [Act.put, List.getElem_toArray, List.getElem_cons_zero, List.getElem_cons_succ, List.setIfInBounds_toArray, List.set_cons_zero, List.set_cons_succ]
      refine wpAnyH_take (i := 2) (v := ?_) rfl (by kernel_rfl) (by kernel_rfl) (by kernel_rfl) (fun _ _ _ h => h) (Or.inl ⟨by rfl, ?_⟩) (by assumption) ?_
      rotate_left 1
      · intro w hSw
        obtain ⟨s1, s2, s3⟩ := hSw
        go_simp
        try with_reducible rfl
      try simp only [Act.put, List.getElem_toArray, List.getElem_cons_zero, List.getElem_cons_succ, List.setIfInBounds_toArray, List.set_cons_zero, List.set_cons_succ]
      refine wpAnyH_take (i := 3) (v := ?_) rfl (by kernel_rfl) (by kernel_rfl) (by kernel_rfl) (fun _ _ _ h => h) (Or.inl ⟨by rfl, ?_⟩) (by assumption) ?_
      rotate_left 1
      · intro w hSw
        obtain ⟨s1, s2, s3⟩ := hSw
        go_simp
        try with_reducible rfl
      try simp only [Act.put, List.getElem_toArray, List.getElem_cons_zero, List.getElem_cons_succ, List.setIfInBounds_toArray, List.set_cons_zero, List.set_cons_succ]
      refine wpAnyH_take (i := 4) (v := ?_) rfl (by kernel_rfl) (by kernel_rfl) (by kernel_rfl) (fun _ _ _ h => h) (Or.inl ⟨by rfl, ?_⟩) (by assumption) ?_
      rotate_left 1
      · intro w hSw
        obtain ⟨s1, s2, s3⟩ := hSw
        go_simp
        try with_reducible rfl
      try simp only [Act.put, List.getElem_toArray, List.getElem_cons_zero, List.getElem_cons_succ, List.setIfInBounds_toArray, List.set_cons_zero, List.set_cons_succ]
      refine wpAnyH_take (i := 5) (v := ?_) rfl (by kernel_rfl) (by kernel_rfl) (by kernel_rfl) (fun _ _ _ h => h) (Or.inl ⟨by rfl, ?_⟩) (by assumption) ?_
      rotate_left 1
      · intro w hSw
        obtain ⟨s1, s2, s3⟩ := hSw
        go_simp
        try with_reducible rfl
      try simp only [Act.put, List.getElem_toArray, List.getElem_cons_zero, List.getElem_cons_succ, List.setIfInBounds_toArray, List.set_cons_zero, List.set_cons_succ]
      refine wpAnyH_take (i := 6) (v := ?_) rfl (by kernel_rfl) (by kernel_rfl) (by kernel_rfl) (fun _ _ _ h => h) (Or.inl ⟨by rfl, ?_⟩) (by assumption) ?_
      rotate_left 1
      · intro w hSw
        obtain ⟨s1, s2, s3⟩ := hSw
        go_simp
        try with_reducible rfl
      try simp only [Act.put, List.getElem_toArray, List.getElem_cons_zero, List.getElem_cons_succ, List.setIfInBounds_toArray, List.set_cons_zero, List.set_cons_succ]
      refine wpAnyH_take (i := 7) (v := ?_) rfl (by kernel_rfl) (by kernel_rfl) (by kernel_rfl) (fun _ _ _ h => h) (Or.inl ⟨by rfl, ?_⟩) (by assumption) ?_
      rotate_left 1
      · intro w hSw
        obtain ⟨s1, s2, s3⟩ := hSw
        go_simp
        try with_reducible rfl
      try simp only [Act.put, List.getElem_toArray, List.getElem_cons_zero, List.getElem_cons_succ, List.setIfInBounds_toArray, List.set_cons_zero, List.set_cons_succ]
      refine wpAnyH_take (i := 8) (v := ?_) rfl (by kernel_rfl) (by kernel_rfl) (by kernel_rfl) (fun _ _ _ h => h) (Or.inl ⟨by rfl, ?_⟩) (by assumption) ?_
      rotate_left 1
      · intro w hSw
        obtain ⟨s1, s2, s3⟩ := hSw
        go_simp
        try with_reducible rfl
      try simp only [Act.put, List.getElem_toArray, List.getElem_cons_zero, List.getElem_cons_succ, List.setIfInBounds_toArray, List.set_cons_zero, List.set_cons_succ]
      refine wpAnyH_take (i := 9) (v := ?_) rfl (by kernel_rfl) (by kernel_rfl) (by kernel_rfl) (fun _ _ _ h => h) (Or.inl ⟨by rfl, ?_⟩) (by assumption) ?_
      rotate_left 1
      · intro w hSw
        obtain ⟨s1, s2, s3⟩ := hSw
        go_simp
        try with_reducible rfl
      try simp only [Act.put, List.getElem_toArray, List.getElem_cons_zero, List.getElem_cons_succ, List.setIfInBounds_toArray, List.set_cons_zero, List.set_cons_succ]
      refine wpAnyH_take (i := 10) (v := ?_) rfl (by kernel_rfl) (by kernel_rfl) (by kernel_rfl) (fun _ _ _ h => h) (Or.inl ⟨by rfl, ?_⟩) (by assumption) ?_
      rotate_left 1
      · intro w hSw
        obtain ⟨s1, s2, s3⟩ := hSw
        go_simp
        try with_reducible rfl
      try simp only [Act.put, List.getElem_toArray, List.getElem_cons_zero, List.getElem_cons_succ, List.setIfInBounds_toArray, List.set_cons_zero, List.set_cons_succ]
      refine wpAnyH_take (i := 11) (v := ?_) rfl (by kernel_rfl) (by kernel_rfl) (by kernel_rfl) (fun _ _ _ h => h) (Or.inl ⟨by rfl, ?_⟩) (by assumption) ?_
      rotate_left 1
      · intro w hSw
        obtain ⟨s1, s2, s3⟩ := hSw
        go_simp
        try with_reducible rfl
      try simp only [Act.put, List.getElem_toArray, List.getElem_cons_zero, List.getElem_cons_succ, List.setIfInBounds_toArray, List.set_cons_zero, List.set_cons_succ]
      refine wpAnyH_take (i := 12) (v := ?_) rfl (by kernel_rfl) (by kernel_rfl) (by kernel_rfl) (fun _ _ _ h => h) (Or.inl ⟨by rfl, ?_⟩) (by assumption) ?_
      rotate_left 1
      · intro w hSw
        obtain ⟨s1, s2, s3⟩ := hSw
        go_simp
        try with_reducible rfl
      try simp only [Act.put, List.getElem_toArray, List.getElem_cons_zero, List.getElem_cons_succ, List.setIfInBounds_toArray, List.set_cons_zero, List.set_cons_succ]
      refine wpAnyH_ready (rs := [13]) (by kernel_rfl) (by simp) ?_
      refine AllReadyH.cons rfl (fun K hK => ?_) AllReadyH.nil
      go_simp
      refine (HOF.out _).mono ?_
      rintro e w5 ⟨rfl, hk5⟩
      have d1' := hk5.cell (show wr.drew.cell? _ = _ from d1) (fun h => h)
      have d2' := hk5.cell (show wr.drew.cell? _ = _ from d2) (fun h => h)
      have d3' := hk5.cell (show wr.drew.cell? _ = _ from d3) (fun h => h)
      have HN5 := hid_of (HN.out.keep ((Kept.refl _ wr).drew.trans hk5))
      have HK5 := hid_of (HK2.out.step (((Kept.refl _ wr).drew).trans hk5) (fun _ _ h => h.elim))
      have d4' := HN5.out.cell hkn
      have d5' := HN5.out.free (k := k)
      have HE : Hid (∀ v, (w5.setCell ⟨W1.heap.size, k, none⟩ v).cell? ⟨w2.heap.size + 1, i, none⟩ = some (.slice (some ⟨W1.heap.size, 0, none⟩) rs.length rs.length) ∧ (w5.setCell ⟨W1.heap.size, k, none⟩ v).cell? ⟨g1, i, none⟩ = some (.string ⟨p.toArray⟩) ∧ (w5.setCell ⟨W1.heap.size, k, none⟩ v).cell? ⟨g2, k, none⟩ = some (.string ⟨q.toArray⟩)) := fun v =>
        ⟨(kept_set w5 ⟨W1.heap.size, k, none⟩ v).cell d1' (show ¬ (w2.heap.size + 1 = W1.heap.size) by omega), (kept_set w5 ⟨W1.heap.size, k, none⟩ v).cell d2' (show ¬ (g1 = W1.heap.size) by omega), (kept_set w5 ⟨W1.heap.size, k, none⟩ v).cell d3' (show ¬ (g2 = W1.heap.size) by omega)⟩
      clear hk5
      refine hK.out _ _ ⟨d1', d2', d3'⟩ (fun hHeld => ?_)
      clear hK K
      try simp only [Act.put, List.getElem_toArray, List.getElem_cons_zero, List.getElem_cons_succ, List.setIfInBounds_toArray, List.set_cons_zero, List.set_cons_succ]
      refine wpAnyH_take (i := 14) (v := ?_) rfl (by kernel_rfl) (by kernel_rfl) (by kernel_rfl) (fun _ _ _ h => h) (Or.inl ⟨by rfl, ?_⟩) (by assumption) ?_
      rotate_left 1
      · intro w hSw
        obtain ⟨s1, s2, s3⟩ := hSw
        go_simp
        try with_reducible rfl
      try simp only [Act.put, List.getElem_toArray, List.getElem_cons_zero, List.getElem_cons_succ, List.setIfInBounds_toArray, List.set_cons_zero, List.set_cons_succ]
      refine wpAnyH_ready (rs := [15]) (by kernel_rfl) (by simp) ?_
      refine AllReadyH.cons rfl (fun K hK => ?_) AllReadyH.nil
      go_simp
      refine hK.out _ _ (HE.out _) (fun hHeld => ?_)
      clear hK K
      try simp only [Act.put, List.getElem_toArray, List.getElem_cons_zero, List.getElem_cons_succ, List.setIfInBounds_toArray, List.set_cons_zero, List.set_cons_succ]
      refine wpAnyH_done (by kernel_rfl) ?_ _
      go_wp2
      exact ⟨⟨k + 1, rfl, hkn, front_next HN5.out hkn HT.out.symm, HK5.out.setCell (p := ⟨W1.heap.size, k, none⟩) (.inr rfl) _⟩, by simp [intOf]; omega⟩

theorem rmatch_any (s t : ByteArray) (h1 : s.size ≤ 9223372036854775807) (h2 : t.size ≤ 9223372036854775807) (w : World) :
    Calls Try.prog 29 #[.string s, .string t] w fun e w' => e = .returned (.tuple #[.bool (matchOf s.data.toList t.data.toList).1, .int .i64 (matchOf s.data.toList t.data.toList).2]) ∧ Kept (fun _ => False) w w' := by
  have e1 : s.data.toList.length = s.size := by simp
  have e2 : t.data.toList.length = t.size := by simp
  unfold matchOf
  by_cases c1 : 4096 < s.data.toList.length ∨ 4096 < t.data.toList.length
  · rw [if_pos c1]
    exact rmatch_long s t (by omega) h1 h2 w
  rw [if_neg c1]
  cases c2 : (partsOf s.data.toList).any badPart with
  | true =>
    rw [if_pos rfl]
    exact rmatch_glob s t (by omega) (by omega) c2 w
  | false =>
    rw [if_neg (by simp)]
    cases c3 : isClean t.data.toList with
    | false =>
      rw [if_pos rfl]
      exact rmatch_name s t (by omega) (by omega) c2 c3 w
    | true =>
      rw [if_neg (by simp)]
      exact rmatch_go s t (by omega) (by omega) c2 c3 w
end Go.Proofs.Ythloacakomahaaa
