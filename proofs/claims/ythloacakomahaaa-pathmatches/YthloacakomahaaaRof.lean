/-
  The reference's Of, by contract.
-/
import Derived.Test.YthloacakomahaaaRrows
import Derived.Test.YthloacakomahaaaRgoes
import Derived.Test.YthloacakomahaaaRpieces
import Derived.Test.YthloacakomahaaaGoesw
namespace Go.Proofs.Ythloacakomahaaa
open Go.RowKit
set_option linter.unusedVariables false
set_option linter.unusedSimpArgs false

/-- The front of a row of bools: known up to k. -/
def frontB (f : Nat → Bool) (k : Nat) : Nat → Bool := fun j => if j < k then f j else false
theorem front_next {W : World} {b n k : Nat} {f : Nat → Bool} (h : Bs W b n (frontB f k)) (hk : k < n) {v : Bool} (hv : v = f k) : Bs (W.setCell ⟨b, k, none⟩ (.bool v)) b n (frontB f (k + 1)) := by
  refine (h.set hk v).same fun j hj => ?_
  unfold frontB
  by_cases e : j = k
  · rw [if_pos e, if_pos (by omega), hv, e]
  · rw [if_neg e]
    by_cases e2 : j < k
    · rw [if_pos e2, if_pos (by omega)]
    · rw [if_neg e2, if_neg (by omega)]
theorem front_full {W : World} {b n : Nat} {f : Nat → Bool} (h : Bs W b n (frontB f n)) : Bs W b n f :=
  h.same fun j hj => by unfold frontB; rw [if_pos hj]

set_option maxRecDepth 100000 in
set_option maxHeartbeats 2000000 in
theorem rof_any (x y : List UInt8) (hx : x ≠ []) (hy : y ≠ []) (hxl : x.length ≤ 4096) (hyl : y.length ≤ 4096) (w : World) :
    Calls Try.prog 45 #[.string ⟨x.toArray⟩, .string ⟨y.toArray⟩] w fun e w' => e = .returned (.bool (partTakes x y)) ∧ Kept (fun _ => False) w w' := by
  have HP1 := hid_of (rpieces_any x hx (by omega))
  have HP2 := hid_of (rpieces_any y hy (by omega))
  have l1 := pieces_len x
  have l2 := pieces_len y
  have hp : partTakes x y = goesG (loS (piecesOf x)) (taS (piecesOf x) (piecesOf y)) (piecesOf x).length (piecesOf y).length := rfl
  rw [hp, ← table]
  clear hp
  generalize piecesOf x = ms at *
  generalize piecesOf y = rs at *
  have hM : ms.length ≤ 4097 := by omega
  have hn : rs.length ≤ 4097 := by omega
  clear l1 l2
  go_enter Try.func45, Try.ntmps45
  go_wp2_with fail
  refine (HP1.out _).mono ?_
  rintro e w1 ⟨v1, rfl, ho1, hk1⟩
  have K1 := hid_of hk1
  obtain ⟨s1, c1, rfl, hc1, hm1, hx1⟩ := own_slice ho1
  have HX1 := hid_of hx1
  clear HP1 ho1 hk1 hx1 hc1 hm1
  go_wp2_with fail
  refine (HP2.out _).mono ?_
  rintro e w2 ⟨v2, rfl, ho2, hk2⟩
  have K2 := hid_of hk2
  obtain ⟨s2, c2, rfl, hc2, hm2, hx2⟩ := own_slice ho2
  have HX2 := hid_of hx2
  clear HP2 ho2 hk2 hx2 hc2 hm2
  have mk1 := make_bools w2 ms.length (by omega)
  have mk2 := make_nones (w2.alloc (.cells (falses ms.length) 4)) ms.length (by omega)
  have mk3 : ∀ W : World, (Instr.makeSlice 65 (.int .i64 (rs.length : Int)) (.int .i64 (rs.length : Int))).run Try.prog W = .ok (.slice (some ⟨W.heap.size, 0, none⟩) rs.length rs.length) (W.alloc (.cells (falses rs.length) 4)) := fun W => make_bools W rs.length (by omega)
  go_wp2
  go_loopw [9] (fun iv wr => ∃ (i : Nat) (bs : Nat → Nat), iv = .int .i64 i ∧ i ≤ ms.length ∧ Bs wr w2.heap.size ms.length (frontB (loS ms) i) ∧ Rs wr (w2.heap.size + 1) ms.length i rs.length bs (taS ms rs) ∧ Kept (fun _ => False) w2 wr) (fun iv _ => ms.length - (intOf iv).toNat)
  case atStart => 
    refine ⟨0, fun _ => 0, rfl, by omega, ?_, ?_, ((Kept.refl _ w2).alloc _).alloc _⟩
    · exact ((Bs.new w2 ms.length).keep ((Kept.refl _ _).alloc _)).same (fun j hj => rfl)
    · have := Rs.new (w2.alloc (.cells (falses ms.length) 4)) ms.length rs.length (fun _ => 0) (taS ms rs)
      rwa [show (w2.alloc (.cells (falses ms.length) 4)).heap.size = w2.heap.size + 1 from by simp] at this
  case round =>
    obtain ⟨i, bs, rfl, hi, hB, hR, hk⟩ := hrel
    have HB := hid_of hB
    have HR := hid_of hR
    have HK := hid_of hk
    by_cases h1 : i < ms.length
    case neg =>
      obtain rfl : i = ms.length := by omega
      have HG := hid_of (rgoes_any w2.heap.size (w2.heap.size + 1) bs wr (by omega) (by omega) (front_full hB) (fun j hj => hR.cell hj) hR.lt hR.bools)
      clear hB hR hk mk1 mk2 mk3
      go_wp2_with fail
      refine HG.out.mono ?_
      rintro e w3 ⟨rfl, hk3⟩
      have K3 := hid_of (((K1.out.trans K2.out).trans HK.out).trans hk3)
      clear hk3
      go_wp2
      go_ret
      exact ⟨rfl, K3.out⟩
    obtain ⟨p, ep⟩ : ∃ p, ms[i]? = some p := ⟨_, List.getElem?_eq_getElem h1⟩
    have hgp : ms.getD i [] = p := by rw [List.getD, ep]; rfl
    obtain ⟨g1, rfl, hg1a, hg1b, hg1⟩ := HX1.out i _ (texts_get _ _ _ ep)
    have HP := hid_of ep
    clear ep
    have hlo : loS ms i = (p == [42]) := by rw [loS, hgp]
    have hcl := HK.out.cell (K2.out.cell hg1 (fun h => h)) (fun h => h)
    have hcm := hB.cell h1
    have hfm := hB.free (k := i)
    have hB' := front_next hB h1 (v := p == [42]) hlo.symm
    have hR' := hR.set (b := w2.heap.size) (o := i) (by omega) (.bool (p == [42]))
    have hk' := HK.out.setCell (p := ⟨w2.heap.size, i, none⟩) (.inl (Nat.le_refl _)) (.bool (p == [42]))
    obtain ⟨⟨u, hu⟩, hfo⟩ := hR.there h1
    have hwm := hR.lt
    have HB' := hid_of hB'
    have HR' := hid_of hR'
    have HK' := hid_of hk'
    have HLO := hid_of hlo
    have hb0 : (0 : Int) ≤ (i : Int) := by omega
    have hb1 : (i : Int) < ms.length := by omega
    have HGL := hid_of (K2.out.cell hg1 (fun h => h))
    clear hB hR hk hB' hR' hk' hlo mk1 mk2 hg1
    go_wp2
    obtain ⟨W1, hW1⟩ : ∃ W1, W1 = wr.setCell ⟨w2.heap.size, i, none⟩ (.bool (p == [42])) := ⟨_, rfl⟩
    have hsz : W1.heap.size = wr.heap.size := by rw [hW1]; simp [World.setCell]
    rw [← hW1] at HB' HR' HK'
    have hlt1 := HR'.out.lt
    have HBG := hid_of (HR'.out.begun)
    have HCG := hid_of (HR'.out.begun_cell h1)
    have HRK := hid_of (rowed_kept W1 (w2.heap.size + 1) i rs.length)
    obtain ⟨Y, hY⟩ : ∃ Y, Y = rowed W1 (w2.heap.size + 1) i rs.length := ⟨_, rfl⟩
    have hYs : Y.heap.size = W1.heap.size + 1 := by rw [hY]; exact rowed_size _ _ _ _
    have HKY : Hid (Kept (fun _ => False) w2 Y) := by
      rw [hY]
      exact HK'.out.step HRK.out (fun q hq e => by omega)
    have hbd : W1.heap.size ≠ w2.heap.size + 1 := by omega
    rw [hY.symm] at HBG HCG HRK
    go_loopw [10] (fun kv wr2 => ∃ k : Nat, kv = .int .i64 k ∧ k ≤ rs.length ∧ Bs wr2 W1.heap.size rs.length (frontB (taS ms rs i) k) ∧ Kept (fun q => q = W1.heap.size) Y wr2) (fun kv _ => rs.length - (intOf kv).toNat)
    case atStart =>
      have hE : ((wr.setCell ⟨w2.heap.size, i, none⟩ (.bool (p == [42]))).setCell ⟨w2.heap.size + 1, i, none⟩ (.slice (some ⟨wr.heap.size, 0, none⟩) rs.length rs.length)).alloc (.cells (falses rs.length) 4) = Y := by
        rw [hY, ← hW1, ← hsz]
        exact (World.setCell_alloc_past _ _ _ _ hlt1).symm
      rw [hE]
      exact ⟨0, rfl, by omega, HBG.out.same (fun j hj => by unfold frontB; rw [if_neg (by omega)]), Kept.refl _ _⟩
    case round =>
      obtain ⟨k, rfl, hk1, hN, hk2⟩ := hrel
      have KW := HKY.out.step hk2 (fun q hq e => by omega)
      by_cases hkn : k < rs.length
      case neg =>
        obtain rfl : k = rs.length := by omega
        have HN : Hid (Rs wr (w2.heap.size + 1) ms.length (i + 1) rs.length (fun j => if j = i then W1.heap.size else bs j) (taS ms rs)) := HR'.out.next h1 (by rw [← hY]; exact hk2) (front_full hN)
        have HM : Hid (Bs wr w2.heap.size ms.length (frontB (loS ms) (i + 1))) := ((HB'.out.kept HRK.out (by omega)).kept hk2 (by omega))
        have HKW := hid_of KW
        clear hN hk2 KW
        go_wp2
        exact ⟨⟨i + 1, _, rfl, h1, HM.out, HN.out, HKW.out⟩, by simp [intOf]; omega⟩
      obtain ⟨q, eq⟩ : ∃ q, rs[k]? = some q := ⟨_, List.getElem?_eq_getElem hkn⟩
      have hgq : rs.getD k [] = q := by rw [List.getD, eq]; rfl
      obtain ⟨g2, rfl, hg2a, hg2b, hg2⟩ := HX2.out k _ (texts_get _ _ _ eq)
      have d1 := hk2.cell HCG.out (show ¬ (w2.heap.size + 1 = W1.heap.size) by omega)
      have d2 := KW.cell HGL.out (fun h => h)
      have d3 := KW.cell hg2 (fun h => h)
      have d4 := hN.cell hkn
      have d5 := hN.free (k := k)
      have hta : taS ms rs i k = (p == [63] || p == q) := by rw [taS, hgp, hgq]
      have HT := hid_of hta
      have HN := hid_of hN
      have HK2 := hid_of hk2
      have hk0 : (0 : Int) ≤ (k : Int) := by omega
      have hk3 : (k : Int) < rs.length := by omega
      have e1 : ∀ v, (wr.drew.setCell ⟨W1.heap.size, k, none⟩ v).cell? ⟨w2.heap.size + 1, i, none⟩ = some (.slice (some ⟨W1.heap.size, 0, none⟩) rs.length rs.length) := fun v => (kept_set wr.drew ⟨W1.heap.size, k, none⟩ v).cell d1 (show ¬ (w2.heap.size + 1 = W1.heap.size) by omega)
      have e2 : ∀ v, (wr.drew.setCell ⟨W1.heap.size, k, none⟩ v).cell? ⟨g1, i, none⟩ = some (.string ⟨p.toArray⟩) := fun v => (kept_set wr.drew ⟨W1.heap.size, k, none⟩ v).cell d2 (show ¬ (g1 = W1.heap.size) by omega)
      have e3 : ∀ v, (wr.drew.setCell ⟨W1.heap.size, k, none⟩ v).cell? ⟨g2, k, none⟩ = some (.string ⟨q.toArray⟩) := fun v => (kept_set wr.drew ⟨W1.heap.size, k, none⟩ v).cell d3 (show ¬ (g2 = W1.heap.size) by omega)
      have HE := hid_of (And.intro e1 (And.intro e2 e3))
      have hzz : wr.drew.frozen? ⟨W1.heap.size, k, none⟩ = false := d5
      clear hN hk2 KW hta hgp hgq e1 e2 e3 hW1 hsz
      by_cases h63 : p = [63]
      · have b1 : (p == [63]) = true := by simpa using h63
        have HV : Hid (true = taS ms rs i k) := by
          rw [HT.out, b1]
          rfl
        clear h63
        go_wp2_with fail
        refine wp_region_held_drew (S := fun w' => w'.cell? ⟨w2.heap.size + 1, i, none⟩ = some (.slice (some ⟨W1.heap.size, 0, none⟩) rs.length rs.length) ∧ w'.cell? ⟨g1, i, none⟩ = some (.string ⟨p.toArray⟩) ∧ w'.cell? ⟨g2, k, none⟩ = some (.string ⟨q.toArray⟩)) (by kernel_rfl) ⟨d1, d2, d3⟩ (fun hHeld => ?_)
        refine wpAnyH_take (i := 0) (v := ?_) rfl (by kernel_rfl) (by kernel_rfl) (by kernel_rfl) (fun _ _ _ h => h) (Or.inl ⟨by rfl, ?_⟩) (by assumption) ?_
        rotate_left 1
        · intro w hSw
          obtain ⟨s1, s2, s3⟩ := hSw
          go_simp
          try with_reducible rfl
        try simp only [Act.put, List.getElem_toArray, List.getElem_cons_zero, List.getElem_cons_succ, List.setIfInBounds_toArray, List.set_cons_zero, List.set_cons_succ]
        refine wpAnyH_take (i := 1) (v := ?_) rfl (by kernel_rfl) (by kernel_rfl) (by kernel_rfl) (fun _ _ _ h => h) (Or.inl ⟨by rfl, ?_⟩) (by assumption) ?_
        rotate_left 1
        · intro w hSw
          obtain ⟨s1, s2, s3⟩ := hSw
          go_simp
          try with_reducible rfl
        try simp only [Act.put, List.getElem_toArray, List.getElem_cons_zero, List.getElem_cons_succ, List.setIfInBounds_toArray, List.set_cons_zero, List.set_cons_succ]
        refine wpAnyH_take (i := 2) (v := ?_) rfl (by kernel_rfl) (by kernel_rfl) (by kernel_rfl) (fun _ _ _ h => h) (Or.inl ⟨by rfl, ?_⟩) (by assumption) ?_
        rotate_left 1
        · intro w hSw
          obtain ⟨s1, s2, s3⟩ := hSw
          go_simp
          try with_reducible rfl
        try simp only [Act.put, List.getElem_toArray, List.getElem_cons_zero, List.getElem_cons_succ, List.setIfInBounds_toArray, List.set_cons_zero, List.set_cons_succ]
        refine wpAnyH_take (i := 3) (v := ?_) rfl (by kernel_rfl) (by kernel_rfl) (by kernel_rfl) (fun _ _ _ h => h) (Or.inl ⟨by rfl, ?_⟩) (by assumption) ?_
        rotate_left 1
        · intro w hSw
          obtain ⟨s1, s2, s3⟩ := hSw
          go_simp
          try with_reducible rfl
        try simp only [Act.put, List.getElem_toArray, List.getElem_cons_zero, List.getElem_cons_succ, List.setIfInBounds_toArray, List.set_cons_zero, List.set_cons_succ]
        refine wpAnyH_take (i := 4) (v := ?_) rfl (by kernel_rfl) (by kernel_rfl) (by kernel_rfl) (fun _ _ _ h => h) (Or.inl ⟨by rfl, ?_⟩) (by assumption) ?_
        rotate_left 1
        · intro w hSw
          obtain ⟨s1, s2, s3⟩ := hSw
          go_simp
          try with_reducible rfl
        try simp only [Act.put, List.getElem_toArray, List.getElem_cons_zero, List.getElem_cons_succ, List.setIfInBounds_toArray, List.set_cons_zero, List.set_cons_succ]
        refine wpAnyH_take (i := 5) (v := ?_) rfl (by kernel_rfl) (by kernel_rfl) (by kernel_rfl) (fun _ _ _ h => h) (Or.inl ⟨by rfl, ?_⟩) (by assumption) ?_
        rotate_left 1
        · intro w hSw
          obtain ⟨s1, s2, s3⟩ := hSw
          go_simp
          try with_reducible rfl
        try simp only [Act.put, List.getElem_toArray, List.getElem_cons_zero, List.getElem_cons_succ, List.setIfInBounds_toArray, List.set_cons_zero, List.set_cons_succ]
        refine wpAnyH_take (i := 6) (v := ?_) rfl (by kernel_rfl) (by kernel_rfl) (by kernel_rfl) (fun _ _ _ h => h) (Or.inl ⟨by rfl, ?_⟩) (by assumption) ?_
        rotate_left 1
        · intro w hSw
          obtain ⟨s1, s2, s3⟩ := hSw
          go_simp
          try with_reducible rfl
        try simp only [Act.put, List.getElem_toArray, List.getElem_cons_zero, List.getElem_cons_succ, List.setIfInBounds_toArray, List.set_cons_zero, List.set_cons_succ]
        refine wpAnyH_take (i := 7) (v := ?_) rfl (by kernel_rfl) (by kernel_rfl) (by kernel_rfl) (fun _ _ _ h => h) (Or.inl ⟨by rfl, ?_⟩) (by assumption) ?_
        rotate_left 1
        · intro w hSw
          obtain ⟨s1, s2, s3⟩ := hSw
          go_simp
          try with_reducible rfl
        try simp only [Act.put, List.getElem_toArray, List.getElem_cons_zero, List.getElem_cons_succ, List.setIfInBounds_toArray, List.set_cons_zero, List.set_cons_succ]
        refine wpAnyH_take (i := 8) (v := ?_) rfl (by kernel_rfl) (by kernel_rfl) (by kernel_rfl) (fun _ _ _ h => h) (Or.inl ⟨by rfl, ?_⟩) (by assumption) ?_
        rotate_left 1
        · intro w hSw
          obtain ⟨s1, s2, s3⟩ := hSw
          go_simp
          try with_reducible rfl
        try simp only [Act.put, List.getElem_toArray, List.getElem_cons_zero, List.getElem_cons_succ, List.setIfInBounds_toArray, List.set_cons_zero, List.set_cons_succ]
        refine wpAnyH_take (i := 9) (v := .bool true) rfl (by kernel_rfl) (by kernel_rfl) (by kernel_rfl) (fun _ _ _ h => h) (Or.inl ⟨by rfl, ?_⟩) (by assumption) ?_
        · intro w hSw
          obtain ⟨s1, s2, s3⟩ := hSw
          go_simp
        try simp only [Act.put, List.getElem_toArray, List.getElem_cons_zero, List.getElem_cons_succ, List.setIfInBounds_toArray, List.set_cons_zero, List.set_cons_succ]
        refine wpAnyH_take (i := 10) (v := ?_) rfl (by kernel_rfl) (by kernel_rfl) (by kernel_rfl) (fun _ _ _ h => h) (Or.inl ⟨by rfl, ?_⟩) (by assumption) ?_
        rotate_left 1
        · intro w hSw
          obtain ⟨s1, s2, s3⟩ := hSw
          go_simp
          try with_reducible rfl
        try simp only [Act.put, List.getElem_toArray, List.getElem_cons_zero, List.getElem_cons_succ, List.setIfInBounds_toArray, List.set_cons_zero, List.set_cons_succ]
        refine wpAnyH_take (i := 11) (v := undef) rfl (by kernel_rfl) (by kernel_rfl) (by kernel_rfl) (fun _ _ _ h => h) (Or.inr ⟨by rfl, rfl⟩) (by assumption) ?_
        try simp only [Act.put, List.getElem_toArray, List.getElem_cons_zero, List.getElem_cons_succ, List.setIfInBounds_toArray, List.set_cons_zero, List.set_cons_succ]
        refine wpAnyH_take (i := 12) (v := undef) rfl (by kernel_rfl) (by kernel_rfl) (by kernel_rfl) (fun _ _ _ h => h) (Or.inr ⟨by rfl, rfl⟩) (by assumption) ?_
        try simp only [Act.put, List.getElem_toArray, List.getElem_cons_zero, List.getElem_cons_succ, List.setIfInBounds_toArray, List.set_cons_zero, List.set_cons_succ]
        refine wpAnyH_take (i := 13) (v := undef) rfl (by kernel_rfl) (by kernel_rfl) (by kernel_rfl) (fun _ _ _ h => h) (Or.inr ⟨by rfl, rfl⟩) (by assumption) ?_
        try simp only [Act.put, List.getElem_toArray, List.getElem_cons_zero, List.getElem_cons_succ, List.setIfInBounds_toArray, List.set_cons_zero, List.set_cons_succ]
        refine wpAnyH_take (i := 14) (v := undef) rfl (by kernel_rfl) (by kernel_rfl) (by kernel_rfl) (fun _ _ _ h => h) (Or.inr ⟨by rfl, rfl⟩) (by assumption) ?_
        try simp only [Act.put, List.getElem_toArray, List.getElem_cons_zero, List.getElem_cons_succ, List.setIfInBounds_toArray, List.set_cons_zero, List.set_cons_succ]
        refine wpAnyH_take (i := 15) (v := undef) rfl (by kernel_rfl) (by kernel_rfl) (by kernel_rfl) (fun _ _ _ h => h) (Or.inr ⟨by rfl, rfl⟩) (by assumption) ?_
        try simp only [Act.put, List.getElem_toArray, List.getElem_cons_zero, List.getElem_cons_succ, List.setIfInBounds_toArray, List.set_cons_zero, List.set_cons_succ]
        refine wpAnyH_take (i := 16) (v := undef) rfl (by kernel_rfl) (by kernel_rfl) (by kernel_rfl) (fun _ _ _ h => h) (Or.inr ⟨by rfl, rfl⟩) (by assumption) ?_
        try simp only [Act.put, List.getElem_toArray, List.getElem_cons_zero, List.getElem_cons_succ, List.setIfInBounds_toArray, List.set_cons_zero, List.set_cons_succ]
        refine wpAnyH_take (i := 17) (v := undef) rfl (by kernel_rfl) (by kernel_rfl) (by kernel_rfl) (fun _ _ _ h => h) (Or.inr ⟨by rfl, rfl⟩) (by assumption) ?_
        try simp only [Act.put, List.getElem_toArray, List.getElem_cons_zero, List.getElem_cons_succ, List.setIfInBounds_toArray, List.set_cons_zero, List.set_cons_succ]
        refine wpAnyH_take (i := 18) (v := undef) rfl (by kernel_rfl) (by kernel_rfl) (by kernel_rfl) (fun _ _ _ h => h) (Or.inr ⟨by rfl, rfl⟩) (by assumption) ?_
        try simp only [Act.put, List.getElem_toArray, List.getElem_cons_zero, List.getElem_cons_succ, List.setIfInBounds_toArray, List.set_cons_zero, List.set_cons_succ]
        refine wpAnyH_take (i := 19) (v := undef) rfl (by kernel_rfl) (by kernel_rfl) (by kernel_rfl) (fun _ _ _ h => h) (Or.inr ⟨by rfl, rfl⟩) (by assumption) ?_
        try simp only [Act.put, List.getElem_toArray, List.getElem_cons_zero, List.getElem_cons_succ, List.setIfInBounds_toArray, List.set_cons_zero, List.set_cons_succ]
        refine wpAnyH_take (i := 20) (v := ?_) rfl (by kernel_rfl) (by kernel_rfl) (by kernel_rfl) (fun _ _ _ h => h) (Or.inl ⟨by rfl, ?_⟩) (by assumption) ?_
        rotate_left 1
        · intro w hSw
          obtain ⟨s1, s2, s3⟩ := hSw
          go_simp
          try with_reducible rfl
        try simp only [Act.put, List.getElem_toArray, List.getElem_cons_zero, List.getElem_cons_succ, List.setIfInBounds_toArray, List.set_cons_zero, List.set_cons_succ]
        refine wpAnyH_take (i := 21) (v := ?_) rfl (by kernel_rfl) (by kernel_rfl) (by kernel_rfl) (fun _ _ _ h => h) (Or.inl ⟨by rfl, ?_⟩) (by assumption) ?_
        rotate_left 1
        · intro w hSw
          obtain ⟨s1, s2, s3⟩ := hSw
          go_simp
          try with_reducible rfl
        try simp only [Act.put, List.getElem_toArray, List.getElem_cons_zero, List.getElem_cons_succ, List.setIfInBounds_toArray, List.set_cons_zero, List.set_cons_succ]
        refine wpAnyH_ready (rs := [22]) (by kernel_rfl) (by simp) ?_
        refine AllReadyH.cons rfl (fun K hK => ?_) AllReadyH.nil
        go_simp
        refine hK.out _ _ ⟨HE.out.1 _, HE.out.2.1 _, HE.out.2.2 _⟩ (fun hHeld => ?_)
        clear hK K
        try simp only [Act.put, List.getElem_toArray, List.getElem_cons_zero, List.getElem_cons_succ, List.setIfInBounds_toArray, List.set_cons_zero, List.set_cons_succ]
        refine wpAnyH_done (by kernel_rfl) ?_ _
        go_wp2
        exact ⟨⟨k + 1, rfl, hkn, front_next (HN.out.keep (Kept.refl _ _).drew) hkn HV.out, HK2.out.drew.setCell (p := ⟨W1.heap.size, k, none⟩) (.inr rfl) _⟩, by simp [intOf]; omega⟩
      · have b1 : (p == [63]) = false := by simpa using h63
        have HV : Hid ((p == q) = taS ms rs i k) := by
          rw [HT.out, b1]
          rfl
        clear h63
        go_wp2_with fail
        refine wp_region_held_drew (S := fun w' => w'.cell? ⟨w2.heap.size + 1, i, none⟩ = some (.slice (some ⟨W1.heap.size, 0, none⟩) rs.length rs.length) ∧ w'.cell? ⟨g1, i, none⟩ = some (.string ⟨p.toArray⟩) ∧ w'.cell? ⟨g2, k, none⟩ = some (.string ⟨q.toArray⟩)) (by kernel_rfl) ⟨d1, d2, d3⟩ (fun hHeld => ?_)
        refine wpAnyH_take (i := 0) (v := ?_) rfl (by kernel_rfl) (by kernel_rfl) (by kernel_rfl) (fun _ _ _ h => h) (Or.inl ⟨by rfl, ?_⟩) (by assumption) ?_
        rotate_left 1
        · intro w hSw
          obtain ⟨s1, s2, s3⟩ := hSw
          go_simp
          try with_reducible rfl
        try simp only [Act.put, List.getElem_toArray, List.getElem_cons_zero, List.getElem_cons_succ, List.setIfInBounds_toArray, List.set_cons_zero, List.set_cons_succ]
        refine wpAnyH_take (i := 1) (v := ?_) rfl (by kernel_rfl) (by kernel_rfl) (by kernel_rfl) (fun _ _ _ h => h) (Or.inl ⟨by rfl, ?_⟩) (by assumption) ?_
        rotate_left 1
        · intro w hSw
          obtain ⟨s1, s2, s3⟩ := hSw
          go_simp
          try with_reducible rfl
        try simp only [Act.put, List.getElem_toArray, List.getElem_cons_zero, List.getElem_cons_succ, List.setIfInBounds_toArray, List.set_cons_zero, List.set_cons_succ]
        refine wpAnyH_take (i := 2) (v := ?_) rfl (by kernel_rfl) (by kernel_rfl) (by kernel_rfl) (fun _ _ _ h => h) (Or.inl ⟨by rfl, ?_⟩) (by assumption) ?_
        rotate_left 1
        · intro w hSw
          obtain ⟨s1, s2, s3⟩ := hSw
          go_simp
          try with_reducible rfl
        try simp only [Act.put, List.getElem_toArray, List.getElem_cons_zero, List.getElem_cons_succ, List.setIfInBounds_toArray, List.set_cons_zero, List.set_cons_succ]
        refine wpAnyH_take (i := 3) (v := ?_) rfl (by kernel_rfl) (by kernel_rfl) (by kernel_rfl) (fun _ _ _ h => h) (Or.inl ⟨by rfl, ?_⟩) (by assumption) ?_
        rotate_left 1
        · intro w hSw
          obtain ⟨s1, s2, s3⟩ := hSw
          go_simp
          try with_reducible rfl
        try simp only [Act.put, List.getElem_toArray, List.getElem_cons_zero, List.getElem_cons_succ, List.setIfInBounds_toArray, List.set_cons_zero, List.set_cons_succ]
        refine wpAnyH_take (i := 4) (v := ?_) rfl (by kernel_rfl) (by kernel_rfl) (by kernel_rfl) (fun _ _ _ h => h) (Or.inl ⟨by rfl, ?_⟩) (by assumption) ?_
        rotate_left 1
        · intro w hSw
          obtain ⟨s1, s2, s3⟩ := hSw
          go_simp
          try with_reducible rfl
        try simp only [Act.put, List.getElem_toArray, List.getElem_cons_zero, List.getElem_cons_succ, List.setIfInBounds_toArray, List.set_cons_zero, List.set_cons_succ]
        refine wpAnyH_take (i := 5) (v := ?_) rfl (by kernel_rfl) (by kernel_rfl) (by kernel_rfl) (fun _ _ _ h => h) (Or.inl ⟨by rfl, ?_⟩) (by assumption) ?_
        rotate_left 1
        · intro w hSw
          obtain ⟨s1, s2, s3⟩ := hSw
          go_simp
          try with_reducible rfl
        try simp only [Act.put, List.getElem_toArray, List.getElem_cons_zero, List.getElem_cons_succ, List.setIfInBounds_toArray, List.set_cons_zero, List.set_cons_succ]
        refine wpAnyH_take (i := 6) (v := ?_) rfl (by kernel_rfl) (by kernel_rfl) (by kernel_rfl) (fun _ _ _ h => h) (Or.inl ⟨by rfl, ?_⟩) (by assumption) ?_
        rotate_left 1
        · intro w hSw
          obtain ⟨s1, s2, s3⟩ := hSw
          go_simp
          try with_reducible rfl
        try simp only [Act.put, List.getElem_toArray, List.getElem_cons_zero, List.getElem_cons_succ, List.setIfInBounds_toArray, List.set_cons_zero, List.set_cons_succ]
        refine wpAnyH_take (i := 7) (v := ?_) rfl (by kernel_rfl) (by kernel_rfl) (by kernel_rfl) (fun _ _ _ h => h) (Or.inl ⟨by rfl, ?_⟩) (by assumption) ?_
        rotate_left 1
        · intro w hSw
          obtain ⟨s1, s2, s3⟩ := hSw
          go_simp
          try with_reducible rfl
        try simp only [Act.put, List.getElem_toArray, List.getElem_cons_zero, List.getElem_cons_succ, List.setIfInBounds_toArray, List.set_cons_zero, List.set_cons_succ]
        refine wpAnyH_take (i := 8) (v := ?_) rfl (by kernel_rfl) (by kernel_rfl) (by kernel_rfl) (fun _ _ _ h => h) (Or.inl ⟨by rfl, ?_⟩) (by assumption) ?_
        rotate_left 1
        · intro w hSw
          obtain ⟨s1, s2, s3⟩ := hSw
          go_simp
          try with_reducible rfl
        try simp only [Act.put, List.getElem_toArray, List.getElem_cons_zero, List.getElem_cons_succ, List.setIfInBounds_toArray, List.set_cons_zero, List.set_cons_succ]
        refine wpAnyH_take (i := 9) (v := .bool false) rfl (by kernel_rfl) (by kernel_rfl) (by kernel_rfl) (fun _ _ _ h => h) (Or.inl ⟨by rfl, ?_⟩) (by assumption) ?_
        · intro w hSw
          obtain ⟨s1, s2, s3⟩ := hSw
          go_simp
        try simp only [Act.put, List.getElem_toArray, List.getElem_cons_zero, List.getElem_cons_succ, List.setIfInBounds_toArray, List.set_cons_zero, List.set_cons_succ]
        refine wpAnyH_take (i := 10) (v := ?_) rfl (by kernel_rfl) (by kernel_rfl) (by kernel_rfl) (fun _ _ _ h => h) (Or.inl ⟨by rfl, ?_⟩) (by assumption) ?_
        rotate_left 1
        · intro w hSw
          obtain ⟨s1, s2, s3⟩ := hSw
          go_simp
          try with_reducible rfl
        try simp only [Act.put, List.getElem_toArray, List.getElem_cons_zero, List.getElem_cons_succ, List.setIfInBounds_toArray, List.set_cons_zero, List.set_cons_succ]
        refine wpAnyH_take (i := 11) (v := ?_) rfl (by kernel_rfl) (by kernel_rfl) (by kernel_rfl) (fun _ _ _ h => h) (Or.inl ⟨by rfl, ?_⟩) (by assumption) ?_
        rotate_left 1
        · intro w hSw
          obtain ⟨s1, s2, s3⟩ := hSw
          go_simp
          try with_reducible rfl
        try simp only [Act.put, List.getElem_toArray, List.getElem_cons_zero, List.getElem_cons_succ, List.setIfInBounds_toArray, List.set_cons_zero, List.set_cons_succ]
        refine wpAnyH_take (i := 12) (v := ?_) rfl (by kernel_rfl) (by kernel_rfl) (by kernel_rfl) (fun _ _ _ h => h) (Or.inl ⟨by rfl, ?_⟩) (by assumption) ?_
        rotate_left 1
        · intro w hSw
          obtain ⟨s1, s2, s3⟩ := hSw
          go_simp
          try with_reducible rfl
        try simp only [Act.put, List.getElem_toArray, List.getElem_cons_zero, List.getElem_cons_succ, List.setIfInBounds_toArray, List.set_cons_zero, List.set_cons_succ]
        refine wpAnyH_take (i := 13) (v := ?_) rfl (by kernel_rfl) (by kernel_rfl) (by kernel_rfl) (fun _ _ _ h => h) (Or.inl ⟨by rfl, ?_⟩) (by assumption) ?_
        rotate_left 1
        · intro w hSw
          obtain ⟨s1, s2, s3⟩ := hSw
          go_simp
          try with_reducible rfl
        try simp only [Act.put, List.getElem_toArray, List.getElem_cons_zero, List.getElem_cons_succ, List.setIfInBounds_toArray, List.set_cons_zero, List.set_cons_succ]
        refine wpAnyH_take (i := 14) (v := ?_) rfl (by kernel_rfl) (by kernel_rfl) (by kernel_rfl) (fun _ _ _ h => h) (Or.inl ⟨by rfl, ?_⟩) (by assumption) ?_
        rotate_left 1
        · intro w hSw
          obtain ⟨s1, s2, s3⟩ := hSw
          go_simp
          try with_reducible rfl
        try simp only [Act.put, List.getElem_toArray, List.getElem_cons_zero, List.getElem_cons_succ, List.setIfInBounds_toArray, List.set_cons_zero, List.set_cons_succ]
        refine wpAnyH_take (i := 15) (v := ?_) rfl (by kernel_rfl) (by kernel_rfl) (by kernel_rfl) (fun _ _ _ h => h) (Or.inl ⟨by rfl, ?_⟩) (by assumption) ?_
        rotate_left 1
        · intro w hSw
          obtain ⟨s1, s2, s3⟩ := hSw
          go_simp
          try with_reducible rfl
        try simp only [Act.put, List.getElem_toArray, List.getElem_cons_zero, List.getElem_cons_succ, List.setIfInBounds_toArray, List.set_cons_zero, List.set_cons_succ]
        refine wpAnyH_take (i := 16) (v := ?_) rfl (by kernel_rfl) (by kernel_rfl) (by kernel_rfl) (fun _ _ _ h => h) (Or.inl ⟨by rfl, ?_⟩) (by assumption) ?_
        rotate_left 1
        · intro w hSw
          obtain ⟨s1, s2, s3⟩ := hSw
          go_simp
          try with_reducible rfl
        try simp only [Act.put, List.getElem_toArray, List.getElem_cons_zero, List.getElem_cons_succ, List.setIfInBounds_toArray, List.set_cons_zero, List.set_cons_succ]
        refine wpAnyH_take (i := 17) (v := ?_) rfl (by kernel_rfl) (by kernel_rfl) (by kernel_rfl) (fun _ _ _ h => h) (Or.inl ⟨by rfl, ?_⟩) (by assumption) ?_
        rotate_left 1
        · intro w hSw
          obtain ⟨s1, s2, s3⟩ := hSw
          go_simp
          try with_reducible rfl
        try simp only [Act.put, List.getElem_toArray, List.getElem_cons_zero, List.getElem_cons_succ, List.setIfInBounds_toArray, List.set_cons_zero, List.set_cons_succ]
        refine wpAnyH_take (i := 18) (v := ?_) rfl (by kernel_rfl) (by kernel_rfl) (by kernel_rfl) (fun _ _ _ h => h) (Or.inl ⟨by rfl, ?_⟩) (by assumption) ?_
        rotate_left 1
        · intro w hSw
          obtain ⟨s1, s2, s3⟩ := hSw
          go_simp
          try with_reducible rfl
        try simp only [Act.put, List.getElem_toArray, List.getElem_cons_zero, List.getElem_cons_succ, List.setIfInBounds_toArray, List.set_cons_zero, List.set_cons_succ]
        refine wpAnyH_take (i := 19) (v := ?_) rfl (by kernel_rfl) (by kernel_rfl) (by kernel_rfl) (fun _ _ _ h => h) (Or.inl ⟨by rfl, ?_⟩) (by assumption) ?_
        rotate_left 1
        · intro w hSw
          obtain ⟨s1, s2, s3⟩ := hSw
          go_simp
          try with_reducible rfl
        try simp only [Act.put, List.getElem_toArray, List.getElem_cons_zero, List.getElem_cons_succ, List.setIfInBounds_toArray, List.set_cons_zero, List.set_cons_succ]
        refine wpAnyH_take (i := 20) (v := ?_) rfl (by kernel_rfl) (by kernel_rfl) (by kernel_rfl) (fun _ _ _ h => h) (Or.inl ⟨by rfl, ?_⟩) (by assumption) ?_
        rotate_left 1
        · intro w hSw
          obtain ⟨s1, s2, s3⟩ := hSw
          go_simp
          try with_reducible rfl
        try simp only [Act.put, List.getElem_toArray, List.getElem_cons_zero, List.getElem_cons_succ, List.setIfInBounds_toArray, List.set_cons_zero, List.set_cons_succ]
        refine wpAnyH_take (i := 21) (v := ?_) rfl (by kernel_rfl) (by kernel_rfl) (by kernel_rfl) (fun _ _ _ h => h) (Or.inl ⟨by rfl, ?_⟩) (by assumption) ?_
        rotate_left 1
        · intro w hSw
          obtain ⟨s1, s2, s3⟩ := hSw
          go_simp
          try with_reducible rfl
        try simp only [Act.put, List.getElem_toArray, List.getElem_cons_zero, List.getElem_cons_succ, List.setIfInBounds_toArray, List.set_cons_zero, List.set_cons_succ]
        refine wpAnyH_ready (rs := [22]) (by kernel_rfl) (by simp) ?_
        refine AllReadyH.cons rfl (fun K hK => ?_) AllReadyH.nil
        go_simp
        refine hK.out _ _ ⟨HE.out.1 _, HE.out.2.1 _, HE.out.2.2 _⟩ (fun hHeld => ?_)
        clear hK K
        try simp only [Act.put, List.getElem_toArray, List.getElem_cons_zero, List.getElem_cons_succ, List.setIfInBounds_toArray, List.set_cons_zero, List.set_cons_succ]
        refine wpAnyH_done (by kernel_rfl) ?_ _
        go_wp2
        exact ⟨⟨k + 1, rfl, hkn, front_next (HN.out.keep (Kept.refl _ _).drew) hkn HV.out, HK2.out.drew.setCell (p := ⟨W1.heap.size, k, none⟩) (.inr rfl) _⟩, by simp [intOf]; omega⟩
end Go.Proofs.Ythloacakomahaaa
