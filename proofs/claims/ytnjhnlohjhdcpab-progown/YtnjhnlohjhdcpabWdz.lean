/-
  Wdz: Wd, Bz.
-/
import Derived.Test.YtnjhnlohjhdcpabRh
import Derived.Test.YtnjhnlohjhdcpabLnd
import Derived.Test.YtnjhnlohjhdcpabPbx
namespace Go.Proofs.Ytnjhnlohjhdcpab
open Go.RowKit
set_option linter.unusedVariables false
set_option linter.unusedSimpArgs false
set_option maxRecDepth 100000

/-- What Decode tells: its error, the instructions. -/
def decE (xs : List Int) : Int := match decD xs with
  | .error f => f
  | .ok _ => 0
def decL (xs : List Int) : List IN := match decD xs with
  | .error _ => []
  | .ok ys => ys
theorem allD_len : ∀ (n : Nat) {xs : List Int} {ys : List IN}, allD n xs = .ok ys → ys.length ≤ n
  | 0, xs, ys, h => by
    unfold allD at h
    split at h
    · cases h; simp
    · cases h
  | n + 1, xs, ys, h => by
    rw [allD_succ] at h
    split at h
    · cases h; simp
    · cases h1 : oneDI xs with
      | error e => rw [h1] at h; cases h
      | ok p =>
        obtain ⟨y, r⟩ := p
        rw [h1] at h
        dsimp only at h
        cases h2 : allD n r with
        | error e => rw [h2] at h; cases h
        | ok zs =>
          rw [h2] at h
          cases h
          have := allD_len n h2
          simp only [List.length_cons]
          omega
theorem decD_len {xs : List Int} {ys : List IN} (h : decD xs = .ok ys) : ys.length ≤ 4096 := by
  unfold decD at h
  split at h
  · cases h
  · exact allD_len 4096 h
theorem decL_len (xs : List Int) : (decL xs).length ≤ 4096 := by
  unfold decL
  cases h : decD xs with
  | error f => simp
  | ok ys => exact decD_len h
theorem DecR.out {xs : List Int} {w w' : World} {e : Ending} (h : DecR xs w e w') : ∃ v', e = .returned (.tuple #[v', .int .i64 (decE xs)]) ∧ RowI w' v' (decL xs) ∧ (∀ q, v'.ownBlock = some q → w.heap.size ≤ q) ∧ (∀ y ∈ decL xs, y.Ok) ∧ Kept (fun _ => False) w w' := by
  obtain ⟨hk, h⟩ := h
  unfold decE decL
  cases hd : decD xs with
  | error f =>
    rw [hd] at h
    exact ⟨_, h, .inl ⟨rfl, none, 0, rfl⟩, fun q hq => by simp [Value.ownBlock] at hq, fun y hy => by simp at hy, hk⟩
  | ok ys =>
    rw [hd] at h
    obtain ⟨⟨v', h1, h2⟩, h3⟩ := h
    exact ⟨v', h1, rowI_own h2, fun q hq => (h2.lt q hq).1, h3, hk⟩

end Go.Proofs.Ytnjhnlohjhdcpab

namespace Go.Proofs.Ytnjhnlohjhdcpab
open Go.RowKit
set_option linter.unusedVariables false
set_option linter.unusedSimpArgs false

theorem be_inj (k : Nat) (a b : Int) (ha0 : 0 ≤ a) (hb0 : 0 ≤ b) (ha : a < (256 : Int) ^ k) (hb : b < (256 : Int) ^ k) (h : Mth.be k a = Mth.be k b) : a = b := by
  have hd : a / (256 : Int) ^ k = b / (256 : Int) ^ k := by rw [Int.ediv_eq_zero_of_lt ha0 ha, Int.ediv_eq_zero_of_lt hb0 hb]
  rcases Int.lt_trichotomy a b with hlt | heq | hgt
  · have := Mth.be_ahead k a b hd hlt
    rw [h] at this
    rw [this.1] at this
    exact absurd this.2 (by simp)
  · exact heq
  · have := Mth.be_ahead k b a hd.symm hgt
    rw [h] at this
    rw [this.1] at this
    exact absurd this.2 (by simp)

theorem formD_form (u : Int) (rest : List Int) (h0 : 0 ≤ u) (h1 : u < 18446744073709551616) : formD (Mth.form u ++ rest) = .ok (u, rest) := by
  unfold Mth.form
  by_cases h : u ≤ 247
  · rw [if_pos h, List.singleton_append, formD_cons, if_pos h]
  · rw [if_neg h, List.cons_append, formD_cons]
    have hs8 := Mth.sz_le u
    have hs1 : 1 ≤ Mth.sz u := by
      rcases Mth.sz_cases u with h2 | h2
      · omega
      · rcases h2 with h2 | h2 | h2 | h2 | h2 | h2 | h2 | h2 <;> omega
    have hl := Mth.be_length (Mth.sz u) u
    have hk : (247 + (Mth.sz u : Int) - 247).toNat = Mth.sz u := by omega
    have hb := be_bval (Mth.sz u) (Mth.be (Mth.sz u) u) hl (Mth.be_byte _ _)
    have hv : bval (Mth.be (Mth.sz u) u) = u := (be_inj (Mth.sz u) u _ h0 hb.1 (Mth.sz_spec u h1) hb.2.1 hb.2.2).symm
    have ht : (Mth.be (Mth.sz u) u ++ rest).take (Mth.sz u) = Mth.be (Mth.sz u) u := by
      rw [List.take_append_of_le_length (by rw [hl]; exact Nat.le_refl _), List.take_of_length_le (by rw [hl]; exact Nat.le_refl _)]
    have hdr : (Mth.be (Mth.sz u) u ++ rest).drop (Mth.sz u) = rest := by
      have := List.drop_left (l₁ := Mth.be (Mth.sz u) u) (l₂ := rest)
      rwa [hl] at this
    rw [if_neg (by omega), hk, if_neg (by rw [List.length_append, hl]; omega), ht, hdr, hv, if_neg (by omega)]

theorem numD_form (u : Int) (rest : List Int) (h0 : 0 ≤ u) (h1 : u ≤ 9223372036854775807) : numD (Mth.form u ++ rest) = .ok (u, rest) := by
  unfold numD
  rw [formD_form u rest h0 (by omega)]
  dsimp only
  rw [if_pos h1]
theorem str_list (xs : List Int) : (str xs).toList = xs.map fun n => UInt8.ofNat n.toNat := by
  rw [ByteArray.toList_eq]
  unfold str
  rw [fold_data]
  rfl
theorem str_eq (xs ys : List Int) (hx : ∀ x ∈ xs, 0 ≤ x ∧ x ≤ 255) (hy : ∀ x ∈ ys, 0 ≤ x ∧ x ≤ 255) : ((str xs).toList == (str ys).toList) = decide (xs = ys) := by
  rw [Bool.eq_iff_iff, beq_iff_eq, decide_eq_true_iff]
  constructor
  · intro h
    have e1 := str_nums xs hx
    have e2 := str_nums ys hy
    have h' : (str xs).data.toList = (str ys).data.toList := by rw [ByteArray.toList_eq, ByteArray.toList_eq] at h; exact h
    rw [← e1, ← e2]
    unfold nums
    rw [h']
  · intro h; rw [h]

theorem str_append (xs ys : List Int) : str (xs ++ ys) = str xs ++ str ys := by
  have h : (str (xs ++ ys)).data.toList = (str xs ++ str ys).data.toList := by
    have e : ∀ l, (str l).data.toList = l.map fun n => UInt8.ofNat n.toNat := fun l => by
      rw [← ByteArray.toList_eq]
      exact str_list l
    rw [e, ByteArray.data_append, Array.toList_append, e, e, List.map_append]
  apply ByteArray.ext
  exact Array.toList_inj.1 h
theorem unfold_fold (a : Int) (h0 : -9223372036854775808 ≤ a) (h1 : a < 9223372036854775808) : unfoldI (fold a) = a := by
  unfold unfoldI fold
  split <;> split <;> omega
theorem good_of {y : IN} (h : errI y = 0) : (0 ≤ y.op ∧ y.op < 46) ∧ mayP (kOf y.op) y.a = true := by
  unfold errI at h
  split at h
  · rename_i hr
    split at h
    · rename_i hm
      exact ⟨of_decide_eq_true hr, hm⟩
    · cases h
  · cases h
theorem readK_put {m : Nat} {a : Int} (rest : List Int) (h0 : -9223372036854775808 ≤ a) (h1 : a < 9223372036854775808) (hm : mayP m a = true) : readK m (opB m a ++ rest) = .ok (a, rest) := by
  rcases (show m = 0 ∨ m = 1 ∨ 2 ≤ m by omega) with rfl | rfl | h2
  · have : a = 0 := by simpa [mayP] using hm
    subst this
    rfl
  · show intD (Mth.form (fold a) ++ rest) = _
    unfold intD
    rw [formD_form _ _ (fold_le a h0 h1).1 (fold_le a h0 h1).2]
    dsimp only
    rw [unfold_fold a h0 h1]
  · rw [readK_ge h2, opB_ge h2]
    rw [may_ge h2, Bool.and_eq_true, decide_eq_true_iff] at hm
    exact numD_form a rest hm.1 (by omega)
theorem oneDI_put {y : IN} (rest : List Int) (hy : y.Ok) (h : errI y = 0) : oneDI (putI y ++ rest) = .ok (y, rest) := by
  obtain ⟨hr, hm⟩ := good_of h
  unfold oneDI putI
  rw [List.append_assoc, numD_form y.op _ hr.1 (by omega)]
  dsimp only
  rw [if_pos (row_yes hr), readK_put rest hy.2.1 hy.2.2 hm]
  dsimp only
  rw [if_pos hm]
theorem putI_pos (y : IN) : 1 ≤ (putI y).length := by
  have := form_pos y.op
  simp only [putI, List.length_append]
  omega
theorem allD_enc : ∀ (n : Nat) (ys : List IN), ys.length ≤ n → (∀ y ∈ ys, y.Ok) → (∀ y ∈ ys, errI y = 0) → allD n (encB ys) = .ok ys
  | n, [], _, _, _ => allD_end n rfl
  | 0, y :: ys, h, _, _ => by simp at h
  | n + 1, y :: ys, h, hy, he => by
    have e : encB (y :: ys) = putI y ++ encB ys := rfl
    rw [allD_succ, e, if_neg (by rw [List.length_append]; have := putI_pos y; omega), oneDI_put _ (hy y (by simp)) (he y (by simp))]
    dsimp only
    rw [allD_enc n ys (by simpa using h) (fun z hz => hy z (by simp [hz])) (fun z hz => he z (by simp [hz]))]
theorem putI_ten {y : IN} (hy : y.Ok) (h : errI y = 0) : (putI y).length ≤ 10 := by
  obtain ⟨hr, hm⟩ := good_of h
  have h1 : (Mth.form y.op).length = 1 := by unfold Mth.form; rw [if_pos (by omega)]; rfl
  have h2 := opB_len (kOf y.op) y.a hy.2.1 hy.2.2
  simp only [putI, List.length_append]
  omega
theorem encB_ten : ∀ (ys : List IN), (∀ y ∈ ys, y.Ok) → (∀ y ∈ ys, errI y = 0) → (encB ys).length ≤ 10 * ys.length
  | [], _, _ => by simp [encB]
  | y :: ys, h, he => by
    have h1 := putI_ten (h y (by simp)) (he y (by simp))
    have h2 := encB_ten ys (fun z hz => h z (by simp [hz])) (fun z hz => he z (by simp [hz]))
    have e : encB (y :: ys) = putI y ++ encB ys := rfl
    rw [e, List.length_append, List.length_cons]
    omega
theorem form_byte (u : Int) (h0 : 0 ≤ u) (h1 : u < 18446744073709551616) : ∀ x ∈ Mth.form u, 0 ≤ x ∧ x ≤ 255 := by
  intro x hx
  unfold Mth.form at hx
  split at hx
  · simp at hx; omega
  · rcases List.mem_cons.1 hx with rfl | hx
    · have := Mth.sz_le u; omega
    · exact Mth.be_byte _ _ x hx
theorem encB_byte : ∀ (ys : List IN), (∀ y ∈ ys, y.Ok) → (∀ y ∈ ys, errI y = 0) → ∀ x ∈ encB ys, 0 ≤ x ∧ x ≤ 255
  | [], _, _, x, hx => by simp [encB] at hx
  | y :: ys, h, he, x, hx => by
    have e : encB (y :: ys) = putI y ++ encB ys := rfl
    rw [e] at hx
    obtain ⟨hr, hm⟩ := good_of (he y (by simp))
    have hy := h y (by simp)
    rcases List.mem_append.1 hx with hx | hx
    · rcases List.mem_append.1 hx with hx | hx
      · exact form_byte _ hr.1 (by omega) x hx
      · generalize kOf y.op = m at *
        rcases (show m = 0 ∨ m = 1 ∨ 2 ≤ m by omega) with rfl | rfl | h2
        · simp [opB] at hx
        · exact form_byte _ (fold_le y.a hy.2.1 hy.2.2).1 (fold_le y.a hy.2.1 hy.2.2).2 x hx
        · rw [opB_ge h2] at hx
          rw [may_ge h2, Bool.and_eq_true, decide_eq_true_iff] at hm
          have := hy.2.2
          exact form_byte _ hm.1 (by omega) x hx
    · exact encB_byte ys (fun z hz => h z (by simp [hz])) (fun z hz => he z (by simp [hz])) x hx
theorem encE_zero {ys : List IN} (h : encE ys = 0) : ys.length ≤ 4096 ∧ ∀ y ∈ ys, errI y = 0 := by
  unfold encE at h
  split at h
  · cases h
  · exact ⟨by omega, (firstBad_zero ys).1 h⟩
theorem right_bytes {ys : List IN} (hy : ∀ y ∈ ys, y.Ok) (h : encE ys = 0) : BytesOk (encB ys) ∧ (encB ys).length ≤ 40960 := by
  obtain ⟨h1, h2⟩ := encE_zero h
  have := encB_ten ys hy h2
  exact ⟨⟨encB_byte ys hy h2, by omega⟩, by omega⟩
theorem right_dec {ys : List IN} (hy : ∀ y ∈ ys, y.Ok) (h : encE ys = 0) : decD (encB ys) = .ok ys := by
  obtain ⟨h1, h2⟩ := encE_zero h
  have h3 := (right_bytes hy h).2
  unfold decD
  rw [if_neg (by omega), allD_enc 4096 ys h1 hy h2]
theorem right_same {ys zs : List IN} (hy : ∀ y ∈ ys, y.Ok) (hz : ∀ z ∈ zs, z.Ok) (h : encE ys = 0) (h' : encE zs = 0) : ((str (encB ys)).toList == (str (encB zs)).toList) = sameI ys zs := by
  rw [str_eq _ _ (right_bytes hy h).1.1 (right_bytes hz h').1.1]
  by_cases e : encB ys = encB zs
  · have h1 := right_dec hy h
    rw [e, right_dec hz h'] at h1
    cases h1
    rw [sameI_refl, decide_eq_true rfl]
  · rw [decide_eq_false e]
    cases hs : sameI ys zs with
    | false => rfl
    | true => exact absurd (by rw [sameI_eq hs]) e
theorem right_both {ys zs : List IN} (h : encE ys = 0) (h' : encE zs = 0) (hl : (ys ++ zs).length ≤ 4096) : encE (ys ++ zs) = 0 ∧ encB (ys ++ zs) = encB ys ++ encB zs := by
  refine ⟨?_, by simp [encB]⟩
  unfold encE
  rw [if_neg (by omega), firstBad_zero]
  intro y hy
  rcases List.mem_append.1 hy with hy | hy
  · exact (encE_zero h).2 y hy
  · exact (encE_zero h').2 y hy
theorem formD_split {xs rest : List Int} {u : Int} (hb : ∀ x ∈ xs, 0 ≤ x ∧ x ≤ 255) (h : formD xs = .ok (u, rest)) : xs = Mth.form u ++ rest ∧ 0 ≤ u ∧ u < 18446744073709551616 := by
  rcases formD_cases xs hb with ⟨u', r', h', he, h0, h1⟩ | h' | h'
  · rw [h'] at h
    cases h
    exact ⟨he, h0, h1⟩
  · rw [h'.1] at h; cases h
  · rw [h'.1] at h; cases h
theorem readK_split {m : Nat} {xs rest : List Int} {a : Int} (hb : BytesOk xs) (h : readK m xs = .ok (a, rest)) : xs = opB m a ++ rest := by
  rcases (show m = 0 ∨ m = 1 ∨ 2 ≤ m by omega) with rfl | rfl | h2
  · cases h; rfl
  · have h3 : intD xs = .ok (a, rest) := h
    unfold intD at h3
    cases h1 : formD xs with
    | error e => rw [h1] at h3; cases h3
    | ok p =>
      obtain ⟨u, r⟩ := p
      rw [h1] at h3
      cases h3
      obtain ⟨e, h0, h1⟩ := formD_split hb.1 h1
      show xs = Mth.form (fold (unfoldI u)) ++ _
      rw [(fold_unfold u h0 h1).2.2]
      exact e
  · rw [readK_ge h2] at h
    rw [opB_ge h2]
    exact (numD_split hb.1 h).1
theorem oneDI_split {xs rest : List Int} {y : IN} (hb : BytesOk xs) (h : oneDI xs = .ok (y, rest)) : xs = putI y ++ rest ∧ errI y = 0 := by
  unfold oneDI at h
  cases h1 : numD xs with
  | error e => rw [h1] at h; cases h
  | ok p =>
    obtain ⟨op, r1⟩ := p
    rw [h1] at h
    dsimp only at h
    split at h
    · rename_i hr
      cases h2 : readK (kOf op) r1 with
      | error e => rw [h2] at h; cases h
      | ok p =>
        obtain ⟨a, r2⟩ := p
        rw [h2] at h
        dsimp only at h
        split at h
        · rename_i hm
          cases h
          refine ⟨?_, ?_⟩
          · rw [(numD_split hb.1 h1).1, readK_split (numD_rest hb h1) h2, putI, List.append_assoc]
          · unfold errI
            rw [if_pos hr, if_pos hm]
        · cases h
    · cases h
theorem allD_split : ∀ (n : Nat) {xs : List Int} {ys : List IN}, BytesOk xs → allD n xs = .ok ys → encB ys = xs ∧ ∀ y ∈ ys, errI y = 0
  | 0, xs, ys, hb, h => by
    unfold allD at h
    split at h
    · cases h
      rename_i h0
      exact ⟨(List.length_eq_zero_iff.1 h0).symm, fun y hy => by simp at hy⟩
    · cases h
  | n + 1, xs, ys, hb, h => by
    rw [allD_succ] at h
    split at h
    · cases h
      rename_i h0
      exact ⟨(List.length_eq_zero_iff.1 h0).symm, fun y hy => by simp at hy⟩
    · cases h1 : oneDI xs with
      | error e => rw [h1] at h; cases h
      | ok p =>
        obtain ⟨y, r⟩ := p
        rw [h1] at h
        dsimp only at h
        cases h2 : allD n r with
        | error e => rw [h2] at h; cases h
        | ok zs =>
          rw [h2] at h
          cases h
          obtain ⟨e1, e2⟩ := oneDI_split hb h1
          obtain ⟨f1, f2⟩ := allD_split n (oneDI_rest hb h1) h2
          refine ⟨?_, fun z hz => ?_⟩
          · rw [e1, ← f1]; rfl
          · rcases List.mem_cons.1 hz with rfl | hz
            · exact e2
            · exact f2 z hz
theorem back_enc {xs : List Int} {ys : List IN} (hb : BytesOk xs) (h : decD xs = .ok ys) : encE ys = 0 ∧ encB ys = xs := by
  have hl := decD_len h
  unfold decD at h
  split at h
  · cases h
  · obtain ⟨h1, h2⟩ := allD_split 4096 hb h
    refine ⟨?_, h1⟩
    unfold encE
    rw [if_neg (by omega), (firstBad_zero ys).2 h2]
end Go.Proofs.Ytnjhnlohjhdcpab
