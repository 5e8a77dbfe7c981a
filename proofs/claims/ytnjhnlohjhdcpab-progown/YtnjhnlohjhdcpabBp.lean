/-
  Programs and bytes, there and back (pure).
-/
import Derived.Test.YtnjhnlohjhdcpabSef
import Derived.Test.YtnjhnlohjhdcpabQf
import Derived.Test.YtnjhnlohjhdcpabQs
namespace Go.Proofs.Ytnjhnlohjhdcpab
open Go.RowKit
set_option linter.unusedVariables false
set_option linter.unusedSimpArgs false

theorem bytesD_split {xs bs rest : List Int} (hb : BytesOk xs) (h : bytesD xs = .ok (bs, rest)) : xs = (Mth.form bs.length ++ bs) ++ rest := by
  unfold bytesD at h
  cases h1 : numD xs with
  | error f => rw [h1] at h; cases h
  | ok q =>
    obtain ⟨u, r⟩ := q
    rw [h1] at h
    dsimp only at h
    obtain ⟨e1, h0⟩ := numD_split hb.1 h1
    unfold rawD at h
    split at h
    · cases h
    · split at h
      · cases h
      · rename_i hu hl
        cases h
        obtain ⟨n, rfl⟩ := Int.eq_ofNat_of_zero_le (by omega : 0 ≤ u)
        have hn : (List.take (n : Int).toNat r).length = n := by rw [List.length_take]; simp; omega
        rw [hn, List.append_assoc, List.take_append_drop]
        exact e1
theorem fnD_split {xs rest : List Int} {F : FN} (hb : BytesOk xs) (h : fnD xs = .ok (F, rest)) : xs = fnB F ++ rest ∧ encE F.code = 0 := by
  unfold fnD at h
  cases h1 : numD xs with
  | error f => rw [h1] at h; cases h
  | ok q1 =>
    obtain ⟨a, r1⟩ := q1
    rw [h1] at h
    dsimp only at h
    have b1 := numD_rest hb h1
    cases h2 : numD r1 with
    | error f => rw [h2] at h; cases h
    | ok q2 =>
      obtain ⟨l, r2⟩ := q2
      rw [h2] at h
      dsimp only at h
      have b2 := numD_rest b1 h2
      cases h3 : numD r2 with
      | error f => rw [h3] at h; cases h
      | ok q3 =>
        obtain ⟨r, r3⟩ := q3
        rw [h3] at h
        dsimp only at h
        have b3 := numD_rest b2 h3
        cases h4 : bytesD r3 with
        | error f => rw [h4] at h; cases h
        | ok q4 =>
          obtain ⟨bs, r4⟩ := q4
          rw [h4] at h
          dsimp only at h
          cases h5 : decD bs with
          | error f => rw [h5] at h; cases h
          | ok ys =>
            rw [h5] at h
            cases h
            obtain ⟨e1, e2⟩ := back_enc (bytesD_ok b3 h4).1 h5
            refine ⟨?_, e1⟩
            rw [(numD_split hb.1 h1).1, (numD_split b1.1 h2).1, (numD_split b2.1 h3).1, bytesD_split b3 h4]
            simp only [fnB, e2, List.append_assoc]
theorem fnsD_split : ∀ (n : Nat) {xs rest : List Int} {fs : List FN}, BytesOk xs → fnsD n xs = .ok (fs, rest) → xs = fs.flatMap fnB ++ rest ∧ fs.length = n
  | 0, xs, rest, fs, hb, h => by
    cases h
    simp
  | n + 1, xs, rest, fs, hb, h => by
    rw [fnsD] at h
    cases h1 : fnD xs with
    | error e => rw [h1] at h; cases h
    | ok q =>
      obtain ⟨F, r⟩ := q
      rw [h1] at h
      dsimp only at h
      have hr : BytesOk r := by
        have := (fnD_split hb h1).1
        refine ⟨fun x hx => hb.1 x (by rw [this]; exact List.mem_append_right _ hx), ?_⟩
        have h2 := hb.2
        rw [this, List.length_append] at h2
        omega
      cases h2 : fnsD n r with
      | error e => rw [h2] at h; cases h
      | ok q2 =>
        obtain ⟨gs, r'⟩ := q2
        rw [h2] at h
        cases h
        obtain ⟨e1, e2⟩ := fnsD_split n hr h2
        refine ⟨?_, by rw [List.length_cons, e2]⟩
        rw [(fnD_split hb h1).1, e1, List.flatMap_cons, List.append_assoc]
theorem progD_split {xs rest : List Int} {p : PG} (hb : BytesOk xs) (h : progD xs = .ok (p, rest)) : xs = bytesP p ++ rest := by
  unfold progD at h
  cases h1 : numD xs with
  | error e => rw [h1] at h; cases h
  | ok q1 =>
    obtain ⟨t, r0⟩ := q1
    rw [h1] at h
    dsimp only at h
    have b0 := numD_rest hb h1
    split at h
    · rename_i ht
      subst ht
      cases h2 : numD r0 with
      | error e => rw [h2] at h; cases h
      | ok q2 =>
        obtain ⟨m, r1⟩ := q2
        rw [h2] at h
        dsimp only at h
        have b1 := numD_rest b0 h2
        cases h3 : bytesD r1 with
        | error e => rw [h3] at h; cases h
        | ok q3 =>
          obtain ⟨d, r2⟩ := q3
          rw [h3] at h
          dsimp only at h
          have b2 := (bytesD_ok b1 h3).2
          cases h4 : numD r2 with
          | error e => rw [h4] at h; cases h
          | ok q4 =>
            obtain ⟨n, r3⟩ := q4
            rw [h4] at h
            dsimp only at h
            split at h
            · cases h
            · cases h5 : fnsD n.toNat r3 with
              | error e => rw [h5] at h; cases h
              | ok q5 =>
                obtain ⟨fs, r4⟩ := q5
                rw [h5] at h
                cases h
                obtain ⟨e4, hn0, _⟩ := numD_split b2.1 h4
                obtain ⟨e5, e6⟩ := fnsD_split _ (numD_rest b2 h4) h5
                have hnn : ((fs.length : Nat) : Int) = n := by rw [e6]; omega
                rw [(numD_split hb.1 h1).1, (numD_split b0.1 h2).1, bytesD_split b1 h3, e4, e5]
                simp only [bytesP, headB, hnn, List.append_assoc]
    · cases h
theorem decPD_split {xs : List Int} {p : PG} (hb : BytesOk xs) (h : decPD xs = .ok p) : bytesP p = xs ∧ checkP p = 0 ∧ xs.length ≤ 1048576 := by
  unfold decPD at h
  split at h
  · cases h
  · rename_i hl
    cases h1 : progD xs with
    | error e => rw [h1] at h; cases h
    | ok q =>
      obtain ⟨P, rest⟩ := q
      rw [h1] at h
      dsimp only at h
      split at h
      · rename_i h0
        split at h
        · rename_i hc
          cases h
          have e := progD_split hb h1
          rw [List.length_eq_zero_iff.1 h0, List.append_nil] at e
          exact ⟨e.symm, hc, by omega⟩
        · cases h
      · cases h
theorem decPD_enc {xs : List Int} {p : PG} (hb : BytesOk xs) (h : decPD xs = .ok p) : encPE p = 0 ∧ bytesP p = xs ∧ checkP p = 0 := by
  obtain ⟨h1, h2, h3⟩ := decPD_split hb h
  refine ⟨?_, h1, h2⟩
  unfold encPE
  rw [if_pos h2, h1, if_neg (by omega)]
theorem bytesD_put (bs rest : List Int) (hl : bs.length ≤ 9223372036854775807) : bytesD ((Mth.form bs.length ++ bs) ++ rest) = .ok (bs, rest) := by
  unfold bytesD
  rw [List.append_assoc, numD_form (bs.length : Int) (bs ++ rest) (by omega) (by omega)]
  dsimp only
  unfold rawD
  rw [if_neg (by omega), if_neg (by rw [List.length_append]; omega)]
  simp
theorem fnD_put {F : FN} (rest : List Int) (ha : 0 ≤ F.a ∧ F.a ≤ 16) (hl : 0 ≤ F.l ∧ F.l ≤ 64) (hr : 0 ≤ F.r ∧ F.r ≤ 1) (hc : ∀ y ∈ F.code, y.Ok) (he : encE F.code = 0) : fnD (fnB F ++ rest) = .ok (F, rest) := by
  have hb := right_bytes hc he
  unfold fnD
  rw [show fnB F ++ rest = Mth.form F.a ++ (Mth.form F.l ++ (Mth.form F.r ++ ((Mth.form (encB F.code).length ++ encB F.code) ++ rest))) by simp only [fnB, List.append_assoc]]
  rw [numD_form _ _ ha.1 (by omega)]
  dsimp only
  rw [numD_form _ _ hl.1 (by omega)]
  dsimp only
  rw [numD_form _ _ hr.1 (by omega)]
  dsimp only
  rw [bytesD_put _ _ (by omega)]
  dsimp only
  rw [right_dec hc he]
theorem fnsD_put : ∀ (fs : List FN) (rest : List Int), (∀ f ∈ fs, ((0 ≤ f.a ∧ f.a ≤ 16) ∧ (0 ≤ f.l ∧ f.l ≤ 64) ∧ (0 ≤ f.r ∧ f.r ≤ 1)) ∧ encE f.code = 0) → (∀ f ∈ fs, f.Ok) → fnsD fs.length (fs.flatMap fnB ++ rest) = .ok (fs, rest)
  | [], rest, _, _ => rfl
  | F :: fs, rest, h, ho => by
    obtain ⟨⟨h1, h2, h3⟩, h4⟩ := h F (by simp)
    rw [List.length_cons, fnsD, List.flatMap_cons, List.append_assoc, fnD_put _ h1 h2 h3 (ho F (by simp)).code h4]
    dsimp only
    rw [fnsD_put fs rest (fun f hf => h f (by simp [hf])) (fun f hf => ho f (by simp [hf]))]
theorem progD_put {p : PG} (rest : List Int) (ho : p.Ok) (h : checkP p = 0) : progD (bytesP p ++ rest) = .ok (p, rest) := by
  obtain ⟨hm, hd, hf1, hf2, hfs⟩ := checkP_zero h
  unfold progD
  rw [show bytesP p ++ rest = Mth.form 2 ++ (Mth.form p.mem ++ ((Mth.form p.data.length ++ p.data) ++ (Mth.form p.fns.length ++ (p.fns.flatMap fnB ++ rest)))) by simp only [bytesP, headB, List.append_assoc]]
  rw [numD_form 2 _ (by omega) (by omega)]
  dsimp only
  rw [if_pos rfl, numD_form _ _ hm.1 (by omega)]
  dsimp only
  rw [bytesD_put _ _ (by omega)]
  dsimp only
  rw [numD_form (p.fns.length : Int) _ (by omega) (by omega)]
  dsimp only
  rw [if_neg (by omega), Int.toNat_natCast, fnsD_put _ _ hfs ho.fns]
theorem encPE_zero {p : PG} (h : encPE p = 0) : checkP p = 0 ∧ (bytesP p).length ≤ 1048576 := by
  unfold encPE at h
  split at h
  · rename_i hc
    split at h
    · cases h
    · exact ⟨hc, by omega⟩
  · rename_i hc; exact absurd h hc
theorem right_decP {p : PG} (ho : p.Ok) (h : encPE p = 0) : decPD (bytesP p) = .ok p := by
  obtain ⟨h1, h2⟩ := encPE_zero h
  have h3 := progD_put [] ho h1
  rw [List.append_nil] at h3
  unfold decPD
  rw [if_neg (by omega), h3]
  dsimp only
  rw [if_pos (show ([] : List Int).length = 0 from rfl), if_pos h1]
theorem bytesP_ok {p : PG} (ho : p.Ok) (h : checkP p = 0) (hl : (bytesP p).length ≤ 140737488351232) : BytesOk (bytesP p) := by
  obtain ⟨hm, hd, hf1, hf2, hfs⟩ := checkP_zero h
  refine ⟨fun x hx => ?_, hl⟩
  simp only [bytesP, headB, List.mem_append] at hx
  rcases hx with (((hx | hx) | (hx | hx)) | hx) | hx
  · exact form_byte 2 (by omega) (by omega) x hx
  · exact form_byte _ hm.1 (by omega) x hx
  · exact form_byte _ (by omega) (by omega) x hx
  · exact ho.data.1 x hx
  · exact form_byte _ (by omega) (by omega) x hx
  · obtain ⟨F, hF, hx⟩ := List.mem_flatMap.1 hx
    obtain ⟨⟨r1, r2, r3⟩, r4⟩ := hfs F hF
    have hb := right_bytes (ho.fns F hF).code r4
    simp only [fnB, List.mem_append] at hx
    rcases hx with ((hx | hx) | hx) | (hx | hx)
    · exact form_byte _ r1.1 (by omega) x hx
    · exact form_byte _ r2.1 (by omega) x hx
    · exact form_byte _ r3.1 (by omega) x hx
    · exact form_byte _ (by omega) (by omega) x hx
    · exact hb.1.1 x hx
theorem sameFs_eq : ∀ {fs gs : List FN}, sameFs fs gs = true → fs = gs
  | [], [], _ => rfl
  | [], _ :: _, h => by cases h
  | _ :: _, [], h => by cases h
  | f :: fs, g :: gs, h => by
    rw [sameFs, Bool.and_eq_true] at h
    obtain ⟨h1, h2⟩ := h
    rw [sameFs_eq h2]
    unfold sameF at h1
    simp only [Bool.and_eq_true, beq_iff_eq] at h1
    obtain ⟨a1, a2, a3, a4⟩ := h1
    obtain ⟨fa, fl, fr, fc⟩ := f
    obtain ⟨ga, gl, gr, gc⟩ := g
    dsimp only at a1 a2 a3 a4
    rw [a1, a2, a3, sameI_eq a4]
theorem sameP_eq {p q : PG} (hp : p.Ok) (hq : q.Ok) (h : sameP p q = true) : p = q := by
  unfold sameP at h
  rw [str_eq _ _ hp.data.1 hq.data.1] at h
  simp only [Bool.and_eq_true, beq_iff_eq, decide_eq_true_eq] at h
  obtain ⟨h1, h2, h3⟩ := h
  obtain ⟨pm, pd, pf⟩ := p
  obtain ⟨qm, qd, qf⟩ := q
  dsimp only at h1 h2 h3
  rw [h1, h2, sameFs_eq h3]
theorem right_sameP {p q : PG} (hp : p.Ok) (hq : q.Ok) (h : encPE p = 0) (h' : encPE q = 0) : ((str (bytesP p)).toList == (str (bytesP q)).toList) = sameP p q := by
  have k := encPE_zero h
  have k' := encPE_zero h'
  rw [str_eq _ _ (bytesP_ok hp k.1 (by omega)).1 (bytesP_ok hq k'.1 (by omega)).1]
  by_cases e : bytesP p = bytesP q
  · have h1 := right_decP hp h
    rw [e, right_decP hq h'] at h1
    cases h1
    rw [sameP_refl, decide_eq_true rfl]
  · rw [decide_eq_false e]
    cases hs : sameP p q with
    | false => rfl
    | true => exact absurd (by rw [sameP_eq hp hq hs]) e
end Go.Proofs.Ytnjhnlohjhdcpab
