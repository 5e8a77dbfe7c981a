/-
  The law of one file: its state; it is read in two pieces.
-/
import Derived.Test.YtmkfjdfpcjkmnaaVt
namespace Go.Proofs.Ytmkfjdfpcjkmnaa
open Go.RowKit
set_option linter.unusedVariables false
set_option linter.unusedSimpArgs false
set_option maxRecDepth 100000

/-- The state of one file x with these bytes, handles of it at these places in these modes. -/
structure KSt (σ : FSt) (xs : List Int) (hd : List (Nat × Int)) : Prop where
  q : σ.qb = 100000 ∧ σ.qf = 5 ∧ σ.qo = 60
  ub : σ.ub = xs.length
  uo : σ.uo = hd.length
  f : ∃ dv, look σ.fs pX = some ⟨pX, pX, dv, xs⟩
  h : ∀ (j : Nat) (x : Nat × Int), hd[j]? = some x → look σ.hs (j : Int) = some ⟨pX, x.1, x.2⟩
  hn : ∀ j : Nat, hd.length ≤ j → look σ.hs (j : Int) = none
  ln : xs.length ≤ 100000 ∧ hd.length ≤ 20
theorem KSt.some {σ : FSt} {xs : List Int} {hd : List (Nat × Int)} (K : KSt σ xs hd) (j : Nat) (hj : j < hd.length) : (look σ.hs (j : Int)).isSome = true := by
  rw [K.h j _ (List.getElem?_eq_getElem hj)]
  rfl
theorem own_same {σ σ' : FSt} {s : Nat} (h1 : σ'.fm = σ.fm) (h2 : σ'.dm = σ.dm) (h3 : σ'.hm = σ.hm) (h4 : σ'.fs = σ.fs) (h5 : σ'.ds = σ.ds) (k : Nat) : σ'.own s k ↔ σ.own s k := by
  unfold FSt.own
  rw [h1, h2, h3, h4, h5]
theorem hs_back {σ : FSt} (k : Int) (a a' a2 a3 : Ha) (b b' b2 b3 : Nat) (hn : look σ.hs k = none) : drops (lays (lays (lays (lays σ.hs k a b) k a' b') k a2 b2) k a3 b3) k = σ.hs := by
  obtain ⟨c1, h1⟩ := lays_lays σ.hs k a a' b b'
  rw [h1]
  obtain ⟨c2, h2⟩ := lays_lays σ.hs k a' a2 c1 b2
  rw [h2]
  obtain ⟨c3, h3⟩ := lays_lays σ.hs k a2 a3 c2 b3
  rw [h3]
  exact drops_lays _ _ _ _ hn
theorem str_size (xs : List Int) : (str xs).size = xs.length := by
  rw [← ByteArray.size_data, ← Array.length_toList, str_data, List.length_map]
def ReadsR (w : World) (s : Nat) (σ : FSt) (e : Ending) (w' : World) : Prop := e = .returned (.bool true) ∧ Fs w' s σ ∧ Kept (fun k => σ.own s k) w w'
set_option maxHeartbeats 3000000 in
theorem reads_ok (HR : HighRunes) {w : World} {s : Nat} {σ : FSt} {xs : List Int} {hd : List (Nat × Int)} (H : Fs w s σ) (K : KSt σ xs hd) (wv : Value) (ho : w.ownsRow 0 5 1 wv xs.length (ints xs)) (hap : ∀ g, wv.ownBlock = some g → ¬ σ.own s g) :
    Calls Try.prog 17 #[.pointer (some ⟨s, 0, none⟩), wv] w fun e w' => ReadsR w s σ e w' := by
  obtain ⟨dv, hf⟩ := K.f
  obtain ⟨n, hn⟩ : ∃ n, n = hd.length := ⟨_, rfl⟩
  have hnn : look σ.hs (n : Int) = none := K.hn n (by omega)
  have hl := K.ln
  have HOP := hid_of (open_there HR H ⟨#[120]⟩ pX clean_x 0 0 ⟨by omega, by omega, by omega⟩ (by decide) (fun W hW => mayopen_there HR (H.same hW) pX (by decide) (by rw [hf]; rfl) 0) (by rw [K.uo, K.q.2.2]; omega) (by rw [K.uo]; omega) (by rw [K.uo]; omega) ⟨pX, pX, dv, xs⟩ (by rw [hf]; rfl) hf (by decide) n (by omega) hnn (fun j hj => K.some j (by omega)))
  obtain ⟨k1, hk1⟩ : ∃ k, k = xs.length / 2 := ⟨_, rfl⟩
  have hkl : k1 ≤ xs.length := by omega
  have HF := hid_of H
  have HO := hid_of ho
  have HAP := hid_of hap
  have HFF := hid_of hf
  have HNN := hid_of hnn
  have HUO := hid_of K.uo
  obtain ⟨wo, wc, hwv⟩ := row_slice ho
  subst hwv
  have hqt : (xs.length : Int).tdiv 2 = (k1 : Int) := by rw [hk1, Int.tdiv_eq_ediv_of_nonneg (by omega)]; omega
  have wrq : IntKind.i64.wrap ((k1 : Nat) : Int) = k1 := by rw [IntKind.wrap_i64]; omega
  have hn20 : n ≤ 20 := by omega
  have HUOn : Hid (σ.uo = (n : Int)) := by
    show _ = _
    rw [hn]
    exact K.uo
  clear H K ho hap hf hnn hk1 hn HUO
  go_enter Try.func17, Try.ntmps17
  go_wp2_with fail
  refine HOP.out.mono ?_
  rintro e w1 ⟨rfl, σ1, ⟨σ0, rfl, b1, rfl⟩, hF1, hg1, hkp1⟩
  have hlk : look (withH σ0 n pX 0 b1).hs (n : Int) = some ⟨pX, 0, 0⟩ := by
    show look (lays σ0.hs (n : Int) ⟨pX, 0, 0⟩ b1) (n : Int) = _
    rw [look_lays, if_pos rfl]
  have HR1 := hid_of (read_any hF1 (n : Int) (k1 : Int) ⟨pX, 0, 0⟩ hlk rfl (by omega) ⟨pX, pX, dv, xs⟩ HFF.out 0 k1 rfl (by omega) (by unfold readN; show min (k1 : Int) (max ((xs.length : Int) - 0) 0) = _; omega))
  have HF1 := hid_of hF1
  have HK1 := hid_of hkp1
  clear hF1 hg1 hkp1 HOP
  go_wp2_with fail
  refine HR1.out.mono ?_
  rintro e w2 ⟨v1, b2, rfl, hv1, hF2, hkp2⟩
  obtain ⟨σ2, hσ2⟩ : ∃ x : FSt, x = { withH σ0 n pX 0 b1 with hs := lays (withH σ0 n pX 0 b1).hs (n : Int) ⟨pX, ((0 : Nat) : Int) + (k1 : Int), 0⟩ b2 } := ⟨_, rfl⟩
  rw [← hσ2] at hF2
  have hlk2 : look σ2.hs (n : Int) = some ⟨pX, k1, 0⟩ := by
    rw [hσ2]
    show look (lays _ (n : Int) _ b2) (n : Int) = _
    rw [look_lays, if_pos rfl]
    simp
  have hfs2 : look σ2.fs pX = some ⟨pX, pX, dv, xs⟩ := by rw [hσ2]; exact HFF.out
  have HR2 := hid_of (read_any hF2 (n : Int) 1099511627776 ⟨pX, k1, 0⟩ hlk2 rfl (by omega) ⟨pX, pX, dv, xs⟩ hfs2 k1 (xs.length - k1) rfl (by omega) (by unfold readN; show min (1099511627776 : Int) (max ((xs.length : Int) - (k1 : Int)) 0) = _; omega))
  have ho2 : ∀ q, σ2.own s q ↔ σ0.own s q := own_same (by rw [hσ2]; rfl) (by rw [hσ2]; rfl) (by rw [hσ2]; rfl) (by rw [hσ2]; rfl) (by rw [hσ2]; rfl)
  have hlt1 : ∀ q, σ0.own s q → q < w.heap.size := fun q hq => HF.out.lt hq
  obtain ⟨o1, c1, hv1e⟩ := row_slice hv1
  subst hv1e
  have HV1 := hid_of hv1
  have HK2 := hid_of hkp2
  have HF2 := hid_of hF2
  have HS2 := hid_of hσ2
  have HO2 := hid_of ho2
  have HLT := hid_of hlt1
  clear hv1 hF2 hkp2 hσ2 hlk2 hfs2 ho2 hlt1 hlk HR1
  go_wp2_with fail
  refine HR2.out.mono ?_
  rintro e w3 ⟨v2, b3, rfl, hv2, hF3, hkp3⟩
  obtain ⟨σ3, hσ3⟩ : ∃ x : FSt, x = { σ2 with hs := lays σ2.hs (n : Int) ⟨pX, (k1 : Int) + ((xs.length - k1 : Nat) : Int), 0⟩ b3 } := ⟨_, rfl⟩
  rw [← hσ3] at hF3
  have hlk3 : look σ3.hs (n : Int) = some ⟨pX, xs.length, 0⟩ := by
    rw [hσ3]
    show look (lays _ (n : Int) _ b3) (n : Int) = _
    rw [look_lays, if_pos rfl]
    congr 2
    omega
  have hfs3 : look σ3.fs pX = some ⟨pX, pX, dv, xs⟩ := by rw [hσ3, HS2.out]; exact HFF.out
  have HR3 := hid_of (read_any hF3 (n : Int) 1 ⟨pX, xs.length, 0⟩ hlk3 rfl (by omega) ⟨pX, pX, dv, xs⟩ hfs3 xs.length 0 rfl (by omega) (by unfold readN; show min (1 : Int) (max ((xs.length : Int) - (xs.length : Int)) 0) = _; omega))
  have ho3 : ∀ q, σ3.own s q ↔ σ0.own s q := fun q => (own_same (by rw [hσ3]) (by rw [hσ3]) (by rw [hσ3]) (by rw [hσ3]) (by rw [hσ3]) q).trans (HO2.out q)
  obtain ⟨o2, c2, hv2e⟩ := row_slice hv2
  subst hv2e
  have HV2 := hid_of hv2
  have HK3 := hid_of hkp3
  have HF3 := hid_of hF3
  have HS3 := hid_of hσ3
  have HO3 := hid_of ho3
  clear hv2 hF3 hkp3 hσ3 hlk3 hfs3 ho3 HR2
  go_wp2_with fail
  refine HR3.out.mono ?_
  rintro e w4 ⟨v3, b4, rfl, hv3, hF4, hkp4⟩
  obtain ⟨σ4, hσ4⟩ : ∃ x : FSt, x = { σ3 with hs := lays σ3.hs (n : Int) ⟨pX, (xs.length : Int) + ((0 : Nat) : Int), 0⟩ b4 } := ⟨_, rfl⟩
  rw [← hσ4] at hF4
  have hlk4 : (look σ4.hs (n : Int)) = some ⟨pX, (xs.length : Int) + ((0 : Nat) : Int), 0⟩ := by
    rw [hσ4]
    show look (lays _ (n : Int) _ b4) (n : Int) = _
    rw [look_lays, if_pos rfl]
  have huo4 : σ4.uo = σ0.uo + 1 := by rw [hσ4, HS3.out, HS2.out]; rfl
  have HC := hid_of (close_ok hF4 (n : Int) _ hlk4 (by rw [huo4, HUOn.out]; omega) (by rw [huo4, HUOn.out]; omega))
  have hend : ({ σ4 with hs := drops σ4.hs (n : Int), uo := σ4.uo - 1 } : FSt) = σ0 := by
    have e1 : drops σ4.hs (n : Int) = σ0.hs := by
      rw [hσ4, HS3.out, HS2.out]
      exact hs_back (σ := σ0) (n : Int) _ _ _ _ _ _ _ _ HNN.out
    rw [e1, huo4, hσ4, HS3.out, HS2.out]
    show FSt.mk _ _ _ _ _ (σ0.uo + 1 - 1) _ _ _ _ _ _ = _
    rw [Int.add_sub_cancel]
    rfl
  rw [hend] at HC
  have ho4 : ∀ q, σ4.own s q ↔ σ0.own s q := fun q => (own_same (by rw [hσ4]) (by rw [hσ4]) (by rw [hσ4]) (by rw [hσ4]) (by rw [hσ4]) q).trans (HO3.out q)
  obtain ⟨o3, c3, hv3e⟩ := row_slice hv3
  subst hv3e
  -- what was read, at the end
  have k12 : Kept (fun k => σ0.own s k) w1 w2 := HK2.out.mono (fun k _ e => (own_same rfl rfl rfl rfl rfl k).1 e)
  have k23 : Kept (fun k => σ0.own s k) w2 w3 := HK3.out.mono (fun k _ e => (HO2.out k).1 e)
  have k34 : Kept (fun k => σ0.own s k) w3 w4 := hkp4.mono (fun k _ e => (HO3.out k).1 e)
  have k04 : Kept (fun k => σ0.own s k) w w4 := ((HK1.out.trans k12).trans k23).trans k34
  have hs1 := HK1.out.size
  have hs2 := k12.size
  have hv1' := (k23.trans k34).ownsRow HV1.out (fun g hg e => by
    have := (HV1.out.lt g hg).1
    have := HLT.out g e
    omega)
  have hv2' := k34.ownsRow HV2.out (fun g hg e => by
    have := (HV2.out.lt g hg).1
    have := HLT.out g e
    omega)
  have hwv' := k04.ownsRow HO.out (fun g hg e => HAP.out g hg e)
  have hla : ((xs.drop 0).take k1).length = k1 := by rw [List.drop_zero, List.length_take]; omega
  have hlb : ((xs.drop k1).take (xs.length - k1)).length = xs.length - k1 := by rw [List.length_take, List.length_drop]; omega
  have hc1 := conv_row w4 w1.heap.size (.slice o1 k1 c1) ((xs.drop 0).take k1) (by rw [hla]; exact hv1')
  have hc2 := conv_row w4 w2.heap.size (.slice o2 (xs.length - k1) c2) ((xs.drop k1).take (xs.length - k1)) (by rw [hlb]; exact hv2')
  have hc3 := conv_row w4 0 (.slice wo xs.length wc) xs hwv'
  have hstr : ((str ((xs.drop 0).take k1)).toList ++ (str ((xs.drop k1).take (xs.length - k1))).toList) = (str xs).toList := by
    rw [str_app, List.drop_zero, List.take_of_length_le (l := xs.drop k1) (by rw [List.length_drop]; omega), List.take_append_drop]
  have hsz : (str ((xs.drop 0).take k1)).size + (str ((xs.drop k1).take (xs.length - k1))).size ≤ 9223372036854775807 := by
    rw [str_size, str_size, hla, hlb]
    omega
  have hstr2 : ((str ((xs.drop 0).take k1)) ++ (str ((xs.drop k1).take (xs.length - k1)))).toList = (str xs).toList := by
    rw [← hstr, ByteArray.toList_eq, ByteArray.toList_eq, ByteArray.toList_eq]
    simp
  have HK4 : Hid (Kept (fun k => σ0.own s k) w w4) := k04
  generalize str ((xs.drop 0).take k1) = s1 at *
  generalize str ((xs.drop k1).take (xs.length - k1)) = s2 at *
  generalize str xs = s3 at *
  clear hv1' hv2' hwv' k12 k23 k34 k04 hla hlb hv3 hF4 hkp4 hlk4 huo4 hend HR3
  have HO4 := hid_of ho4
  clear ho4 hσ4
  go_wp2_with fail
  refine HC.out.mono ?_
  rintro e w5 ⟨rfl, hF5, hk5⟩
  have HEND : Hid (ReadsR w s σ0 (.returned (.bool true)) w5) := ⟨rfl, hF5, HK4.out.trans (hk5.mono (fun k _ e => (HO4.out k).1 e))⟩
  clear hF5 hk5 HC
  go_wp2
  exact bodyPost_ret (v := .bool true) (by simp [results, Try.results17, go_sem]) rfl HEND.out
end Go.Proofs.Ytmkfjdfpcjkmnaa
