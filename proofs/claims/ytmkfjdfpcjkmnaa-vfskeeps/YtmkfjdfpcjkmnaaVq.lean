/-
  The nearest path at which there is something; whether a file may be opened.
-/
import Derived.Test.YtmkfjdfpcjkmnaaVp
namespace Go.Proofs.Ytmkfjdfpcjkmnaa
open Go.RowKit
set_option linter.unusedVariables false
set_option linter.unusedSimpArgs false
set_option maxRecDepth 100000

def thereB (σ : FSt) (p : By) : Bool := (look σ.fs p).isSome || isDirB σ p
set_option maxHeartbeats 4000000 in
theorem nearest_any (HR : HighRunes) {w : World} {s : Nat} {σ : FSt} (H : Fs w s σ) (ps : Nat → By) (k : Nat) (hk : k ≤ 1000000) (hs : ∀ i, i < k → ps (i + 1) = (splitOf (ps i)).1) (hno : ∀ i, i < k → thereB σ (ps i) = false) (hyes : thereB σ (ps k) = true) (hlen : ∀ i, i ≤ k → (ps i).length ≤ 16777216) :
    Calls Try.prog 49 #[.pointer (some ⟨s, 0, none⟩), .string ⟨(ps 0).toArray⟩] w fun e w' => e = .returned (.tuple #[.string ⟨(ps k).toArray⟩, .int .i64 k]) ∧ Kept (fun _ => False) w w' := by
  have HF := hid_of H
  have HS := hid_of hs
  have HNO := hid_of hno
  have HYES := hid_of hyes
  have HLEN := hid_of hlen
  clear H hs hno hyes hlen
  go_enter Try.func49, Try.ntmps49
  go_wp2
  go_loopw [1, 6] (fun p i wr => ∃ j : Nat, j ≤ k ∧ p = .string ⟨(ps j).toArray⟩ ∧ i = .int .i64 j ∧ Hid (Kept (fun _ => False) w wr)) (fun _ i _ => k - (intOf i).toNat)
  case atStart => exact ⟨0, by omega, rfl, rfl, Kept.refl _ _⟩
  case round =>
    obtain ⟨j, hj, rfl, rfl, HK⟩ := hrel
    have HIF := hid_of (isfile_any (HF.out.same HK.out) (ps j))
    have HID := hid_of (fun (W : World) (hW : Kept (fun _ => False) w W) => isdir_any (HF.out.same hW) (ps j))
    by_cases hlt : j < k
    · have h1 := HNO.out j hlt
      unfold thereB at h1
      rw [Bool.or_eq_false_iff] at h1
      rw [h1.1] at HIF
      rw [h1.2] at HID
      have HSP := hid_of (fun W => split_p HR (ps j) (HLEN.out j (by omega)) W)
      rw [← HS.out j hlt] at HSP
      clear h1
      go_wp2_with fail
      refine HIF.out.mono ?_
      rintro e w1 ⟨rfl, hk1⟩
      have HK1 := hid_of (HK.out.trans hk1)
      clear hk1 HIF
      go_wp2_with fail
      refine (HID.out _ HK1.out).mono ?_
      rintro e w2 ⟨rfl, hk2⟩
      have HK2 := hid_of (HK1.out.trans hk2)
      clear hk2 HID
      go_wp2_with fail
      refine (HSP.out _).mono ?_
      rintro e w3 ⟨rfl, hk3⟩
      have HK3 := hid_of (HK2.out.trans hk3)
      clear hk3 HSP
      go_wp2
      go_roundw
      case rel => exact ⟨j + 1, by omega, rfl, by go_num, HK3⟩
      case measure => simp [intOf]; omega
    · obtain rfl : j = k := by omega
      have h1 := HYES.out
      unfold thereB at h1
      cases hf : (look σ.fs (ps j)).isSome with
      | true =>
        rw [hf] at HIF
        clear h1 HID hf
        go_wp2_with fail
        refine HIF.out.mono ?_
        rintro e w1 ⟨rfl, hk1⟩
        have HK1 := hid_of (HK.out.trans hk1)
        clear hk1 HIF
        go_wp2
        exact bodyPost_ret (v := .tuple #[.string ⟨(ps j).toArray⟩, .int .i64 j]) (by simp [results, Try.results49, go_sem]) rfl ⟨rfl, HK1.out⟩
      | false =>
        rw [hf, Bool.false_or] at h1
        rw [hf] at HIF
        rw [h1] at HID
        clear h1 hf
        go_wp2_with fail
        refine HIF.out.mono ?_
        rintro e w1 ⟨rfl, hk1⟩
        have HK1 := hid_of (HK.out.trans hk1)
        clear hk1 HIF
        go_wp2_with fail
        refine (HID.out _ HK1.out).mono ?_
        rintro e w2 ⟨rfl, hk2⟩
        have HK2 := hid_of (HK1.out.trans hk2)
        clear hk2 HID
        go_wp2
        exact bodyPost_ret (v := .tuple #[.string ⟨(ps j).toArray⟩, .int .i64 j]) (by simp [results, Try.results49, go_sem]) rfl ⟨rfl, HK2.out⟩

theorem ismode_any (m : Int) (h0 : 0 ≤ m) (h1 : m ≤ 7) (h4 : m ≠ 4) (w : World) : Calls Try.prog 37 #[.int .i64 m] w fun e w' => e = .returned (.bool true) ∧ w' = w := by
  go_enter Try.func37, Try.ntmps37
  go_wp2
  exact bodyPost_ret (v := .bool true) (by simp [results, Try.results37, go_sem]; omega) rfl ⟨rfl, rfl⟩

set_option maxHeartbeats 4000000 in
theorem mayopen_there (HR : HighRunes) {w : World} {s : Nat} {σ : FSt} (H : Fs w s σ) (p : By) (hp : p.length ≤ 16777216) (hf : (look σ.fs p).isSome = true) (m : Int) :
    Calls Try.prog 39 #[.pointer (some ⟨s, 0, none⟩), .string ⟨p.toArray⟩, .int .i64 m] w fun e w' => e = .returned (.int .i64 0) ∧ Kept (fun _ => False) w w' := by
  have HN := hid_of (nearest_any HR H (fun _ => p) 0 (by omega) (fun i hi => by omega) (fun i hi => by omega) (by unfold thereB; rw [hf]; rfl) (fun i _ => hp))
  have HIF := hid_of (fun (W : World) (hW : Kept (fun _ => False) w W) => isfile_any (H.same hW) p)
  rw [hf] at HIF
  clear H hf
  go_enter Try.func39, Try.ntmps39
  go_wp2_with fail
  refine HN.out.mono ?_
  rintro e w1 ⟨rfl, hk1⟩
  have HK1 := hid_of hk1
  clear hk1 HN
  go_wp2_with fail
  refine (HIF.out _ HK1.out).mono ?_
  rintro e w2 ⟨rfl, hk2⟩
  have HK2 := hid_of (HK1.out.trans hk2)
  clear hk2 HIF
  go_wp2
  exact bodyPost_ret (v := .int .i64 0) (by simp [results, Try.results39, go_sem]) rfl ⟨rfl, HK2.out⟩

theorem field103 (W : World) (a b : ByteArray) (d : Bool) (ao : Option Addr) (n c : Nat) : (Instr.field 103 (.agg #[.string a, .string b, .bool d, .slice ao n c]) 1).run Try.prog W = .ok (.slice ao n c) W := rfl
set_option maxHeartbeats 4000000 in
theorem mayopen_new (HR : HighRunes) {w : World} {s : Nat} {σ : FSt} (H : Fs w s σ) (ps : Nat → By) (k : Nat) (hk : k ≤ 1000000) (hk1 : 1 ≤ k) (hs : ∀ i, i < k → ps (i + 1) = (splitOf (ps i)).1) (hno : ∀ i, i < k → thereB σ (ps i) = false) (hyes : isDirB σ (ps k) = true) (hnf : look σ.fs (ps k) = none) (hlen : ∀ i, i ≤ k → (ps i).length ≤ 16777216) (m : Int) (hm : m ≠ 0) (hmm : k = 1 ∨ m = 5) (hroom : (k : Int) ≤ σ.qf - σ.uf) (hq0 : 0 ≤ σ.uf) (hq1 : σ.qf ≤ 1099511627776) (hq2 : 0 ≤ σ.qf) (hfan : (dirAt σ (ps k)).bl.length ≠ 1024) :
    Calls Try.prog 39 #[.pointer (some ⟨s, 0, none⟩), .string ⟨(ps 0).toArray⟩, .int .i64 m] w fun e w' => e = .returned (.int .i64 0) ∧ Kept (fun _ => False) w w' := by
  have HN := hid_of (nearest_any HR H ps k hk hs hno (by unfold thereB; rw [hyes, Bool.or_true]) hlen)
  have HIF := hid_of (fun (W : World) (hW : Kept (fun _ => False) w W) => isfile_any (H.same hW) (ps k))
  rw [hnf, Option.isSome_none] at HIF
  have HF := hid_of H
  obtain ⟨ao, c, hv⟩ := row_slice (H.dirRow (ps k))
  have HL := hid_of (fun (W : World) (hW : Kept (fun _ => False) w W) => (H.same hW).lookD (ps k) false)
  rw [lookD0, hv, if_neg (by simp)] at HL
  obtain ⟨a1, ha1⟩ : ∃ q : ByteArray, q = ⟨(dirAt σ (ps k)).p.toArray⟩ := ⟨_, rfl⟩
  obtain ⟨a2, ha2⟩ : ∃ q : ByteArray, q = ⟨(dirAt σ (ps k)).nm.toArray⟩ := ⟨_, rfl⟩
  obtain ⟨a3, ha3⟩ : ∃ q : Bool, q = (dirAt σ (ps k)).d := ⟨_, rfl⟩
  rw [← ha1, ← ha2, ← ha3] at HL
  obtain ⟨pk, hpk⟩ : ∃ q : ByteArray, q = ⟨(ps k).toArray⟩ := ⟨_, rfl⟩
  rw [← hpk] at HN HIF HL
  generalize (dirAt σ (ps k)).bl.length = n at *
  have hfld := fun W => field103 W a1 a2 a3 ao n c
  have hk0 : ¬ (k : Int) = 0 := by omega
  have hk0' : k ≠ 0 := by omega
  have hn1 : ¬ (n : Int) = 1024 := by omega
  have hng : ¬ (σ.qf - σ.uf < (k : Int)) := by omega
  have wr1 : IntKind.i64.wrap (σ.qf - σ.uf) = σ.qf - σ.uf := by rw [IntKind.wrap_i64]; omega
  clear H hs hno hyes hnf hlen hv ha1 ha2 ha3 hpk
  go_enter Try.func39, Try.ntmps39
  go_wp2_with fail
  refine HN.out.mono ?_
  rintro e w1 ⟨rfl, hk1'⟩
  have HK1 := hid_of hk1'
  clear hk1' HN
  go_wp2_with fail
  refine (HIF.out _ HK1.out).mono ?_
  rintro e w2 ⟨rfl, hk2⟩
  have HK2 := hid_of (HK1.out.trans hk2)
  clear hk2 HIF HK1
  have HS11 : Hid (∀ w', Kept (fun _ => False) w2 w' → w'.cell? ⟨s, 1, none⟩ = some (.int .i64 σ.qf) ∧ w'.cell? ⟨s, 4, none⟩ = some (.int .i64 σ.uf)) := fun w' hw =>
    ⟨(HF.out.same (HK2.out.trans hw)).cell 1 rfl, (HF.out.same (HK2.out.trans hw)).cell 4 rfl⟩
  have HK3 : Hid (Kept (fun _ => False) w w2.drew) := HK2.out.drew
  have c7 := (HF.out.same HK3.out).cell 7 (v := .map (some σ.dm)) rfl
  have hl3 := HL.out w2.drew HK3.out
  rcases (show k = 1 ∨ (m = 5 ∧ 1 < k) by omega) with rfl | ⟨rfl, hgt⟩
  all_goals
    clear hmm
    try (have hgtI : (1 : Int) < (k : Int) := by omega)
    go_upto_region 11 with fail
    refine wp_region_held_drew (S := fun w' => Kept (fun _ => False) w2 w') (by kernel_rfl) ((Kept.refl _ _).drew) (fun hHeld => ?_)
    iterate 14
      refine tkn (v := ?_) 0 rfl ?_ ?_; rotate_left 1
      · intro w hSw; obtain ⟨s1, s2⟩ := HS11.out w hSw; go_simp; try with_reducible rfl
      try simp only [Act.put, tdy]
    refine wpAnyH_done (by kernel_rfl) ?_ _
    clear hHeld
    go_wp2
    exact bodyPost_ret (v := .int .i64 0) (by simp [results, Try.results39, go_sem]) rfl ⟨rfl, HK3.out⟩
end Go.Proofs.Ytmkfjdfpcjkmnaa
