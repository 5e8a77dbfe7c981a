/-
  MintReads: its walk.
-/
import Derived.Test.YtffabihenhejfaaRpq
import Derived.Deep.QuietTactic
import Derived.BigQuiet
namespace Go.Proofs.Ytffabihenhejfaa
open Go.RowKit Go.Deep
set_option linter.unusedVariables false
set_option linter.unusedSimpArgs false

set_option maxRecDepth 100000 in
set_option maxHeartbeats 4000000 in
theorem reads_walk (bao : Option Addr) (bc : Nat) (xs : List Int) (cao : Option Addr) (ccap : Nat) (calls : List CV) (W : World) (hsrc : SrcOk W (.slice bao xs.length bc) xs) (hcalls : CallsOk W (.slice cao calls.length ccap) calls) (hcap : ∀ i, i < calls.length → SrcOk W (calls.getD i CV.default).bv (calls.getD i CV.default).xs) :
    Calls Try.prog 4 #[.slice bao xs.length bc, .slice cao calls.length ccap] W fun e w' => e = .returned (.bool true) ∧ Below W.heap.size W w' := by
  obtain ⟨hsc0, hlv0⟩ := start_sc W (.slice cao calls.length ccap)
  have hx0 := hsrc.2.1.2
  have hkA : Kept (fun _ => False) W (W.alloc (.cells #[.slice cao calls.length ccap, .int .i64 0, .slice none 0 0, .slice none 0 0, .slice none 0 0, .slice none 0 0, .bool false] 38)) := (Kept.refl _ _).alloc _
  have hszA : (W.alloc (.cells #[.slice cao calls.length ccap, .int .i64 0, .slice none 0 0, .slice none 0 0, .slice none 0 0, .slice none 0 0, .bool false] 38)).heap.size = W.heap.size + 1 := by simp
  have HSC := hid_of hsc0
  have HLV := hid_of hlv0
  have HKA := hid_of hkA
  have HSZA := hid_of hszA
  have HSRC := hid_of hsrc
  have HCALLS := hid_of hcalls
  have HCAP := hid_of hcap
  have HRUN := hid_of (run_all W calls W.heap.size (.slice cao calls.length ccap) hcalls 401)
  obtain ⟨n, hn⟩ : ∃ n, n = xs.length := ⟨_, rfl⟩
  have HN := hid_of hn
  rw [← hn] at hx0 ⊢
  clear hsc0 hlv0 hkA hszA hsrc hcalls hcap hn
  go_enter Try.func4, Try.ntmps4
  go_upto_region 2 with fail
  generalize hwA : W.alloc (.cells #[.slice cao calls.length ccap, .int .i64 0, .slice none 0 0, .slice none 0 0, .slice none 0 0, .slice none 0 0, .bool false] 38) = wA at *
  clear hwA
  have hkB : Kept (fun _ => False) wA (wA.alloc (.cells #[.pointer (some ⟨W.heap.size, 0, none⟩), .int .i64 400] 41)) := (Kept.refl _ _).alloc _
  have hxB := heap_alloc_new wA (.cells #[.pointer (some ⟨W.heap.size, 0, none⟩), .int .i64 400] 41)
  have hszB : (wA.alloc (.cells #[.pointer (some ⟨W.heap.size, 0, none⟩), .int .i64 400] 41)).heap.size = W.heap.size + 2 := by have := HSZA.out; simp; omega
  go_upto_region 3 with fail
  generalize wA.alloc (.cells #[.pointer (some ⟨W.heap.size, 0, none⟩), .int .i64 400] 41) = wB at *
  rw [HSZA.out] at hxB ⊢
  have hLD := lend_any (.slice bao xs.length bc) xs wB (HSRC.out.1.kept (HKA.out.trans hkB) (fun _ _ f => f)) (by have := HSRC.out.2.1.2; omega)
  rw [← HN.out, hszB] at hLD
  have HLD := hid_of hLD
  have HXB := hid_of hxB
  have HKB := hid_of hkB
  have HSZB := hid_of hszB
  clear hLD hxB hkB hszB
  go_wp2_with fail
  refine HLD.out.mono ?_
  rintro e w2 ⟨rfl, hle, hk2⟩
  have hg2 : W.heap.size + 2 < w2.heap.size := by
    obtain ⟨cur, l0, _⟩ := hle
    exact (Array.getElem?_eq_some_iff.1 l0).1
  have hRD := top_read W calls W.heap.size (.slice cao calls.length ccap) 401 HRUN.out wA w2 _ _ _ _ _ ps0 400 xs (W.heap.size + 1) (W.heap.size + 2) HSC.out HLV.out (HKB.out.trans hk2) ((hk2.block (W.heap.size + 1) (by rw [HSZB.out]; omega) (fun f => f)).trans HXB.out) (by rw [HSZA.out]; omega) (by rw [HSZA.out]; omega) hg2 (by omega) hle HSRC.out.2.1 (by decide) (by decide) (by decide)
  rw [← HN.out] at hRD
  have HRD := hid_of hRD
  clear hRD hle hk2 HLD HXB HKB HSZB hg2
  go_wp2_with fail
  refine HRD.out.mono ?_
  rintro e w4 ⟨t, x, hpl, rfl, hlg, hle4⟩
  have hBK := back_any (W.heap.size + 2) (.slice bao xs.length bc) xs w4 hle4 (HSRC.out.1.kept hlg.base (fun _ _ f => f)) (by have := HSRC.out.2.1.2; omega)
  rw [← HN.out] at hBK
  have HBK := hid_of hBK
  have HPL := hid_of hpl
  have HLG := hid_of hlg
  clear hBK hpl hlg hle4 HRD HRUN HSC HLV
  go_wp2_with fail
  refine HBK.out.mono ?_
  rintro e w5 ⟨rfl, hk5⟩
  have hlg5 := after_back HLG.out hk5 (by rw [HSZA.out]; omega) (fun b hb => (by cases hb))
  have hb5 := hlg5.base
  obtain ⟨kb, kV, tV, eV, told, hend⟩ := hlg5.ends
  have hcalls5 : CallsOk w5 (.slice cao calls.length ccap) calls := by
    obtain ⟨⟨ao, c, h1, h2⟩, h3⟩ := HCALLS.out
    refine ⟨⟨ao, c, h1, fun i hi => ?_⟩, fun i hi => ?_⟩
    · obtain ⟨cb, o, q0, q1, q2, q3, q4⟩ := h2 i hi
      exact ⟨cb, o, q0, hb5.cell q1 (fun f => f), hb5.cell q2 (fun f => f), hb5.cell q3 (fun f => f), hb5.cell q4 (fun f => f)⟩
    · obtain ⟨q1, q2, q3, q4, q5⟩ := h3 i hi
      exact ⟨q1, q2, q3, q4.kept hb5 (fun _ _ f => f), q5⟩
  have hcap5 : ∀ i, i < calls.length → SrcOk w5 (calls.getD i CV.default).bv (calls.getD i CV.default).xs := fun i hi => ⟨(HCAP.out i hi).1.kept hb5 (fun _ _ f => f), (HCAP.out i hi).2⟩
  have hsrc5 : SrcOk w5 (.slice bao xs.length bc) xs := ⟨HSRC.out.1.kept hb5 (fun _ _ f => f), HSRC.out.2⟩
  obtain ⟨hscp, hlvp⟩ := start_scp w5 (.slice cao calls.length ccap)
  have hPR := pread_all w5 calls w5.heap.size (.slice cao calls.length ccap) hcalls5 hcap5 401 _ _ 400 _ xs [] _ _ _ [] ps0 hscp hlvp hsrc5 (by decide) (by decide) (by decide) (by decide) (by decide)
  rw [← HN.out] at hPR
  have HPR := hid_of hPR
  have HEND := hid_of hend
  have HSM : Hid (∀ y ∈ t.told, y.2.2.length ≤ 140737488351232) := by
    have hs := play_small calls (fun i hi => (HCAP.out i hi).2.1) 401 400 { ps0 with rs := ps0.rs ++ [xs], many := ps0.many + 1 } ⟨fun i hi => by
      have h0 : i = 0 := by simp [ps0] at hi; exact hi
      subst h0
      exact HSRC.out.2.1, fun y hy => (by cases hy)⟩ (by simp [ps0])
    rcases HPL.out with ⟨h1, _⟩ | h1
    · rw [h1] at hs; exact hs.2
    · rw [h1] at hs; exact hs.2
  clear hk5 hlg5 hb5 hend hcalls5 hcap5 hsrc5 hscp hlvp hPR HBK HLG HCALLS HCAP HSRC
  go_upto_region 7 with fail
  generalize w5.alloc (.cells #[.slice cao calls.length ccap, .int .i64 0, .slice none 0 0, .slice none 0 0, .slice none 0 0, .int .i64 0] 51) = w6 at *
  go_wp2_with fail
  refine HPR.out.mono ?_
  intro e w7 hrp
  obtain ⟨rfl, κ2, rb, rV2, tV2, eV2, told2, hscp⟩ := hrp.ends HPL.out
  have hend7 := HEND.out.new hscp.base
  obtain ⟨M, T, R, kao, tao, tao2, eao, eao2, kc, tc, tc2, ec, ec2, hM, hM4, hT4, hR4, rfl, rfl, rfl, c3, c4, c5, c6, hsl, p3, p4, p5, hpl, hgots, hrets⟩ := both_ends hend7 hscp HSM.out
  have HE7 := hid_of hend7
  have HG := hid_of hgots
  have HR := hid_of hrets
  have HM := hid_of hM
  have xb : (x != x) = false := by simp
  have mb : ((M : Int) != (M : Int)) = false := by simp
  have tb : ((T : Int) != (T : Int)) = false := by simp
  have rb' : ((R : Int) != (R : Int)) = false := by simp
  clear hrp hscp hend7 hgots hrets HPR HPL HEND HSM hM
  go_wp2_with fail
  go_quiet (fail)
  go_wp2
  go_loopw [13] (fun i wr => ∃ k n1 : Nat, k ≤ T ∧ i = .int .i64 k ∧ wr = w7.drewN n1) (fun i _ => T - (intOf i).toNat)
  case atStart => exact ⟨0, _, Nat.zero_le _, rfl, rfl⟩
  case round =>
    obtain ⟨k, n1, hk, rfl, rfl⟩ := hrel
    by_cases hlt : k < T
    · have hltI : (k : Int) < (T : Int) := by omega
      obtain ⟨g, g2, yk, yn, ao1, ao2, c1, c2, ys, rfl, rfl, hgl, hgl2, q0, q1, q2, s0, s1, s2, i1, i2, hyl⟩ := HG.out k hlt
      have kb1 : (yk != yk) = false := by simp
      have nb1 : (yn != yn) = false := by simp
      have hs : ∀ a, Calls Try.prog 18 #[.slice ao1 ys.length c1, .slice ao2 ys.length c2] (w7.drewN (n1 + a)) fun e w'' => e = .returned (.bool true) ∧ ∃ m1, w'' = w7.drewN (n1 + m1) := by
        intro a
        have h0 := same_any (.slice ao1 ys.length c1) (.slice ao2 ys.length c2) ys ys (w7.drewN (n1 + a)) (i1.kept (kept_drewN (Kept.refl (fun _ => False) w7) _) (fun _ _ f => f)) (i2.kept (kept_drewN (Kept.refl (fun _ => False) w7) _) (fun _ _ f => f)) (by unfold maxLen; omega)
        refine h0.mono ?_
        rintro e w'' ⟨rfl, m, rfl⟩
        exact ⟨by simp, a + m, by rw [drew2, Nat.add_assoc]⟩
      have HS := hid_of hs
      obtain ⟨yl, hyy⟩ : ∃ yl, yl = ys.length := ⟨_, rfl⟩
      rw [← hyy] at q2 s2 HS
      clear i1 i2 hs hyy hyl
      go_wp2_with fail
      go_quiet (first | (go_at_call 18; exact HS.out _))
      go_wp2
      go_roundw
      case rel => exact ⟨k + 1, n1 + nq, by omega, by go_num, by first | rfl | exact drew2 _ _ _⟩
      case measure => simp [intOf]; omega
    · have hnl : ¬ ((k : Int) < (T : Int)) := by omega
      go_wp2
      go_loopw [14] (fun i wr => ∃ k n2 : Nat, k ≤ R ∧ i = .int .i64 k ∧ wr = w7.drewN n2) (fun i _ => R - (intOf i).toNat)
      case atStart => exact ⟨0, _, Nat.zero_le _, rfl, rfl⟩
      case round =>
        obtain ⟨k, n2, hk, rfl, rfl⟩ := hrel
        by_cases hlt : k < R
        · have hltI : (k : Int) < (R : Int) := by omega
          obtain ⟨g, g2, y, rfl, rfl, hgl, hgl2, q1, q2⟩ := HR.out k hlt
          have yb : (y != y) = false := by simp
          go_wp2_with fail
          go_quiet (fail)
          go_wp2
          go_roundw
          case rel => exact ⟨k + 1, n2 + nq, by omega, by go_num, by first | rfl | exact drew2 _ _ _⟩
          case measure => simp [intOf]; omega
        · have hnl : ¬ ((k : Int) < (R : Int)) := by omega
          have HE9 := hid_of (HE7.out.new (kept_drewN (Kept.refl (fun _ => False) w7) n2))
          clear HR HG HE7
          go_wp2
          go_loopw [15] (fun i wr => ∃ k : Nat, k ≤ M ∧ i = .int .i64 k ∧ EndS W wr W.heap.size (.slice cao calls.length ccap) kb (.slice kao M kc) (.slice tao T tc) (.slice eao R ec) told { t with rs := t.rs.take 0 }) (fun i _ => M - (intOf i).toNat)
          case atStart => exact ⟨0, Nat.zero_le _, rfl, HE9.out⟩
          case round =>
            obtain ⟨k, hk, rfl, hes⟩ := hrel
            obtain ⟨s3, _, _, _, ssl⟩ := hes.cells
            by_cases hlt : k < M
            · have hltI : (k : Int) < (M : Int) := by omega
              obtain ⟨g, c, hkv, hgl, hgc, hdd, hmem⟩ := hes.kept1 k (by rw [HM.out]; exact hlt)
              obtain ⟨rk, hrk⟩ : ∃ rk, rk = kb.getD k 0 := ⟨_, rfl⟩
              rw [← hrk] at hgc hdd hmem
              have hkao : kao = some ⟨g, 0, none⟩ := by cases hkv; rfl
              subst hkao
              have HOV := hid_of (over_any rk wr hdd)
              have HES := hid_of hes
              have HME := hid_of hmem
              clear hes hdd hmem hkv hrk HE9
              go_wp2_with fail
              refine HOV.out.mono ?_
              rintro e wo ⟨rfl, hd2, hk2⟩
              have HREL := hid_of (HES.out.over HME.out hd2 hk2)
              clear hd2 hk2 HOV HES HME
              go_wp2
              go_roundw
              case rel => exact ⟨k + 1, by omega, by go_num, HREL.out⟩
              case measure => simp [intOf]; omega
            · have hnl : ¬ ((k : Int) < (M : Int)) := by omega
              have HB9 : Hid (Below W.heap.size W wr) := by
                obtain ⟨_, _, _, _, _, hb, _⟩ := hes
                exact hb.below (Nat.le_refl _) (fun q f => f.elim)
              have hsW : W.heap.size ≤ wr.heap.size := by
                obtain ⟨_, _, _, _, _, hb, _⟩ := hes
                exact hb.size
              have HHD := hid_of (head_any wr)
              clear hes HE9
              go_wp2_with fail
              refine HHD.out.mono ?_
              rintro e wz ⟨rfl, hbz⟩
              have HBZ : Hid (Below W.heap.size W wz) := HB9.out.trans (hbz.mono hsW)
              clear hbz HHD HB9
              go_wp2
              go_ret
              exact ⟨rfl, HBZ.out⟩
end Go.Proofs.Ytffabihenhejfaa
