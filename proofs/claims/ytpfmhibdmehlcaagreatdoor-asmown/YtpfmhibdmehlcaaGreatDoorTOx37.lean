import Derived.Test.YtpfmhibdmehlcaaGreatDoorTOx16
import Derived.Deep.RegionHeld3
namespace Go.Proofs.YtpfmhibdmehlcaaGreatDoor
open Go.ChangeShapes Go.WideShapes Go.ChangeAt Go.RowKit Go.Deep
set_option linter.unusedVariables false
set_option linter.unusedSimpArgs false
def mkV (i k : Int) : Int := bits .xor .u8 (bits .xor .u8 i (i / 256 * 7)) (k % 256 * 3 % 256)
def anV (i k : Int) : Int := bits .xor .u8 (255 - i) (k * 5 % 256)
def mkB (i k : Nat) : List Value := [.int .u8 (mkV i k)]
def anB (i k : Nat) : List Value := [.int .u8 (anV i k)]
theorem Tryz.info22g : (Tryz.prog.info? 22).map (fun i => (i.zero, i.size, i.bytes)) = some (some (.slice none 0 0), 1, 24) := by kernel_rfl
set_option maxRecDepth 100000 in
set_option maxHeartbeats 4000000 in
theorem grownB_some (gl lc N : Nat) (ls : List RL) (w : World) (h : RLs 5 22 1 w (.slice (some ⟨gl, 0, none⟩) N lc) ls) (hN : N = ls.length) (hn : N ≤ 200) (hp : 0 < N) (hlong : ∀ i, i < ls.length → (rlAt ls i).n ≤ 4194304) :
  Calls Tryz.prog 24 #[.slice (some ⟨gl, 0, none⟩) N lc] w fun e w' => e = .returned (.bool true) ∧ Kept (Blk ls) w w' := by
 obtain ⟨i5, hi5, z50, z51, z52⟩ := info_parts Tryz.info5
 obtain ⟨i26, hi26, z260, z261, z262⟩ := info_parts Tryz.info22g
 have HB := hid_of h
 have HLONG := hid_of hlong
 have HN := hid_of hN
 clear h hlong hN
 go_enter Tryz.func24, Tryz.ntmps24
 go_wp2_with fail
 go_loopw [3] (fun i wr => ∃ k : Nat, k ≤ N ∧ i = .int .i64 k ∧ Fil 5 22 1 mkB w wr (.slice (some ⟨gl, 0, none⟩) N lc) ls k 0) (fun i _ => N - (intOf i).toNat)
 case atStart => exact ⟨0, Nat.zero_le _, rfl, Fil.start HB.out⟩
 case round =>
  obtain ⟨k, hk, rfl, hf⟩ := hrel
  by_cases hlt : k < N
  ·have hltI : (k : Int) < (N : Int) := by omega
   have hkl : k < ls.length := by rw [← HN.out]; exact hlt
   have HKL := hid_of hkl
   have HF := hid_of hf
   obtain ⟨n, hn⟩ := nmd ((rlAt ls k).n)
   have hn2 : n ≤ 4194304 := by rw [hn]; exact HLONG.out k hkl
   have HNN := hid_of hn
   obtain ⟨vao, vc, hv⟩ := ownsRow_shape (HF.out.own k hkl)
   rw [← hn] at hv
   have HV := hid_of hv
   clear hv hn hkl hf
   go_wp2_with fail
   go_loopw [4] (fun j wr => ∃ m : Nat, m ≤ n ∧ j = .int .i64 m ∧ Fil 5 22 1 mkB w wr (.slice (some ⟨gl, 0, none⟩) N lc) ls k m) (fun j _ => n - (intOf j).toNat)
   case atStart => exact ⟨0, Nat.zero_le _, rfl, HF.out⟩
   case round =>
    obtain ⟨m, hm, rfl, hf⟩ := hrel
    have c0 := row_cell hf.row (g := gl) rfl k HKL.out
    rw [HV.out] at c0
    have HF2 := hid_of hf
    clear hf
    by_cases hml : m < n
    ·have hmlI : (m : Int) < (n : Int) := by omega
     obtain ⟨g, hvg⟩ : ∃ g, vao = some ⟨g, 0, none⟩ := by
      obtain ⟨g, c, e⟩ := own_at (HF2.out.own k HKL.out) (by rw [← HNN.out]; omega)
      rw [HV.out] at e
      cases e
      exact ⟨g, rfl⟩
     subst hvg
     have hown := HF2.out.own k HKL.out
     rw [HV.out, ← HNN.out] at hown
     have c1 : ∃ u, (cAt mkB 1 ls k m k)[m]? = some u := ⟨_, List.getElem?_eq_getElem (by rw [hown.1]; omega)⟩
     obtain ⟨u, hu⟩ := c1
     have c1 := own_cell hown (g := g) rfl m u hu
     have f1 := hown.frozenAt m
     have hs := (hown.stored m (.int .u8 (mkV k m))).1
     rw [cAt_one (n := n) (fun _ => rfl) (by have := (HB.out.own k HKL.out).1; rw [← HNN.out] at this; exact this) hml rfl] at hs
     have HS := hid_of (Fil.step HB.out HF2.out HKL.out (by rw [HV.out, ← HNN.out]; exact hs) (by rw [HV.out]; exact (kept_set wr g m _).mono (fun q _ e => by rw [e]; rfl)))
     clear hown hu hs
     unfold mkV at HS
     go_wp2
     go_roundw
     case rel => exact ⟨m + 1, by omega, by go_num, HS.out⟩
     case measure => simp [intOf]; omega
    ·have hmn : m = n := by omega
     subst hmn
     have HNX := hid_of (Fil.next HB.out HKL.out (by rw [← HNN.out]; exact HF2.out))
     have hmI : ¬ ((m : Int) < (m : Int)) := by omega
     go_wp2
     go_roundw
     case rel => exact ⟨k + 1, by omega, by go_num, HNX.out⟩
     case measure => simp [intOf]; omega
  ·have hkN : k = N := by omega
   subst hkN
   have HF := hid_of (show Fil 5 22 1 mkB w _ _ ls ls.length 0 by rw [← HN.out]; exact hf)
   have hkI : ¬ ((k : Int) < (k : Int)) := by omega
   clear hf
   rename World => w1
   go_wp2_with (at_builtin; refine wpList_append_old _ rfl (.tmp 44) (.tmp 45) 68 rfl w1.heap.size 22 i26 (.slice none 0 0) 1 24 Tryz.underlying68 hi26 z260 z261 z262 rfl (by decide) _ 0 [] rfl (World.ownsRow_nil _ _ _ _) ⟨gl, 0, none⟩ k lc (ls.map RL.v) rfl (by rw [List.length_map, ← HN.out, Nat.mul_one]) (fun j u hu => (HF.out.row.cells (g := gl) rfl j u hu)) HB.out.one (by unfold maxLen; omega) (by omega) (Nat.le_refl _) ?_)
   intro mv w2 hown2 hgrow2 _
   have hk12 : Kept (fun _ => False) w1 w2 := (kept_grown hgrow2 (Kept.refl _ _)).mono (fun q _ e => by simp [Value.ownBlock] at e)
   obtain ⟨gm, mc, hmv⟩ := own_at hown2 hp
   subst hmv
   have HM0 := hid_of (Mor.start (an := anB) HB.out HF.out hk12 (by rw [← HN.out]; exact hown2))
   clear hown2 hgrow2 hk12 HF
   go_wp2_with fail
   go_loopw [6] (fun j wr => ∃ (m : Nat) (ms : List RL), m ≤ 96 ∧ j = .int .i64 m ∧ Mor 5 22 1 mkB anB w wr (.slice (some ⟨gl, 0, none⟩) k lc) (.slice (some ⟨gm, 0, none⟩) k mc) ls ms m 0) (fun j _ => 96 - (intOf j).toNat)
   case atStart => exact ⟨0, _, by omega, rfl, HM0.out⟩
   case round =>
    obtain ⟨m, ms, hm, rfl, hmo⟩ := hrel
    by_cases hml : m < 96
    ·have hmlI : (m : Int) < 96 := by omega
     have HMO := hid_of hmo
     clear hmo
     go_wp2_with fail
     go_loopw [7] (fun i wr => ∃ (i' : Nat) (ms : List RL), i' ≤ k ∧ i = .int .i64 i' ∧ Mor 5 22 1 mkB anB w wr (.slice (some ⟨gl, 0, none⟩) k lc) (.slice (some ⟨gm, 0, none⟩) k mc) ls ms m i') (fun i _ => k - (intOf i).toNat)
     case atStart => exact ⟨0, _, by omega, rfl, HMO.out⟩
     case round =>
      obtain ⟨i, ms', hi, rfl, hmo⟩ := hrel
      by_cases hil : i < k
      ·have hilI : (i : Int) < (k : Int) := by omega
       have hkl : i < ls.length := by rw [← HN.out]; exact hil
       have hml2 : i < ms'.length := by rw [hmo.len]; exact hkl
       have c0 := row_cell hmo.bls.row (g := gm) rfl i hml2
       have hrw := hmo.bls.row
       rw [hmo.len, ← HN.out] at hrw
       have f0 := hrw.frozenAt i
       have hown := hmo.bls.own i hml2
       have hnn := hmo.n i hkl
       rw [if_neg (by omega)] at hnn
       have hn2 := HLONG.out i hkl
       obtain ⟨n, hn⟩ := nmd ((rlAt ms' i).n)
       obtain ⟨X, hX⟩ := nmd ((rlAt ms' i).xs)
       have hn3 : n ≤ 4194304 + 96 := by omega
       have hgm : gm < wr.heap.size := hmo.bls.lt gm rfl
       have hoff : (rlAt ms' i).v.ownBlock ≠ some gm := fun e => hmo.bls.off i hml2 gm e rfl
       obtain ⟨vo, vc, hv⟩ := ownsRow_shape hown
       rw [← hn] at hv
       rw [hv] at c0
       have HO := hid_of (show wr.ownsRow 0 5 1 (.slice vo n vc) n X by rw [hX, ← hv, hn]; exact hown)
       have HKL := hid_of hkl
       have HNN := hid_of hn
       have HX := hid_of hX
       have HV := hid_of hv
       have HMO2 := hid_of hmo
       have HOFF := hid_of hoff
       have HGM := hid_of hgm
       have HC0 := hid_of c0
       have HF0 := hid_of f0
       clear hown hnn hn2 hn hX hv hmo hrw f0 hoff hgm hkl hml2
       go_wp2_with (at_builtin; refine wpList_append_old _ rfl (.tmp 62) (.tmp 70) 22 rfl 0 5 i5 (.int .u8 0) 1 1 Tryz.underlying22 hi5 z50 z51 z52 rfl (by decide) _ n X rfl (HO.out.alloc _) ⟨_, 0, none⟩ 1 1 [.int .u8 (anV i m)] rfl rfl (cell_one_new _ _ _) (by intro u hu; simp at hu; subst hu; rfl) (by unfold maxLen; omega) (by omega) (Nat.zero_le _) ?_)
       intro gv' w' hown' hgrow hat hold
       have hkp : Kept (fun q => (rlAt ms' i).v.ownBlock = some q) wr w' := by
        rw [HV.out]
        exact kept_grown hgrow ((Kept.refl _ wr).alloc _)
       have R := hid_of (Mor.step (an := anB) HB.out HMO2.out HKL.out (by rw [← HNN.out, ← HX.out]; exact hown') hkp (by rw [HV.out]; exact at_of hat (by omega)) (by rw [HV.out, ← HX.out]; exact hold))
       have c1 := hkp.cell HC0.out (show ¬ (rlAt ms' i).v.ownBlock = some gm from HOFF.out)
       have f1 := hkp.frozen HGM.out HF0.out (show ¬ (rlAt ms' i).v.ownBlock = some gm from HOFF.out)
       obtain ⟨ga, gc, hgv⟩ := ownsRow_shape hown'
       obtain ⟨gn, hgn⟩ := nmd (n + 1)
       rw [← hgn] at hgv
       clear hgn hown' hgrow hat hold hkp c0 HO HC0 HF0
       subst hgv
       go_wp2
       go_roundw
       case rel => exact ⟨i + 1, _, by omega, by go_num, R.out⟩
       case measure => simp [intOf]; omega
      ·have hik : i = k := by omega
       subst hik
       have R := hid_of (Mor.turn hmo HN.out)
       have hkI2 : ¬ ((i : Int) < (i : Int)) := by omega
       clear hmo
       go_wp2
       go_roundw
       case rel => exact ⟨m + 1, _, by omega, by go_num, R.out⟩
       case measure => simp [intOf]; omega
    ·have hm96 : m = 96 := by omega
     subst hm96
     have HMO := hid_of hmo
     clear hmo
     rename World => w3
     go_wp2_with fail
     go_loopw [8] (fun i wr => ∃ (i' : Nat), i' ≤ k ∧ i = .int .i64 i' ∧ Mor 5 22 1 mkB anB w wr (.slice (some ⟨gl, 0, none⟩) k lc) (.slice (some ⟨gm, 0, none⟩) k mc) ls ms 96 0) (fun i _ => k - (intOf i).toNat)
     case atStart => exact ⟨0, by omega, rfl, HMO.out⟩
     case round =>
      obtain ⟨i, hi, rfl, hmo⟩ := hrel
      by_cases hil : i < k
      ·have hilI : (i : Int) < (k : Int) := by omega
       have hkl : i < ls.length := by rw [← HN.out]; exact hil
       have hml2 : i < ms.length := by rw [hmo.len]; exact hkl
       have c0 := row_cell hmo.row (g := gl) rfl i hkl
       obtain ⟨n, hn⟩ := nmd ((rlAt ls i).n)
       have hn2 : n ≤ 4194304 := by rw [hn]; exact HLONG.out i hkl
       obtain ⟨vo, vc, hv⟩ := ownsRow_shape (HB.out.own i hkl)
       rw [← hn] at hv
       have hvn : 0 < n → ∃ g, vo = some ⟨g, 0, none⟩ := fun h0 => by
        obtain ⟨g, c, e⟩ := own_at (HB.out.own i hkl) (by rw [← hn]; exact h0)
        rw [hv] at e
        cases e
        exact ⟨g, rfl⟩
       have hmn := hmo.n i hkl
       rw [if_neg (by omega), ← hn] at hmn
       obtain ⟨g2, c2, hm2⟩ := own_at (hmo.bls.own i hml2) (by omega)
       obtain ⟨nm, hnm⟩ := nmd (n + 96)
       rw [hmn, ← hnm] at hm2
       rw [hv] at c0
       have HNM := hid_of hnm
       have HNN := hid_of hn
       have HV := hid_of hv
       have HVN := hid_of hvn
       have HM2 := hid_of hm2
       have HKL := hid_of hkl
       have HML := hid_of hml2
       have hnmI : (nm : Int) = (n : Int) + 96 := by omega
       have HNI := hid_of hnmI
       have HMO2 := hid_of hmo
       clear hmo hn hv hvn hmn hm2 hnm hkl hml2 hnmI
       go_wp2_with fail
       go_loopw [10] (fun j wr => ∃ m : Nat, m ≤ n + 96 ∧ j = .int .i64 m ∧ Mor 5 22 1 mkB anB w wr (.slice (some ⟨gl, 0, none⟩) k lc) (.slice (some ⟨gm, 0, none⟩) k mc) ls ms 96 0) (fun j _ => n + 96 - (intOf j).toNat)
       case atStart => exact ⟨0, by omega, rfl, HMO2.out⟩
       case round =>
        obtain ⟨m, hm, rfl, hmo⟩ := hrel
        have c0 := row_cell hmo.row (g := gl) rfl i HKL.out
        rw [HV.out] at c0
        have c2 := row_cell hmo.bls.row (g := gm) rfl i HML.out
        rw [HM2.out] at c2
        by_cases hml : m < n + 96
        ·have hmlI : (m : Int) < (n : Int) + 96 := by omega
         have hmnm : (m : Int) < (nm : Int) := by rw [HNI.out]; exact hmlI
         have hxs := hmo.xs i HKL.out
         rw [if_neg (by omega), ← HNN.out] at hxs
         by_cases hmn : m < n
         ·have hmnI : (m : Int) < (n : Int) := by omega
          obtain ⟨g, hvg⟩ := HVN.out (by omega)
          subst hvg
          have hat : (rowOf (mkB i) n)[m]? = some (.int .u8 (mkV i m)) := by
           have := rowOf_at (mk := mkB i) (s := 1) (fun _ => rfl) m 0 (by omega) n hmn
           rw [Nat.mul_one] at this
           exact this
          have c1 := hmo.cells i HKL.out g (by rw [HV.out]; rfl) m _ (by rw [← HNN.out]; exact hat)
          have c3 := own_cell (hmo.bls.own i HML.out) (g := g2) (by rw [HM2.out]; rfl) m (.int .u8 (mkV i m)) (by rw [hxs, List.getElem?_append_left (List.getElem?_eq_some_iff.1 hat).1]; exact hat)
          have HMO4 := hid_of hmo
          unfold mkV at c1 c3
          clear hmo hxs hat
          go_wp2
          go_roundw
          case rel => exact ⟨m + 1, by omega, by go_num, HMO4.out⟩
          case measure => simp [intOf]; omega
         ·have hmnI : (n : Int) ≤ (m : Int) := by omega
          have hat : (rowOf (anB i) 96)[m - n]? = some (.int .u8 (anV i (m - n : Nat))) := by
           have := rowOf_at (mk := anB i) (s := 1) (fun _ => rfl) (m - n) 0 (by omega) 96 (by omega)
           rw [Nat.mul_one] at this
           exact this
          have c3 := own_cell (hmo.bls.own i HML.out) (g := g2) (by rw [HM2.out]; rfl) m (.int .u8 (anV i (m - n : Nat))) (by rw [hxs, List.getElem?_append_right (by rw [rowOf_len (s := 1) (fun _ => rfl)]; omega), rowOf_len (s := 1) (fun _ => rfl), Nat.mul_one]; exact hat)
          rw [show (((m - n : Nat) : Int)) = (m : Int) - (n : Int) by omega] at c3
          have HMO4 := hid_of hmo
          unfold anV at c3
          clear hmo hxs hat
          go_wp2
          go_roundw
          case rel => exact ⟨m + 1, by omega, by go_num, HMO4.out⟩
          case measure => simp [intOf]; omega
        ·have hmN : m = n + 96 := by omega
         have hmI : ¬ ((m : Int) < (n : Int) + 96) := by omega
         have HMO4 := hid_of hmo
         clear hmo hmN
         go_wp2
         go_roundw
         case rel => exact ⟨i + 1, by omega, by go_num, HMO4.out⟩
         case measure => simp [intOf]; omega
      ·have hik : i = k := by omega
       subst hik
       have hkI3 : ¬ ((i : Int) < (i : Int)) := by omega
       have HKP := hid_of hmo.kept
       clear hmo HMO
       go_wp2
       go_ret
       exact ⟨rfl, HKP.out⟩
end Go.Proofs.YtpfmhibdmehlcaaGreatDoor
