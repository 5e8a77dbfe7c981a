/-
  Grown of entries: the walk.
-/
import Derived.Test.YtcpkbajmilkhpabGreatDoorGee
import Derived.Deep.RegionHeld3
namespace Go.Proofs.YtcpkbajmilkhpabGreatDoor
open Go.ChangeShapes Go.WideShapes Go.ChangeAt Go.RowKit Go.Deep
set_option linter.unusedVariables false
set_option linter.unusedSimpArgs false

theorem cell_row_new (w : World) (cs : List Value) (t : TypeId) : ∀ j u, cs[j]? = some u → (w.alloc (.cells cs.toArray t)).cell? ((⟨w.heap.size, 0, none⟩ : Addr).add j) = some u := by
  intro j u hu
  rw [Addr.add_lit, Nat.zero_add, cell_of_row _ _ j cs.toArray t (0, 0) (heap_alloc_new w _)]
  simpa using hu

set_option maxRecDepth 100000 in
set_option maxHeartbeats 4000000 in
theorem grownE_some (gl lc N : Nat) (ls : List RL) (w : World) (h : RLs 41 22 34 w (.slice (some ⟨gl, 0, none⟩) N lc) ls) (hN : N = ls.length) (hn : N ≤ 200) (hp : 0 < N) (hlong : ∀ i, i < ls.length → (rlAt ls i).n ≤ 4194304) :
    Calls Tryz.prog 16 #[.slice (some ⟨gl, 0, none⟩) N lc] w fun e w' => e = .returned (.bool true) ∧ Kept (Blk ls) w w' := by
  obtain ⟨i41, hi41, z410, z411, z412⟩ := info_parts info47
  obtain ⟨i22, hi22, z220, z221, z222⟩ := info_parts Tryz.info22'
  have HB := hid_of h
  have HLONG := hid_of hlong
  have HN := hid_of hN
  clear h hlong hN
  go_enter Tryz.func16, Tryz.ntmps16
  go_wp2_with fail
  go_loopw [3] (fun i wr => ∃ k : Nat, k ≤ N ∧ i = .int .i64 k ∧ Fil 41 22 34 mkE w wr (.slice (some ⟨gl, 0, none⟩) N lc) ls k 0) (fun i _ => N - (intOf i).toNat)
  case atStart => exact ⟨0, Nat.zero_le _, rfl, Fil.start HB.out⟩
  case round =>
    obtain ⟨k, hk, rfl, hf⟩ := hrel
    by_cases hlt : k < N
    · have hltI : (k : Int) < (N : Int) := by omega
      have hkl : k < ls.length := by rw [← HN.out]; exact hlt
      have HKL := hid_of hkl
      have HF := hid_of hf
      obtain ⟨n, hn⟩ : ∃ n, n = (rlAt ls k).n := ⟨_, rfl⟩
      have hn2 : n ≤ 4194304 := by rw [hn]; exact HLONG.out k hkl
      have HNN := hid_of hn
      obtain ⟨vao, vc, hv⟩ := ownsRow_shape (HF.out.own k hkl)
      rw [← hn] at hv
      have HV := hid_of hv
      clear hv hn hkl hf
      go_wp2_with fail
      go_loopw [4] (fun j wr => ∃ m : Nat, m ≤ n ∧ j = .int .i64 m ∧ Fil 41 22 34 mkE w wr (.slice (some ⟨gl, 0, none⟩) N lc) ls k m) (fun j _ => n - (intOf j).toNat)
      case atStart => exact ⟨0, Nat.zero_le _, rfl, HF.out⟩
      case round =>
        obtain ⟨m, hm, rfl, hf⟩ := hrel
        have c0 := row_cell hf.row (g := gl) rfl k HKL.out
        rw [HV.out] at c0
        have HF2 := hid_of hf
        clear hf
        by_cases hml : m < n
        · have hmlI : (m : Int) < (n : Int) := by omega
          obtain ⟨g, hvg⟩ : ∃ g, vao = some ⟨g, 0, none⟩ := by
            obtain ⟨g, c, e⟩ := own_at (HF2.out.own k HKL.out) (by rw [← HNN.out]; omega)
            rw [HV.out] at e
            cases e
            exact ⟨g, rfl⟩
          subst hvg
          have hown := HF2.out.own k HKL.out
          rw [HV.out, ← HNN.out] at hown
          have hth := own_there hown (m * 34) 34 (by have : (m + 1) * 34 ≤ n * 34 := Nat.mul_le_mul_right _ hml
                                                     omega)
          have hs := own_setCells (mkE k m) (m * 34) _ _ hown
          rw [cAt_any (n := n) (mkE_len k) (by have := (HB.out.own k HKL.out).1; rw [← HNN.out] at this; exact this) hml] at hs
          have hst := (Fil.step HB.out HF2.out HKL.out (by rw [HV.out, ← HNN.out]; exact hs) (by rw [HV.out]; exact (kept_setCells g (mkE k m) (m * 34) wr).mono (fun q _ e => by rw [e]; rfl)))
          have HS : Hid (∀ W, W = wr.setCells g (m * 34) (EV.mk [] (5000 + (k : Int)) [(m : Int) % 256, (m : Int) / 256 % 256]).cells.toArray.toList → Fil 41 22 34 mkE w W (.slice (some ⟨gl, 0, none⟩) N lc) ls k (m + 1)) := by
            rintro W rfl
            rw [List.toList_toArray]
            exact hst
          have hcl : (EV.mk [] (5000 + (k : Int)) [(m : Int) % 256, (m : Int) / 256 % 256]).cells.toArray.size = 34 := by rw [List.size_toArray]; exact EV.clen _ (show 2 ≤ 32 by decide)
          have HTH := hid_of (hcl.symm ▸ hth : wr.there g (m * 34) (EV.mk [] (5000 + (k : Int)) [(m : Int) % 256, (m : Int) / 256 % 256]).cells.toArray.size)
          have HSZ : Hid ((Tryz.prog.info? 41).map (·.size) = some (EV.mk [] (5000 + (k : Int)) [(m : Int) % 256, (m : Int) / 256 % 256]).cells.toArray.size) := by unfold Hid; rw [hcl]; exact size47
          clear hown hs hth hst hcl
          go_wp2_with (first | refine wpList_dig2 rfl _ _ rfl _ _ rfl rfl ?_ | refine wpList_ent2 rfl _ _ rfl _ _ _ rfl rfl ?_ | (refine wpList_store_mid rfl 41 _ _ rfl g (m * 34) (EV.mk [] _ [_, _]).cells.toArray rfl rfl ?_ ?_ ?_ ?_; exact HTH.out; exact HSZ.out; exact all_oneCell_toArray (EV.one _)))
          go_wp2
          go_roundw
          case rel => exact ⟨m + 1, by omega, by go_num, HS.out _ rfl⟩
          case measure => simp [intOf]; omega
        · have hmn : m = n := by omega
          subst hmn
          have HNX := hid_of (Fil.next HB.out HKL.out (by rw [← HNN.out]; exact HF2.out))
          have hmI : ¬ ((m : Int) < (m : Int)) := by omega
          go_wp2
          go_roundw
          case rel => exact ⟨k + 1, by omega, by go_num, HNX.out⟩
          case measure => simp [intOf]; omega
    · have hkN : k = N := by omega
      subst hkN
      have HF := hid_of (show Fil 41 22 34 mkE w _ _ ls ls.length 0 by rw [← HN.out]; exact hf)
      have hkI : ¬ ((k : Int) < (k : Int)) := by omega
      clear hf
      rename World => w1
      go_wp2_with (at_builtin; refine wpList_append_old _ rfl (.tmp 43) (.tmp 44) 26 rfl w1.heap.size 22 i22 (.slice none 0 0) 1 24 Tryz.underlying26 hi22 z220 z221 z222 rfl (by decide) _ 0 [] rfl (World.ownsRow_nil _ _ _ _) ⟨gl, 0, none⟩ k lc (ls.map RL.v) rfl (by rw [List.length_map, ← HN.out, Nat.mul_one]) (fun j u hu => (HF.out.row.cells (g := gl) rfl j u hu)) HB.out.one (by unfold maxLen; omega) (by omega) (Nat.le_refl _) ?_)
      intro mv w2 hown2 hgrow2 _
      have hk12 : Kept (fun _ => False) w1 w2 := (kept_grown hgrow2 (Kept.refl _ _)).mono (fun q _ e => by simp [Value.ownBlock] at e)
      obtain ⟨gm, mc, hmv⟩ := own_at hown2 hp
      subst hmv
      have HM0 := hid_of (Mor.start (an := anE) HB.out HF.out hk12 (by rw [← HN.out]; exact hown2))
      clear hown2 hgrow2 hk12 HF
      go_wp2_with fail
      go_loopw [6] (fun j wr => ∃ (m : Nat) (ms : List RL), m ≤ 20 ∧ j = .int .i64 m ∧ Mor 41 22 34 mkE anE w wr (.slice (some ⟨gl, 0, none⟩) k lc) (.slice (some ⟨gm, 0, none⟩) k mc) ls ms m 0) (fun j _ => 20 - (intOf j).toNat)
      case atStart => exact ⟨0, _, by omega, rfl, HM0.out⟩
      case round =>
        obtain ⟨m, ms, hm, rfl, hmo⟩ := hrel
        by_cases hml : m < 20
        · have hmlI : (m : Int) < 20 := by omega
          have HMO := hid_of hmo
          clear hmo
          go_wp2_with fail
          go_loopw [7] (fun i wr => ∃ (i' : Nat) (ms : List RL), i' ≤ k ∧ i = .int .i64 i' ∧ Mor 41 22 34 mkE anE w wr (.slice (some ⟨gl, 0, none⟩) k lc) (.slice (some ⟨gm, 0, none⟩) k mc) ls ms m i') (fun i _ => k - (intOf i).toNat)
          case atStart => exact ⟨0, _, by omega, rfl, HMO.out⟩
          case round =>
            obtain ⟨i, ms', hi, rfl, hmo⟩ := hrel
            by_cases hil : i < k
            · have hilI : (i : Int) < (k : Int) := by omega
              have hkl : i < ls.length := by rw [← HN.out]; exact hil
              have hml2 : i < ms'.length := by rw [hmo.len]; exact hkl
              have c0 := row_cell hmo.bls.row (g := gm) rfl i hml2
              have hrw := hmo.bls.row
              rw [hmo.len, ← HN.out] at hrw
              have f0 := hrw.frozenAt i
              have hown := hmo.bls.own i hml2
              have hnn := hmo.n i hkl
              rw [if_neg (by omega)] at hnn
              have hn2 := HLONG.out i hkl
              obtain ⟨n, hn⟩ : ∃ n, n = (rlAt ms' i).n := ⟨_, rfl⟩
              obtain ⟨X, hX⟩ : ∃ X, X = (rlAt ms' i).xs := ⟨_, rfl⟩
              have hn3 : n ≤ 4194304 + 20 := by omega
              have hgm : gm < wr.heap.size := hmo.bls.lt gm rfl
              have hoff : (rlAt ms' i).v.ownBlock ≠ some gm := fun e => hmo.bls.off i hml2 gm e rfl
              obtain ⟨vo, vc, hv⟩ := ownsRow_shape hown
              rw [← hn] at hv
              rw [hv] at c0
              have HO := hid_of (show wr.ownsRow 0 41 34 (.slice vo n vc) n X by rw [hX, ← hv, hn]; exact hown)
              have HKL := hid_of hkl
              have HNN := hid_of hn
              have HX := hid_of hX
              have HV := hid_of hv
              have HMO2 := hid_of hmo
              have HOFF := hid_of hoff
              have HGM := hid_of hgm
              have HC0 := hid_of c0
              have HF0 := hid_of f0
              clear hown hnn hn2 hn hX hv hmo hrw f0 hoff hgm hkl hml2
              go_wp2_with (first | refine wpList_dig1 rfl _ rfl _ rfl ?_ | refine wpList_ent1 rfl _ _ rfl _ _ rfl rfl ?_ | (refine wpList_build47 rfl _ rfl (EV.mk [] _ [_]).cells rfl ?_ ?_; exact EV.clen (EV.mk [] (-10 - (i : Int)) [(m : Int)]) (show 1 ≤ 32 by decide)) | (at_builtin; refine wpList_append_old _ rfl (.tmp 61) (.tmp 68) 22 rfl 0 41 i41 (.agg (entA ⟨#[]⟩ 0 [])) 34 56 Tryz.underlying22 hi41 z410 z411 z412 (entA_size _ _ _ (by decide)) (by decide) _ n X rfl (HO.out.alloc _) ⟨_, 0, none⟩ 1 1 (EV.mk [] (-10 - (i : Int)) [(m : Int)]).cells rfl (EV.clen _ (show 1 ≤ 32 by decide)) (cell_row_new _ _ _) (EV.one _) (by unfold maxLen; omega) (by omega) (Nat.zero_le _) ?_))
              intro gv' w' hown' hgrow hat hold
              have hkp : Kept (fun q => (rlAt ms' i).v.ownBlock = some q) wr w' := by
                rw [HV.out]
                exact kept_grown hgrow ((Kept.refl _ wr).alloc _)
              have R := hid_of (Mor.step (an := anE) HB.out HMO2.out HKL.out (by rw [← HNN.out, ← HX.out]; exact hown') hkp (by rw [HV.out]; exact at_of hat (by omega)) (by rw [HV.out, ← HX.out]; exact hold))
              have c1 := hkp.cell HC0.out (show ¬ (rlAt ms' i).v.ownBlock = some gm from HOFF.out)
              have f1 := hkp.frozen HGM.out HF0.out (show ¬ (rlAt ms' i).v.ownBlock = some gm from HOFF.out)
              obtain ⟨ga, gc, hgv⟩ := ownsRow_shape hown'
              obtain ⟨gn, hgn⟩ : ∃ gn, gn = n + 1 := ⟨_, rfl⟩
              rw [← hgn] at hgv
              clear hgn hown' hgrow hat hold hkp c0 HO HC0 HF0
              subst hgv
              go_wp2
              go_roundw
              case rel => exact ⟨i + 1, _, by omega, by go_num, R.out⟩
              case measure => simp [intOf]; omega
            · have hik : i = k := by omega
              subst hik
              have R := hid_of (Mor.turn hmo HN.out)
              have hkI2 : ¬ ((i : Int) < (i : Int)) := by omega
              clear hmo
              go_wp2
              go_roundw
              case rel => exact ⟨m + 1, _, by omega, by go_num, R.out⟩
              case measure => simp [intOf]; omega
        · have hm20 : m = 20 := by omega
          subst hm20
          have HMO := hid_of hmo
          clear hmo
          rename World => w3
          go_wp2_with fail
          go_loopw [8] (fun i wr => ∃ (i' : Nat), i' ≤ k ∧ i = .int .i64 i' ∧ Mor 41 22 34 mkE anE w wr (.slice (some ⟨gl, 0, none⟩) k lc) (.slice (some ⟨gm, 0, none⟩) k mc) ls ms 20 0) (fun i _ => k - (intOf i).toNat)
          case atStart => exact ⟨0, by omega, rfl, HMO.out⟩
          case round =>
            obtain ⟨i, hi, rfl, hmo⟩ := hrel
            by_cases hil : i < k
            · have hilI : (i : Int) < (k : Int) := by omega
              have hkl : i < ls.length := by rw [← HN.out]; exact hil
              have hml2 : i < ms.length := by rw [hmo.len]; exact hkl
              have c0 := row_cell hmo.row (g := gl) rfl i hkl
              obtain ⟨n, hn⟩ : ∃ n, n = (rlAt ls i).n := ⟨_, rfl⟩
              have hn2 : n ≤ 4194304 := by rw [hn]; exact HLONG.out i hkl
              obtain ⟨vo, vc, hv⟩ := ownsRow_shape (HB.out.own i hkl)
              rw [← hn] at hv
              have hvn : 0 < n → ∃ g, vo = some ⟨g, 0, none⟩ := fun h0 => by
                obtain ⟨g, c, e⟩ := own_at (HB.out.own i hkl) (by rw [← hn]; exact h0)
                rw [hv] at e
                cases e
                exact ⟨g, rfl⟩
              have hmn := hmo.n i hkl
              rw [if_neg (by omega), ← hn] at hmn
              obtain ⟨g2, c2, hm2⟩ := own_at (hmo.bls.own i hml2) (by omega)
              obtain ⟨nm, hnm⟩ : ∃ q, q = n + 20 := ⟨_, rfl⟩
              rw [hmn, ← hnm] at hm2
              rw [hv] at c0
              have HNM := hid_of hnm
              have HNN := hid_of hn
              have HV := hid_of hv
              have HVN := hid_of hvn
              have HM2 := hid_of hm2
              have HKL := hid_of hkl
              have HML := hid_of hml2
              have hnmI : (nm : Int) = (n : Int) + 20 := by omega
              have HNI := hid_of hnmI
              have HMO2 := hid_of hmo
              clear hmo hn hv hvn hmn hm2 hnm hkl hml2 hnmI
              go_wp2_with fail
              go_loopw [10] (fun j wr => ∃ m : Nat, m ≤ n + 20 ∧ j = .int .i64 m ∧ Mor 41 22 34 mkE anE w wr (.slice (some ⟨gl, 0, none⟩) k lc) (.slice (some ⟨gm, 0, none⟩) k mc) ls ms 20 0) (fun j _ => n + 20 - (intOf j).toNat)
              case atStart => exact ⟨0, by omega, rfl, HMO2.out⟩
              case round =>
                obtain ⟨m, hm, rfl, hmo⟩ := hrel
                have c0 := row_cell hmo.row (g := gl) rfl i HKL.out
                rw [HV.out] at c0
                have c2 := row_cell hmo.bls.row (g := gm) rfl i HML.out
                rw [HM2.out] at c2
                by_cases hml : m < n + 20
                · have hmlI : (m : Int) < (n : Int) + 20 := by omega
                  have hmnm : (m : Int) < (nm : Int) := by rw [HNI.out]; exact hmlI
                  have hxs := hmo.xs i HKL.out
                  rw [if_neg (by omega), ← HNN.out] at hxs
                  by_cases hmn : m < n
                  · have hmnI : (m : Int) < (n : Int) := by omega
                    obtain ⟨g, hvg⟩ := HVN.out (by omega)
                    subst hvg
                    have HYL : Hid ((EV.mk [] (5000 + (i : Int)) [(m : Int) % 256, (m : Int) / 256 % 256]).cells.length = 34) := EV.clen _ (show 2 ≤ 32 by decide)
                    have HY32 : Hid ((EV.mk [] (5000 + (i : Int)) [(m : Int) % 256, (m : Int) / 256 % 256]).fr.length ≤ 32) := (show 2 ≤ 32 by decide)
                    have HSZ : Hid ((Tryz.prog.info? 41).map (·.size) = some (EV.mk [] (5000 + (i : Int)) [(m : Int) % 256, (m : Int) / 256 % 256]).cells.length) := by unfold Hid; rw [HYL.out]; exact size47
                    have HSD : Hid ((Tryz.prog.info? 39).map (·.size) = some (dig2 ((m : Int) % 256) ((m : Int) / 256 % 256)).length) := size39
                    have hat := rowOf_range (mk := mkE i) (mkE_len i) m n hmn
                    have HR1 : Hid (wr.rangeAt g (m * 34) (EV.mk [] (5000 + (i : Int)) [(m : Int) % 256, (m : Int) / 256 % 256]).cells) := fun j u hu => hmo.cells i HKL.out g (by rw [HV.out]; rfl) (m * 34 + j) u (by rw [← HNN.out]; exact hat j u hu)
                    have HR3 : Hid (wr.rangeAt g2 (m * 34) (EV.mk [] (5000 + (i : Int)) [(m : Int) % 256, (m : Int) / 256 % 256]).cells) := own_range (hmo.bls.own i HML.out) (g := g2) (by rw [HM2.out]; rfl) (m * 34) _ (fun j u hu => by
                      have h1 := hat j u hu
                      rw [hxs, List.getElem?_append_left (List.getElem?_eq_some_iff.1 h1).1]
                      exact h1)
                    clear hat
                    have HMO4 := hid_of hmo
                    clear hmo hxs
                    obtain ⟨Z, hZ, hZs, hO9, hX9, hkX9⟩ := new_varE wr (EV.mk [] (5000 + (i : Int)) [(m : Int) % 256, (m : Int) / 256 % 256]) HY32.out
                    rw [entA_new] at hZ
                    subst hZ
                    have h1y : (EV.mk [] (5000 + (i : Int)) [(m : Int) % 256, (m : Int) / 256 % 256]).cells.toArray.all (·.oneCell') = true := all_oneCell_toArray (EV.one _)
                    have hsy : (Tryz.prog.info? 41).map (·.size) = some (EV.mk [] (5000 + (i : Int)) [(m : Int) % 256, (m : Int) / 256 % 256]).cells.toArray.size := by rw [List.size_toArray]; exact HSZ.out
                    go_upto_region 25 with (first | refine wpList_load_mid rfl 41 _ rfl g2 (m * 34) rfl (EV.mk [] (5000 + (i : Int)) [(m : Int) % 256, (m : Int) / 256 % 256]).cells _ HR3.out Tryz.underlying41 rfl HSZ.out ?_ | refine wpList_store_row rfl 41 _ _ rfl wr.heap.size _ rfl rfl 41 _ hO9 hsy hZs h1y ?_)
                    clear hO9 hsy hZs h1y
                    generalize (wr.alloc (.cells _ 41)).setRow wr.heap.size (EV.mk [] (5000 + (i : Int)) [(m : Int) % 256, (m : Int) / 256 % 256]).cells.toArray = w5 at *
                    have HM5 := hid_of (HMO4.out.same hkX9)
                    have HX5 := hid_of (range_new hX9)
                    have HK5 := hid_of hkX9
                    generalize wr.heap.size = gx at *
                    clear hX9 hkX9 HMO4
                    obtain ⟨Z, hZ, hZs, hO9, hX9, hkX9⟩ := new_varD w5 (dig2 ((m : Int) % 256) ((m : Int) / 256 % 256)) rfl
                    rw [dig0_new] at hZ
                    subst hZ
                    have h1y : (dig2 ((m : Int) % 256) ((m : Int) / 256 % 256)).toArray.all (·.oneCell') = true := all_oneCell_toArray (dig2_one _ _)
                    have hsy : (Tryz.prog.info? 39).map (·.size) = some (dig2 ((m : Int) % 256) ((m : Int) / 256 % 256)).toArray.size := size39
                    go_upto_region 26 with (first | refine wpList_dig2 rfl _ _ rfl _ _ rfl rfl ?_ | refine wpList_store_row rfl 39 _ _ rfl w5.heap.size _ rfl rfl 39 _ hO9 hsy hZs h1y ?_)
                    clear hO9 hsy hZs h1y
                    generalize (w5.alloc (.cells _ 39)).setRow w5.heap.size (dig2 ((m : Int) % 256) ((m : Int) / 256 % 256)).toArray = w6 at *
                    have HM6 := hid_of (HM5.out.same hkX9)
                    have HX6 := hid_of (range_kept hkX9 HX5.out)
                    have HD6 := hid_of (range_new hX9)
                    have HK6 := hid_of (HK5.out.trans hkX9)
                    generalize w5.heap.size = gd at *
                    clear hX9 hkX9 HM5 HX5 HK5
                    have HS5 : Hid (w6.cell? ⟨gl, i, none⟩ = some (.slice (some ⟨g, 0, none⟩) n vc) ∧ w6.rangeAt g (m * 34) (EV.mk [] (5000 + (i : Int)) [(m : Int) % 256, (m : Int) / 256 % 256]).cells ∧ w6.rangeAt gx 0 (EV.mk [] (5000 + (i : Int)) [(m : Int) % 256, (m : Int) / 256 % 256]).cells ∧ w6.rangeAt gd 0 (dig2 ((m : Int) % 256) ((m : Int) / 256 % 256))) := ⟨HK6.out.cell c0 (fun f => f), range_kept HK6.out HR1.out, HX6.out, HD6.out⟩
                    have hw9 : IntKind.i64.wrap (5000 + (i : Int)) = 5000 + (i : Int) := by simp [IntKind.wrap, IntKind.bits, IntKind.signed]; omega
                    have hd2 : decide (n ≤ m) = false := by simp; omega
                    have hd3 : decide ((n : Int) ≤ (m : Int)) = false := by simp; omega
                    clear c0 c2 HR1 HR3 HX6 HD6 HK6
                    refine wp_region_held_drew (S := fun w' => w'.cell? ⟨gl, i, none⟩ = some (.slice (some ⟨g, 0, none⟩) n vc) ∧ w'.rangeAt g (m * 34) (EV.mk [] (5000 + (i : Int)) [(m : Int) % 256, (m : Int) / 256 % 256]).cells ∧ w'.rangeAt gx 0 (EV.mk [] (5000 + (i : Int)) [(m : Int) % 256, (m : Int) / 256 % 256]).cells ∧ w'.rangeAt gd 0 (dig2 ((m : Int) % 256) ((m : Int) / 256 % 256))) (by kernel_rfl) HS5.out (fun hHeld => ?_)
                    refine wpAnyH_take (i := 0) (v := ?_) rfl (by kernel_rfl) (by kernel_rfl) (by kernel_rfl) (fun _ _ _ h => h) (Or.inl ⟨by rfl, ?_⟩) (by assumption) ?_
                    rotate_left 1
                    · intro w hSw
                      go_simp
                      try with_reducible rfl
                    try simp only [Act.put, List.getElem_toArray, List.getElem_cons_zero, List.getElem_cons_succ, List.setIfInBounds_toArray, List.set_cons_zero, List.set_cons_succ]
                    refine wpAnyH_take (i := 1) (v := ?_) rfl (by kernel_rfl) (by kernel_rfl) (by kernel_rfl) (fun _ _ _ h => h) (Or.inl ⟨by rfl, ?_⟩) (by assumption) ?_
                    rotate_left 1
                    · intro w hSw
                      go_simp
                      try with_reducible rfl
                    try simp only [Act.put, List.getElem_toArray, List.getElem_cons_zero, List.getElem_cons_succ, List.setIfInBounds_toArray, List.set_cons_zero, List.set_cons_succ]
                    refine wpAnyH_take (i := 2) (v := ?_) rfl (by kernel_rfl) (by kernel_rfl) (by kernel_rfl) (fun _ _ _ h => h) (Or.inl ⟨by rfl, ?_⟩) (by assumption) ?_
                    rotate_left 1
                    · intro w hSw
                      go_simp
                      try with_reducible rfl
                    try simp only [Act.put, List.getElem_toArray, List.getElem_cons_zero, List.getElem_cons_succ, List.setIfInBounds_toArray, List.set_cons_zero, List.set_cons_succ]
                    refine wpAnyH_take (i := 3) (v := ?_) rfl (by kernel_rfl) (by kernel_rfl) (by kernel_rfl) (fun _ _ _ h => h) (Or.inl ⟨by rfl, ?_⟩) (by assumption) ?_
                    rotate_left 1
                    · intro w hSw
                      go_simp
                      try with_reducible rfl
                    try simp only [Act.put, List.getElem_toArray, List.getElem_cons_zero, List.getElem_cons_succ, List.setIfInBounds_toArray, List.set_cons_zero, List.set_cons_succ]
                    refine wpAnyH_take (i := 4) (v := ?_) rfl (by kernel_rfl) (by kernel_rfl) (by kernel_rfl) (fun _ _ _ h => h) (Or.inl ⟨by rfl, ?_⟩) (by assumption) ?_
                    rotate_left 1
                    · intro w hSw
                      go_simp
                      try with_reducible rfl
                    try simp only [Act.put, List.getElem_toArray, List.getElem_cons_zero, List.getElem_cons_succ, List.setIfInBounds_toArray, List.set_cons_zero, List.set_cons_succ]
                    refine wpAnyH_take (i := 5) (v := ?_) rfl (by kernel_rfl) (by kernel_rfl) (by kernel_rfl) (fun _ _ _ h => h) (Or.inl ⟨by rfl, ?_⟩) (by assumption) ?_
                    rotate_left 1
                    · intro w hSw
                      go_simp
                      try with_reducible rfl
                    try simp only [Act.put, List.getElem_toArray, List.getElem_cons_zero, List.getElem_cons_succ, List.setIfInBounds_toArray, List.set_cons_zero, List.set_cons_succ]
                    refine wpAnyH_take (i := 6) (v := ?_) rfl (by kernel_rfl) (by kernel_rfl) (by kernel_rfl) (fun _ _ _ h => h) (Or.inl ⟨by rfl, ?_⟩) (by assumption) ?_
                    rotate_left 1
                    · intro w hSw
                      go_simp
                      try with_reducible rfl
                    try simp only [Act.put, List.getElem_toArray, List.getElem_cons_zero, List.getElem_cons_succ, List.setIfInBounds_toArray, List.set_cons_zero, List.set_cons_succ]
                    refine wpAnyH_take (i := 7) (v := ?_) rfl (by kernel_rfl) (by kernel_rfl) (by kernel_rfl) (fun _ _ _ h => h) (Or.inl ⟨by rfl, ?_⟩) (by assumption) ?_
                    rotate_left 1
                    · intro w hSw
                      obtain ⟨d0, d1, d2, d3⟩ := hSw
                      go_simp
                      try with_reducible rfl
                    try simp only [Act.put, List.getElem_toArray, List.getElem_cons_zero, List.getElem_cons_succ, List.setIfInBounds_toArray, List.set_cons_zero, List.set_cons_succ]
                    refine wpAnyH_take (i := 8) (v := ?_) rfl (by kernel_rfl) (by kernel_rfl) (by kernel_rfl) (fun _ _ _ h => h) (Or.inl ⟨by rfl, ?_⟩) (by assumption) ?_
                    rotate_left 1
                    · intro w hSw
                      go_simp
                      try with_reducible rfl
                    try simp only [Act.put, List.getElem_toArray, List.getElem_cons_zero, List.getElem_cons_succ, List.setIfInBounds_toArray, List.set_cons_zero, List.set_cons_succ]
                    refine wpAnyH_take (i := 9) (v := ?_) rfl (by kernel_rfl) (by kernel_rfl) (by kernel_rfl) (fun _ _ _ h => h) (Or.inl ⟨by rfl, ?_⟩) (by assumption) ?_
                    rotate_left 1
                    · intro w hSw
                      go_simp
                      try with_reducible rfl
                    try simp only [Act.put, List.getElem_toArray, List.getElem_cons_zero, List.getElem_cons_succ, List.setIfInBounds_toArray, List.set_cons_zero, List.set_cons_succ]
                    refine wpAnyH_take (i := 10) (v := .agg (EV.mk [] (5000 + (i : Int)) [(m : Int) % 256, (m : Int) / 256 % 256]).cells.toArray) rfl (by kernel_rfl) (by kernel_rfl) (by kernel_rfl) (fun _ _ _ h => h) (yieldsIf_load_mid (by rfl) 41 _ rfl g (m * 34) rfl (EV.mk [] (5000 + (i : Int)) [(m : Int) % 256, (m : Int) / 256 % 256]).cells _ (fun w hSw => hSw.2.1) Tryz.underlying41 rfl HSZ.out) (by assumption) ?_
                    try simp only [Act.put, List.getElem_toArray, List.getElem_cons_zero, List.getElem_cons_succ, List.setIfInBounds_toArray, List.set_cons_zero, List.set_cons_succ]
                    refine wpAnyH_take (i := 11) (v := .agg (EV.mk [] (5000 + (i : Int)) [(m : Int) % 256, (m : Int) / 256 % 256]).cells.toArray) rfl (by kernel_rfl) (by kernel_rfl) (by kernel_rfl) (fun _ _ _ h => h) (yieldsIf_load_mid (by rfl) 41 _ rfl gx 0 rfl (EV.mk [] (5000 + (i : Int)) [(m : Int) % 256, (m : Int) / 256 % 256]).cells _ (fun w hSw => hSw.2.2.1) Tryz.underlying41 rfl HSZ.out) (by assumption) ?_
                    try simp only [Act.put, List.getElem_toArray, List.getElem_cons_zero, List.getElem_cons_succ, List.setIfInBounds_toArray, List.set_cons_zero, List.set_cons_succ]
                    refine wpAnyH_take (i := 12) (v := .bool false) rfl (by kernel_rfl) (by kernel_rfl) (by kernel_rfl) (fun _ _ _ h => h) (yields_same (by rfl) _ _ rfl (EV.mk [] (5000 + (i : Int)) [(m : Int) % 256, (m : Int) / 256 % 256]) HY32.out rfl rfl) (by assumption) ?_
                    try simp only [Act.put, List.getElem_toArray, List.getElem_cons_zero, List.getElem_cons_succ, List.setIfInBounds_toArray, List.set_cons_zero, List.set_cons_succ]
                    refine wpAnyH_take (i := 13) (v := ?_) rfl (by kernel_rfl) (by kernel_rfl) (by kernel_rfl) (fun _ _ _ h => h) (Or.inl ⟨by rfl, ?_⟩) (by assumption) ?_
                    rotate_left 1
                    · intro w hSw
                      go_simp
                      try with_reducible rfl
                    try simp only [Act.put, List.getElem_toArray, List.getElem_cons_zero, List.getElem_cons_succ, List.setIfInBounds_toArray, List.set_cons_zero, List.set_cons_succ]
                    refine wpAnyH_take (i := 14) (v := .agg (EV.mk [] (5000 + (i : Int)) [(m : Int) % 256, (m : Int) / 256 % 256]).cells.toArray) rfl (by kernel_rfl) (by kernel_rfl) (by kernel_rfl) (fun _ _ _ h => h) (yieldsIf_load_mid (by rfl) 41 _ rfl gx 0 rfl (EV.mk [] (5000 + (i : Int)) [(m : Int) % 256, (m : Int) / 256 % 256]).cells _ (fun w hSw => hSw.2.2.1) Tryz.underlying41 rfl HSZ.out) (by assumption) ?_
                    try simp only [Act.put, List.getElem_toArray, List.getElem_cons_zero, List.getElem_cons_succ, List.setIfInBounds_toArray, List.set_cons_zero, List.set_cons_succ]
                    refine wpAnyH_take (i := 15) (v := ?_) rfl (by kernel_rfl) (by kernel_rfl) (by kernel_rfl) (fun _ _ _ h => h) (Or.inl ⟨by rfl, ?_⟩) (by assumption) ?_
                    rotate_left 1
                    · intro w hSw
                      go_simp
                      try with_reducible rfl
                    try simp only [Act.put, List.getElem_toArray, List.getElem_cons_zero, List.getElem_cons_succ, List.setIfInBounds_toArray, List.set_cons_zero, List.set_cons_succ]
                    refine wpAnyH_take (i := 16) (v := .int .i64 (5000 + (i : Int))) rfl (by kernel_rfl) (by kernel_rfl) (by kernel_rfl) (fun _ _ _ h => h) (Or.inl ⟨by rfl, ?_⟩) (by assumption) ?_
                    · intro w hSw
                      go_simp
                      try with_reducible rfl
                    try simp only [Act.put, List.getElem_toArray, List.getElem_cons_zero, List.getElem_cons_succ, List.setIfInBounds_toArray, List.set_cons_zero, List.set_cons_succ]
                    refine wpAnyH_take (i := 17) (v := .agg (dig2 ((m : Int) % 256) ((m : Int) / 256 % 256)).toArray) rfl (by kernel_rfl) (by kernel_rfl) (by kernel_rfl) (fun _ _ _ h => h) (yieldsIf_load_mid (by rfl) 39 _ rfl gd 0 rfl (dig2 ((m : Int) % 256) ((m : Int) / 256 % 256)) _ (fun w hSw => hSw.2.2.2) Tryz.underlying39 rfl HSD.out) (by assumption) ?_
                    try simp only [Act.put, List.getElem_toArray, List.getElem_cons_zero, List.getElem_cons_succ, List.setIfInBounds_toArray, List.set_cons_zero, List.set_cons_succ]
                    refine wpAnyH_take (i := 18) (v := .agg (EV.mk [] (5000 + (i : Int)) [(m : Int) % 256, (m : Int) / 256 % 256]).cells.toArray) rfl (by kernel_rfl) (by kernel_rfl) (by kernel_rfl) (fun _ _ _ h => h) (yields_ent2 (by rfl) _ _ rfl (5000 + (i : Int)) ((m : Int) % 256) ((m : Int) / 256 % 256) rfl rfl) (by assumption) ?_
                    try simp only [Act.put, List.getElem_toArray, List.getElem_cons_zero, List.getElem_cons_succ, List.setIfInBounds_toArray, List.set_cons_zero, List.set_cons_succ]
                    refine wpAnyH_take (i := 19) (v := .bool false) rfl (by kernel_rfl) (by kernel_rfl) (by kernel_rfl) (fun _ _ _ h => h) (yields_same (by rfl) _ _ rfl (EV.mk [] (5000 + (i : Int)) [(m : Int) % 256, (m : Int) / 256 % 256]) HY32.out rfl rfl) (by assumption) ?_
                    try simp only [Act.put, List.getElem_toArray, List.getElem_cons_zero, List.getElem_cons_succ, List.setIfInBounds_toArray, List.set_cons_zero, List.set_cons_succ]
                    refine wpAnyH_take (i := 20) (v := ?_) rfl (by kernel_rfl) (by kernel_rfl) (by kernel_rfl) (fun _ _ _ h => h) (Or.inl ⟨by rfl, ?_⟩) (by assumption) ?_
                    rotate_left 1
                    · intro w hSw
                      go_simp
                      try with_reducible rfl
                    try simp only [Act.put, List.getElem_toArray, List.getElem_cons_zero, List.getElem_cons_succ, List.setIfInBounds_toArray, List.set_cons_zero, List.set_cons_succ]
                    refine wpAnyH_take (i := 21) (v := ?_) rfl (by kernel_rfl) (by kernel_rfl) (by kernel_rfl) (fun _ _ _ h => h) (Or.inl ⟨by rfl, ?_⟩) (by assumption) ?_
                    rotate_left 1
                    · intro w hSw
                      go_simp
                      try with_reducible rfl
                    try simp only [Act.put, List.getElem_toArray, List.getElem_cons_zero, List.getElem_cons_succ, List.setIfInBounds_toArray, List.set_cons_zero, List.set_cons_succ]
                    refine wpAnyH_take (i := 22) (v := ?_) rfl (by kernel_rfl) (by kernel_rfl) (by kernel_rfl) (fun _ _ _ h => h) (Or.inl ⟨by rfl, ?_⟩) (by assumption) ?_
                    rotate_left 1
                    · intro w hSw
                      go_simp
                      try with_reducible rfl
                    try simp only [Act.put, List.getElem_toArray, List.getElem_cons_zero, List.getElem_cons_succ, List.setIfInBounds_toArray, List.set_cons_zero, List.set_cons_succ]
                    refine wpAnyH_take (i := 23) (v := ?_) rfl (by kernel_rfl) (by kernel_rfl) (by kernel_rfl) (fun _ _ _ h => h) (Or.inl ⟨by rfl, ?_⟩) (by assumption) ?_
                    rotate_left 1
                    · intro w hSw
                      go_simp
                      try with_reducible rfl
                    try simp only [Act.put, List.getElem_toArray, List.getElem_cons_zero, List.getElem_cons_succ, List.setIfInBounds_toArray, List.set_cons_zero, List.set_cons_succ]
                    refine wpAnyH_take (i := 24) (v := ?_) rfl (by kernel_rfl) (by kernel_rfl) (by kernel_rfl) (fun _ _ _ h => h) (Or.inl ⟨by rfl, ?_⟩) (by assumption) ?_
                    rotate_left 1
                    · intro w hSw
                      go_simp
                      try with_reducible rfl
                    try simp only [Act.put, List.getElem_toArray, List.getElem_cons_zero, List.getElem_cons_succ, List.setIfInBounds_toArray, List.set_cons_zero, List.set_cons_succ]
                    refine wpAnyH_take (i := 25) (v := .bool false) rfl (by kernel_rfl) (by kernel_rfl) (by kernel_rfl) (fun _ _ _ h => h) (Or.inl ⟨by rfl, ?_⟩) (by assumption) ?_
                    · intro w hSw
                      go_simp
                      try with_reducible rfl
                    try simp only [Act.put, List.getElem_toArray, List.getElem_cons_zero, List.getElem_cons_succ, List.setIfInBounds_toArray, List.set_cons_zero, List.set_cons_succ]
                    refine wpAnyH_take (i := 26) (v := ?_) rfl (by kernel_rfl) (by kernel_rfl) (by kernel_rfl) (fun _ _ _ h => h) (Or.inl ⟨by rfl, ?_⟩) (by assumption) ?_
                    rotate_left 1
                    · intro w hSw
                      go_simp
                      try with_reducible rfl
                    try simp only [Act.put, List.getElem_toArray, List.getElem_cons_zero, List.getElem_cons_succ, List.setIfInBounds_toArray, List.set_cons_zero, List.set_cons_succ]
                    refine wpAnyH_take (i := 27) (v := undef) rfl (by kernel_rfl) (by kernel_rfl) (by kernel_rfl) (fun _ _ _ h => h) (Or.inr ⟨by rfl, rfl⟩) (by assumption) ?_
                    try simp only [Act.put, List.getElem_toArray, List.getElem_cons_zero, List.getElem_cons_succ, List.setIfInBounds_toArray, List.set_cons_zero, List.set_cons_succ]
                    refine wpAnyH_take (i := 28) (v := undef) rfl (by kernel_rfl) (by kernel_rfl) (by kernel_rfl) (fun _ _ _ h => h) (Or.inr ⟨by rfl, rfl⟩) (by assumption) ?_
                    try simp only [Act.put, List.getElem_toArray, List.getElem_cons_zero, List.getElem_cons_succ, List.setIfInBounds_toArray, List.set_cons_zero, List.set_cons_succ]
                    refine wpAnyH_take (i := 29) (v := undef) rfl (by kernel_rfl) (by kernel_rfl) (by kernel_rfl) (fun _ _ _ h => h) (Or.inr ⟨by rfl, rfl⟩) (by assumption) ?_
                    try simp only [Act.put, List.getElem_toArray, List.getElem_cons_zero, List.getElem_cons_succ, List.setIfInBounds_toArray, List.set_cons_zero, List.set_cons_succ]
                    refine wpAnyH_take (i := 30) (v := undef) rfl (by kernel_rfl) (by kernel_rfl) (by kernel_rfl) (fun _ _ _ h => h) (Or.inr ⟨by rfl, rfl⟩) (by assumption) ?_
                    try simp only [Act.put, List.getElem_toArray, List.getElem_cons_zero, List.getElem_cons_succ, List.setIfInBounds_toArray, List.set_cons_zero, List.set_cons_succ]
                    refine wpAnyH_take (i := 31) (v := undef) rfl (by kernel_rfl) (by kernel_rfl) (by kernel_rfl) (fun _ _ _ h => h) (Or.inr ⟨by rfl, rfl⟩) (by assumption) ?_
                    try simp only [Act.put, List.getElem_toArray, List.getElem_cons_zero, List.getElem_cons_succ, List.setIfInBounds_toArray, List.set_cons_zero, List.set_cons_succ]
                    refine wpAnyH_take (i := 32) (v := undef) rfl (by kernel_rfl) (by kernel_rfl) (by kernel_rfl) (fun _ _ _ h => h) (Or.inr ⟨by rfl, rfl⟩) (by assumption) ?_
                    try simp only [Act.put, List.getElem_toArray, List.getElem_cons_zero, List.getElem_cons_succ, List.setIfInBounds_toArray, List.set_cons_zero, List.set_cons_succ]
                    refine wpAnyH_take (i := 33) (v := undef) rfl (by kernel_rfl) (by kernel_rfl) (by kernel_rfl) (fun _ _ _ h => h) (Or.inr ⟨by rfl, rfl⟩) (by assumption) ?_
                    try simp only [Act.put, List.getElem_toArray, List.getElem_cons_zero, List.getElem_cons_succ, List.setIfInBounds_toArray, List.set_cons_zero, List.set_cons_succ]
                    refine wpAnyH_take (i := 34) (v := undef) rfl (by kernel_rfl) (by kernel_rfl) (by kernel_rfl) (fun _ _ _ h => h) (Or.inr ⟨by rfl, rfl⟩) (by assumption) ?_
                    try simp only [Act.put, List.getElem_toArray, List.getElem_cons_zero, List.getElem_cons_succ, List.setIfInBounds_toArray, List.set_cons_zero, List.set_cons_succ]
                    refine wpAnyH_take (i := 35) (v := undef) rfl (by kernel_rfl) (by kernel_rfl) (by kernel_rfl) (fun _ _ _ h => h) (Or.inr ⟨by rfl, rfl⟩) (by assumption) ?_
                    try simp only [Act.put, List.getElem_toArray, List.getElem_cons_zero, List.getElem_cons_succ, List.setIfInBounds_toArray, List.set_cons_zero, List.set_cons_succ]
                    refine wpAnyH_take (i := 36) (v := undef) rfl (by kernel_rfl) (by kernel_rfl) (by kernel_rfl) (fun _ _ _ h => h) (Or.inr ⟨by rfl, rfl⟩) (by assumption) ?_
                    try simp only [Act.put, List.getElem_toArray, List.getElem_cons_zero, List.getElem_cons_succ, List.setIfInBounds_toArray, List.set_cons_zero, List.set_cons_succ]
                    refine wpAnyH_take (i := 37) (v := ?_) rfl (by kernel_rfl) (by kernel_rfl) (by kernel_rfl) (fun _ _ _ h => h) (Or.inl ⟨by rfl, ?_⟩) (by assumption) ?_
                    rotate_left 1
                    · intro w hSw
                      go_simp
                      try with_reducible rfl
                    try simp only [Act.put, List.getElem_toArray, List.getElem_cons_zero, List.getElem_cons_succ, List.setIfInBounds_toArray, List.set_cons_zero, List.set_cons_succ]
                    refine wpAnyH_take (i := 38) (v := ?_) rfl (by kernel_rfl) (by kernel_rfl) (by kernel_rfl) (fun _ _ _ h => h) (Or.inl ⟨by rfl, ?_⟩) (by assumption) ?_
                    rotate_left 1
                    · intro w hSw
                      go_simp
                      try with_reducible rfl
                    try simp only [Act.put, List.getElem_toArray, List.getElem_cons_zero, List.getElem_cons_succ, List.setIfInBounds_toArray, List.set_cons_zero, List.set_cons_succ]
                    refine wpAnyH_done (by kernel_rfl) ?_ _
                    have HM7 := hid_of (HM6.out.same (Kept.drew (Kept.refl _ _)))
                    clear HM6
                    go_wp2
                    go_roundw
                    case rel => first | exact ⟨m + 1, by omega, by go_num, HM7.out⟩ | exact ⟨_, _, _, _, _, _, _, _, _, _, _, _, _, _, _, _, _, _, _, _, _, _, _, _, _, _, _, _, _, _, _, _, _, _, _, _, _, _, _, _, _, _, _, _, _, _, _, _, _, _, _, _, _, _, _, _, _, _, _, _, _, _, ⟨m + 1, by omega, by go_num, HM7.out⟩, rfl⟩
                    case measure => simp [intOf]; omega
                  · have HYL : Hid ((EV.mk [] (-10 - (i : Int)) [(m : Int) - (n : Int)]).cells.length = 34) := EV.clen _ (show 1 ≤ 32 by decide)
                    have HY32 : Hid ((EV.mk [] (-10 - (i : Int)) [(m : Int) - (n : Int)]).fr.length ≤ 32) := (show 1 ≤ 32 by decide)
                    have HSZ : Hid ((Tryz.prog.info? 41).map (·.size) = some (EV.mk [] (-10 - (i : Int)) [(m : Int) - (n : Int)]).cells.length) := by unfold Hid; rw [HYL.out]; exact size47
                    have HSD : Hid ((Tryz.prog.info? 39).map (·.size) = some (dig2 ((m : Int) % 256) ((m : Int) / 256 % 256)).length) := size39
                    have hmnI : (n : Int) ≤ (m : Int) := by omega
                    have hat := rowOf_range (mk := anE i) (anE_len i) (m - n) 20 (by omega)
                    have HR3 : Hid (wr.rangeAt g2 (m * 34) (EV.mk [] (-10 - (i : Int)) [(m : Int) - (n : Int)]).cells) := own_range (hmo.bls.own i HML.out) (g := g2) (by rw [HM2.out]; rfl) (m * 34) _ (fun j u hu => by
                      have h1 := hat j u (by rw [anE, anX, show (((m - n : Nat)) : Int) = (m : Int) - (n : Int) by omega]; exact hu)
                      rw [hxs, List.getElem?_append_right (by rw [rowOf_len (mkE_len i)]; omega), rowOf_len (mkE_len i), show m * 34 + j - n * 34 = (m - n) * 34 + j by omega]
                      exact h1)
                    clear hat
                    have HMO4 := hid_of hmo
                    clear hmo hxs
                    obtain ⟨Z, hZ, hZs, hO9, hX9, hkX9⟩ := new_varE wr (EV.mk [] (-10 - (i : Int)) [(m : Int) - (n : Int)]) HY32.out
                    rw [entA_new] at hZ
                    subst hZ
                    have h1y : (EV.mk [] (-10 - (i : Int)) [(m : Int) - (n : Int)]).cells.toArray.all (·.oneCell') = true := all_oneCell_toArray (EV.one _)
                    have hsy : (Tryz.prog.info? 41).map (·.size) = some (EV.mk [] (-10 - (i : Int)) [(m : Int) - (n : Int)]).cells.toArray.size := by rw [List.size_toArray]; exact HSZ.out
                    go_upto_region 25 with (first | refine wpList_load_mid rfl 41 _ rfl g2 (m * 34) rfl (EV.mk [] (-10 - (i : Int)) [(m : Int) - (n : Int)]).cells _ HR3.out Tryz.underlying41 rfl HSZ.out ?_ | refine wpList_store_row rfl 41 _ _ rfl wr.heap.size _ rfl rfl 41 _ hO9 hsy hZs h1y ?_)
                    clear hO9 hsy hZs h1y
                    generalize (wr.alloc (.cells _ 41)).setRow wr.heap.size (EV.mk [] (-10 - (i : Int)) [(m : Int) - (n : Int)]).cells.toArray = w5 at *
                    have HM5 := hid_of (HMO4.out.same hkX9)
                    have HX5 := hid_of (range_new hX9)
                    have HK5 := hid_of hkX9
                    generalize wr.heap.size = gx at *
                    clear hX9 hkX9 HMO4
                    obtain ⟨Z, hZ, hZs, hO9, hX9, hkX9⟩ := new_varD w5 (dig2 ((m : Int) % 256) ((m : Int) / 256 % 256)) rfl
                    rw [dig0_new] at hZ
                    subst hZ
                    have h1y : (dig2 ((m : Int) % 256) ((m : Int) / 256 % 256)).toArray.all (·.oneCell') = true := all_oneCell_toArray (dig2_one _ _)
                    have hsy : (Tryz.prog.info? 39).map (·.size) = some (dig2 ((m : Int) % 256) ((m : Int) / 256 % 256)).toArray.size := size39
                    go_upto_region 26 with (first | refine wpList_dig2 rfl _ _ rfl _ _ rfl rfl ?_ | refine wpList_store_row rfl 39 _ _ rfl w5.heap.size _ rfl rfl 39 _ hO9 hsy hZs h1y ?_)
                    clear hO9 hsy hZs h1y
                    generalize (w5.alloc (.cells _ 39)).setRow w5.heap.size (dig2 ((m : Int) % 256) ((m : Int) / 256 % 256)).toArray = w6 at *
                    have HM6 := hid_of (HM5.out.same hkX9)
                    have HX6 := hid_of (range_kept hkX9 HX5.out)
                    have HD6 := hid_of (range_new hX9)
                    have HK6 := hid_of (HK5.out.trans hkX9)
                    generalize w5.heap.size = gd at *
                    clear hX9 hkX9 HM5 HX5 HK5
                    have HS5 : Hid (w6.rangeAt gx 0 (EV.mk [] (-10 - (i : Int)) [(m : Int) - (n : Int)]).cells) := HX6.out
                    have hw9 : IntKind.i64.wrap (-10 - (i : Int)) = -10 - (i : Int) := by simp [IntKind.wrap, IntKind.bits, IntKind.signed]; omega
                    have hw8 : IntKind.i64.wrap ((m : Int) - (n : Int)) = (m : Int) - (n : Int) := by simp [IntKind.wrap, IntKind.bits, IntKind.signed]; omega
                    have hw7 : IntKind.u8.wrap ((m : Int) - (n : Int)) = (m : Int) - (n : Int) := by simp [IntKind.wrap, IntKind.bits, IntKind.signed]; omega
                    have hd2 : decide (n ≤ m) = true := by simp; omega
                    have hd3 : decide ((n : Int) ≤ (m : Int)) = true := by simp; omega
                    have hd4 : decide ((m : Int) < (n : Int)) = false := by simp; omega
                    clear c0 c2 HR3 HX6 HD6 HK6
                    refine wp_region_held_drew (S := fun w' => w'.rangeAt gx 0 (EV.mk [] (-10 - (i : Int)) [(m : Int) - (n : Int)]).cells) (by kernel_rfl) HS5.out (fun hHeld => ?_)
                    refine wpAnyH_take (i := 0) (v := ?_) rfl (by kernel_rfl) (by kernel_rfl) (by kernel_rfl) (fun _ _ _ h => h) (Or.inl ⟨by rfl, ?_⟩) (by assumption) ?_
                    rotate_left 1
                    · intro w hSw
                      go_simp
                      try with_reducible rfl
                    try simp only [Act.put, List.getElem_toArray, List.getElem_cons_zero, List.getElem_cons_succ, List.setIfInBounds_toArray, List.set_cons_zero, List.set_cons_succ]
                    refine wpAnyH_take (i := 1) (v := ?_) rfl (by kernel_rfl) (by kernel_rfl) (by kernel_rfl) (fun _ _ _ h => h) (Or.inl ⟨by rfl, ?_⟩) (by assumption) ?_
                    rotate_left 1
                    · intro w hSw
                      go_simp
                      try with_reducible rfl
                    try simp only [Act.put, List.getElem_toArray, List.getElem_cons_zero, List.getElem_cons_succ, List.setIfInBounds_toArray, List.set_cons_zero, List.set_cons_succ]
                    refine wpAnyH_take (i := 2) (v := .bool false) rfl (by kernel_rfl) (by kernel_rfl) (by kernel_rfl) (fun _ _ _ h => h) (Or.inl ⟨by rfl, ?_⟩) (by assumption) ?_
                    · intro w hSw
                      go_simp
                      try with_reducible rfl
                    try simp only [Act.put, List.getElem_toArray, List.getElem_cons_zero, List.getElem_cons_succ, List.setIfInBounds_toArray, List.set_cons_zero, List.set_cons_succ]
                    refine wpAnyH_take (i := 3) (v := ?_) rfl (by kernel_rfl) (by kernel_rfl) (by kernel_rfl) (fun _ _ _ h => h) (Or.inl ⟨by rfl, ?_⟩) (by assumption) ?_
                    rotate_left 1
                    · intro w hSw
                      go_simp
                      try with_reducible rfl
                    try simp only [Act.put, List.getElem_toArray, List.getElem_cons_zero, List.getElem_cons_succ, List.setIfInBounds_toArray, List.set_cons_zero, List.set_cons_succ]
                    refine wpAnyH_take (i := 4) (v := undef) rfl (by kernel_rfl) (by kernel_rfl) (by kernel_rfl) (fun _ _ _ h => h) (Or.inr ⟨by rfl, rfl⟩) (by assumption) ?_
                    try simp only [Act.put, List.getElem_toArray, List.getElem_cons_zero, List.getElem_cons_succ, List.setIfInBounds_toArray, List.set_cons_zero, List.set_cons_succ]
                    refine wpAnyH_take (i := 5) (v := undef) rfl (by kernel_rfl) (by kernel_rfl) (by kernel_rfl) (fun _ _ _ h => h) (Or.inr ⟨by rfl, rfl⟩) (by assumption) ?_
                    try simp only [Act.put, List.getElem_toArray, List.getElem_cons_zero, List.getElem_cons_succ, List.setIfInBounds_toArray, List.set_cons_zero, List.set_cons_succ]
                    refine wpAnyH_take (i := 6) (v := undef) rfl (by kernel_rfl) (by kernel_rfl) (by kernel_rfl) (fun _ _ _ h => h) (Or.inr ⟨by rfl, rfl⟩) (by assumption) ?_
                    try simp only [Act.put, List.getElem_toArray, List.getElem_cons_zero, List.getElem_cons_succ, List.setIfInBounds_toArray, List.set_cons_zero, List.set_cons_succ]
                    refine wpAnyH_take (i := 7) (v := undef) rfl (by kernel_rfl) (by kernel_rfl) (by kernel_rfl) (fun _ _ _ h => h) (Or.inr ⟨by rfl, rfl⟩) (by assumption) ?_
                    try simp only [Act.put, List.getElem_toArray, List.getElem_cons_zero, List.getElem_cons_succ, List.setIfInBounds_toArray, List.set_cons_zero, List.set_cons_succ]
                    refine wpAnyH_take (i := 8) (v := undef) rfl (by kernel_rfl) (by kernel_rfl) (by kernel_rfl) (fun _ _ _ h => h) (Or.inr ⟨by rfl, rfl⟩) (by assumption) ?_
                    try simp only [Act.put, List.getElem_toArray, List.getElem_cons_zero, List.getElem_cons_succ, List.setIfInBounds_toArray, List.set_cons_zero, List.set_cons_succ]
                    refine wpAnyH_take (i := 9) (v := undef) rfl (by kernel_rfl) (by kernel_rfl) (by kernel_rfl) (fun _ _ _ h => h) (Or.inr ⟨by rfl, rfl⟩) (by assumption) ?_
                    try simp only [Act.put, List.getElem_toArray, List.getElem_cons_zero, List.getElem_cons_succ, List.setIfInBounds_toArray, List.set_cons_zero, List.set_cons_succ]
                    refine wpAnyH_take (i := 10) (v := undef) rfl (by kernel_rfl) (by kernel_rfl) (by kernel_rfl) (fun _ _ _ h => h) (Or.inr ⟨by rfl, rfl⟩) (by assumption) ?_
                    try simp only [Act.put, List.getElem_toArray, List.getElem_cons_zero, List.getElem_cons_succ, List.setIfInBounds_toArray, List.set_cons_zero, List.set_cons_succ]
                    refine wpAnyH_take (i := 11) (v := undef) rfl (by kernel_rfl) (by kernel_rfl) (by kernel_rfl) (fun _ _ _ h => h) (Or.inr ⟨by rfl, rfl⟩) (by assumption) ?_
                    try simp only [Act.put, List.getElem_toArray, List.getElem_cons_zero, List.getElem_cons_succ, List.setIfInBounds_toArray, List.set_cons_zero, List.set_cons_succ]
                    refine wpAnyH_take (i := 12) (v := undef) rfl (by kernel_rfl) (by kernel_rfl) (by kernel_rfl) (fun _ _ _ h => h) (Or.inr ⟨by rfl, rfl⟩) (by assumption) ?_
                    try simp only [Act.put, List.getElem_toArray, List.getElem_cons_zero, List.getElem_cons_succ, List.setIfInBounds_toArray, List.set_cons_zero, List.set_cons_succ]
                    refine wpAnyH_take (i := 13) (v := undef) rfl (by kernel_rfl) (by kernel_rfl) (by kernel_rfl) (fun _ _ _ h => h) (Or.inr ⟨by rfl, rfl⟩) (by assumption) ?_
                    try simp only [Act.put, List.getElem_toArray, List.getElem_cons_zero, List.getElem_cons_succ, List.setIfInBounds_toArray, List.set_cons_zero, List.set_cons_succ]
                    refine wpAnyH_take (i := 14) (v := undef) rfl (by kernel_rfl) (by kernel_rfl) (by kernel_rfl) (fun _ _ _ h => h) (Or.inr ⟨by rfl, rfl⟩) (by assumption) ?_
                    try simp only [Act.put, List.getElem_toArray, List.getElem_cons_zero, List.getElem_cons_succ, List.setIfInBounds_toArray, List.set_cons_zero, List.set_cons_succ]
                    refine wpAnyH_take (i := 15) (v := undef) rfl (by kernel_rfl) (by kernel_rfl) (by kernel_rfl) (fun _ _ _ h => h) (Or.inr ⟨by rfl, rfl⟩) (by assumption) ?_
                    try simp only [Act.put, List.getElem_toArray, List.getElem_cons_zero, List.getElem_cons_succ, List.setIfInBounds_toArray, List.set_cons_zero, List.set_cons_succ]
                    refine wpAnyH_take (i := 16) (v := undef) rfl (by kernel_rfl) (by kernel_rfl) (by kernel_rfl) (fun _ _ _ h => h) (Or.inr ⟨by rfl, rfl⟩) (by assumption) ?_
                    try simp only [Act.put, List.getElem_toArray, List.getElem_cons_zero, List.getElem_cons_succ, List.setIfInBounds_toArray, List.set_cons_zero, List.set_cons_succ]
                    refine wpAnyH_take (i := 17) (v := undef) rfl (by kernel_rfl) (by kernel_rfl) (by kernel_rfl) (fun _ _ _ h => h) (Or.inr ⟨by rfl, rfl⟩) (by assumption) ?_
                    try simp only [Act.put, List.getElem_toArray, List.getElem_cons_zero, List.getElem_cons_succ, List.setIfInBounds_toArray, List.set_cons_zero, List.set_cons_succ]
                    refine wpAnyH_take (i := 18) (v := undef) rfl (by kernel_rfl) (by kernel_rfl) (by kernel_rfl) (fun _ _ _ h => h) (Or.inr ⟨by rfl, rfl⟩) (by assumption) ?_
                    try simp only [Act.put, List.getElem_toArray, List.getElem_cons_zero, List.getElem_cons_succ, List.setIfInBounds_toArray, List.set_cons_zero, List.set_cons_succ]
                    refine wpAnyH_take (i := 19) (v := undef) rfl (by kernel_rfl) (by kernel_rfl) (by kernel_rfl) (fun _ _ _ h => h) (Or.inr ⟨by rfl, rfl⟩) (by assumption) ?_
                    try simp only [Act.put, List.getElem_toArray, List.getElem_cons_zero, List.getElem_cons_succ, List.setIfInBounds_toArray, List.set_cons_zero, List.set_cons_succ]
                    refine wpAnyH_take (i := 20) (v := undef) rfl (by kernel_rfl) (by kernel_rfl) (by kernel_rfl) (fun _ _ _ h => h) (Or.inr ⟨by rfl, rfl⟩) (by assumption) ?_
                    try simp only [Act.put, List.getElem_toArray, List.getElem_cons_zero, List.getElem_cons_succ, List.setIfInBounds_toArray, List.set_cons_zero, List.set_cons_succ]
                    refine wpAnyH_take (i := 21) (v := ?_) rfl (by kernel_rfl) (by kernel_rfl) (by kernel_rfl) (fun _ _ _ h => h) (Or.inl ⟨by rfl, ?_⟩) (by assumption) ?_
                    rotate_left 1
                    · intro w hSw
                      go_simp
                      try with_reducible rfl
                    try simp only [Act.put, List.getElem_toArray, List.getElem_cons_zero, List.getElem_cons_succ, List.setIfInBounds_toArray, List.set_cons_zero, List.set_cons_succ]
                    refine wpAnyH_take (i := 22) (v := ?_) rfl (by kernel_rfl) (by kernel_rfl) (by kernel_rfl) (fun _ _ _ h => h) (Or.inl ⟨by rfl, ?_⟩) (by assumption) ?_
                    rotate_left 1
                    · intro w hSw
                      go_simp
                      try with_reducible rfl
                    try simp only [Act.put, List.getElem_toArray, List.getElem_cons_zero, List.getElem_cons_succ, List.setIfInBounds_toArray, List.set_cons_zero, List.set_cons_succ]
                    refine wpAnyH_take (i := 23) (v := ?_) rfl (by kernel_rfl) (by kernel_rfl) (by kernel_rfl) (fun _ _ _ h => h) (Or.inl ⟨by rfl, ?_⟩) (by assumption) ?_
                    rotate_left 1
                    · intro w hSw
                      go_simp
                      try with_reducible rfl
                    try simp only [Act.put, List.getElem_toArray, List.getElem_cons_zero, List.getElem_cons_succ, List.setIfInBounds_toArray, List.set_cons_zero, List.set_cons_succ]
                    refine wpAnyH_take (i := 24) (v := ?_) rfl (by kernel_rfl) (by kernel_rfl) (by kernel_rfl) (fun _ _ _ h => h) (Or.inl ⟨by rfl, ?_⟩) (by assumption) ?_
                    rotate_left 1
                    · intro w hSw
                      go_simp
                      try with_reducible rfl
                    try simp only [Act.put, List.getElem_toArray, List.getElem_cons_zero, List.getElem_cons_succ, List.setIfInBounds_toArray, List.set_cons_zero, List.set_cons_succ]
                    refine wpAnyH_take (i := 25) (v := .bool true) rfl (by kernel_rfl) (by kernel_rfl) (by kernel_rfl) (fun _ _ _ h => h) (Or.inl ⟨by rfl, ?_⟩) (by assumption) ?_
                    · intro w hSw
                      go_simp
                      try with_reducible rfl
                    try simp only [Act.put, List.getElem_toArray, List.getElem_cons_zero, List.getElem_cons_succ, List.setIfInBounds_toArray, List.set_cons_zero, List.set_cons_succ]
                    refine wpAnyH_take (i := 26) (v := ?_) rfl (by kernel_rfl) (by kernel_rfl) (by kernel_rfl) (fun _ _ _ h => h) (Or.inl ⟨by rfl, ?_⟩) (by assumption) ?_
                    rotate_left 1
                    · intro w hSw
                      go_simp
                      try with_reducible rfl
                    try simp only [Act.put, List.getElem_toArray, List.getElem_cons_zero, List.getElem_cons_succ, List.setIfInBounds_toArray, List.set_cons_zero, List.set_cons_succ]
                    refine wpAnyH_take (i := 27) (v := .agg (EV.mk [] (-10 - (i : Int)) [(m : Int) - (n : Int)]).cells.toArray) rfl (by kernel_rfl) (by kernel_rfl) (by kernel_rfl) (fun _ _ _ h => h) (yieldsIf_load_mid (by rfl) 41 _ rfl gx 0 rfl (EV.mk [] (-10 - (i : Int)) [(m : Int) - (n : Int)]).cells _ (fun w hSw => hSw) Tryz.underlying41 rfl HSZ.out) (by assumption) ?_
                    try simp only [Act.put, List.getElem_toArray, List.getElem_cons_zero, List.getElem_cons_succ, List.setIfInBounds_toArray, List.set_cons_zero, List.set_cons_succ]
                    refine wpAnyH_take (i := 28) (v := ?_) rfl (by kernel_rfl) (by kernel_rfl) (by kernel_rfl) (fun _ _ _ h => h) (Or.inl ⟨by rfl, ?_⟩) (by assumption) ?_
                    rotate_left 1
                    · intro w hSw
                      go_simp
                      try with_reducible rfl
                    try simp only [Act.put, List.getElem_toArray, List.getElem_cons_zero, List.getElem_cons_succ, List.setIfInBounds_toArray, List.set_cons_zero, List.set_cons_succ]
                    refine wpAnyH_take (i := 29) (v := .int .i64 (-10 - (i : Int))) rfl (by kernel_rfl) (by kernel_rfl) (by kernel_rfl) (fun _ _ _ h => h) (Or.inl ⟨by rfl, ?_⟩) (by assumption) ?_
                    · intro w hSw
                      go_simp
                      try with_reducible rfl
                    try simp only [Act.put, List.getElem_toArray, List.getElem_cons_zero, List.getElem_cons_succ, List.setIfInBounds_toArray, List.set_cons_zero, List.set_cons_succ]
                    refine wpAnyH_take (i := 30) (v := ?_) rfl (by kernel_rfl) (by kernel_rfl) (by kernel_rfl) (fun _ _ _ h => h) (Or.inl ⟨by rfl, ?_⟩) (by assumption) ?_
                    rotate_left 1
                    · intro w hSw
                      go_simp
                      try with_reducible rfl
                    try simp only [Act.put, List.getElem_toArray, List.getElem_cons_zero, List.getElem_cons_succ, List.setIfInBounds_toArray, List.set_cons_zero, List.set_cons_succ]
                    refine wpAnyH_take (i := 31) (v := ?_) rfl (by kernel_rfl) (by kernel_rfl) (by kernel_rfl) (fun _ _ _ h => h) (Or.inl ⟨by rfl, ?_⟩) (by assumption) ?_
                    rotate_left 1
                    · intro w hSw
                      go_simp
                      try with_reducible rfl
                    try simp only [Act.put, List.getElem_toArray, List.getElem_cons_zero, List.getElem_cons_succ, List.setIfInBounds_toArray, List.set_cons_zero, List.set_cons_succ]
                    refine wpAnyH_take (i := 32) (v := .int .i64 ((m : Int) - (n : Int))) rfl (by kernel_rfl) (by kernel_rfl) (by kernel_rfl) (fun _ _ _ h => h) (Or.inl ⟨by rfl, ?_⟩) (by assumption) ?_
                    · intro w hSw
                      go_simp
                      try with_reducible rfl
                    try simp only [Act.put, List.getElem_toArray, List.getElem_cons_zero, List.getElem_cons_succ, List.setIfInBounds_toArray, List.set_cons_zero, List.set_cons_succ]
                    refine wpAnyH_take (i := 33) (v := .int .u8 ((m : Int) - (n : Int))) rfl (by kernel_rfl) (by kernel_rfl) (by kernel_rfl) (fun _ _ _ h => h) (Or.inl ⟨by rfl, ?_⟩) (by assumption) ?_
                    · intro w hSw
                      go_simp
                      try with_reducible rfl
                    try simp only [Act.put, List.getElem_toArray, List.getElem_cons_zero, List.getElem_cons_succ, List.setIfInBounds_toArray, List.set_cons_zero, List.set_cons_succ]
                    refine wpAnyH_take (i := 34) (v := .agg (dig1 ((m : Int) - (n : Int))).toArray) rfl (by kernel_rfl) (by kernel_rfl) (by kernel_rfl) (fun _ _ _ h => h) (yields_dig1 (by rfl) _ rfl ((m : Int) - (n : Int)) rfl) (by assumption) ?_
                    try simp only [Act.put, List.getElem_toArray, List.getElem_cons_zero, List.getElem_cons_succ, List.setIfInBounds_toArray, List.set_cons_zero, List.set_cons_succ]
                    refine wpAnyH_take (i := 35) (v := .agg (EV.mk [] (-10 - (i : Int)) [(m : Int) - (n : Int)]).cells.toArray) rfl (by kernel_rfl) (by kernel_rfl) (by kernel_rfl) (fun _ _ _ h => h) (yields_ent1 (by rfl) _ _ rfl (-10 - (i : Int)) ((m : Int) - (n : Int)) rfl rfl) (by assumption) ?_
                    try simp only [Act.put, List.getElem_toArray, List.getElem_cons_zero, List.getElem_cons_succ, List.setIfInBounds_toArray, List.set_cons_zero, List.set_cons_succ]
                    refine wpAnyH_take (i := 36) (v := .bool false) rfl (by kernel_rfl) (by kernel_rfl) (by kernel_rfl) (fun _ _ _ h => h) (yields_same (by rfl) _ _ rfl (EV.mk [] (-10 - (i : Int)) [(m : Int) - (n : Int)]) HY32.out rfl rfl) (by assumption) ?_
                    try simp only [Act.put, List.getElem_toArray, List.getElem_cons_zero, List.getElem_cons_succ, List.setIfInBounds_toArray, List.set_cons_zero, List.set_cons_succ]
                    refine wpAnyH_take (i := 37) (v := ?_) rfl (by kernel_rfl) (by kernel_rfl) (by kernel_rfl) (fun _ _ _ h => h) (Or.inl ⟨by rfl, ?_⟩) (by assumption) ?_
                    rotate_left 1
                    · intro w hSw
                      go_simp
                      try with_reducible rfl
                    try simp only [Act.put, List.getElem_toArray, List.getElem_cons_zero, List.getElem_cons_succ, List.setIfInBounds_toArray, List.set_cons_zero, List.set_cons_succ]
                    refine wpAnyH_take (i := 38) (v := ?_) rfl (by kernel_rfl) (by kernel_rfl) (by kernel_rfl) (fun _ _ _ h => h) (Or.inl ⟨by rfl, ?_⟩) (by assumption) ?_
                    rotate_left 1
                    · intro w hSw
                      go_simp
                      try with_reducible rfl
                    try simp only [Act.put, List.getElem_toArray, List.getElem_cons_zero, List.getElem_cons_succ, List.setIfInBounds_toArray, List.set_cons_zero, List.set_cons_succ]
                    refine wpAnyH_done (by kernel_rfl) ?_ _
                    have HM7 := hid_of (HM6.out.same (Kept.drew (Kept.refl _ _)))
                    clear HM6
                    go_wp2
                    go_roundw
                    case rel => first | exact ⟨m + 1, by omega, by go_num, HM7.out⟩ | exact ⟨_, _, _, _, _, _, _, _, _, _, _, _, _, _, _, _, _, _, _, _, _, _, _, _, _, _, _, _, _, _, _, _, _, _, _, _, _, _, _, _, _, _, _, _, _, _, _, _, _, _, _, _, _, _, _, _, _, _, _, _, _, _, ⟨m + 1, by omega, by go_num, HM7.out⟩, rfl⟩
                    case measure => simp [intOf]; omega
                · have hmN : m = n + 20 := by omega
                  have hmI : ¬ ((m : Int) < (n : Int) + 20) := by omega
                  have HMO4 := hid_of hmo
                  clear hmo hmN
                  go_wp2
                  go_roundw
                  case rel => exact ⟨i + 1, by omega, by go_num, HMO4.out⟩
                  case measure => simp [intOf]; omega
            · have hik : i = k := by omega
              subst hik
              have hkI3 : ¬ ((i : Int) < (i : Int)) := by omega
              have HKP := hid_of hmo.kept
              clear hmo HMO
              go_wp2
              go_ret
              exact ⟨rfl, HKP.out⟩
end Go.Proofs.YtcpkbajmilkhpabGreatDoor
