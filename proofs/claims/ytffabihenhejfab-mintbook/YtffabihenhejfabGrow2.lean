/-
  GrownBytes: the walk.
-/
import Derived.Test.YtffabihenhejfabGrow1
import Derived.Deep.RegionHeld3
namespace Go.Proofs.Ytffabihenhejfab
open Go.ChangeShapes Go.WideShapes Go.ChangeAt Go.RowKit Go.Deep
set_option linter.unusedVariables false

set_option maxRecDepth 100000 in
set_option maxHeartbeats 4000000 in
theorem grown_any (lv : Value) (ls : List BL) (w : World) (h : BLs w lv ls) (hn : ls.length ≤ 1000) (hlong : ∀ i, i < ls.length → (ls.getD i BL.default).xs.length ≤ 4194304) :
    Calls Try.prog 16 #[lv] w fun e w' => e = .returned (.bool true) ∧ Kept (Blk ls) w w' := by
  obtain ⟨i5, hi5, z50, z51, z52⟩ := info_parts Try.info5
  obtain ⟨i31, hi31, z310, z311, z312⟩ := info_parts Try.info31
  obtain ⟨lao, lc, rfl⟩ := ownsRow_shape h.row
  have hgl : 0 < ls.length → ∃ gl, lao = some ⟨gl, 0, none⟩ := fun h0 => by
    rcases h.row.2 with ⟨_, h1⟩ | ⟨g, cap, cur, e, _⟩
    · omega
    · cases e; exact ⟨g, rfl⟩
  obtain ⟨N, hN⟩ : ∃ N, N = ls.length := ⟨_, rfl⟩
  rw [← hN] at h
  have HB := hid_of h
  have HGL := hid_of hgl
  have HLONG := hid_of hlong
  have HN := hid_of hN
  have hn' : N ≤ 1000 := by omega
  clear h hgl hlong hn
  rw [← hN]
  clear hN
  go_enter Try.func16, Try.ntmps16
  go_wp2_with fail
  go_loopw [3] (fun i wr => ∃ k : Nat, k ≤ N ∧ i = .int .i64 k ∧ Fil w wr (.slice lao N lc) ls k 0) (fun i _ => N - (intOf i).toNat)
  case atStart => exact ⟨0, Nat.zero_le _, rfl, Fil.start HB.out⟩
  case round =>
    obtain ⟨k, hk, rfl, hf⟩ := hrel
    by_cases hlt : k < N
    · have hltI : (k : Int) < (N : Int) := by omega
      obtain ⟨gl, hgl⟩ := HGL.out (by rw [← HN.out]; omega)
      subst hgl
      have HF := hid_of hf
      clear hf
      obtain ⟨n, hn⟩ : ∃ n, n = (ls.getD k BL.default).xs.length := ⟨_, rfl⟩
      have hn2 : n ≤ 4194304 := by rw [hn]; exact HLONG.out k (by rw [← HN.out]; exact hlt)
      have HNN := hid_of hn
      obtain ⟨vao, vc, hv⟩ := (HF.out.own k (by rw [← HN.out]; exact hlt)).shape
      have hvl : (cAt ls k 0 k).length = n := by rw [cAt_self, hn]; simp [marks]
      rw [hvl] at hv
      have HV := hid_of hv
      clear hv hvl hn
      go_wp2_with fail
      go_loopw [4] (fun j wr => ∃ m : Nat, m ≤ n ∧ j = .int .i64 m ∧ Fil w wr (.slice (some ⟨gl, 0, none⟩) N lc) ls k m) (fun j _ => n - (intOf j).toNat)
      case atStart => exact ⟨0, Nat.zero_le _, rfl, HF.out⟩
      case round =>
        obtain ⟨m, hm, rfl, hf⟩ := hrel
        have c0 := hf.cell (g := gl) rfl k (by rw [← HN.out]; exact hlt)
        rw [HV.out] at c0
        have HF2 := hid_of hf
        clear hf
        by_cases hml : m < n
        · have hmlI : (m : Int) < (n : Int) := by omega
          obtain ⟨g, hvg⟩ : ∃ g, vao = some ⟨g, 0, none⟩ := by
            obtain ⟨g, c, e⟩ := (HF2.out.own k (by rw [← HN.out]; exact hlt)).at (by rw [cAt_self, List.length_append, marks_len, List.length_drop, ← HNN.out]; omega)
            rw [HV.out] at e
            cases e
            exact ⟨g, rfl⟩
          subst hvg
          have hown := HF2.out.own k (by rw [← HN.out]; exact hlt)
          rw [HV.out] at hown
          obtain ⟨u, hu⟩ : ∃ u, (cAt ls k m k)[m]? = some u := by
            have : m < (cAt ls k m k).length := by rw [cAt_self, List.length_append, marks_len, List.length_drop, ← HNN.out]; omega
            exact ⟨_, List.getElem?_eq_getElem this⟩
          have c1 := hown.cell (g := g) rfl m u hu
          have f1 := hown.frozen m
          have HS := hid_of (Fil.step HB.out HF2.out (by rw [← HN.out]; exact hlt) (by rw [← HNN.out]; exact hml) HV.out)
          clear hown hu
          have hmk := fun w' => mark_any k m w' (by omega) (by omega)
          go_wp2_with fail
          go_region_law (first | (refine step_call2 rfl 37 (.tmp 33) (.tmp 34) 3 3 rfl _ _ rfl rfl _ (ent37 _ _ _) (hmk _) ?_))
          all_goals
            generalize hw9 : World.drew _ = w9
            have HS9 : Hid (Fil w w9 (.slice (some ⟨gl, 0, none⟩) N lc) ls k (m + 1)) := by rw [← hw9]; exact HS.out.drew1
            clear hw9 HS c0 c1 f1 HF2
            go_wp2
            go_roundw
            case rel => exact ⟨m + 1, by omega, by go_num, HS9.out⟩
            case measure => simp [intOf]; omega
        · have hmn : m = n := by omega
          subst hmn
          have HNX := hid_of (Fil.next (by rw [← HNN.out]; exact HF2.out))
          have hmI : ¬ ((m : Int) < (m : Int)) := by omega
          go_wp2
          go_roundw
          case rel => exact ⟨k + 1, by omega, by go_num, HNX.out⟩
          case measure => simp [intOf]; omega
    · have hkN : k = N := by omega
      subst hkN
      have HM0 := hid_of (Mor.start (by rw [← HN.out]; exact hf))
      have hkI : ¬ ((k : Int) < (k : Int)) := by omega
      clear hf
      rename World => w1
      go_wp2_with fail
      go_loopw [5, 6] (fun mv i wr => ∃ (k2 : Nat) (ms : List BL), k2 ≤ k ∧ i = .int .i64 k2 ∧ Mor w wr (.slice lao k lc) mv ls ms k2 k2) (fun _ i _ => k - (intOf i).toNat)
      case atStart => exact ⟨0, [], Nat.zero_le _, rfl, HM0.out⟩
      case round =>
        obtain ⟨k2, ms, hk2, rfl, hmo⟩ := hrel
        by_cases hlt2 : k2 < k
        · have hltI : (k2 : Int) < (k : Int) := by omega
          obtain ⟨gl, hgl⟩ := HGL.out (by rw [← HN.out]; omega)
          subst hgl
          have hkl : k2 < ls.length := by rw [← HN.out]; exact hlt2
          have HIN := hid_of (Inn.start HB.out hmo hkl)
          have c0 := hmo.cell (g := gl) rfl k2 hkl
          obtain ⟨n, hn⟩ : ∃ n, n = (ls.getD k2 BL.default).xs.length := ⟨_, rfl⟩
          have hn2 : n ≤ 4194304 := by rw [hn]; exact HLONG.out k2 hkl
          have HNN := hid_of hn
          have HKL := hid_of hkl
          have HLEN := hid_of hmo.len
          obtain ⟨vao, vc, hv⟩ := (hmo.rest k2 (Nat.le_refl _) hkl).shape
          rw [marks_len, ← hn] at hv
          have HV := hid_of hv
          rw [hv] at c0
          clear hmo hn hv
          go_wp2_with fail
          go_loopw [7, 8] (fun gv j wr => ∃ m : Nat, m ≤ 96 ∧ j = .int .i64 m ∧ Inn w wr (.slice (some ⟨gl, 0, none⟩) k lc) u5 gv ls ms k2 m) (fun _ j _ => 96 - (intOf j).toNat)
          case atStart => exact ⟨0, by omega, rfl, by rw [← HV.out]; exact HIN.out⟩
          case round =>
            obtain ⟨m, hm, rfl, hin⟩ := hrel
            by_cases hml : m < 96
            · have hmlI : (m : Int) < 96 := by omega
              have hmk := fun w' => mark_any k2 m w' (by omega) (by omega)
              have hmb := markB_le k2 m
              have hown := hin.own
              have HI := hid_of hin
              obtain ⟨L, hL⟩ : ∃ L, L = marks k2 (ls.getD k2 BL.default).xs.length ++ anti k2 m := ⟨_, rfl⟩
              rw [← hL] at hown
              have HO := hid_of hown
              have HL := hid_of hL
              have hll : L.length ≤ 4194304 + 96 := by rw [hL, List.length_append, marks_len, anti_len, ← HNN.out]; omega
              clear hin hown hL
              go_wp2_with (first | (go_at_call 37; refine (hmk _).mono ?_; rintro e w5 ⟨rfl, rfl⟩) | (at_builtin; refine wpList_append_old _ rfl (.tmp 51) (.tmp 56) 31 rfl 0 5 i5 (.int .u8 0) 1 1 Try.underlying31 hi5 z50 z51 z52 rfl (by decide) _ _ _ rfl (HO.out.alloc _) ⟨_, 0, none⟩ 1 1 [.int .u8 (255 - markB k2 m)] rfl rfl (cell_one_new _ _ _) (by intro u hu; simp at hu; subst hu; rfl) (by unfold maxLen; omega) (by omega) (Nat.zero_le _) ?_))
              intro gv' w' hown' hgrow hat hold
              have R := hid_of (Inn.step HL.out HB.out HI.out HKL.out hown' hgrow hat (fun g hg j' x hx => hold g hg j' _ (by simp [hx])))
              clear hown' hgrow hat hold HO HI HL
              go_wp2
              go_roundw
              case rel => exact ⟨m + 1, by omega, by go_num, R.out⟩
              case measure => simp [intOf]; omega
            · have hm96 : m = 96 := by omega
              subst hm96
              have HI := hid_of hin
              obtain ⟨gao, gc, hgv⟩ := hin.own.shape
              obtain ⟨gn, hgn⟩ : ∃ gn, gn = (marks k2 (ls.getD k2 BL.default).xs.length ++ anti k2 96).length := ⟨_, rfl⟩
              rw [← hgn] at hgv
              clear hgn
              subst hgv
              have hmr := hin.mor.bls.row
              have HR := hid_of hmr
              have hml2 : ms.length ≤ 1000 := by rw [HLEN.out]; omega
              clear hin hmr
              go_wp2_with (at_builtin; refine wpList_append_old _ rfl (.tmp 58) (.tmp 60) 48 rfl 0 31 i31 (.slice none 0 0) 1 24 Try.underlying48 hi31 z310 z311 z312 rfl (by decide) _ _ _ rfl (HR.out.alloc _) ⟨_, 0, none⟩ 1 1 [.slice gao _ gc] rfl rfl (cell_one_new _ _ _) (by intro u hu; simp at hu; subst hu; rfl) (by unfold maxLen; omega) (by omega) (Nat.zero_le _) ?_)
              intro mv' w' hown' hgrow hat hold
              have R := hid_of (Inn.done HB.out HI.out HKL.out hown' hgrow hat)
              clear hown' hgrow hat hold HR HI
              go_wp2
              go_roundw
              case rel => exact ⟨k2 + 1, _, by omega, by go_num, R.out⟩
              case measure => simp [intOf]; omega
        · have hk2' : k2 = k := by omega
          subst hk2'
          have hkI2 : ¬ ((k2 : Int) < (k2 : Int)) := by omega
          have HMO := hid_of hmo
          clear hmo HM0
          rename World => w2
          go_wp2_with fail
          go_loopw [9] (fun i wr => ∃ (k3 : Nat), k3 ≤ k2 ∧ i = .int .i64 k3 ∧ Mor w wr (.slice lao k2 lc) u5 ls ms k2 k2) (fun i _ => k2 - (intOf i).toNat)
          case atStart => exact ⟨0, Nat.zero_le _, rfl, HMO.out⟩
          case round =>
            obtain ⟨k3, hk3, rfl, hmo⟩ := hrel
            by_cases hlt3 : k3 < k2
            · have hltI : (k3 : Int) < (k2 : Int) := by omega
              obtain ⟨gl, hgl⟩ := HGL.out (by rw [← HN.out]; omega)
              subst hgl
              have hkl : k3 < ls.length := by rw [← HN.out]; exact hlt3
              have c0 := hmo.cell (g := gl) rfl k3 hkl
              obtain ⟨n, hn⟩ : ∃ n, n = (ls.getD k3 BL.default).xs.length := ⟨_, rfl⟩
              have hn2 : n ≤ 4194304 := by rw [hn]; exact HLONG.out k3 hkl
              have HNN := hid_of hn
              have HKL := hid_of hkl
              obtain ⟨vao, vc, hv⟩ := (HB.out.own k3 hkl).shape
              rw [← hn] at hv
              have HV := hid_of hv
              have hvn : 0 < n → ∃ g, vao = some ⟨g, 0, none⟩ := fun h0 => by
                obtain ⟨g, c, e⟩ := (HB.out.own k3 hkl).at (by rw [← hn]; exact h0)
                rw [hv] at e
                cases e
                exact ⟨g, rfl⟩
              have HVN := hid_of hvn
              have hmlen := hmo.len
              have hmx := hmo.xs k3 hlt3
              have HMX := hid_of hmx
              obtain ⟨gm, mc, hmv⟩ : ∃ gm mc, u5 = .slice (some ⟨gm, 0, none⟩) k2 mc := by
                rcases hmo.bls.row.2 with ⟨_, h1⟩ | ⟨g, cap, cur, e, _⟩
                · omega
                · rw [hmlen] at e; exact ⟨g, cap, e⟩
              subst hmv
              obtain ⟨g2, c2, hm2⟩ := (hmo.bls.own k3 (by omega)).at (by rw [hmx, List.length_append, anti_len]; omega)
              rw [hmx, List.length_append, marks_len, anti_len, ← hn] at hm2
              have HM2 := hid_of hm2
              rw [hv] at c0
              have HMO3 := hid_of hmo
              clear hmo hn hv hmx hvn hm2 HMO
              go_wp2_with fail
              go_loopw [11] (fun j wr => ∃ m : Nat, m ≤ n ∧ j = .int .i64 m ∧ Mor w wr (.slice (some ⟨gl, 0, none⟩) k2 lc) (.slice (some ⟨gm, 0, none⟩) k2 mc) ls ms k2 k2) (fun j _ => n - (intOf j).toNat)
              case atStart => exact ⟨0, by omega, rfl, HMO3.out⟩
              case round =>
                obtain ⟨m, hm, rfl, hmo⟩ := hrel
                by_cases hml : m < n
                · have hmlI : (m : Int) < (n : Int) := by omega
                  have hmk := fun w' => mark_any k3 m w' (by omega) (by omega)
                  obtain ⟨g, hvg⟩ := HVN.out (by omega)
                  subst hvg
                  have c0 := hmo.cell (g := gl) rfl k3 HKL.out
                  rw [HV.out] at c0
                  have c1 := hmo.cells k3 HKL.out g (by rw [HV.out]; rfl) m (by rw [← HNN.out]; exact hml)
                  have c2' := hmo.bls.cell (g := gm) rfl k3 (by omega)
                  rw [HM2.out] at c2'
                  have c3 := (hmo.bls.own k3 (by omega)).cell (g := g2) (by rw [HM2.out]; rfl) m (markB k3 m) (by rw [HMX.out, List.getElem?_append_left (by rw [marks_len, ← HNN.out]; exact hml), marks_at k3 _ m (by rw [← HNN.out]; exact hml)])
                  have HMO4 := hid_of hmo
                  clear hmo
                  have hm96 : (m : Int) < (n : Int) + 96 := by omega
                  go_wp2_with fail
                  go_region_held3 (fun w' => w'.cell? ⟨gl, k3, none⟩ = some (.slice (some ⟨g, 0, none⟩) n vc) ∧ w'.cell? ⟨g, m, none⟩ = some (.int .u8 (markB k3 m)) ∧ w'.cell? ⟨gm, k3, none⟩ = some (.slice (some ⟨g2, 0, none⟩) (n + 96) c2) ∧ w'.cell? ⟨g2, m, none⟩ = some (.int .u8 (markB k3 m))) (first | exact ⟨c0, c1, c2', c3⟩ | assumption | go_keep) (first | (go_at_call 37; refine (hmk _).mono ?_; rintro e w5 ⟨rfl, rfl⟩))
                  have HM5 := hid_of HMO4.out.drew1
                  clear c0 c1 c2' c3 HMO4
                  go_wp2
                  go_roundw
                  case rel => exact ⟨m + 1, by omega, by go_num, HM5.out⟩
                  case measure => simp [intOf]; omega
                · have hmn : m = n := by omega
                  subst hmn
                  have hmI : ¬ ((m : Int) < (m : Int)) := by omega
                  have HMO4 := hid_of hmo
                  clear hmo HMO3
                  go_wp2_with fail
                  go_loopw [12] (fun j wr => ∃ q : Nat, q ≤ 96 ∧ j = .int .i64 q ∧ Mor w wr (.slice (some ⟨gl, 0, none⟩) k2 lc) (.slice (some ⟨gm, 0, none⟩) k2 mc) ls ms k2 k2) (fun j _ => 96 - (intOf j).toNat)
                  case atStart => exact ⟨0, by omega, rfl, HMO4.out⟩
                  case round =>
                    obtain ⟨q, hq, rfl, hmo⟩ := hrel
                    by_cases hql : q < 96
                    · have hqlI : (q : Int) < 96 := by omega
                      have hmk := fun w' => mark_any k3 q w' (by omega) (by omega)
                      have hmb := markB_le k3 q
                      have c2' := hmo.bls.cell (g := gm) rfl k3 (by omega)
                      rw [HM2.out] at c2'
                      have c3 := (hmo.bls.own k3 (by omega)).cell (g := g2) (by rw [HM2.out]; rfl) (m + q) (255 - markB k3 q) (by rw [HMX.out, List.getElem?_append_right (by rw [marks_len, ← HNN.out]; omega), marks_len, ← HNN.out, Nat.add_sub_cancel_left]; exact anti_at k3 96 q hql)
                      have HMO5 := hid_of hmo
                      clear hmo
                      go_wp2_with fail
                      have hb2 : (0 : Int) ≤ (m : Int) + (q : Int) := by omega
                      have hb3 : (m : Int) + (q : Int) < (m : Int) + 96 := by omega
                      have hw9 : IntKind.i64.wrap ((m : Int) + (q : Int)) = (m : Int) + (q : Int) := by simp [IntKind.wrap, IntKind.bits, IntKind.signed]; omega
                      have hw8 : IntKind.u8.wrap (255 - markB k3 q) = 255 - markB k3 q := by simp [IntKind.wrap, IntKind.bits, IntKind.signed]; omega
                      have ht9 : ((m : Int) + (q : Int)).toNat = m + q := by omega
                      go_region_held3 (fun w' => w'.cell? ⟨gm, k3, none⟩ = some (.slice (some ⟨g2, 0, none⟩) (m + 96) c2) ∧ w'.cell? ⟨g2, m + q, none⟩ = some (.int .u8 (255 - markB k3 q))) (first | exact ⟨c2', c3⟩ | assumption | go_keep) (first | (go_at_call 37; refine (hmk _).mono ?_; rintro e w5 ⟨rfl, rfl⟩))
                      have HM5 := hid_of HMO5.out.drew1
                      clear c2' c3 HMO5
                      go_wp2
                      go_roundw
                      case rel => exact ⟨q + 1, by omega, by go_num, HM5.out⟩
                      case measure => simp [intOf]; omega
                    · have hq96 : q = 96 := by omega
                      subst hq96
                      have HM5 := hid_of hmo
                      clear hmo HMO4
                      go_wp2
                      go_roundw
                      case rel => exact ⟨k3 + 1, by omega, by go_num, HM5.out⟩
                      case measure => simp [intOf]; omega
            · have hk3' : k3 = k2 := by omega
              subst hk3'
              have hkI3 : ¬ ((k3 : Int) < (k3 : Int)) := by omega
              have HKP := hid_of hmo.kept
              clear hmo HMO
              go_wp2
              go_ret
              exact ⟨rfl, HKP.out⟩
end Go.Proofs.Ytffabihenhejfab
