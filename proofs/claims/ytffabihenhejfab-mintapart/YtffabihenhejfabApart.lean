/-
  MintApart: the walk.
-/
import Derived.Test.YtffabihenhejfabTwo
import Derived.Test.YtffabihenhejfabBack
import Derived.Deep.RegionHeld3
namespace Go.Proofs.Ytffabihenhejfab
open Go.ChangeShapes Go.WideShapes Go.ChangeAt Go.RowKit Go.Deep
set_option linter.unusedVariables false
theorem own0 {w : World} {B : Nat} {v : Value} {m : Nat} {l : List Value} (h : w.ownsRow B 33 3 v m l) : w.ownsRow 0 33 3 v m l := by
  refine ⟨h.1, ?_⟩
  rcases h.2 with h | ⟨g, cap, cur, e, hb, r⟩
  · exact .inl h
  · exact .inr ⟨g, cap, cur, e, Nat.zero_le _, r⟩

set_option maxRecDepth 100000 in
set_option maxHeartbeats 4000000 in
theorem apart_walk (vl vm tv : Value) (W : World) (hl : Arg W vl) (hm : Arg W vm) (ht : Turns W tv) :
    Calls Try.prog 3 #[vl, vm, tv] W fun e w' => e = .returned (.bool true) ∧ Below W.heap.size W w' := by
  have hr1 := hid_of (rights_any vl 100 2000 W hl (by omega) (by omega))
  have HM := hid_of hm
  have HT := hid_of ht
  have htv : ∃ ao n c, tv = .slice ao n c := by
    rcases ht with ⟨ao, c, h⟩ | ⟨b, o, c, zs, h, _⟩
    · exact ⟨_, _, _, h⟩
    · exact ⟨_, _, _, h⟩
  obtain ⟨tao, tn, tc, htv⟩ := htv
  clear hl hm ht
  go_enter Try.func3, Try.ntmps3
  go_wp2_with fail
  refine hr1.out.mono ?_
  rintro e w1 ⟨v0, its0, rfl, hgs0, hil0, hxl0, hk1, hnil0⟩
  have hr2 := hid_of (rights_any vm 100 2000 w1 (HM.out.kept hk1) (by omega) (by omega))
  have HG0 := hid_of hgs0
  have HX0 := hid_of hxl0
  have HK1 := hid_of hk1
  have HNIL0 := hid_of hnil0
  obtain ⟨ao0, c0, hv0⟩ := ownsRow_shape hgs0.row
  clear hr1 hgs0 hxl0 hk1 hnil0 HM
  subst hv0
  go_wp2_with fail
  refine hr2.out.mono ?_
  rintro e w2 ⟨v1, its1, rfl, hgs1, hil1, hxl1, hk2, hnil1⟩
  have HG1 := hid_of hgs1
  have HX1 := hid_of hxl1
  have HK2 := hid_of hk2
  have HNIL1 := hid_of hnil1
  obtain ⟨ao1, c1, hv1⟩ := ownsRow_shape hgs1.row
  clear hr2 hgs1 hxl1 hk2 hnil1
  subst hv1
  subst htv
  go_wp2_with fail
  have hgA : ∃ wL, wL = w2.alloc (.cells #[.slice ao0 its0.length c0, .slice ao1 its1.length c1] 25) := ⟨_, rfl⟩
  obtain ⟨wL, hwL⟩ := hgA
  have hLs : wL.heap.size = w2.heap.size + 1 := by rw [hwL]; simp
  have hLb : wL.heap[w2.heap.size]? = some (.cells #[.slice ao0 its0.length c0, .slice ao1 its1.length c1] 25 (0, 0)) := by rw [hwL]; exact heap_alloc_new w2 _
  have hkL : Kept (fun _ => False) w2 wL := by rw [hwL]; exact (Kept.refl _ _).alloc _
  rw [← hwL]
  have HLB := hid_of hLb
  have HKL := hid_of hkL
  have HLS := hid_of hLs
  have HTL := hid_of (HT.out.kept ((HK1.out.trans HK2.out).trans hkL))
  have HGA := hid_of (show AllGood wL its0 from fun i hi => ⟨(HG0.out.good i hi).1, (HG0.out.good i hi).2.kept ((HK1.out.trans HK2.out).trans hkL) (fun _ _ f => f)⟩)
  have HGB := hid_of (show AllGood wL its1 from fun i hi => ⟨(HG1.out.good i hi).1, (HG1.out.good i hi).2.kept (HK2.out.trans hkL) (fun _ _ f => f)⟩)
  have HRA := hid_of (run_good its0 (fun i hi => (HGA.out i hi).1) (by
    have := encs_few its0 2000 (by omega) (fun i hi => (HGA.out i hi).1) HX0.out its0.length (Nat.le_refl _)
    rw [List.take_of_length_le (Nat.le_refl _)] at this
    have h2 : its0.length * (2000 + 9) ≤ 100 * (2000 + 9) := Nat.mul_le_mul_right _ hil0
    omega))
  have HRB := hid_of (run_good its1 (fun i hi => (HGB.out i hi).1) (by
    have := encs_few its1 2000 (by omega) (fun i hi => (HGB.out i hi).1) HX1.out its1.length (Nat.le_refl _)
    rw [List.take_of_length_le (Nat.le_refl _)] at this
    have h2 : its1.length * (2000 + 9) ≤ 100 * (2000 + 9) := Nat.mul_le_mul_right _ hil1
    omega))
  have HIA : Hid (∀ (wr : World), Kept (fun _ => False) wL wr → ∀ i, i < its0.length → ∃ b, ao0 = some ⟨b, 0, none⟩ ∧ wr.cell? ⟨b, i * 3, none⟩ = some (.int .i64 (its0.getD i ItV.default).k) ∧ wr.cell? ⟨b, i * 3 + 1, none⟩ = some (.int .i64 (its0.getD i ItV.default).n) ∧ wr.cell? ⟨b, i * 3 + 2, none⟩ = some (its0.getD i ItV.default).bv) := fun wr hk i hi => by
    have hrow := ((HK2.out.trans hkL).trans hk).ownsRow HG0.out.row (fun _ _ f => f)
    rcases World.ownsRow.mk' hrow with ⟨e, e0⟩ | ⟨g, cap, e⟩
    · omega
    · cases e
      have := Row.items (own0 hrow) i hi
      exact ⟨g, rfl, this⟩
  have HIB : Hid (∀ (wr : World), Kept (fun _ => False) wL wr → ∀ i, i < its1.length → ∃ b, ao1 = some ⟨b, 0, none⟩ ∧ wr.cell? ⟨b, i * 3, none⟩ = some (.int .i64 (its1.getD i ItV.default).k) ∧ wr.cell? ⟨b, i * 3 + 1, none⟩ = some (.int .i64 (its1.getD i ItV.default).n) ∧ wr.cell? ⟨b, i * 3 + 2, none⟩ = some (its1.getD i ItV.default).bv) := fun wr hk i hi => by
    have hrow := (hkL.trans hk).ownsRow HG1.out.row (fun _ _ f => f)
    rcases World.ownsRow.mk' hrow with ⟨e, e0⟩ | ⟨g, cap, e⟩
    · omega
    · cases e
      have := Row.items (own0 hrow) i hi
      exact ⟨g, rfl, this⟩
  have HF : Hid (∀ (wr : World) (i j m n : Nat) (va vb : Value), Two wL wr its0 its1 i j m n va vb → wr.cell? ⟨w2.heap.size, 0, none⟩ = some (.slice ao0 its0.length c0) ∧ wr.cell? ⟨w2.heap.size, 1, none⟩ = some (.slice ao1 its1.length c1) ∧ wr.cell? ⟨wL.heap.size + 1 + 1, 0, none⟩ = some (.int .i64 (m : Int)) ∧ wr.cell? ⟨wL.heap.size + 1 + 1, 1, none⟩ = some (.int .i64 (n : Int)) ∧ wr.frozen? ⟨wL.heap.size + 1 + 1, 0, none⟩ = false ∧ wr.frozen? ⟨wL.heap.size + 1 + 1, 1, none⟩ = false) := fun wr i j m n va vb h => by
    have lb : wr.heap[w2.heap.size]? = some (.cells #[.slice ao0 its0.length c0, .slice ao1 its1.length c1] 25 (0, 0)) := (h.kept.block _ (by rw [HLS.out]; omega) (fun f => f)).trans HLB.out
    exact ⟨(cell_block _ _ _ _ _ _ lb).trans rfl, (cell_block _ _ _ _ _ _ lb).trans rfl, (cell_block _ _ _ _ _ _ h.t).trans rfl, (cell_block _ _ _ _ _ _ h.t).trans rfl, frozen_block _ _ _ _ _ h.t, frozen_block _ _ _ _ _ h.t⟩
  clear hwL hLb hkL hLs HT
  refine (new_any wL).mono ?_
  rintro e w3 ⟨rfl, rfl⟩
  go_wp2_with fail
  refine (new_any _).mono ?_
  rintro e w3 ⟨rfl, rfl⟩
  rw [show (wL.alloc (.cells #[.slice none 0 0, .int .i64 0] 55)).heap.size = wL.heap.size + 1 from by simp]
  go_wp2_with fail
  go_loopw [11] (fun nv wr => ∃ (i j n : Nat) (va vb : Value), i ≤ its0.length ∧ j ≤ its1.length ∧ nv = .int .i64 (n : Int) ∧ n = i + j ∧ Two wL wr its0 its1 i j i j va vb) (fun n _ => its0.length + its1.length - (intOf n).toNat)
  case atStart => exact ⟨0, 0, 0, _, _, Nat.zero_le _, Nat.zero_le _, rfl, rfl, two_start wL its0 its1⟩
  case round =>
    obtain ⟨i, j, n, va, vb, hi, hj, rfl, hn, htwo⟩ := hrel
    obtain ⟨l0, l1, t0, t1, tf0, tf1⟩ := HF.out wr i j i j va vb htwo
    have HTW := hid_of htwo
    have HTN := hid_of (HTL.out.kept htwo.kept)
    have HN := hid_of hn
    have hnl : n ≤ 200 := by omega
    clear htwo hn
    by_cases hi0 : i < its0.length
    · have hi0I : (i : Int) < (its0.length : Int) := by omega
      have hi0J : ¬ ((its0.length : Int) ≤ (i : Int)) := by omega
      rcases HTN.out with ⟨tao', tc', htv⟩ | ⟨tb, to', tc', zs, htv, hz0, hz1, hz2⟩
      · cases htv
        go_wp2_with fail
        go_quiet (fail)
        have HT4 : Hid (Two wL (wr.drewN nq) its0 its1 i j i j va vb) := HTW.out.new (kept_drewN (Kept.refl _ _) nq)
        go_wp2_with fail
        generalize wr.drewN nq = w4 at *
        have HPA := hid_of ((HT4.out.new (Kept.refl _ _).drew).putA HGA.out hi0)
        have HFI : Hid (∀ (w5 : World) (i' j' : Nat) (va' vb' : Value), Two wL w5 its0 its1 i' j' i j va' vb' → ∃ b, ao0 = some ⟨b, 0, none⟩ ∧ w5.cell? ⟨w2.heap.size, 0, none⟩ = some (.slice ao0 its0.length c0) ∧ w5.cell? ⟨wL.heap.size + 1 + 1, 0, none⟩ = some (.int .i64 (i : Int)) ∧ w5.cell? ⟨b, i * 3, none⟩ = some (.int .i64 (its0.getD i ItV.default).k) ∧ w5.cell? ⟨b, i * 3 + 1, none⟩ = some (.int .i64 (its0.getD i ItV.default).n) ∧ w5.cell? ⟨b, i * 3 + 2, none⟩ = some (its0.getD i ItV.default).bv) := fun w5 i' j' va' vb' h5 => by
          obtain ⟨a0, _, a2, _⟩ := HF.out _ _ _ _ _ _ _ h5
          obtain ⟨b, e, q⟩ := HIA.out _ h5.kept i hi0
          exact ⟨b, e, a0, a2, q⟩
        have hbv := (HGA.out i hi0).2.shape
        obtain ⟨b, hb, s4⟩ := HFI.out _ _ _ _ _ HT4.out
        have HFS : Hid (∀ (w5 : World) (i' j' : Nat) (va' vb' : Value), Two wL w5 its0 its1 i' j' i j va' vb' → w5.cell? ⟨w2.heap.size, 0, none⟩ = some (.slice ao0 its0.length c0) ∧ w5.cell? ⟨wL.heap.size + 1 + 1, 0, none⟩ = some (.int .i64 (i : Int)) ∧ w5.cell? ⟨b, i * 3, none⟩ = some (.int .i64 (its0.getD i ItV.default).k) ∧ w5.cell? ⟨b, i * 3 + 1, none⟩ = some (.int .i64 (its0.getD i ItV.default).n) ∧ w5.cell? ⟨b, i * 3 + 2, none⟩ = some (its0.getD i ItV.default).bv) := fun w5 i' j' va' vb' h5 => by
          obtain ⟨b', e, q⟩ := HFI.out _ _ _ _ _ h5
          rw [hb] at e
          cases e
          exact q
        subst hb
        generalize its0.getD i ItV.default = x at *
        obtain ⟨xk, xn, xbv, xs⟩ := x
        obtain ⟨yao, ybc, hbv⟩ := hbv
        dsimp only at hbv HFS HPA s4
        subst hbv
        clear l0 l1 t0 t1 tf0 tf1 HFI HTL HTN HTW
        obtain ⟨s40, s41, s42, s43, s44⟩ := s4
        go_region_held3 (fun w' => w'.cell? ⟨w2.heap.size, 0, none⟩ = some (.slice (some ⟨b, 0, none⟩) its0.length c0) ∧ w'.cell? ⟨wL.heap.size + 1 + 1, 0, none⟩ = some (.int .i64 (i : Int)) ∧ w'.cell? ⟨b, i * 3, none⟩ = some (.int .i64 xk) ∧ w'.cell? ⟨b, i * 3 + 1, none⟩ = some (.int .i64 xn) ∧ w'.cell? ⟨b, i * 3 + 2, none⟩ = some (.slice yao xs.length ybc)) (first | exact ⟨s40, s41, s42, s43, s44⟩ | assumption | exact HFS.out _ _ _ _ _ H5.out | go_keep)
          (first | (go_at_call 8; refine HPA.out.mono ?_; rintro e w5 ⟨rfl, va5, h5⟩; have H5 := hid_of h5; clear h5))
        obtain ⟨_, _, y0, y1, yf0, yf1⟩ := HF.out _ _ _ _ _ _ _ H5.out
        clear HFS HPA s40 s41 s42 s43 s44 HT4
        go_wp2_with fail
        have H6 : Hid (Two wL (w5.setCell ⟨wL.heap.size + 1 + 1, 0, none⟩ (.int .i64 ((i : Int) + 1))) its0 its1 (i + 1) j (i + 1) j va5 vb) := H5.out.set 0 (i + 1) j _ (by simp)
        have HD := hid_of (H6.out.doneA (HRA.out (i + 1) (by omega)))
        refine HD.out.mono ?_
        rintro e w7 ⟨v7, rfl, _, _, h7⟩
        have H7 := hid_of h7
        clear HD H6 H5 h7 y0 y1 yf0 yf1
        go_wp2
        go_roundw
        case rel => exact ⟨i + 1, j, n + 1, va5, vb, by omega, by omega, by go_num, by rw [HN.out]; omega, H7.out⟩
        case measure => simp [intOf]; have := HN.out; omega
      · cases htv
        have hd : n % zs.length < zs.length := Nat.mod_lt _ hz0
        obtain ⟨qz, qa, qb⟩ := hz2 (n % zs.length) hd
        have e : ((n : Int)).tmod (zs.length : Int) = ((n % zs.length : Nat) : Int) := (Int.ofNat_tmod n zs.length).symm
        generalize n % zs.length = dd at *
        generalize zs.getD dd 0 = z at *
        have hzb : ((zs.length : Int) == 0) = false := beq_eq_false_iff_ne.2 (by omega)
        have hzp : (0 : Int) < (zs.length : Int) := by omega
        have hdI : (dd : Int) < (zs.length : Int) := by omega
        have HRO : Hid (∀ w : World, Calls Try.prog 7 #[.int .i64 z, .int .i64 2] w fun e w' => e = .returned (.int .i64 (z % 2)) ∧ w' = w) := fun w => round_any z 2 w qa qb (by omega) (by omega)
        clear hz2
        go_wp2_with fail
        refine (HRO.out _).mono ?_
        rintro e wr ⟨rfl, rfl⟩
        have hk2 : z % 2 = 0 ∨ z % 2 = 1 := by omega
        clear HRO qz qa qb hzb hzp hdI e
        rcases hk2 with hk2 | hk2
        · rw [hk2]
          clear hk2
          go_wp2_with fail
          go_quiet (fail)
          have HT4 : Hid (Two wL (wr.drewN nq) its0 its1 i j i j va vb) := HTW.out.new (kept_drewN (Kept.refl _ _) nq)
          go_wp2_with fail
          generalize wr.drewN nq = w4 at *
          have HPA := hid_of ((HT4.out.new (Kept.refl _ _).drew).putA HGA.out hi0)
          have HFI : Hid (∀ (w5 : World) (i' j' : Nat) (va' vb' : Value), Two wL w5 its0 its1 i' j' i j va' vb' → ∃ b, ao0 = some ⟨b, 0, none⟩ ∧ w5.cell? ⟨w2.heap.size, 0, none⟩ = some (.slice ao0 its0.length c0) ∧ w5.cell? ⟨wL.heap.size + 1 + 1, 0, none⟩ = some (.int .i64 (i : Int)) ∧ w5.cell? ⟨b, i * 3, none⟩ = some (.int .i64 (its0.getD i ItV.default).k) ∧ w5.cell? ⟨b, i * 3 + 1, none⟩ = some (.int .i64 (its0.getD i ItV.default).n) ∧ w5.cell? ⟨b, i * 3 + 2, none⟩ = some (its0.getD i ItV.default).bv) := fun w5 i' j' va' vb' h5 => by
            obtain ⟨a0, _, a2, _⟩ := HF.out _ _ _ _ _ _ _ h5
            obtain ⟨b, e, q⟩ := HIA.out _ h5.kept i hi0
            exact ⟨b, e, a0, a2, q⟩
          have hbv := (HGA.out i hi0).2.shape
          obtain ⟨b, hb, s4⟩ := HFI.out _ _ _ _ _ HT4.out
          have HFS : Hid (∀ (w5 : World) (i' j' : Nat) (va' vb' : Value), Two wL w5 its0 its1 i' j' i j va' vb' → w5.cell? ⟨w2.heap.size, 0, none⟩ = some (.slice ao0 its0.length c0) ∧ w5.cell? ⟨wL.heap.size + 1 + 1, 0, none⟩ = some (.int .i64 (i : Int)) ∧ w5.cell? ⟨b, i * 3, none⟩ = some (.int .i64 (its0.getD i ItV.default).k) ∧ w5.cell? ⟨b, i * 3 + 1, none⟩ = some (.int .i64 (its0.getD i ItV.default).n) ∧ w5.cell? ⟨b, i * 3 + 2, none⟩ = some (its0.getD i ItV.default).bv) := fun w5 i' j' va' vb' h5 => by
            obtain ⟨b', e, q⟩ := HFI.out _ _ _ _ _ h5
            rw [hb] at e
            cases e
            exact q
          subst hb
          generalize its0.getD i ItV.default = x at *
          obtain ⟨xk, xn, xbv, xs⟩ := x
          obtain ⟨yao, ybc, hbv⟩ := hbv
          dsimp only at hbv HFS HPA s4
          subst hbv
          clear l0 l1 t0 t1 tf0 tf1 HFI HTL HTN HTW
          obtain ⟨s40, s41, s42, s43, s44⟩ := s4
          go_region_held3 (fun w' => w'.cell? ⟨w2.heap.size, 0, none⟩ = some (.slice (some ⟨b, 0, none⟩) its0.length c0) ∧ w'.cell? ⟨wL.heap.size + 1 + 1, 0, none⟩ = some (.int .i64 (i : Int)) ∧ w'.cell? ⟨b, i * 3, none⟩ = some (.int .i64 xk) ∧ w'.cell? ⟨b, i * 3 + 1, none⟩ = some (.int .i64 xn) ∧ w'.cell? ⟨b, i * 3 + 2, none⟩ = some (.slice yao xs.length ybc)) (first | exact ⟨s40, s41, s42, s43, s44⟩ | assumption | exact HFS.out _ _ _ _ _ H5.out | go_keep)
            (first | (go_at_call 8; refine HPA.out.mono ?_; rintro e w5 ⟨rfl, va5, h5⟩; have H5 := hid_of h5; clear h5))
          obtain ⟨_, _, y0, y1, yf0, yf1⟩ := HF.out _ _ _ _ _ _ _ H5.out
          clear HFS HPA s40 s41 s42 s43 s44 HT4
          go_wp2_with fail
          have H6 : Hid (Two wL (w5.setCell ⟨wL.heap.size + 1 + 1, 0, none⟩ (.int .i64 ((i : Int) + 1))) its0 its1 (i + 1) j (i + 1) j va5 vb) := H5.out.set 0 (i + 1) j _ (by simp)
          have HD := hid_of (H6.out.doneA (HRA.out (i + 1) (by omega)))
          refine HD.out.mono ?_
          rintro e w7 ⟨v7, rfl, _, _, h7⟩
          have H7 := hid_of h7
          clear HD H6 H5 h7 y0 y1 yf0 yf1
          go_wp2
          go_roundw
          case rel => exact ⟨i + 1, j, n + 1, va5, vb, by omega, by omega, by go_num, by rw [HN.out]; omega, H7.out⟩
          case measure => simp [intOf]; have := HN.out; omega
        · rw [hk2]
          clear hk2
          by_cases hj0 : j < its1.length
          · have hj0J : ¬ ((its1.length : Int) ≤ (j : Int)) := by omega
            go_wp2_with fail
            go_quiet (fail)
            have HT4 : Hid (Two wL (wr.drewN nq) its0 its1 i j i j va vb) := HTW.out.new (kept_drewN (Kept.refl _ _) nq)
            go_wp2_with fail
            generalize wr.drewN nq = w4 at *
            have HPA := hid_of ((HT4.out.new (Kept.refl _ _).drew).putB HGB.out hj0)
            have HFI : Hid (∀ (w5 : World) (i' j' : Nat) (va' vb' : Value), Two wL w5 its0 its1 i' j' i j va' vb' → ∃ b, ao1 = some ⟨b, 0, none⟩ ∧ w5.cell? ⟨w2.heap.size, 1, none⟩ = some (.slice ao1 its1.length c1) ∧ w5.cell? ⟨wL.heap.size + 1 + 1, 1, none⟩ = some (.int .i64 (j : Int)) ∧ w5.cell? ⟨b, j * 3, none⟩ = some (.int .i64 (its1.getD j ItV.default).k) ∧ w5.cell? ⟨b, j * 3 + 1, none⟩ = some (.int .i64 (its1.getD j ItV.default).n) ∧ w5.cell? ⟨b, j * 3 + 2, none⟩ = some (its1.getD j ItV.default).bv) := fun w5 i' j' va' vb' h5 => by
              obtain ⟨_, a0, _, a2, _⟩ := HF.out _ _ _ _ _ _ _ h5
              obtain ⟨b, e, q⟩ := HIB.out _ h5.kept j hj0
              exact ⟨b, e, a0, a2, q⟩
            have hbv := (HGB.out j hj0).2.shape
            obtain ⟨b, hb, s4⟩ := HFI.out _ _ _ _ _ HT4.out
            have HFS : Hid (∀ (w5 : World) (i' j' : Nat) (va' vb' : Value), Two wL w5 its0 its1 i' j' i j va' vb' → w5.cell? ⟨w2.heap.size, 1, none⟩ = some (.slice ao1 its1.length c1) ∧ w5.cell? ⟨wL.heap.size + 1 + 1, 1, none⟩ = some (.int .i64 (j : Int)) ∧ w5.cell? ⟨b, j * 3, none⟩ = some (.int .i64 (its1.getD j ItV.default).k) ∧ w5.cell? ⟨b, j * 3 + 1, none⟩ = some (.int .i64 (its1.getD j ItV.default).n) ∧ w5.cell? ⟨b, j * 3 + 2, none⟩ = some (its1.getD j ItV.default).bv) := fun w5 i' j' va' vb' h5 => by
              obtain ⟨b', e, q⟩ := HFI.out _ _ _ _ _ h5
              rw [hb] at e
              cases e
              exact q
            subst hb
            generalize its1.getD j ItV.default = x at *
            obtain ⟨xk, xn, xbv, xs⟩ := x
            obtain ⟨yao, ybc, hbv⟩ := hbv
            dsimp only at hbv HFS HPA s4
            subst hbv
            clear l0 l1 t0 t1 tf0 tf1 HFI HTL HTN HTW
            obtain ⟨s40, s41, s42, s43, s44⟩ := s4
            go_region_held3 (fun w' => w'.cell? ⟨w2.heap.size, 1, none⟩ = some (.slice (some ⟨b, 0, none⟩) its1.length c1) ∧ w'.cell? ⟨wL.heap.size + 1 + 1, 1, none⟩ = some (.int .i64 (j : Int)) ∧ w'.cell? ⟨b, j * 3, none⟩ = some (.int .i64 xk) ∧ w'.cell? ⟨b, j * 3 + 1, none⟩ = some (.int .i64 xn) ∧ w'.cell? ⟨b, j * 3 + 2, none⟩ = some (.slice yao xs.length ybc)) (first | exact ⟨s40, s41, s42, s43, s44⟩ | assumption | exact HFS.out _ _ _ _ _ H5.out | go_keep)
              (first | (go_at_call 8; refine HPA.out.mono ?_; rintro e w5 ⟨rfl, vb5, h5⟩; have H5 := hid_of h5; clear h5))
            obtain ⟨_, _, y0, y1, yf0, yf1⟩ := HF.out _ _ _ _ _ _ _ H5.out
            clear HFS HPA s40 s41 s42 s43 s44 HT4
            go_wp2_with fail
            have H6 : Hid (Two wL (w5.setCell ⟨wL.heap.size + 1 + 1, 1, none⟩ (.int .i64 ((j : Int) + 1))) its0 its1 i (j + 1) i (j + 1) va vb5) := H5.out.set 1 i (j + 1) _ (by simp)
            have HD := hid_of (H6.out.doneB (HRB.out (j + 1) (by omega)))
            refine HD.out.mono ?_
            rintro e w7 ⟨v7, rfl, _, _, h7⟩
            have H7 := hid_of h7
            clear HD H6 H5 h7 y0 y1 yf0 yf1
            go_wp2
            go_roundw
            case rel => exact ⟨i, j + 1, n + 1, va, vb5, by omega, by omega, by go_num, by rw [HN.out]; omega, H7.out⟩
            case measure => simp [intOf]; have := HN.out; omega
          · have hj0J : (its1.length : Int) ≤ (j : Int) := by omega
            go_wp2_with fail
            go_quiet (fail)
            have HT4 : Hid (Two wL (wr.drewN nq) its0 its1 i j i j va vb) := HTW.out.new (kept_drewN (Kept.refl _ _) nq)
            go_wp2_with fail
            generalize wr.drewN nq = w4 at *
            have HPA := hid_of ((HT4.out.new (Kept.refl _ _).drew).putA HGA.out hi0)
            have HFI : Hid (∀ (w5 : World) (i' j' : Nat) (va' vb' : Value), Two wL w5 its0 its1 i' j' i j va' vb' → ∃ b, ao0 = some ⟨b, 0, none⟩ ∧ w5.cell? ⟨w2.heap.size, 0, none⟩ = some (.slice ao0 its0.length c0) ∧ w5.cell? ⟨wL.heap.size + 1 + 1, 0, none⟩ = some (.int .i64 (i : Int)) ∧ w5.cell? ⟨b, i * 3, none⟩ = some (.int .i64 (its0.getD i ItV.default).k) ∧ w5.cell? ⟨b, i * 3 + 1, none⟩ = some (.int .i64 (its0.getD i ItV.default).n) ∧ w5.cell? ⟨b, i * 3 + 2, none⟩ = some (its0.getD i ItV.default).bv) := fun w5 i' j' va' vb' h5 => by
              obtain ⟨a0, _, a2, _⟩ := HF.out _ _ _ _ _ _ _ h5
              obtain ⟨b, e, q⟩ := HIA.out _ h5.kept i hi0
              exact ⟨b, e, a0, a2, q⟩
            have hbv := (HGA.out i hi0).2.shape
            obtain ⟨b, hb, s4⟩ := HFI.out _ _ _ _ _ HT4.out
            have HFS : Hid (∀ (w5 : World) (i' j' : Nat) (va' vb' : Value), Two wL w5 its0 its1 i' j' i j va' vb' → w5.cell? ⟨w2.heap.size, 0, none⟩ = some (.slice ao0 its0.length c0) ∧ w5.cell? ⟨wL.heap.size + 1 + 1, 0, none⟩ = some (.int .i64 (i : Int)) ∧ w5.cell? ⟨b, i * 3, none⟩ = some (.int .i64 (its0.getD i ItV.default).k) ∧ w5.cell? ⟨b, i * 3 + 1, none⟩ = some (.int .i64 (its0.getD i ItV.default).n) ∧ w5.cell? ⟨b, i * 3 + 2, none⟩ = some (its0.getD i ItV.default).bv) := fun w5 i' j' va' vb' h5 => by
              obtain ⟨b', e, q⟩ := HFI.out _ _ _ _ _ h5
              rw [hb] at e
              cases e
              exact q
            subst hb
            generalize its0.getD i ItV.default = x at *
            obtain ⟨xk, xn, xbv, xs⟩ := x
            obtain ⟨yao, ybc, hbv⟩ := hbv
            dsimp only at hbv HFS HPA s4
            subst hbv
            clear l0 l1 t0 t1 tf0 tf1 HFI HTL HTN HTW
            obtain ⟨s40, s41, s42, s43, s44⟩ := s4
            go_region_held3 (fun w' => w'.cell? ⟨w2.heap.size, 0, none⟩ = some (.slice (some ⟨b, 0, none⟩) its0.length c0) ∧ w'.cell? ⟨wL.heap.size + 1 + 1, 0, none⟩ = some (.int .i64 (i : Int)) ∧ w'.cell? ⟨b, i * 3, none⟩ = some (.int .i64 xk) ∧ w'.cell? ⟨b, i * 3 + 1, none⟩ = some (.int .i64 xn) ∧ w'.cell? ⟨b, i * 3 + 2, none⟩ = some (.slice yao xs.length ybc)) (first | exact ⟨s40, s41, s42, s43, s44⟩ | assumption | exact HFS.out _ _ _ _ _ H5.out | go_keep)
              (first | (go_at_call 8; refine HPA.out.mono ?_; rintro e w5 ⟨rfl, va5, h5⟩; have H5 := hid_of h5; clear h5))
            obtain ⟨_, _, y0, y1, yf0, yf1⟩ := HF.out _ _ _ _ _ _ _ H5.out
            clear HFS HPA s40 s41 s42 s43 s44 HT4
            go_wp2_with fail
            have H6 : Hid (Two wL (w5.setCell ⟨wL.heap.size + 1 + 1, 0, none⟩ (.int .i64 ((i : Int) + 1))) its0 its1 (i + 1) j (i + 1) j va5 vb) := H5.out.set 0 (i + 1) j _ (by simp)
            have HD := hid_of (H6.out.doneA (HRA.out (i + 1) (by omega)))
            refine HD.out.mono ?_
            rintro e w7 ⟨v7, rfl, _, _, h7⟩
            have H7 := hid_of h7
            clear HD H6 H5 h7 y0 y1 yf0 yf1
            go_wp2
            go_roundw
            case rel => exact ⟨i + 1, j, n + 1, va5, vb, by omega, by omega, by go_num, by rw [HN.out]; omega, H7.out⟩
            case measure => simp [intOf]; have := HN.out; omega
    · have hi0I : ¬ ((i : Int) < (its0.length : Int)) := by omega
      have hi0J : (its0.length : Int) ≤ (i : Int) := by omega
      by_cases hj0 : j < its1.length
      · have hj0I : (j : Int) < (its1.length : Int) := by omega
        have hj0J : ¬ ((its1.length : Int) ≤ (j : Int)) := by omega
        rcases HTN.out with ⟨tao', tc', htv⟩ | ⟨tb, to', tc', zs, htv, hz0, hz1, hz2⟩
        · cases htv
          go_wp2_with fail
          go_quiet (fail)
          have HT4 : Hid (Two wL (wr.drewN nq) its0 its1 i j i j va vb) := HTW.out.new (kept_drewN (Kept.refl _ _) nq)
          go_wp2_with fail
          generalize wr.drewN nq = w4 at *
          have HPA := hid_of ((HT4.out.new (Kept.refl _ _).drew).putB HGB.out hj0)
          have HFI : Hid (∀ (w5 : World) (i' j' : Nat) (va' vb' : Value), Two wL w5 its0 its1 i' j' i j va' vb' → ∃ b, ao1 = some ⟨b, 0, none⟩ ∧ w5.cell? ⟨w2.heap.size, 1, none⟩ = some (.slice ao1 its1.length c1) ∧ w5.cell? ⟨wL.heap.size + 1 + 1, 1, none⟩ = some (.int .i64 (j : Int)) ∧ w5.cell? ⟨b, j * 3, none⟩ = some (.int .i64 (its1.getD j ItV.default).k) ∧ w5.cell? ⟨b, j * 3 + 1, none⟩ = some (.int .i64 (its1.getD j ItV.default).n) ∧ w5.cell? ⟨b, j * 3 + 2, none⟩ = some (its1.getD j ItV.default).bv) := fun w5 i' j' va' vb' h5 => by
            obtain ⟨_, a0, _, a2, _⟩ := HF.out _ _ _ _ _ _ _ h5
            obtain ⟨b, e, q⟩ := HIB.out _ h5.kept j hj0
            exact ⟨b, e, a0, a2, q⟩
          have hbv := (HGB.out j hj0).2.shape
          obtain ⟨b, hb, s4⟩ := HFI.out _ _ _ _ _ HT4.out
          have HFS : Hid (∀ (w5 : World) (i' j' : Nat) (va' vb' : Value), Two wL w5 its0 its1 i' j' i j va' vb' → w5.cell? ⟨w2.heap.size, 1, none⟩ = some (.slice ao1 its1.length c1) ∧ w5.cell? ⟨wL.heap.size + 1 + 1, 1, none⟩ = some (.int .i64 (j : Int)) ∧ w5.cell? ⟨b, j * 3, none⟩ = some (.int .i64 (its1.getD j ItV.default).k) ∧ w5.cell? ⟨b, j * 3 + 1, none⟩ = some (.int .i64 (its1.getD j ItV.default).n) ∧ w5.cell? ⟨b, j * 3 + 2, none⟩ = some (its1.getD j ItV.default).bv) := fun w5 i' j' va' vb' h5 => by
            obtain ⟨b', e, q⟩ := HFI.out _ _ _ _ _ h5
            rw [hb] at e
            cases e
            exact q
          subst hb
          generalize its1.getD j ItV.default = x at *
          obtain ⟨xk, xn, xbv, xs⟩ := x
          obtain ⟨yao, ybc, hbv⟩ := hbv
          dsimp only at hbv HFS HPA s4
          subst hbv
          clear l0 l1 t0 t1 tf0 tf1 HFI HTL HTN HTW
          obtain ⟨s40, s41, s42, s43, s44⟩ := s4
          go_region_held3 (fun w' => w'.cell? ⟨w2.heap.size, 1, none⟩ = some (.slice (some ⟨b, 0, none⟩) its1.length c1) ∧ w'.cell? ⟨wL.heap.size + 1 + 1, 1, none⟩ = some (.int .i64 (j : Int)) ∧ w'.cell? ⟨b, j * 3, none⟩ = some (.int .i64 xk) ∧ w'.cell? ⟨b, j * 3 + 1, none⟩ = some (.int .i64 xn) ∧ w'.cell? ⟨b, j * 3 + 2, none⟩ = some (.slice yao xs.length ybc)) (first | exact ⟨s40, s41, s42, s43, s44⟩ | assumption | exact HFS.out _ _ _ _ _ H5.out | go_keep)
            (first | (go_at_call 8; refine HPA.out.mono ?_; rintro e w5 ⟨rfl, vb5, h5⟩; have H5 := hid_of h5; clear h5))
          obtain ⟨_, _, y0, y1, yf0, yf1⟩ := HF.out _ _ _ _ _ _ _ H5.out
          clear HFS HPA s40 s41 s42 s43 s44 HT4
          go_wp2_with fail
          have H6 : Hid (Two wL (w5.setCell ⟨wL.heap.size + 1 + 1, 1, none⟩ (.int .i64 ((j : Int) + 1))) its0 its1 i (j + 1) i (j + 1) va vb5) := H5.out.set 1 i (j + 1) _ (by simp)
          have HD := hid_of (H6.out.doneB (HRB.out (j + 1) (by omega)))
          refine HD.out.mono ?_
          rintro e w7 ⟨v7, rfl, _, _, h7⟩
          have H7 := hid_of h7
          clear HD H6 H5 h7 y0 y1 yf0 yf1
          go_wp2
          go_roundw
          case rel => exact ⟨i, j + 1, n + 1, va, vb5, by omega, by omega, by go_num, by rw [HN.out]; omega, H7.out⟩
          case measure => simp [intOf]; have := HN.out; omega
        · cases htv
          have hd : n % zs.length < zs.length := Nat.mod_lt _ hz0
          obtain ⟨qz, qa, qb⟩ := hz2 (n % zs.length) hd
          have e : ((n : Int)).tmod (zs.length : Int) = ((n % zs.length : Nat) : Int) := (Int.ofNat_tmod n zs.length).symm
          generalize n % zs.length = dd at *
          generalize zs.getD dd 0 = z at *
          have hzb : ((zs.length : Int) == 0) = false := beq_eq_false_iff_ne.2 (by omega)
          have hzp : (0 : Int) < (zs.length : Int) := by omega
          have hdI : (dd : Int) < (zs.length : Int) := by omega
          have HRO : Hid (∀ w : World, Calls Try.prog 7 #[.int .i64 z, .int .i64 2] w fun e w' => e = .returned (.int .i64 (z % 2)) ∧ w' = w) := fun w => round_any z 2 w qa qb (by omega) (by omega)
          clear hz2
          go_wp2_with fail
          refine (HRO.out _).mono ?_
          rintro e wr ⟨rfl, rfl⟩
          have hk2 : z % 2 = 0 ∨ z % 2 = 1 := by omega
          clear HRO qz qa qb hzb hzp hdI e
          rcases hk2 with hk2 | hk2
          · rw [hk2]
            clear hk2
            go_wp2_with fail
            go_quiet (fail)
            have HT4 : Hid (Two wL (wr.drewN nq) its0 its1 i j i j va vb) := HTW.out.new (kept_drewN (Kept.refl _ _) nq)
            go_wp2_with fail
            generalize wr.drewN nq = w4 at *
            have HPA := hid_of ((HT4.out.new (Kept.refl _ _).drew).putB HGB.out hj0)
            have HFI : Hid (∀ (w5 : World) (i' j' : Nat) (va' vb' : Value), Two wL w5 its0 its1 i' j' i j va' vb' → ∃ b, ao1 = some ⟨b, 0, none⟩ ∧ w5.cell? ⟨w2.heap.size, 1, none⟩ = some (.slice ao1 its1.length c1) ∧ w5.cell? ⟨wL.heap.size + 1 + 1, 1, none⟩ = some (.int .i64 (j : Int)) ∧ w5.cell? ⟨b, j * 3, none⟩ = some (.int .i64 (its1.getD j ItV.default).k) ∧ w5.cell? ⟨b, j * 3 + 1, none⟩ = some (.int .i64 (its1.getD j ItV.default).n) ∧ w5.cell? ⟨b, j * 3 + 2, none⟩ = some (its1.getD j ItV.default).bv) := fun w5 i' j' va' vb' h5 => by
              obtain ⟨_, a0, _, a2, _⟩ := HF.out _ _ _ _ _ _ _ h5
              obtain ⟨b, e, q⟩ := HIB.out _ h5.kept j hj0
              exact ⟨b, e, a0, a2, q⟩
            have hbv := (HGB.out j hj0).2.shape
            obtain ⟨b, hb, s4⟩ := HFI.out _ _ _ _ _ HT4.out
            have HFS : Hid (∀ (w5 : World) (i' j' : Nat) (va' vb' : Value), Two wL w5 its0 its1 i' j' i j va' vb' → w5.cell? ⟨w2.heap.size, 1, none⟩ = some (.slice ao1 its1.length c1) ∧ w5.cell? ⟨wL.heap.size + 1 + 1, 1, none⟩ = some (.int .i64 (j : Int)) ∧ w5.cell? ⟨b, j * 3, none⟩ = some (.int .i64 (its1.getD j ItV.default).k) ∧ w5.cell? ⟨b, j * 3 + 1, none⟩ = some (.int .i64 (its1.getD j ItV.default).n) ∧ w5.cell? ⟨b, j * 3 + 2, none⟩ = some (its1.getD j ItV.default).bv) := fun w5 i' j' va' vb' h5 => by
              obtain ⟨b', e, q⟩ := HFI.out _ _ _ _ _ h5
              rw [hb] at e
              cases e
              exact q
            subst hb
            generalize its1.getD j ItV.default = x at *
            obtain ⟨xk, xn, xbv, xs⟩ := x
            obtain ⟨yao, ybc, hbv⟩ := hbv
            dsimp only at hbv HFS HPA s4
            subst hbv
            clear l0 l1 t0 t1 tf0 tf1 HFI HTL HTN HTW
            obtain ⟨s40, s41, s42, s43, s44⟩ := s4
            go_region_held3 (fun w' => w'.cell? ⟨w2.heap.size, 1, none⟩ = some (.slice (some ⟨b, 0, none⟩) its1.length c1) ∧ w'.cell? ⟨wL.heap.size + 1 + 1, 1, none⟩ = some (.int .i64 (j : Int)) ∧ w'.cell? ⟨b, j * 3, none⟩ = some (.int .i64 xk) ∧ w'.cell? ⟨b, j * 3 + 1, none⟩ = some (.int .i64 xn) ∧ w'.cell? ⟨b, j * 3 + 2, none⟩ = some (.slice yao xs.length ybc)) (first | exact ⟨s40, s41, s42, s43, s44⟩ | assumption | exact HFS.out _ _ _ _ _ H5.out | go_keep)
              (first | (go_at_call 8; refine HPA.out.mono ?_; rintro e w5 ⟨rfl, vb5, h5⟩; have H5 := hid_of h5; clear h5))
            obtain ⟨_, _, y0, y1, yf0, yf1⟩ := HF.out _ _ _ _ _ _ _ H5.out
            clear HFS HPA s40 s41 s42 s43 s44 HT4
            go_wp2_with fail
            have H6 : Hid (Two wL (w5.setCell ⟨wL.heap.size + 1 + 1, 1, none⟩ (.int .i64 ((j : Int) + 1))) its0 its1 i (j + 1) i (j + 1) va vb5) := H5.out.set 1 i (j + 1) _ (by simp)
            have HD := hid_of (H6.out.doneB (HRB.out (j + 1) (by omega)))
            refine HD.out.mono ?_
            rintro e w7 ⟨v7, rfl, _, _, h7⟩
            have H7 := hid_of h7
            clear HD H6 H5 h7 y0 y1 yf0 yf1
            go_wp2
            go_roundw
            case rel => exact ⟨i, j + 1, n + 1, va, vb5, by omega, by omega, by go_num, by rw [HN.out]; omega, H7.out⟩
            case measure => simp [intOf]; have := HN.out; omega
          · rw [hk2]
            clear hk2
            go_wp2_with fail
            go_quiet (fail)
            have HT4 : Hid (Two wL (wr.drewN nq) its0 its1 i j i j va vb) := HTW.out.new (kept_drewN (Kept.refl _ _) nq)
            go_wp2_with fail
            generalize wr.drewN nq = w4 at *
            have HPA := hid_of ((HT4.out.new (Kept.refl _ _).drew).putB HGB.out hj0)
            have HFI : Hid (∀ (w5 : World) (i' j' : Nat) (va' vb' : Value), Two wL w5 its0 its1 i' j' i j va' vb' → ∃ b, ao1 = some ⟨b, 0, none⟩ ∧ w5.cell? ⟨w2.heap.size, 1, none⟩ = some (.slice ao1 its1.length c1) ∧ w5.cell? ⟨wL.heap.size + 1 + 1, 1, none⟩ = some (.int .i64 (j : Int)) ∧ w5.cell? ⟨b, j * 3, none⟩ = some (.int .i64 (its1.getD j ItV.default).k) ∧ w5.cell? ⟨b, j * 3 + 1, none⟩ = some (.int .i64 (its1.getD j ItV.default).n) ∧ w5.cell? ⟨b, j * 3 + 2, none⟩ = some (its1.getD j ItV.default).bv) := fun w5 i' j' va' vb' h5 => by
              obtain ⟨_, a0, _, a2, _⟩ := HF.out _ _ _ _ _ _ _ h5
              obtain ⟨b, e, q⟩ := HIB.out _ h5.kept j hj0
              exact ⟨b, e, a0, a2, q⟩
            have hbv := (HGB.out j hj0).2.shape
            obtain ⟨b, hb, s4⟩ := HFI.out _ _ _ _ _ HT4.out
            have HFS : Hid (∀ (w5 : World) (i' j' : Nat) (va' vb' : Value), Two wL w5 its0 its1 i' j' i j va' vb' → w5.cell? ⟨w2.heap.size, 1, none⟩ = some (.slice ao1 its1.length c1) ∧ w5.cell? ⟨wL.heap.size + 1 + 1, 1, none⟩ = some (.int .i64 (j : Int)) ∧ w5.cell? ⟨b, j * 3, none⟩ = some (.int .i64 (its1.getD j ItV.default).k) ∧ w5.cell? ⟨b, j * 3 + 1, none⟩ = some (.int .i64 (its1.getD j ItV.default).n) ∧ w5.cell? ⟨b, j * 3 + 2, none⟩ = some (its1.getD j ItV.default).bv) := fun w5 i' j' va' vb' h5 => by
              obtain ⟨b', e, q⟩ := HFI.out _ _ _ _ _ h5
              rw [hb] at e
              cases e
              exact q
            subst hb
            generalize its1.getD j ItV.default = x at *
            obtain ⟨xk, xn, xbv, xs⟩ := x
            obtain ⟨yao, ybc, hbv⟩ := hbv
            dsimp only at hbv HFS HPA s4
            subst hbv
            clear l0 l1 t0 t1 tf0 tf1 HFI HTL HTN HTW
            obtain ⟨s40, s41, s42, s43, s44⟩ := s4
            go_region_held3 (fun w' => w'.cell? ⟨w2.heap.size, 1, none⟩ = some (.slice (some ⟨b, 0, none⟩) its1.length c1) ∧ w'.cell? ⟨wL.heap.size + 1 + 1, 1, none⟩ = some (.int .i64 (j : Int)) ∧ w'.cell? ⟨b, j * 3, none⟩ = some (.int .i64 xk) ∧ w'.cell? ⟨b, j * 3 + 1, none⟩ = some (.int .i64 xn) ∧ w'.cell? ⟨b, j * 3 + 2, none⟩ = some (.slice yao xs.length ybc)) (first | exact ⟨s40, s41, s42, s43, s44⟩ | assumption | exact HFS.out _ _ _ _ _ H5.out | go_keep)
              (first | (go_at_call 8; refine HPA.out.mono ?_; rintro e w5 ⟨rfl, vb5, h5⟩; have H5 := hid_of h5; clear h5))
            obtain ⟨_, _, y0, y1, yf0, yf1⟩ := HF.out _ _ _ _ _ _ _ H5.out
            clear HFS HPA s40 s41 s42 s43 s44 HT4
            go_wp2_with fail
            have H6 : Hid (Two wL (w5.setCell ⟨wL.heap.size + 1 + 1, 1, none⟩ (.int .i64 ((j : Int) + 1))) its0 its1 i (j + 1) i (j + 1) va vb5) := H5.out.set 1 i (j + 1) _ (by simp)
            have HD := hid_of (H6.out.doneB (HRB.out (j + 1) (by omega)))
            refine HD.out.mono ?_
            rintro e w7 ⟨v7, rfl, _, _, h7⟩
            have H7 := hid_of h7
            clear HD H6 H5 h7 y0 y1 yf0 yf1
            go_wp2
            go_roundw
            case rel => exact ⟨i, j + 1, n + 1, va, vb5, by omega, by omega, by go_num, by rw [HN.out]; omega, H7.out⟩
            case measure => simp [intOf]; have := HN.out; omega
      · have hj0I : ¬ ((j : Int) < (its1.length : Int)) := by omega
        have hei : i = its0.length := by omega
        have hej : j = its1.length := by omega
        subst hei
        subst hej
        have HDA := hid_of (HTW.out.doneA (HRA.out _ (Nat.le_refl _)))
        rw [List.take_of_length_le (Nat.le_refl _)] at HDA
        clear HTN HTL HN
        go_wp2_with fail
        refine HDA.out.mono ?_
        rintro e w6 ⟨x6, rfl, ho6, hk6, h6⟩
        obtain ⟨xo, xc, hx6⟩ := ownsRow_shape ho6
        subst hx6
        have HDB := hid_of (h6.doneB (HRB.out _ (Nat.le_refl _)))
        rw [List.take_of_length_le (Nat.le_refl _)] at HDB
        have HO6 := hid_of ho6
        have HK6 := hid_of hk6
        clear HDA ho6 hk6 h6 l0 l1 t0 t1 tf0 tf1
        go_wp2_with fail
        refine HDB.out.mono ?_
        rintro e w7 ⟨y7, rfl, ho7, hk7, h7⟩
        obtain ⟨yo, yc, hy7⟩ := ownsRow_shape ho7
        subst hy7
        obtain ⟨m0, m1, _, _, _, _⟩ := HF.out _ _ _ _ _ _ _ h7
        have HO7 := hid_of ho7
        have HK7 := hid_of hk7
        have HT7 := hid_of h7
        clear HDB ho7 hk7 h7
        have m1' : (w7.alloc (.cells #[.slice ao0 its0.length c0, .slice none 0 0, .slice none 0 0, .pointer none] 40)).cell? ⟨w2.heap.size, 1, none⟩ = some (.slice ao1 its1.length c1) := ((Kept.refl (fun _ => False) _).alloc _).cell m1 (fun f => f)
        go_wp2_with fail
        have hw8 : ∃ w8, w8 = (w7.alloc (.cells #[.slice ao0 its0.length c0, .slice none 0 0, .slice none 0 0, .pointer none] 40)).alloc (.cells #[.slice ao1 its1.length c1, .slice none 0 0, .slice none 0 0, .pointer none] 40) := ⟨_, rfl⟩
        obtain ⟨w8, hw8⟩ := hw8
        have hk78 : Kept (fun _ => False) w7 w8 := by rw [hw8]; exact ((Kept.refl _ _).alloc _).alloc _
        have hs8 : w8.heap.size = w7.heap.size + 2 := by rw [hw8]; simp
        have hshA : Sh w8 w7.heap.size (.slice ao0 its0.length c0) (.slice none 0 0) (.slice none 0 0) (.pointer none) := by
          rw [hw8]
          exact (((Kept.refl (fun _ => False) _).alloc _).block _ (by simp) (fun f => f)).trans (heap_alloc_new w7 _)
        have hshB : Sh w8 (w7.heap.size + 1) (.slice ao1 its1.length c1) (.slice none 0 0) (.slice none 0 0) (.pointer none) := by
          rw [hw8]
          have := heap_alloc_new (w7.alloc (.cells #[.slice ao0 its0.length c0, .slice none 0 0, .slice none 0 0, .pointer none] 40)) (.cells #[.slice ao1 its1.length c1, .slice none 0 0, .slice none 0 0, .pointer none] 40)
          rw [show (w7.alloc (.cells #[.slice ao0 its0.length c0, .slice none 0 0, .slice none 0 0, .pointer none] 40)).heap.size = w7.heap.size + 1 from by simp] at this
          exact this
        rw [← hw8]
        clear hw8 m1'
        have hkL8 : Kept (fun _ => False) wL w8 := HT7.out.kept.trans hk78
        have hz1 := HK2.out.size
        have hz2 := HKL.out.size
        have hz3 := hkL8.size
        have hz4 := HT7.out.tl
        have hz5 := HK7.out.size
        have hz6 := HK6.out.size
        have hz7 := HTW.out.tl
        have row0 := ((HK2.out.trans HKL.out).trans hkL8).ownsRow HG0.out.row (fun _ _ f => f)
        have row1 := (HKL.out.trans hkL8).ownsRow HG1.out.row (fun _ _ f => f)
        have good0 : AllGood w8 its0 := fun i hi => ⟨(HGA.out i hi).1, (HGA.out i hi).2.kept hkL8 (fun _ _ f => f)⟩
        have good1 : AllGood w8 its1 := fun i hi => ⟨(HGB.out i hi).1, (HGB.out i hi).2.kept hkL8 (fun _ _ f => f)⟩
        have ob0 : ∀ q, (Value.slice ao0 its0.length c0).ownBlock = some q → q < w1.heap.size := fun q hq => (World.ownsRow.lt HG0.out.row q hq).2
        have ob1 : ∀ q, (Value.slice ao1 its1.length c1).ownBlock = some q → q < w2.heap.size := fun q hq => (World.ownsRow.lt HG1.out.row q hq).2
        have ib0 : ∀ i, i < its0.length → (its0.getD i ItV.default).xs ≠ [] → ∀ q, (its0.getD i ItV.default).bv.ownBlock = some q → q < wL.heap.size := fun i hi hne q hq => (HGA.out i hi).2.lt hne q hq
        have ib1 : ∀ i, i < its1.length → (its1.getD i ItV.default).xs ≠ [] → ∀ q, (its1.getD i ItV.default).bv.ownBlock = some q → q < wL.heap.size := fun i hi hne q hq => (HGB.out i hi).2.lt hne q hq
        obtain ⟨gx, gx1, gx2, _⟩ := isR_own HO6.out (d := wL.heap.size) (by omega)
        obtain ⟨gy, gy1, gy2, _⟩ := isR_own HO7.out (d := wL.heap.size) (by omega)
        have gx8 := (gx2.kept HK7.out (fun f => f)).kept hk78 (fun f => f)
        have gy8 := gy2.kept hk78 (fun f => f)
        have rsA := hid_of (read_sheet (.slice ao0 its0.length c0) W.heap.size w7.heap.size gx _ _ _ its0 w8 hshA row0 HNIL0.out good0 (by omega) gx8 (by omega) (by omega) (fun e => by have := ob0 _ e; omega))
        have M0 := hk78.cell m0 (fun f => f)
        have M1 := hk78.cell m1 (fun f => f)
        have R0 := hid_of row0
        have R1 := hid_of row1
        have G0 := hid_of good0
        have G1 := hid_of good1
        have OB0 := hid_of ob0
        have OB1 := hid_of ob1
        have IB0 := hid_of ib0
        have IB1 := hid_of ib1
        have SHB := hid_of hshB
        have GY := hid_of gy8
        have HM0 := hid_of M0
        have HM1 := hid_of M1
        have HK8 := hid_of hkL8
        clear row0 row1 good0 good1 ob0 ob1 ib0 ib1 gx2 gy2 gx8 gy8 hshA hshB M0 M1 m0 m1 hkL8 hk78 HO6 HO7 HT7 HTW
        generalize hex : encs its0 = ex at *
        generalize hey : encs its1 = ey at *
        have HEY := hid_of hey
        clear hex hey
        refine rsA.out.mono ?_
        rintro e w9 ⟨rfl, hk9, tvA, lvA, toldA, hsdA⟩
        have hs9 := hk9.size
        have rsB := hid_of (read_sheet (.slice ao1 its1.length c1) w1.heap.size (w7.heap.size + 1) gy _ _ _ its1 w9 (SHB.out.kept hk9 (by omega)) (hk9.ownsRow R1.out (fun q hq e => by have := OB1.out q hq; omega)) HNIL1.out (fun i hi => ⟨(G1.out i hi).1, (G1.out i hi).2.kept2 hk9 (fun hne q hq e => by have := IB1.out i hi hne q hq; omega)⟩) (by omega) (by rw [HEY.out]; exact GY.out.kept hk9 (by omega)) (by omega) (by omega) (fun e => by have := OB1.out _ e; omega))
        have HK9 := hid_of hk9
        have HSA := hid_of hsdA
        clear rsA hk9 hsdA SHB
        go_wp2_with fail
        refine rsB.out.mono ?_
        rintro e w10 ⟨rfl, hk10, tvB, lvB, toldB, hsdB⟩
        have hs10 := hk10.size
        have hsA := HSA.out.kept hk10 (by omega) (fun q hq e => by omega)
        have hk810 : Kept (fun q => q = w7.heap.size ∨ q = w7.heap.size + 1) w8 w10 := (HK9.out.mono (fun _ _ e => .inl e)).trans (hk10.mono (fun _ _ e => .inr e))
        have HSMA : Hid (∀ w : World, Kept (fun _ => False) w10 w → Calls Try.prog 12 #[tvA, .slice ao0 its0.length c0] w fun e w' => e = .returned (.bool true) ∧ Kept (fun _ => False) w10 w') := fun w hk => by
          have hkn := hk810.trans (hk.mono (fun _ _ f => f.elim))
          refine (same_done w8 w w7.heap.size W.heap.size _ tvA lvA its0 toldA (hsA.kept hk (fun f => f) (fun _ _ f => f)) (by omega) HNIL0.out (hkn.ownsRow R0.out (fun q hq e => by have := OB0.out q hq; omega)) (fun i hi => ⟨(G0.out i hi).1, (G0.out i hi).2.kept2 hkn (fun hne q hq e => by have := IB0.out i hi hne q hq; omega)⟩)).mono ?_
          rintro e w' ⟨rfl, m, rfl⟩
          exact ⟨rfl, kept_drewN hk m⟩
        have HSMB : Hid (∀ w : World, Kept (fun _ => False) w10 w → Calls Try.prog 12 #[tvB, .slice ao1 its1.length c1] w fun e w' => e = .returned (.bool true) ∧ Kept (fun _ => False) w10 w') := fun w hk => by
          have hkn := hk810.trans (hk.mono (fun _ _ f => f.elim))
          refine (same_done w9 w (w7.heap.size + 1) w1.heap.size _ tvB lvB its1 toldB (hsdB.kept hk (fun f => f) (fun _ _ f => f)) (by omega) HNIL1.out (hkn.ownsRow R1.out (fun q hq e => by have := OB1.out q hq; omega)) (fun i hi => ⟨(G1.out i hi).1, (G1.out i hi).2.kept2 hkn (fun hne q hq e => by have := IB1.out i hi hne q hq; omega)⟩)).mono ?_
          rintro e w' ⟨rfl, m, rfl⟩
          exact ⟨rfl, kept_drewN hk m⟩
        have HHD : Hid (∀ w : World, Kept (fun _ => False) w10 w → Calls Try.prog 13 #[] w fun e w' => e = .returned (.bool true) ∧ Kept (fun _ => False) w10 w') := fun w hk => by
          refine (head_any w).mono ?_
          rintro e w' ⟨rfl, hb⟩
          exact ⟨rfl, hk.trans (kept_below hb)⟩
        have hsW : W.heap.size ≤ w10.heap.size := by have := HK1.out.size; omega
        obtain ⟨⟨rpA, shA⟩, _⟩ := hsA
        obtain ⟨⟨rpB, shB⟩, _⟩ := hsdB
        obtain ⟨_, dA, _, _⟩ := shA.cells
        obtain ⟨_, dB, _, _⟩ := shB.cells
        have n0 := hk810.cell HM0.out (by show ¬ (w2.heap.size = w7.heap.size ∨ w2.heap.size = w7.heap.size + 1); omega)
        have n1 := hk810.cell HM1.out (by show ¬ (w2.heap.size = w7.heap.size ∨ w2.heap.size = w7.heap.size + 1); omega)
        have HB : Hid (Below W.heap.size W w10) := ((((HK1.out.trans HK2.out).trans HKL.out).trans HK8.out).below (Nat.le_refl _) (fun q f => f.elim)).trans (hk810.below (by have := HK1.out.size; omega) (fun q e => by have := HK1.out.size; omega))
        have HKE : Hid (∀ w : World, Kept (fun _ => False) w10 w → w.cell? ⟨w7.heap.size, 1, none⟩ = some tvA ∧ w.cell? ⟨w7.heap.size + 1, 1, none⟩ = some tvB ∧ w.cell? ⟨w2.heap.size, 0, none⟩ = some (.slice ao0 its0.length c0) ∧ w.cell? ⟨w2.heap.size, 1, none⟩ = some (.slice ao1 its1.length c1)) := fun w hk => ⟨hk.cell dA (fun f => f), hk.cell dB (fun f => f), hk.cell n0 (fun f => f), hk.cell n1 (fun f => f)⟩
        clear rsB hk10 shA shB HSA HK9 R0 R1 G0 G1 OB0 OB1 IB0 IB1 GY HM0 HM1 HK8 hk810 HEY
        go_wp2_with fail
        go_region_held3 (fun w' => w'.cell? ⟨w7.heap.size, 1, none⟩ = some tvA ∧ w'.cell? ⟨w7.heap.size + 1, 1, none⟩ = some tvB ∧ w'.cell? ⟨w2.heap.size, 0, none⟩ = some (.slice ao0 its0.length c0) ∧ w'.cell? ⟨w2.heap.size, 1, none⟩ = some (.slice ao1 its1.length c1)) (first | exact ⟨dA, dB, n0, n1⟩ | assumption | exact HKE.out _ H13.out | exact HKE.out _ H12.out | exact HKE.out _ H11.out | go_keep)
          (first | (go_at_call 12; have hq := HSMB.out _ H11.out; refine hq.mono ?_; clear hq; rintro e w12 ⟨rfl, h12⟩; have H12 := hid_of h12; clear h12) | (go_at_call 12; refine (HSMA.out _ (Kept.refl _ _).drew).mono ?_; rintro e w11 ⟨rfl, h11⟩; have H11 := hid_of h11; clear h11) | (go_at_call 13; refine (HHD.out _ H12.out).mono ?_; rintro e w13 ⟨rfl, h13⟩; have H13 := hid_of h13; clear h13))
        go_wp2
        go_ret
        exact ⟨by first | rfl | simp, HB.out.trans (H13.out.below hsW (fun q f => f.elim))⟩
end Go.Proofs.Ytffabihenhejfab
