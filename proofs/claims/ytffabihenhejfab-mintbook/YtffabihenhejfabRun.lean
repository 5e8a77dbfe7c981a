/-
  sheet.run: the walk.
-/
import Derived.Test.YtffabihenhejfabSheet
import Derived.Deep.RegionLaw
import Derived.Deep.DeepCutAuto
namespace Go.Proofs.Ytffabihenhejfab
open Go.RowKit
set_option linter.unusedVariables false
set_option linter.unusedSimpArgs false

set_option maxRecDepth 100000 in
set_option maxHeartbeats 4000000 in
theorem run_ok (s r g gw c : Nat) (its : List ItV) (N : Nat) (w : World) (rv : Value) (hN : its.length = N) (hm : N ≤ 1000)
    (hsh : Sh w s (.slice (some ⟨gw, 0, none⟩) N c) (.slice none 0 0) (.slice none 0 0) rv) (hit : ItemsAt w gw its) (hbl : ∀ i, i < N → ∃ ao bc, (its.getD i ItV.default).bv = .slice ao (its.getD i ItV.default).xs.length bc) (hgood : ∀ i, i < N → Goodr (its.getD i ItV.default))
    (hrd : ∃ v, Rd w r v true 0 ∧ IsR w g v (encs its)) (hsr : s ≠ r) (hgr : g ≠ r) (hgs : g ≠ s) (hg : g < w.heap.size) (hws : gw ≠ s) (hwr : gw ≠ r) :
    Calls Try.prog 11 #[.pointer (some ⟨s, 0, none⟩), .pointer (some ⟨r, 0, none⟩)] w fun e w' => e = .returned (.tuple #[]) ∧ ∃ tv lv told lefts, RunInv w w' s r g (.slice (some ⟨gw, 0, none⟩) N c) its N tv lv told lefts := by
  obtain ⟨i27, hi27, z270, z271, z272⟩ := info_parts Try.info33
  obtain ⟨i3, hi3, z30, z31, z32⟩ := info_parts Try.info3
  have HI0 : Hid (RunInv w (w.setCell ⟨s, 3, none⟩ (.pointer (some ⟨r, 0, none⟩))) s r g (.slice (some ⟨gw, 0, none⟩) N c) its 0 (.slice none 0 0) (.slice none 0 0) [] []) := by
    obtain ⟨v, h1, h2⟩ := hrd
    have hk := kept_set w s 3 (.pointer (some ⟨r, 0, none⟩))
    exact ⟨⟨hsh.set3 _, ⟨v, h1.kept hk (fun e => hsr e.symm), h2.kept hk hgs⟩, World.ownsRow_nil _ _ _ _, World.ownsRow_nil _ _ _ _, fun i hi => absurd hi (by simp), fun i j _ hj => absurd hj (by simp), hk.mono (fun _ _ e => .inl e), fun q hq => (by cases hq), fun q hq => (by cases hq), hsh.lt, (h1.cells).2.2.2.2.2.2, hg, hsr, hgr, hgs⟩, rfl, rfl, fun h => absurd h (by omega)⟩
  obtain ⟨s0, s1, s2, s3⟩ := hsh.cells
  have sf := hsh.frozen 3
  have hsl := hsh.lt
  have HN := hid_of hN
  have HIT := hid_of hit
  have HBL := hid_of hbl
  have HG := hid_of hgood
  clear hN hit hbl hgood hrd hsh
  go_enter Try.func11, Try.ntmps11
  go_wp2
  go_loopw [4] (fun i wr => ∃ (k : Nat) (tv lv : Value) (told : List ItV) (lefts : List Int), k ≤ N ∧ i = .int .i64 k ∧ RunInv w wr s r g (.slice (some ⟨gw, 0, none⟩) N c) its k tv lv told lefts) (fun i _ => N - (intOf i).toNat)
  case atStart => exact ⟨0, _, _, _, _, Nat.zero_le _, rfl, HI0.out⟩
  case round =>
    obtain ⟨k, tv, lv, told, lefts, hk, rfl, hinv⟩ := hrel
    have HINV := hid_of hinv
    obtain ⟨hri, htl, hll, hlast⟩ := hinv
    obtain ⟨c0, c1, c2, c3⟩ := hri.sh.cells
    by_cases hlt : k < N
    · have hltI : (k : Int) < (N : Int) := by omega
      obtain ⟨q0, q1, q2⟩ := HIT.out k (by rw [HN.out]; exact hlt)
      obtain ⟨ao, bc, hbv⟩ := HBL.out k hlt
      have hgd := HG.out k hlt
      have hkw : ∀ (p : Addr) (u : Value), p.block = gw → w.cell? p = some u → wr.cell? p = some u := fun p u hp h => hri.kept.cell h (by rw [hp]; intro h; rcases h with h | h; exact hws h; exact hwr h)
      have r0 := hkw _ _ rfl q0
      have r2 := hkw _ _ rfl q2
      rw [hbv] at r2
      have hed := encs_drop its k (by rw [HN.out]; exact hlt)
      have hgt : ∀ y, y = its.getD k ItV.default → its.getD told.length ItV.default = y := fun y hy => by rw [htl, hy]
      generalize its.getD k ItV.default = x at *
      obtain ⟨xk, xn, xbv, xs⟩ := x
      have hgt' := hgt _ rfl
      clear hgt
      dsimp only at r0 r2
      obtain ⟨g1, g2, g3, g4, g5, g6, g7, g8⟩ := hgd
      dsimp only at g1 g2 g3 g4 g5 g6 g7 g8
      obtain ⟨v, hv1, hv2⟩ := hri.rd
      rw [hed] at hv2
      generalize hrst : encs (its.drop (k + 1)) = rest at *
      have HRST := hid_of hrst
      have HGT := hid_of hgt'
      have hkA : Kept (fun _ => False) wr (wr.alloc (.cells #[.int .i64 xk, .int .i64 0, .slice none 0 0] 33)) := (Kept.refl _ _).alloc _
      have hv1' := hv1.kept hkA (fun f => f)
      have hv2' := hv2.kept hkA (fun f => f)
      have hpx0 := heap_alloc_new wr (.cells #[.int .i64 xk, .int .i64 0, .slice none 0 0] 33)
      have hws := hri.kept.size
      have hrlt := hri.rl
      have hslt := hri.sl
      have HRI := hid_of hri
      have HPX := hid_of hpx0
      have hkk : xk = 1 ∨ xk = 2 ∨ xk = 3 ∨ xk = 4 ∨ xk = 5 ∨ xk = 6 := by omega
      have hT16 : told.length ≤ 1000 := by omega
      have hL16 : lefts.length ≤ 1000 := by omega
      have HTL := hid_of htl
      have HLL := hid_of hll
      clear s0 s1 s2 s3 sf q0 q1 q2 hbv hkw HIT HBL HI0 HG hri hed hv1 hv2 hkA hpx0 hrst hgt' hlast htl hll HINV
      have hsw : s < wr.heap.size := by omega
      rcases hkk with rfl | rfl | rfl | rfl | rfl | rfl
      · have hcall := hid_of (rnum r g v xn rest _ 0 hv1' hv2' hgr (g5 rfl) (by omega))
        clear hv1' hv2'
        go_wp2_with fail
        refine hcall.out.mono ?_
        rintro e w2 ⟨rfl, v2, h21, h22, h23⟩
        have hb2 := (h23.block wr.heap.size (by simp) (by omega)).trans HPX.out
        have p1 : w2.cell? ⟨wr.heap.size, 1, none⟩ = some (.int .i64 0) := by rw [cell_block _ _ _ _ _ _ hb2]; rfl
        have pf := frozen_block _ _ 1 _ _ hb2
        have HRI3 : Hid (RI w (w2.setCell ⟨wr.heap.size, 1, none⟩ (.int .i64 xn)) s r g (.slice (some ⟨gw, 0, none⟩) N c) its tv lv told lefts rest) :=
          HRI.out.read ((h23.mono (fun _ _ e => .inl e)).setCell (.inr (.inr rfl)) _) ⟨v2, h21.kept (kept_set _ _ _ _) (by omega), h22.kept (kept_set _ _ _ _) (by have := HRI.out.gl; omega)⟩
        have HM : Hid (∃ y : ItV, (w2.setCell ⟨wr.heap.size, 1, none⟩ (.int .i64 xn)).heap[wr.heap.size]? = some (.cells #[.int .i64 y.k, .int .i64 y.n, y.bv] 33 (0, 0)) ∧ New w (w2.setCell ⟨wr.heap.size, 1, none⟩ (.int .i64 xn)) tv lv told (its.getD told.length ItV.default) y) := by
          rw [HGT.out]
          exact ⟨⟨1, xn, .slice none 0 0, []⟩, by rw [set_block _ _ _ _ _ _ hb2]; rfl, ⟨rfl, fun _ => rfl, fun h => absurd h (by simp), .inl ⟨rfl, _, _, rfl⟩, fun q hq => (by cases hq), fun _ => World.ownsRow_nil _ _ _ _, fun _ => rfl⟩, fun i hi q hq e => (by cases e)⟩
        clear hcall h21 h22 h23 hb2 HRI HPX r0 r2 HGT c0 c1 c2 c3
        go_wp2_with fail
        generalize hw3 : w2.setCell ⟨wr.heap.size, 1, none⟩ (.int .i64 xn) = w3 at *
        clear hw3 p1 pf
        obtain ⟨⟨yk, yn, ybv, yxs⟩, hpb, hy⟩ := HM.out
        obtain ⟨yao, yc, hyb⟩ := hy.1.2.2.2.1.shape
        dsimp only at hyb hpb
        subst hyb
        have p0 : w3.cell? ⟨wr.heap.size, 0, none⟩ = some (.int .i64 yk) := by rw [cell_block _ _ _ _ _ _ hpb]; rfl
        have p1 : w3.cell? ⟨wr.heap.size, 1, none⟩ = some (.int .i64 yn) := by rw [cell_block _ _ _ _ _ _ hpb]; rfl
        have p2 : w3.cell? ⟨wr.heap.size, 2, none⟩ = some (.slice yao yxs.length yc) := by rw [cell_block _ _ _ _ _ _ hpb]; rfl
        have hpl : wr.heap.size < w3.heap.size := (Array.getElem?_eq_some_iff.1 hpb).1
        obtain ⟨_, d1, _, _⟩ := HRI3.out.sh.cells
        have hs3 := HRI3.out.sh.lt
        have HROW := hid_of HRI3.out.row
        have HTS : Hid (∀ w5 : World, Kept (fun q => tv.ownBlock = some q) w3 w5 → w5.cell? ⟨s, 1, none⟩ = some tv ∧ w5.frozen? ⟨s, 1, none⟩ = false) := fun w5 hk5 => by
          have h5 := HRI3.out.sh.kept hk5 (fun e => by have := (HRI3.out.ht s e).1; omega)
          exact ⟨h5.cells.2.1, h5.frozen 1⟩
        have HY := hid_of hy
        clear HM hpb hy
        go_cut [5] (fun _ wx => ∃ (tv' : Value), RI w wx s r g (.slice (some ⟨gw, 0, none⟩) N c) its tv' lv (told ++ [⟨yk, yn, .slice yao yxs.length yc, yxs⟩]) lefts rest)
        case first =>
          go_region_law (first | (refine step_own_at rfl (.tmp 74) (.tmp 76) 22 rfl 0 33 i27 (.agg #[.int .i64 0, .int .i64 0, .slice none 0 0]) 3 40 Try.underlying22 hi27 z270 z271 z272 rfl (by decide) tv told.length (told.flatMap ItV.cells) rfl (by exact HROW.out.alloc _) ⟨w3.heap.size, 0, none⟩ 1 1 [.int .i64 yk, .int .i64 yn, .slice yao yxs.length yc] rfl rfl (by intro j u hj; simpa using cell_three_new w3 _ _ _ 33 j u hj) (by intro u hu; simp at hu; rcases hu with rfl | rfl | rfl <;> rfl) (by unfold maxLen; omega) (by omega) (Nat.zero_le _) ?_; intro tv' w5 hown' hgrow hat; have hk5 := kept_app (w3 := w3) hgrow (by first | exact (Kept.refl _ w3).alloc _ | exact ((Kept.refl _ w3).alloc _).drew | exact ((Kept.refl _ w3).drew).alloc _); obtain ⟨k1, k2⟩ := HTS.out w5 hk5; have HR6 := hid_of (HRI3.out.told (y := ⟨yk, yn, .slice yao yxs.length yc, yxs⟩) hown' hk5 (hat_of hat (by simp)) HY.out); obtain ⟨tao, tcap, rfl⟩ := ownsRow_shape hown'; clear hown' hgrow hat hk5))
          all_goals (try go_wp2_with fail)
          all_goals go_meet
          all_goals exact ⟨_, HR6.out⟩
        case rest =>
          obtain ⟨tv', hr6⟩ := hcut
          have HR6 := hid_of hr6
          clear HROW HTS HY HRI3 d1 p0 p1 p2 hr6
          rename World => w6
          go_wp2_with fail
          obtain ⟨v6, hv61, hv62⟩ := HR6.out.rd
          have HLF := hid_of (rleft r g v6 rest w6.drew true 0 hv61 hv62)
          obtain ⟨_, _, e2, _⟩ := HR6.out.sh.cells
          have HLR := hid_of HR6.out.left
          have hs6 := HR6.out.sh.lt
          have HLS : Hid (∀ w8 : World, Kept (fun q => lv.ownBlock = some q) w6 w8 → w8.cell? ⟨s, 2, none⟩ = some lv ∧ w8.frozen? ⟨s, 2, none⟩ = false) := fun w8 hk8 => by
            have h8 := HR6.out.sh.kept hk8 (fun e => by have := HR6.out.hl s e; omega)
            exact ⟨h8.cells.2.2.1, h8.frozen 2⟩
          clear hv61 hv62
          go_region_law (first | (refine step_call1 rfl 35 (.tmp 85) 38 rfl _ rfl _ (ent49 _ _) HLF.out ?_) | (refine step_own_at rfl (.tmp 84) (.tmp 87) 23 rfl 0 3 i3 (.int .i64 0) 1 8 Try.underlying23 hi3 z30 z31 z32 rfl (by decide) lv lefts.length (lefts.map (Value.int .i64)) (by simp [Act.eval, Act.put]) (by exact HLR.out.alloc _) ⟨w6.heap.size, 0, none⟩ 1 1 [.int .i64 rest.length] (by simp [Act.eval, Act.put]) rfl (by intro j u hj; simpa using cell_one_new w6 _ 3 j u hj) (by intro u hu; simp at hu; subst hu; rfl) (by unfold maxLen; omega) (by omega) (Nat.zero_le _) ?_; intro lv' w8 hown' hgrow hat; have hk8 := kept_app (w3 := w6) hgrow (by first | exact (Kept.refl _ w6).alloc _ | exact ((Kept.refl _ w6).alloc _).drew | exact ((Kept.refl _ w6).drew).alloc _); obtain ⟨k1, k2⟩ := HLS.out w8 hk8; have HR9 := hid_of (HR6.out.lefts hown' hk8 (hat_of hat (by simp))); obtain ⟨lao, lcap, rfl⟩ := ownsRow_shape hown'; clear hown' hgrow hat hk8))
          all_goals
            have HREL := hid_of (run_next HR9.out HTL.out HLL.out HRST.out)
            clear HLF HLS HLR HR6 e2 HR9
            generalize hw9 : World.setCell _ _ _ = w9 at *
            clear hw9 k1 k2
            go_wp2
            go_roundw
            case rel => exact ⟨k + 1, _, _, _, _, by omega, by go_num, HREL.out⟩
            case measure => simp [intOf]; omega
      · have hcall := hid_of (rint r g v xn rest _ 0 hv1' hv2' hgr g3 g4)
        clear hv1' hv2'
        go_wp2_with fail
        refine hcall.out.mono ?_
        rintro e w2 ⟨rfl, v2, h21, h22, h23⟩
        have hb2 := (h23.block wr.heap.size (by simp) (by omega)).trans HPX.out
        have p1 : w2.cell? ⟨wr.heap.size, 1, none⟩ = some (.int .i64 0) := by rw [cell_block _ _ _ _ _ _ hb2]; rfl
        have pf := frozen_block _ _ 1 _ _ hb2
        have HRI3 : Hid (RI w (w2.setCell ⟨wr.heap.size, 1, none⟩ (.int .i64 xn)) s r g (.slice (some ⟨gw, 0, none⟩) N c) its tv lv told lefts rest) :=
          HRI.out.read ((h23.mono (fun _ _ e => .inl e)).setCell (.inr (.inr rfl)) _) ⟨v2, h21.kept (kept_set _ _ _ _) (by omega), h22.kept (kept_set _ _ _ _) (by have := HRI.out.gl; omega)⟩
        have HM : Hid (∃ y : ItV, (w2.setCell ⟨wr.heap.size, 1, none⟩ (.int .i64 xn)).heap[wr.heap.size]? = some (.cells #[.int .i64 y.k, .int .i64 y.n, y.bv] 33 (0, 0)) ∧ New w (w2.setCell ⟨wr.heap.size, 1, none⟩ (.int .i64 xn)) tv lv told (its.getD told.length ItV.default) y) := by
          rw [HGT.out]
          exact ⟨⟨2, xn, .slice none 0 0, []⟩, by rw [set_block _ _ _ _ _ _ hb2]; rfl, ⟨rfl, fun _ => rfl, fun h => absurd h (by simp), .inl ⟨rfl, _, _, rfl⟩, fun q hq => (by cases hq), fun _ => World.ownsRow_nil _ _ _ _, fun _ => rfl⟩, fun i hi q hq e => (by cases e)⟩
        clear hcall h21 h22 h23 hb2 HRI HPX r0 r2 HGT c0 c1 c2 c3
        go_wp2_with fail
        generalize hw3 : w2.setCell ⟨wr.heap.size, 1, none⟩ (.int .i64 xn) = w3 at *
        clear hw3 p1 pf
        obtain ⟨⟨yk, yn, ybv, yxs⟩, hpb, hy⟩ := HM.out
        obtain ⟨yao, yc, hyb⟩ := hy.1.2.2.2.1.shape
        dsimp only at hyb hpb
        subst hyb
        have p0 : w3.cell? ⟨wr.heap.size, 0, none⟩ = some (.int .i64 yk) := by rw [cell_block _ _ _ _ _ _ hpb]; rfl
        have p1 : w3.cell? ⟨wr.heap.size, 1, none⟩ = some (.int .i64 yn) := by rw [cell_block _ _ _ _ _ _ hpb]; rfl
        have p2 : w3.cell? ⟨wr.heap.size, 2, none⟩ = some (.slice yao yxs.length yc) := by rw [cell_block _ _ _ _ _ _ hpb]; rfl
        have hpl : wr.heap.size < w3.heap.size := (Array.getElem?_eq_some_iff.1 hpb).1
        obtain ⟨_, d1, _, _⟩ := HRI3.out.sh.cells
        have hs3 := HRI3.out.sh.lt
        have HROW := hid_of HRI3.out.row
        have HTS : Hid (∀ w5 : World, Kept (fun q => tv.ownBlock = some q) w3 w5 → w5.cell? ⟨s, 1, none⟩ = some tv ∧ w5.frozen? ⟨s, 1, none⟩ = false) := fun w5 hk5 => by
          have h5 := HRI3.out.sh.kept hk5 (fun e => by have := (HRI3.out.ht s e).1; omega)
          exact ⟨h5.cells.2.1, h5.frozen 1⟩
        have HY := hid_of hy
        clear HM hpb hy
        go_cut [5] (fun _ wx => ∃ (tv' : Value), RI w wx s r g (.slice (some ⟨gw, 0, none⟩) N c) its tv' lv (told ++ [⟨yk, yn, .slice yao yxs.length yc, yxs⟩]) lefts rest)
        case first =>
          go_region_law (first | (refine step_own_at rfl (.tmp 74) (.tmp 76) 22 rfl 0 33 i27 (.agg #[.int .i64 0, .int .i64 0, .slice none 0 0]) 3 40 Try.underlying22 hi27 z270 z271 z272 rfl (by decide) tv told.length (told.flatMap ItV.cells) rfl (by exact HROW.out.alloc _) ⟨w3.heap.size, 0, none⟩ 1 1 [.int .i64 yk, .int .i64 yn, .slice yao yxs.length yc] rfl rfl (by intro j u hj; simpa using cell_three_new w3 _ _ _ 33 j u hj) (by intro u hu; simp at hu; rcases hu with rfl | rfl | rfl <;> rfl) (by unfold maxLen; omega) (by omega) (Nat.zero_le _) ?_; intro tv' w5 hown' hgrow hat; have hk5 := kept_app (w3 := w3) hgrow (by first | exact (Kept.refl _ w3).alloc _ | exact ((Kept.refl _ w3).alloc _).drew | exact ((Kept.refl _ w3).drew).alloc _); obtain ⟨k1, k2⟩ := HTS.out w5 hk5; have HR6 := hid_of (HRI3.out.told (y := ⟨yk, yn, .slice yao yxs.length yc, yxs⟩) hown' hk5 (hat_of hat (by simp)) HY.out); obtain ⟨tao, tcap, rfl⟩ := ownsRow_shape hown'; clear hown' hgrow hat hk5))
          all_goals (try go_wp2_with fail)
          all_goals go_meet
          all_goals exact ⟨_, HR6.out⟩
        case rest =>
          obtain ⟨tv', hr6⟩ := hcut
          have HR6 := hid_of hr6
          clear HROW HTS HY HRI3 d1 p0 p1 p2 hr6
          rename World => w6
          go_wp2_with fail
          obtain ⟨v6, hv61, hv62⟩ := HR6.out.rd
          have HLF := hid_of (rleft r g v6 rest w6.drew true 0 hv61 hv62)
          obtain ⟨_, _, e2, _⟩ := HR6.out.sh.cells
          have HLR := hid_of HR6.out.left
          have hs6 := HR6.out.sh.lt
          have HLS : Hid (∀ w8 : World, Kept (fun q => lv.ownBlock = some q) w6 w8 → w8.cell? ⟨s, 2, none⟩ = some lv ∧ w8.frozen? ⟨s, 2, none⟩ = false) := fun w8 hk8 => by
            have h8 := HR6.out.sh.kept hk8 (fun e => by have := HR6.out.hl s e; omega)
            exact ⟨h8.cells.2.2.1, h8.frozen 2⟩
          clear hv61 hv62
          go_region_law (first | (refine step_call1 rfl 35 (.tmp 85) 38 rfl _ rfl _ (ent49 _ _) HLF.out ?_) | (refine step_own_at rfl (.tmp 84) (.tmp 87) 23 rfl 0 3 i3 (.int .i64 0) 1 8 Try.underlying23 hi3 z30 z31 z32 rfl (by decide) lv lefts.length (lefts.map (Value.int .i64)) (by simp [Act.eval, Act.put]) (by exact HLR.out.alloc _) ⟨w6.heap.size, 0, none⟩ 1 1 [.int .i64 rest.length] (by simp [Act.eval, Act.put]) rfl (by intro j u hj; simpa using cell_one_new w6 _ 3 j u hj) (by intro u hu; simp at hu; subst hu; rfl) (by unfold maxLen; omega) (by omega) (Nat.zero_le _) ?_; intro lv' w8 hown' hgrow hat; have hk8 := kept_app (w3 := w6) hgrow (by first | exact (Kept.refl _ w6).alloc _ | exact ((Kept.refl _ w6).alloc _).drew | exact ((Kept.refl _ w6).drew).alloc _); obtain ⟨k1, k2⟩ := HLS.out w8 hk8; have HR9 := hid_of (HR6.out.lefts hown' hk8 (hat_of hat (by simp))); obtain ⟨lao, lcap, rfl⟩ := ownsRow_shape hown'; clear hown' hgrow hat hk8))
          all_goals
            have HREL := hid_of (run_next HR9.out HTL.out HLL.out HRST.out)
            clear HLF HLS HLR HR6 e2 HR9
            generalize hw9 : World.setCell _ _ _ = w9 at *
            clear hw9 k1 k2
            go_wp2
            go_roundw
            case rel => exact ⟨k + 1, _, _, _, _, by omega, by go_num, HREL.out⟩
            case measure => simp [intOf]; omega
      · have hx01 : xn = 0 ∨ xn = 1 := by have := g6 rfl; omega
        rcases hx01 with rfl | rfl
        · skip
          have hcall := hid_of (rbool r g v 0 rest _ 0 hv1' hv2' hgr (by decide) (by decide))
          clear hv1' hv2'
          go_wp2_with fail
          refine hcall.out.mono ?_
          rintro e w2 ⟨rfl, v2, h21, h22, h23⟩
          have hb2 := (h23.block wr.heap.size (by simp) (by omega)).trans HPX.out
          have p1 : w2.cell? ⟨wr.heap.size, 1, none⟩ = some (.int .i64 0) := by rw [cell_block _ _ _ _ _ _ hb2]; rfl
          have pf := frozen_block _ _ 1 _ _ hb2
          have HRI3 : Hid (RI w w2 s r g (.slice (some ⟨gw, 0, none⟩) N c) its tv lv told lefts rest) :=
            HRI.out.read (h23.mono (fun _ _ e => .inl e)) ⟨v2, h21, h22⟩
          have HM : Hid (∃ y : ItV, w2.heap[wr.heap.size]? = some (.cells #[.int .i64 y.k, .int .i64 y.n, y.bv] 33 (0, 0)) ∧ New w w2 tv lv told (its.getD told.length ItV.default) y) := by
            rw [HGT.out]
            exact ⟨⟨3, 0, .slice none 0 0, []⟩, hb2, ⟨rfl, fun _ => rfl, fun h => absurd h (by simp), .inl ⟨rfl, _, _, rfl⟩, fun q hq => (by cases hq), fun _ => World.ownsRow_nil _ _ _ _, fun _ => rfl⟩, fun i hi q hq e => (by cases e)⟩
          clear hcall h21 h22 h23 hb2 HRI HPX r0 r2 HGT c0 c1 c2 c3
          go_wp2_with fail
          clear p1 pf
          rename World => w3
          obtain ⟨⟨yk, yn, ybv, yxs⟩, hpb, hy⟩ := HM.out
          obtain ⟨yao, yc, hyb⟩ := hy.1.2.2.2.1.shape
          dsimp only at hyb hpb
          subst hyb
          have p0 : w3.cell? ⟨wr.heap.size, 0, none⟩ = some (.int .i64 yk) := by rw [cell_block _ _ _ _ _ _ hpb]; rfl
          have p1 : w3.cell? ⟨wr.heap.size, 1, none⟩ = some (.int .i64 yn) := by rw [cell_block _ _ _ _ _ _ hpb]; rfl
          have p2 : w3.cell? ⟨wr.heap.size, 2, none⟩ = some (.slice yao yxs.length yc) := by rw [cell_block _ _ _ _ _ _ hpb]; rfl
          have hpl : wr.heap.size < w3.heap.size := (Array.getElem?_eq_some_iff.1 hpb).1
          obtain ⟨_, d1, _, _⟩ := HRI3.out.sh.cells
          have hs3 := HRI3.out.sh.lt
          have HROW := hid_of HRI3.out.row
          have HTS : Hid (∀ w5 : World, Kept (fun q => tv.ownBlock = some q) w3 w5 → w5.cell? ⟨s, 1, none⟩ = some tv ∧ w5.frozen? ⟨s, 1, none⟩ = false) := fun w5 hk5 => by
            have h5 := HRI3.out.sh.kept hk5 (fun e => by have := (HRI3.out.ht s e).1; omega)
            exact ⟨h5.cells.2.1, h5.frozen 1⟩
          have HY := hid_of hy
          clear HM hpb hy
          go_cut [5] (fun _ wx => ∃ (tv' : Value), RI w wx s r g (.slice (some ⟨gw, 0, none⟩) N c) its tv' lv (told ++ [⟨yk, yn, .slice yao yxs.length yc, yxs⟩]) lefts rest)
          case first =>
            go_region_law (first | (refine step_own_at rfl (.tmp 74) (.tmp 76) 22 rfl 0 33 i27 (.agg #[.int .i64 0, .int .i64 0, .slice none 0 0]) 3 40 Try.underlying22 hi27 z270 z271 z272 rfl (by decide) tv told.length (told.flatMap ItV.cells) rfl (by exact HROW.out.alloc _) ⟨w3.heap.size, 0, none⟩ 1 1 [.int .i64 yk, .int .i64 yn, .slice yao yxs.length yc] rfl rfl (by intro j u hj; simpa using cell_three_new w3 _ _ _ 33 j u hj) (by intro u hu; simp at hu; rcases hu with rfl | rfl | rfl <;> rfl) (by unfold maxLen; omega) (by omega) (Nat.zero_le _) ?_; intro tv' w5 hown' hgrow hat; have hk5 := kept_app (w3 := w3) hgrow (by first | exact (Kept.refl _ w3).alloc _ | exact ((Kept.refl _ w3).alloc _).drew | exact ((Kept.refl _ w3).drew).alloc _); obtain ⟨k1, k2⟩ := HTS.out w5 hk5; have HR6 := hid_of (HRI3.out.told (y := ⟨yk, yn, .slice yao yxs.length yc, yxs⟩) hown' hk5 (hat_of hat (by simp)) HY.out); obtain ⟨tao, tcap, rfl⟩ := ownsRow_shape hown'; clear hown' hgrow hat hk5))
            all_goals (try go_wp2_with fail)
            all_goals go_meet
            all_goals exact ⟨_, HR6.out⟩
          case rest =>
            obtain ⟨tv', hr6⟩ := hcut
            have HR6 := hid_of hr6
            clear HROW HTS HY HRI3 d1 p0 p1 p2 hr6
            rename World => w6
            go_wp2_with fail
            obtain ⟨v6, hv61, hv62⟩ := HR6.out.rd
            have HLF := hid_of (rleft r g v6 rest w6.drew true 0 hv61 hv62)
            obtain ⟨_, _, e2, _⟩ := HR6.out.sh.cells
            have HLR := hid_of HR6.out.left
            have hs6 := HR6.out.sh.lt
            have HLS : Hid (∀ w8 : World, Kept (fun q => lv.ownBlock = some q) w6 w8 → w8.cell? ⟨s, 2, none⟩ = some lv ∧ w8.frozen? ⟨s, 2, none⟩ = false) := fun w8 hk8 => by
              have h8 := HR6.out.sh.kept hk8 (fun e => by have := HR6.out.hl s e; omega)
              exact ⟨h8.cells.2.2.1, h8.frozen 2⟩
            clear hv61 hv62
            go_region_law (first | (refine step_call1 rfl 35 (.tmp 85) 38 rfl _ rfl _ (ent49 _ _) HLF.out ?_) | (refine step_own_at rfl (.tmp 84) (.tmp 87) 23 rfl 0 3 i3 (.int .i64 0) 1 8 Try.underlying23 hi3 z30 z31 z32 rfl (by decide) lv lefts.length (lefts.map (Value.int .i64)) (by simp [Act.eval, Act.put]) (by exact HLR.out.alloc _) ⟨w6.heap.size, 0, none⟩ 1 1 [.int .i64 rest.length] (by simp [Act.eval, Act.put]) rfl (by intro j u hj; simpa using cell_one_new w6 _ 3 j u hj) (by intro u hu; simp at hu; subst hu; rfl) (by unfold maxLen; omega) (by omega) (Nat.zero_le _) ?_; intro lv' w8 hown' hgrow hat; have hk8 := kept_app (w3 := w6) hgrow (by first | exact (Kept.refl _ w6).alloc _ | exact ((Kept.refl _ w6).alloc _).drew | exact ((Kept.refl _ w6).drew).alloc _); obtain ⟨k1, k2⟩ := HLS.out w8 hk8; have HR9 := hid_of (HR6.out.lefts hown' hk8 (hat_of hat (by simp))); obtain ⟨lao, lcap, rfl⟩ := ownsRow_shape hown'; clear hown' hgrow hat hk8))
            all_goals
              have HREL := hid_of (run_next HR9.out HTL.out HLL.out HRST.out)
              clear HLF HLS HLR HR6 e2 HR9
              generalize hw9 : World.setCell _ _ _ = w9 at *
              clear hw9 k1 k2
              go_wp2
              go_roundw
              case rel => exact ⟨k + 1, _, _, _, _, by omega, by go_num, HREL.out⟩
              case measure => simp [intOf]; omega
        · skip
          have hcall := hid_of (rbool r g v 1 rest _ 0 hv1' hv2' hgr (by decide) (by decide))
          clear hv1' hv2'
          go_wp2_with fail
          refine hcall.out.mono ?_
          rintro e w2 ⟨rfl, v2, h21, h22, h23⟩
          have hb2 := (h23.block wr.heap.size (by simp) (by omega)).trans HPX.out
          have p1 : w2.cell? ⟨wr.heap.size, 1, none⟩ = some (.int .i64 0) := by rw [cell_block _ _ _ _ _ _ hb2]; rfl
          have pf := frozen_block _ _ 1 _ _ hb2
          have HRI3 : Hid (RI w (w2.setCell ⟨wr.heap.size, 1, none⟩ (.int .i64 1)) s r g (.slice (some ⟨gw, 0, none⟩) N c) its tv lv told lefts rest) :=
            HRI.out.read ((h23.mono (fun _ _ e => .inl e)).setCell (.inr (.inr rfl)) _) ⟨v2, h21.kept (kept_set _ _ _ _) (by omega), h22.kept (kept_set _ _ _ _) (by have := HRI.out.gl; omega)⟩
          have HM : Hid (∃ y : ItV, (w2.setCell ⟨wr.heap.size, 1, none⟩ (.int .i64 1)).heap[wr.heap.size]? = some (.cells #[.int .i64 y.k, .int .i64 y.n, y.bv] 33 (0, 0)) ∧ New w (w2.setCell ⟨wr.heap.size, 1, none⟩ (.int .i64 1)) tv lv told (its.getD told.length ItV.default) y) := by
            rw [HGT.out]
            exact ⟨⟨3, 1, .slice none 0 0, []⟩, by rw [set_block _ _ _ _ _ _ hb2]; rfl, ⟨rfl, fun _ => rfl, fun h => absurd h (by simp), .inl ⟨rfl, _, _, rfl⟩, fun q hq => (by cases hq), fun _ => World.ownsRow_nil _ _ _ _, fun _ => rfl⟩, fun i hi q hq e => (by cases e)⟩
          clear hcall h21 h22 h23 hb2 HRI HPX r0 r2 HGT c0 c1 c2 c3
          go_wp2_with fail
          generalize hw3 : w2.setCell ⟨wr.heap.size, 1, none⟩ (.int .i64 1) = w3 at *
          clear hw3 p1 pf
          obtain ⟨⟨yk, yn, ybv, yxs⟩, hpb, hy⟩ := HM.out
          obtain ⟨yao, yc, hyb⟩ := hy.1.2.2.2.1.shape
          dsimp only at hyb hpb
          subst hyb
          have p0 : w3.cell? ⟨wr.heap.size, 0, none⟩ = some (.int .i64 yk) := by rw [cell_block _ _ _ _ _ _ hpb]; rfl
          have p1 : w3.cell? ⟨wr.heap.size, 1, none⟩ = some (.int .i64 yn) := by rw [cell_block _ _ _ _ _ _ hpb]; rfl
          have p2 : w3.cell? ⟨wr.heap.size, 2, none⟩ = some (.slice yao yxs.length yc) := by rw [cell_block _ _ _ _ _ _ hpb]; rfl
          have hpl : wr.heap.size < w3.heap.size := (Array.getElem?_eq_some_iff.1 hpb).1
          obtain ⟨_, d1, _, _⟩ := HRI3.out.sh.cells
          have hs3 := HRI3.out.sh.lt
          have HROW := hid_of HRI3.out.row
          have HTS : Hid (∀ w5 : World, Kept (fun q => tv.ownBlock = some q) w3 w5 → w5.cell? ⟨s, 1, none⟩ = some tv ∧ w5.frozen? ⟨s, 1, none⟩ = false) := fun w5 hk5 => by
            have h5 := HRI3.out.sh.kept hk5 (fun e => by have := (HRI3.out.ht s e).1; omega)
            exact ⟨h5.cells.2.1, h5.frozen 1⟩
          have HY := hid_of hy
          clear HM hpb hy
          go_cut [5] (fun _ wx => ∃ (tv' : Value), RI w wx s r g (.slice (some ⟨gw, 0, none⟩) N c) its tv' lv (told ++ [⟨yk, yn, .slice yao yxs.length yc, yxs⟩]) lefts rest)
          case first =>
            go_region_law (first | (refine step_own_at rfl (.tmp 74) (.tmp 76) 22 rfl 0 33 i27 (.agg #[.int .i64 0, .int .i64 0, .slice none 0 0]) 3 40 Try.underlying22 hi27 z270 z271 z272 rfl (by decide) tv told.length (told.flatMap ItV.cells) rfl (by exact HROW.out.alloc _) ⟨w3.heap.size, 0, none⟩ 1 1 [.int .i64 yk, .int .i64 yn, .slice yao yxs.length yc] rfl rfl (by intro j u hj; simpa using cell_three_new w3 _ _ _ 33 j u hj) (by intro u hu; simp at hu; rcases hu with rfl | rfl | rfl <;> rfl) (by unfold maxLen; omega) (by omega) (Nat.zero_le _) ?_; intro tv' w5 hown' hgrow hat; have hk5 := kept_app (w3 := w3) hgrow (by first | exact (Kept.refl _ w3).alloc _ | exact ((Kept.refl _ w3).alloc _).drew | exact ((Kept.refl _ w3).drew).alloc _); obtain ⟨k1, k2⟩ := HTS.out w5 hk5; have HR6 := hid_of (HRI3.out.told (y := ⟨yk, yn, .slice yao yxs.length yc, yxs⟩) hown' hk5 (hat_of hat (by simp)) HY.out); obtain ⟨tao, tcap, rfl⟩ := ownsRow_shape hown'; clear hown' hgrow hat hk5))
            all_goals (try go_wp2_with fail)
            all_goals go_meet
            all_goals exact ⟨_, HR6.out⟩
          case rest =>
            obtain ⟨tv', hr6⟩ := hcut
            have HR6 := hid_of hr6
            clear HROW HTS HY HRI3 d1 p0 p1 p2 hr6
            rename World => w6
            go_wp2_with fail
            obtain ⟨v6, hv61, hv62⟩ := HR6.out.rd
            have HLF := hid_of (rleft r g v6 rest w6.drew true 0 hv61 hv62)
            obtain ⟨_, _, e2, _⟩ := HR6.out.sh.cells
            have HLR := hid_of HR6.out.left
            have hs6 := HR6.out.sh.lt
            have HLS : Hid (∀ w8 : World, Kept (fun q => lv.ownBlock = some q) w6 w8 → w8.cell? ⟨s, 2, none⟩ = some lv ∧ w8.frozen? ⟨s, 2, none⟩ = false) := fun w8 hk8 => by
              have h8 := HR6.out.sh.kept hk8 (fun e => by have := HR6.out.hl s e; omega)
              exact ⟨h8.cells.2.2.1, h8.frozen 2⟩
            clear hv61 hv62
            go_region_law (first | (refine step_call1 rfl 35 (.tmp 85) 38 rfl _ rfl _ (ent49 _ _) HLF.out ?_) | (refine step_own_at rfl (.tmp 84) (.tmp 87) 23 rfl 0 3 i3 (.int .i64 0) 1 8 Try.underlying23 hi3 z30 z31 z32 rfl (by decide) lv lefts.length (lefts.map (Value.int .i64)) (by simp [Act.eval, Act.put]) (by exact HLR.out.alloc _) ⟨w6.heap.size, 0, none⟩ 1 1 [.int .i64 rest.length] (by simp [Act.eval, Act.put]) rfl (by intro j u hj; simpa using cell_one_new w6 _ 3 j u hj) (by intro u hu; simp at hu; subst hu; rfl) (by unfold maxLen; omega) (by omega) (Nat.zero_le _) ?_; intro lv' w8 hown' hgrow hat; have hk8 := kept_app (w3 := w6) hgrow (by first | exact (Kept.refl _ w6).alloc _ | exact ((Kept.refl _ w6).alloc _).drew | exact ((Kept.refl _ w6).drew).alloc _); obtain ⟨k1, k2⟩ := HLS.out w8 hk8; have HR9 := hid_of (HR6.out.lefts hown' hk8 (hat_of hat (by simp))); obtain ⟨lao, lcap, rfl⟩ := ownsRow_shape hown'; clear hown' hgrow hat hk8))
            all_goals
              have HREL := hid_of (run_next HR9.out HTL.out HLL.out HRST.out)
              clear HLF HLS HLR HR6 e2 HR9
              generalize hw9 : World.setCell _ _ _ = w9 at *
              clear hw9 k1 k2
              go_wp2
              go_roundw
              case rel => exact ⟨k + 1, _, _, _, _, by omega, by go_num, HREL.out⟩
              case measure => simp [intOf]; omega
      · have hcall := hid_of (rbytes r g v xs rest _ 0 hv1' (by have h := hv2'; rw [show (ItV.enc ⟨4, xn, xbv, xs⟩ ++ rest) = Mth.form xs.length ++ (xs ++ rest) from List.append_assoc _ _ _] at h; exact h) hgr (by have := HRI.out.gl; simp; omega) (by omega))
        have htl3 : ∀ q, tv.ownBlock = some q → q < wr.heap.size := fun q hq => (World.ownsRow.lt HRI.out.row q hq).2
        have hll3 : ∀ q, lv.ownBlock = some q → q < wr.heap.size := fun q hq => (World.ownsRow.lt HRI.out.left q hq).2
        have HT3 := hid_of htl3
        have HL3 := hid_of hll3
        clear hv1' hv2' htl3 hll3
        go_wp2_with fail
        refine hcall.out.mono ?_
        rintro e w2 ⟨⟨b2v, rfl, ho2⟩, v2, h21, h22, h23⟩
        have hb2 := (h23.block wr.heap.size (by simp) (by omega)).trans HPX.out
        have p1 : w2.cell? ⟨wr.heap.size, 2, none⟩ = some (.slice none 0 0) := by rw [cell_block _ _ _ _ _ _ hb2]; rfl
        have pf := frozen_block _ _ 2 _ _ hb2
        have ho3 : w2.ownsRow (wr.heap.size + 1) 5 1 b2v xs.length (xs.map (Value.int .u8)) := by simpa using ho2
        obtain ⟨bao2, bc2, rfl⟩ := ownsRow_shape ho3
        have HRI3 : Hid (RI w (w2.setCell ⟨wr.heap.size, 2, none⟩ (.slice bao2 xs.length bc2)) s r g (.slice (some ⟨gw, 0, none⟩) N c) its tv lv told lefts rest) :=
          HRI.out.read ((h23.mono (fun _ _ e => .inl e)).setCell (.inr (.inr rfl)) _) ⟨v2, h21.kept (kept_set _ _ _ _) (by omega), h22.kept (kept_set _ _ _ _) (by have := HRI.out.gl; omega)⟩
        have HM : Hid (∃ y : ItV, (w2.setCell ⟨wr.heap.size, 2, none⟩ (.slice bao2 xs.length bc2)).heap[wr.heap.size]? = some (.cells #[.int .i64 y.k, .int .i64 y.n, y.bv] 33 (0, 0)) ∧ New w (w2.setCell ⟨wr.heap.size, 2, none⟩ (.slice bao2 xs.length bc2)) tv lv told (its.getD told.length ItV.default) y) := by
          rw [HGT.out]
          refine ⟨⟨4, 0, .slice bao2 xs.length bc2, xs⟩, by rw [set_block _ _ _ _ _ _ hb2]; rfl, ⟨rfl, fun h => absurd h (by simp), fun _ => rfl, isB_own ((kept_set _ _ _ _).ownsRow ho3 (fun q hq e => by have := (ho3.lt q hq).1; omega)), fun q hq => ?_, fun _ => own_zero ((kept_set _ _ _ _).ownsRow ho3 (fun q hq e => by have := (ho3.lt q hq).1; omega)), fun h => absurd h (by simp)⟩, fun i hi q hq e => by have h1 := ((HRI.out.all i hi).2.2.2.2.1 q hq).2.1; have h2 := (ho3.lt q e).1; omega⟩
          have hq1 := ho3.lt q hq
          refine ⟨by omega, Nat.lt_of_lt_of_le hq1.2 (kept_set w2 _ _ _).size, fun e => ?_, fun e => ?_⟩
          · have := HT3.out q e; omega
          · have := HL3.out q e; omega
        clear hcall h21 h22 h23 hb2 HRI HPX r0 r2 HGT c0 c1 c2 c3 ho2 ho3 HT3 HL3
        go_wp2_with fail
        generalize hw3 : w2.setCell ⟨wr.heap.size, 2, none⟩ (.slice bao2 xs.length bc2) = w3 at *
        clear hw3 p1 pf
        obtain ⟨⟨yk, yn, ybv, yxs⟩, hpb, hy⟩ := HM.out
        obtain ⟨yao, yc, hyb⟩ := hy.1.2.2.2.1.shape
        dsimp only at hyb hpb
        subst hyb
        have p0 : w3.cell? ⟨wr.heap.size, 0, none⟩ = some (.int .i64 yk) := by rw [cell_block _ _ _ _ _ _ hpb]; rfl
        have p1 : w3.cell? ⟨wr.heap.size, 1, none⟩ = some (.int .i64 yn) := by rw [cell_block _ _ _ _ _ _ hpb]; rfl
        have p2 : w3.cell? ⟨wr.heap.size, 2, none⟩ = some (.slice yao yxs.length yc) := by rw [cell_block _ _ _ _ _ _ hpb]; rfl
        have hpl : wr.heap.size < w3.heap.size := (Array.getElem?_eq_some_iff.1 hpb).1
        obtain ⟨_, d1, _, _⟩ := HRI3.out.sh.cells
        have hs3 := HRI3.out.sh.lt
        have HROW := hid_of HRI3.out.row
        have HTS : Hid (∀ w5 : World, Kept (fun q => tv.ownBlock = some q) w3 w5 → w5.cell? ⟨s, 1, none⟩ = some tv ∧ w5.frozen? ⟨s, 1, none⟩ = false) := fun w5 hk5 => by
          have h5 := HRI3.out.sh.kept hk5 (fun e => by have := (HRI3.out.ht s e).1; omega)
          exact ⟨h5.cells.2.1, h5.frozen 1⟩
        have HY := hid_of hy
        clear HM hpb hy
        go_cut [5] (fun _ wx => ∃ (tv' : Value), RI w wx s r g (.slice (some ⟨gw, 0, none⟩) N c) its tv' lv (told ++ [⟨yk, yn, .slice yao yxs.length yc, yxs⟩]) lefts rest)
        case first =>
          go_region_law (first | (refine step_own_at rfl (.tmp 74) (.tmp 76) 22 rfl 0 33 i27 (.agg #[.int .i64 0, .int .i64 0, .slice none 0 0]) 3 40 Try.underlying22 hi27 z270 z271 z272 rfl (by decide) tv told.length (told.flatMap ItV.cells) rfl (by exact HROW.out.alloc _) ⟨w3.heap.size, 0, none⟩ 1 1 [.int .i64 yk, .int .i64 yn, .slice yao yxs.length yc] rfl rfl (by intro j u hj; simpa using cell_three_new w3 _ _ _ 33 j u hj) (by intro u hu; simp at hu; rcases hu with rfl | rfl | rfl <;> rfl) (by unfold maxLen; omega) (by omega) (Nat.zero_le _) ?_; intro tv' w5 hown' hgrow hat; have hk5 := kept_app (w3 := w3) hgrow (by first | exact (Kept.refl _ w3).alloc _ | exact ((Kept.refl _ w3).alloc _).drew | exact ((Kept.refl _ w3).drew).alloc _); obtain ⟨k1, k2⟩ := HTS.out w5 hk5; have HR6 := hid_of (HRI3.out.told (y := ⟨yk, yn, .slice yao yxs.length yc, yxs⟩) hown' hk5 (hat_of hat (by simp)) HY.out); obtain ⟨tao, tcap, rfl⟩ := ownsRow_shape hown'; clear hown' hgrow hat hk5))
          all_goals (try go_wp2_with fail)
          all_goals go_meet
          all_goals exact ⟨_, HR6.out⟩
        case rest =>
          obtain ⟨tv', hr6⟩ := hcut
          have HR6 := hid_of hr6
          clear HROW HTS HY HRI3 d1 p0 p1 p2 hr6
          rename World => w6
          go_wp2_with fail
          obtain ⟨v6, hv61, hv62⟩ := HR6.out.rd
          have HLF := hid_of (rleft r g v6 rest w6.drew true 0 hv61 hv62)
          obtain ⟨_, _, e2, _⟩ := HR6.out.sh.cells
          have HLR := hid_of HR6.out.left
          have hs6 := HR6.out.sh.lt
          have HLS : Hid (∀ w8 : World, Kept (fun q => lv.ownBlock = some q) w6 w8 → w8.cell? ⟨s, 2, none⟩ = some lv ∧ w8.frozen? ⟨s, 2, none⟩ = false) := fun w8 hk8 => by
            have h8 := HR6.out.sh.kept hk8 (fun e => by have := HR6.out.hl s e; omega)
            exact ⟨h8.cells.2.2.1, h8.frozen 2⟩
          clear hv61 hv62
          go_region_law (first | (refine step_call1 rfl 35 (.tmp 85) 38 rfl _ rfl _ (ent49 _ _) HLF.out ?_) | (refine step_own_at rfl (.tmp 84) (.tmp 87) 23 rfl 0 3 i3 (.int .i64 0) 1 8 Try.underlying23 hi3 z30 z31 z32 rfl (by decide) lv lefts.length (lefts.map (Value.int .i64)) (by simp [Act.eval, Act.put]) (by exact HLR.out.alloc _) ⟨w6.heap.size, 0, none⟩ 1 1 [.int .i64 rest.length] (by simp [Act.eval, Act.put]) rfl (by intro j u hj; simpa using cell_one_new w6 _ 3 j u hj) (by intro u hu; simp at hu; subst hu; rfl) (by unfold maxLen; omega) (by omega) (Nat.zero_le _) ?_; intro lv' w8 hown' hgrow hat; have hk8 := kept_app (w3 := w6) hgrow (by first | exact (Kept.refl _ w6).alloc _ | exact ((Kept.refl _ w6).alloc _).drew | exact ((Kept.refl _ w6).drew).alloc _); obtain ⟨k1, k2⟩ := HLS.out w8 hk8; have HR9 := hid_of (HR6.out.lefts hown' hk8 (hat_of hat (by simp))); obtain ⟨lao, lcap, rfl⟩ := ownsRow_shape hown'; clear hown' hgrow hat hk8))
          all_goals
            have HREL := hid_of (run_next HR9.out HTL.out HLL.out HRST.out)
            clear HLF HLS HLR HR6 e2 HR9
            generalize hw9 : World.setCell _ _ _ = w9 at *
            clear hw9 k1 k2
            go_wp2
            go_roundw
            case rel => exact ⟨k + 1, _, _, _, _, by omega, by go_num, HREL.out⟩
            case measure => simp [intOf]; omega
      · have hcall := hid_of (rtext r g v xs rest _ 0 hv1' (by have h := hv2'; rw [show (ItV.enc ⟨5, xn, xbv, xs⟩ ++ rest) = Mth.form xs.length ++ (xs ++ rest) from List.append_assoc _ _ _] at h; exact h) hgr (by omega))
        have htl3 : ∀ q, tv.ownBlock = some q → q < wr.heap.size := fun q hq => (World.ownsRow.lt HRI.out.row q hq).2
        have hll3 : ∀ q, lv.ownBlock = some q → q < wr.heap.size := fun q hq => (World.ownsRow.lt HRI.out.left q hq).2
        have HT3 := hid_of htl3
        have HL3 := hid_of hll3
        clear hv1' hv2' htl3 hll3
        go_wp2_with fail
        refine hcall.out.mono ?_
        rintro e w2 ⟨rfl, v2, h21, h22, h23⟩
        obtain ⟨cp, wv, hcv, hkv, hbv, hszv⟩ := conv_back w2 xs g7
        have hs23 := h23.size
        rw [show (wr.alloc (.cells #[.int .i64 5, .int .i64 0, .slice none 0 0] 33)).heap.size = wr.heap.size + 1 from by simp] at hs23
        have hb2 := (hkv.block wr.heap.size (by omega) (fun f => f)).trans ((h23.block wr.heap.size (by simp) (by omega)).trans HPX.out)
        have p1 : wv.cell? ⟨wr.heap.size, 2, none⟩ = some (.slice none 0 0) := by rw [cell_block _ _ _ _ _ _ hb2]; rfl
        have pf := frozen_block _ _ 2 _ _ hb2
        have HRI3 : Hid (RI w (wv.setCell ⟨wr.heap.size, 2, none⟩ (.slice (some ⟨w2.heap.size, 0, none⟩) xs.length cp)) s r g (.slice (some ⟨gw, 0, none⟩) N c) its tv lv told lefts rest) :=
          HRI.out.read (((h23.mono (fun _ _ e => .inl e)).step hkv (fun _ _ f => f.elim)).setCell (.inr (.inr rfl)) _) ⟨v2, (h21.kept hkv (fun f => f)).kept (kept_set _ _ _ _) (by omega), (h22.kept hkv (fun f => f)).kept (kept_set _ _ _ _) (by have := HRI.out.gl; omega)⟩
        have HM : Hid (∃ y : ItV, (wv.setCell ⟨wr.heap.size, 2, none⟩ (.slice (some ⟨w2.heap.size, 0, none⟩) xs.length cp)).heap[wr.heap.size]? = some (.cells #[.int .i64 y.k, .int .i64 y.n, y.bv] 33 (0, 0)) ∧ New w (wv.setCell ⟨wr.heap.size, 2, none⟩ (.slice (some ⟨w2.heap.size, 0, none⟩) xs.length cp)) tv lv told (its.getD told.length ItV.default) y) := by
          rw [HGT.out]
          refine ⟨⟨5, 0, .slice (some ⟨w2.heap.size, 0, none⟩) xs.length cp, xs⟩, by rw [set_block _ _ _ _ _ _ hb2]; rfl, ⟨rfl, fun h => absurd h (by simp), fun _ => rfl, hbv.kept (kept_set _ _ _ _) (fun q hq e => by have := Option.some.inj hq; simp at this; omega), fun q hq => ?_, fun h => absurd rfl h, fun h => absurd h (by simp)⟩, fun i hi q hq e => by have h1 := ((HRI.out.all i hi).2.2.2.2.1 q hq).2.1; have h2 : w2.heap.size = q := Option.some.inj e; omega⟩
          have hq1 : w2.heap.size = q := Option.some.inj hq
          refine ⟨by omega, by have := (kept_set wv wr.heap.size 2 (.slice (some ⟨w2.heap.size, 0, none⟩) xs.length cp)).size; omega, fun e => ?_, fun e => ?_⟩
          · have := HT3.out q e; omega
          · have := HL3.out q e; omega
        clear hcall h21 h22 h23 hb2 HRI HPX r0 r2 HGT c0 c1 c2 c3 HT3 HL3 hkv hbv hszv hs23
        go_wp2_with fail
        generalize hw3 : wv.setCell ⟨wr.heap.size, 2, none⟩ (.slice (some ⟨w2.heap.size, 0, none⟩) xs.length cp) = w3 at *
        clear hw3 p1 pf hcv
        obtain ⟨⟨yk, yn, ybv, yxs⟩, hpb, hy⟩ := HM.out
        obtain ⟨yao, yc, hyb⟩ := hy.1.2.2.2.1.shape
        dsimp only at hyb hpb
        subst hyb
        have p0 : w3.cell? ⟨wr.heap.size, 0, none⟩ = some (.int .i64 yk) := by rw [cell_block _ _ _ _ _ _ hpb]; rfl
        have p1 : w3.cell? ⟨wr.heap.size, 1, none⟩ = some (.int .i64 yn) := by rw [cell_block _ _ _ _ _ _ hpb]; rfl
        have p2 : w3.cell? ⟨wr.heap.size, 2, none⟩ = some (.slice yao yxs.length yc) := by rw [cell_block _ _ _ _ _ _ hpb]; rfl
        have hpl : wr.heap.size < w3.heap.size := (Array.getElem?_eq_some_iff.1 hpb).1
        obtain ⟨_, d1, _, _⟩ := HRI3.out.sh.cells
        have hs3 := HRI3.out.sh.lt
        have HROW := hid_of HRI3.out.row
        have HTS : Hid (∀ w5 : World, Kept (fun q => tv.ownBlock = some q) w3 w5 → w5.cell? ⟨s, 1, none⟩ = some tv ∧ w5.frozen? ⟨s, 1, none⟩ = false) := fun w5 hk5 => by
          have h5 := HRI3.out.sh.kept hk5 (fun e => by have := (HRI3.out.ht s e).1; omega)
          exact ⟨h5.cells.2.1, h5.frozen 1⟩
        have HY := hid_of hy
        clear HM hpb hy
        go_cut [5] (fun _ wx => ∃ (tv' : Value), RI w wx s r g (.slice (some ⟨gw, 0, none⟩) N c) its tv' lv (told ++ [⟨yk, yn, .slice yao yxs.length yc, yxs⟩]) lefts rest)
        case first =>
          go_region_law (first | (refine step_own_at rfl (.tmp 74) (.tmp 76) 22 rfl 0 33 i27 (.agg #[.int .i64 0, .int .i64 0, .slice none 0 0]) 3 40 Try.underlying22 hi27 z270 z271 z272 rfl (by decide) tv told.length (told.flatMap ItV.cells) rfl (by exact HROW.out.alloc _) ⟨w3.heap.size, 0, none⟩ 1 1 [.int .i64 yk, .int .i64 yn, .slice yao yxs.length yc] rfl rfl (by intro j u hj; simpa using cell_three_new w3 _ _ _ 33 j u hj) (by intro u hu; simp at hu; rcases hu with rfl | rfl | rfl <;> rfl) (by unfold maxLen; omega) (by omega) (Nat.zero_le _) ?_; intro tv' w5 hown' hgrow hat; have hk5 := kept_app (w3 := w3) hgrow (by first | exact (Kept.refl _ w3).alloc _ | exact ((Kept.refl _ w3).alloc _).drew | exact ((Kept.refl _ w3).drew).alloc _); obtain ⟨k1, k2⟩ := HTS.out w5 hk5; have HR6 := hid_of (HRI3.out.told (y := ⟨yk, yn, .slice yao yxs.length yc, yxs⟩) hown' hk5 (hat_of hat (by simp)) HY.out); obtain ⟨tao, tcap, rfl⟩ := ownsRow_shape hown'; clear hown' hgrow hat hk5))
          all_goals (try go_wp2_with fail)
          all_goals go_meet
          all_goals exact ⟨_, HR6.out⟩
        case rest =>
          obtain ⟨tv', hr6⟩ := hcut
          have HR6 := hid_of hr6
          clear HROW HTS HY HRI3 d1 p0 p1 p2 hr6
          rename World => w6
          go_wp2_with fail
          obtain ⟨v6, hv61, hv62⟩ := HR6.out.rd
          have HLF := hid_of (rleft r g v6 rest w6.drew true 0 hv61 hv62)
          obtain ⟨_, _, e2, _⟩ := HR6.out.sh.cells
          have HLR := hid_of HR6.out.left
          have hs6 := HR6.out.sh.lt
          have HLS : Hid (∀ w8 : World, Kept (fun q => lv.ownBlock = some q) w6 w8 → w8.cell? ⟨s, 2, none⟩ = some lv ∧ w8.frozen? ⟨s, 2, none⟩ = false) := fun w8 hk8 => by
            have h8 := HR6.out.sh.kept hk8 (fun e => by have := HR6.out.hl s e; omega)
            exact ⟨h8.cells.2.2.1, h8.frozen 2⟩
          clear hv61 hv62
          go_region_law (first | (refine step_call1 rfl 35 (.tmp 85) 38 rfl _ rfl _ (ent49 _ _) HLF.out ?_) | (refine step_own_at rfl (.tmp 84) (.tmp 87) 23 rfl 0 3 i3 (.int .i64 0) 1 8 Try.underlying23 hi3 z30 z31 z32 rfl (by decide) lv lefts.length (lefts.map (Value.int .i64)) (by simp [Act.eval, Act.put]) (by exact HLR.out.alloc _) ⟨w6.heap.size, 0, none⟩ 1 1 [.int .i64 rest.length] (by simp [Act.eval, Act.put]) rfl (by intro j u hj; simpa using cell_one_new w6 _ 3 j u hj) (by intro u hu; simp at hu; subst hu; rfl) (by unfold maxLen; omega) (by omega) (Nat.zero_le _) ?_; intro lv' w8 hown' hgrow hat; have hk8 := kept_app (w3 := w6) hgrow (by first | exact (Kept.refl _ w6).alloc _ | exact ((Kept.refl _ w6).alloc _).drew | exact ((Kept.refl _ w6).drew).alloc _); obtain ⟨k1, k2⟩ := HLS.out w8 hk8; have HR9 := hid_of (HR6.out.lefts hown' hk8 (hat_of hat (by simp))); obtain ⟨lao, lcap, rfl⟩ := ownsRow_shape hown'; clear hown' hgrow hat hk8))
          all_goals
            have HREL := hid_of (run_next HR9.out HTL.out HLL.out HRST.out)
            clear HLF HLS HLR HR6 e2 HR9
            generalize hw9 : World.setCell _ _ _ = w9 at *
            clear hw9 k1 k2
            go_wp2
            go_roundw
            case rel => exact ⟨k + 1, _, _, _, _, by omega, by go_num, HREL.out⟩
            case measure => simp [intOf]; omega
      · have hcall0 := rraw r g xs.length v (xs ++ rest) _ 0 hv1' hv2' hgr (by have := HRI.out.gl; simp; omega) (by simp) (by omega)
        rw [List.take_left' rfl, List.drop_left' rfl] at hcall0
        have hgl6 : gw < wr.heap.size := World.block_lt_of_cell? _ _ r2
        have hcall := hid_of (hcall0)
        have htl3 : ∀ q, tv.ownBlock = some q → q < wr.heap.size := fun q hq => (World.ownsRow.lt HRI.out.row q hq).2
        have hll3 : ∀ q, lv.ownBlock = some q → q < wr.heap.size := fun q hq => (World.ownsRow.lt HRI.out.left q hq).2
        have HT3 := hid_of htl3
        have HL3 := hid_of hll3
        clear hv1' hv2' hcall0 htl3 hll3
        go_wp2_with fail
        refine hcall.out.mono ?_
        rintro e w2 ⟨⟨b2v, rfl, ho2⟩, v2, h21, h22, h23⟩
        have hb2 := (h23.block wr.heap.size (by simp) (by omega)).trans HPX.out
        have p1 : w2.cell? ⟨wr.heap.size, 2, none⟩ = some (.slice none 0 0) := by rw [cell_block _ _ _ _ _ _ hb2]; rfl
        have pf := frozen_block _ _ 2 _ _ hb2
        have ho3 : w2.ownsRow (wr.heap.size + 1) 5 1 b2v xs.length (xs.map (Value.int .u8)) := by simpa using ho2
        obtain ⟨bao2, bc2, rfl⟩ := ownsRow_shape ho3
        have HRI3 : Hid (RI w (w2.setCell ⟨wr.heap.size, 2, none⟩ (.slice bao2 xs.length bc2)) s r g (.slice (some ⟨gw, 0, none⟩) N c) its tv lv told lefts rest) :=
          HRI.out.read ((h23.mono (fun _ _ e => .inl e)).setCell (.inr (.inr rfl)) _) ⟨v2, h21.kept (kept_set _ _ _ _) (by omega), h22.kept (kept_set _ _ _ _) (by have := HRI.out.gl; omega)⟩
        have HM : Hid (∃ y : ItV, (w2.setCell ⟨wr.heap.size, 2, none⟩ (.slice bao2 xs.length bc2)).heap[wr.heap.size]? = some (.cells #[.int .i64 y.k, .int .i64 y.n, y.bv] 33 (0, 0)) ∧ New w (w2.setCell ⟨wr.heap.size, 2, none⟩ (.slice bao2 xs.length bc2)) tv lv told (its.getD told.length ItV.default) y) := by
          rw [HGT.out]
          refine ⟨⟨6, 0, .slice bao2 xs.length bc2, xs⟩, by rw [set_block _ _ _ _ _ _ hb2]; rfl, ⟨rfl, fun h => absurd h (by simp), fun _ => rfl, isB_own ((kept_set _ _ _ _).ownsRow ho3 (fun q hq e => by have := (ho3.lt q hq).1; omega)), fun q hq => ?_, fun _ => own_zero ((kept_set _ _ _ _).ownsRow ho3 (fun q hq e => by have := (ho3.lt q hq).1; omega)), fun h => absurd h (by simp)⟩, fun i hi q hq e => by have h1 := ((HRI.out.all i hi).2.2.2.2.1 q hq).2.1; have h2 := (ho3.lt q e).1; omega⟩
          have hq1 := ho3.lt q hq
          refine ⟨by omega, Nat.lt_of_lt_of_le hq1.2 (kept_set w2 _ _ _).size, fun e => ?_, fun e => ?_⟩
          · have := HT3.out q e; omega
          · have := HL3.out q e; omega
        clear hcall h21 h22 h23 hb2 HRI HPX r0 r2 HGT c0 c1 c2 c3 ho2 ho3 HT3 HL3
        go_wp2_with fail
        generalize hw3 : w2.setCell ⟨wr.heap.size, 2, none⟩ (.slice bao2 xs.length bc2) = w3 at *
        clear hw3 p1 pf
        obtain ⟨⟨yk, yn, ybv, yxs⟩, hpb, hy⟩ := HM.out
        obtain ⟨yao, yc, hyb⟩ := hy.1.2.2.2.1.shape
        dsimp only at hyb hpb
        subst hyb
        have p0 : w3.cell? ⟨wr.heap.size, 0, none⟩ = some (.int .i64 yk) := by rw [cell_block _ _ _ _ _ _ hpb]; rfl
        have p1 : w3.cell? ⟨wr.heap.size, 1, none⟩ = some (.int .i64 yn) := by rw [cell_block _ _ _ _ _ _ hpb]; rfl
        have p2 : w3.cell? ⟨wr.heap.size, 2, none⟩ = some (.slice yao yxs.length yc) := by rw [cell_block _ _ _ _ _ _ hpb]; rfl
        have hpl : wr.heap.size < w3.heap.size := (Array.getElem?_eq_some_iff.1 hpb).1
        obtain ⟨_, d1, _, _⟩ := HRI3.out.sh.cells
        have hs3 := HRI3.out.sh.lt
        have HROW := hid_of HRI3.out.row
        have HTS : Hid (∀ w5 : World, Kept (fun q => tv.ownBlock = some q) w3 w5 → w5.cell? ⟨s, 1, none⟩ = some tv ∧ w5.frozen? ⟨s, 1, none⟩ = false) := fun w5 hk5 => by
          have h5 := HRI3.out.sh.kept hk5 (fun e => by have := (HRI3.out.ht s e).1; omega)
          exact ⟨h5.cells.2.1, h5.frozen 1⟩
        have HY := hid_of hy
        clear HM hpb hy
        go_cut [5] (fun _ wx => ∃ (tv' : Value), RI w wx s r g (.slice (some ⟨gw, 0, none⟩) N c) its tv' lv (told ++ [⟨yk, yn, .slice yao yxs.length yc, yxs⟩]) lefts rest)
        case first =>
          go_region_law (first | (refine step_own_at rfl (.tmp 74) (.tmp 76) 22 rfl 0 33 i27 (.agg #[.int .i64 0, .int .i64 0, .slice none 0 0]) 3 40 Try.underlying22 hi27 z270 z271 z272 rfl (by decide) tv told.length (told.flatMap ItV.cells) rfl (by exact HROW.out.alloc _) ⟨w3.heap.size, 0, none⟩ 1 1 [.int .i64 yk, .int .i64 yn, .slice yao yxs.length yc] rfl rfl (by intro j u hj; simpa using cell_three_new w3 _ _ _ 33 j u hj) (by intro u hu; simp at hu; rcases hu with rfl | rfl | rfl <;> rfl) (by unfold maxLen; omega) (by omega) (Nat.zero_le _) ?_; intro tv' w5 hown' hgrow hat; have hk5 := kept_app (w3 := w3) hgrow (by first | exact (Kept.refl _ w3).alloc _ | exact ((Kept.refl _ w3).alloc _).drew | exact ((Kept.refl _ w3).drew).alloc _); obtain ⟨k1, k2⟩ := HTS.out w5 hk5; have HR6 := hid_of (HRI3.out.told (y := ⟨yk, yn, .slice yao yxs.length yc, yxs⟩) hown' hk5 (hat_of hat (by simp)) HY.out); obtain ⟨tao, tcap, rfl⟩ := ownsRow_shape hown'; clear hown' hgrow hat hk5))
          all_goals (try go_wp2_with fail)
          all_goals go_meet
          all_goals exact ⟨_, HR6.out⟩
        case rest =>
          obtain ⟨tv', hr6⟩ := hcut
          have HR6 := hid_of hr6
          clear HROW HTS HY HRI3 d1 p0 p1 p2 hr6
          rename World => w6
          go_wp2_with fail
          obtain ⟨v6, hv61, hv62⟩ := HR6.out.rd
          have HLF := hid_of (rleft r g v6 rest w6.drew true 0 hv61 hv62)
          obtain ⟨_, _, e2, _⟩ := HR6.out.sh.cells
          have HLR := hid_of HR6.out.left
          have hs6 := HR6.out.sh.lt
          have HLS : Hid (∀ w8 : World, Kept (fun q => lv.ownBlock = some q) w6 w8 → w8.cell? ⟨s, 2, none⟩ = some lv ∧ w8.frozen? ⟨s, 2, none⟩ = false) := fun w8 hk8 => by
            have h8 := HR6.out.sh.kept hk8 (fun e => by have := HR6.out.hl s e; omega)
            exact ⟨h8.cells.2.2.1, h8.frozen 2⟩
          clear hv61 hv62
          go_region_law (first | (refine step_call1 rfl 35 (.tmp 85) 38 rfl _ rfl _ (ent49 _ _) HLF.out ?_) | (refine step_own_at rfl (.tmp 84) (.tmp 87) 23 rfl 0 3 i3 (.int .i64 0) 1 8 Try.underlying23 hi3 z30 z31 z32 rfl (by decide) lv lefts.length (lefts.map (Value.int .i64)) (by simp [Act.eval, Act.put]) (by exact HLR.out.alloc _) ⟨w6.heap.size, 0, none⟩ 1 1 [.int .i64 rest.length] (by simp [Act.eval, Act.put]) rfl (by intro j u hj; simpa using cell_one_new w6 _ 3 j u hj) (by intro u hu; simp at hu; subst hu; rfl) (by unfold maxLen; omega) (by omega) (Nat.zero_le _) ?_; intro lv' w8 hown' hgrow hat; have hk8 := kept_app (w3 := w6) hgrow (by first | exact (Kept.refl _ w6).alloc _ | exact ((Kept.refl _ w6).alloc _).drew | exact ((Kept.refl _ w6).drew).alloc _); obtain ⟨k1, k2⟩ := HLS.out w8 hk8; have HR9 := hid_of (HR6.out.lefts hown' hk8 (hat_of hat (by simp))); obtain ⟨lao, lcap, rfl⟩ := ownsRow_shape hown'; clear hown' hgrow hat hk8))
          all_goals
            have HREL := hid_of (run_next HR9.out HTL.out HLL.out HRST.out)
            clear HLF HLS HLR HR6 e2 HR9
            generalize hw9 : World.setCell _ _ _ = w9 at *
            clear hw9 k1 k2
            go_wp2
            go_roundw
            case rel => exact ⟨k + 1, _, _, _, _, by omega, by go_num, HREL.out⟩
            case measure => simp [intOf]; omega
    · have hkN : k = N := by omega
      have HK := hid_of hkN
      have hnl : ¬ ((k : Int) < (N : Int)) := by omega
      clear hlt HIT HBL HI0 HG hkN htl hll hlast hri
      go_wp2
      go_end0
      refine ⟨rfl, tv, lv, told, lefts, ?_⟩
      have := HINV.out
      rw [HK.out] at this
      exact this
end Go.Proofs.Ytffabihenhejfab
