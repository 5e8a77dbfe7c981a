/-
  The reference's side of a script: one call of a Reader.
-/
import Derived.Test.YtffabihenhejfaaRpa
import Derived.Test.YtffabihenhejfaaRfc
import Derived.Deep.RegionLaw
import Derived.Deep.RegionHeld3
import Derived.Deep.DeepCutAuto
import Derived.Deep.CutBlock
namespace Go.Proofs.Ytffabihenhejfaa
open Go.RowKit Go.Deep
set_option linter.unusedVariables false
set_option linter.unusedSimpArgs false

theorem ownsRow_atP {w : World} {v : Value} {l : List Nat} (h : w.ownsRow 0 88 1 v l.length (l.map ptrV)) {g : Nat} (hg : v.ownBlock = some g) (i : Nat) (hi : i < l.length) : w.cell? ⟨g, i, none⟩ = some (ptrV (l.getD i 0)) := by
  have := World.ownsRow.cells h hg i (ptrV (l.getD i 0)) (by simp [List.getElem?_map, List.getElem?_eq_getElem hi, List.getD])
  rw [Addr.add_lit, Nat.zero_add] at this
  exact this

set_option maxRecDepth 100000 in
set_option maxHeartbeats 4000000 in
theorem pcall_any (W w : World) (κ : Nat → Nat) (sb : Nat) (callsV : Value) (rb : List Nat) (rV tV eV : Value) (told : List ItV) (s : PS) (ck cn co : Int) (cao : Option Addr) (cl cc : Nat) (cxs : List Int)
    (hrep : RepP w κ sb callsV rb rV tV eV told s) (hlive : LiveP W w rb s.rs) (hbase : Kept (fun _ => False) W w) (hD : 0 < rb.length) (hD20 : rb.length ≤ 20) (hT : told.length ≤ 1000) (hn0 : -9223372036854775808 ≤ cn) (hn1 : cn ≤ 9223372036854775807) (ho0 : -9223372036854775808 ≤ co) (ho1 : co ≤ 9223372036854775807) :
    Calls Try.prog 39 #[.pointer (some ⟨sb, 0, none⟩), .agg #[.int .i64 ck, .int .i64 cn, .int .i64 co, .slice cao cl cc], .int .i64 (rb.length : Int)] w (CallPostP W w κ sb callsV rb rV eV s ⟨ck, cn, co, .slice cao cl cc, cxs⟩) := by
  obtain ⟨i54, hi54, z540, z541, z542⟩ := info_parts Try.info54
  have hlv := hlive
  obtain ⟨l1, l3⟩ := hlive
  have hmr := Int.emod_nonneg co (show ((rb.length : Nat) : Int) ≠ 0 by omega)
  have hmr2 := Int.emod_lt_of_pos co (show (0 : Int) < ((rb.length : Nat) : Int) by omega)
  obtain ⟨m, hm⟩ := Int.eq_ofNat_of_zero_le hmr
  have hround := fun w' => round_any co (rb.length : Int) w' ho0 ho1 (by omega) (by omega)
  rw [hm] at hround hmr2
  have hwj : whichR co rb.length = rb.length - 1 - m := by unfold whichR; rw [hm]; rfl
  obtain ⟨j, hj⟩ : ∃ j, j = rb.length - 1 - m := ⟨_, rfl⟩
  have hjD : j < rb.length := by omega
  obtain ⟨v, xs, p, hv1, hsrc, hpx, hrest⟩ := l3 j hjD
  obtain ⟨gR, rc, hrV⟩ : ∃ gR rc, rV = .slice (some ⟨gR, 0, none⟩) rb.length rc := by
    rcases World.ownsRow.mk' hrep.rrow with ⟨_, h0⟩ | ⟨g, cap, e⟩
    · omega
    · exact ⟨g, cap, e⟩
  have hcR := ownsRow_atP hrep.rrow (g := gR) (by rw [hrV]; rfl) j hjD
  have hrjm : rb.getD j 0 ∈ rb := mem_getD hjD
  have hk6 := (hrep.c6 _ hrjm).1
  have hrl := (hrep.c6 _ hrjm).2
  obtain ⟨s0, s1, s2, s3, s4, s5⟩ := hrep.cells
  rw [hrV] at s2
  obtain ⟨D, hDD⟩ : ∃ D, D = rb.length := ⟨_, rfl⟩
  obtain ⟨rj, hrj⟩ : ∃ rj, rj = rb.getD j 0 := ⟨_, rfl⟩
  rw [← hrj] at hv1 hcR hrl hk6
  have hisw := hsrc.1.kept hbase (fun _ _ f => f)
  obtain ⟨vao, vc, hvv⟩ := hsrc.1.shape
  have hbl : xs.length ≤ 140737488351232 := hsrc.2.1.2
  have HBO := hid_of hsrc.2.1
  have HSRC := hid_of hsrc
  have HREP := hid_of hrep
  have HLV := hid_of hlv
  have HHR := hid_of hround
  have HJ : Hid (whichR co rb.length = j ∧ j < rb.length ∧ s.rs.length = rb.length ∧ xs.drop p = s.rs.getD j [] ∧ rj = rb.getD j 0 ∧ rb.getD j 0 ∈ rb) := ⟨by rw [hwj, hj], hjD, l1, hrest.symm, hrj, hrjm⟩
  have HV1 := hid_of hv1
  have HV2 := hid_of hisw
  have HVV := hid_of hvv
  have hT4 : told.length ≤ 1000 := hT
  rw [← hDD] at hjD hmr2 hD hD20 s2 HHR hj ⊢
  have HDD := hid_of hDD
  clear hDD l1
  have hjI : (D : Int) - 1 - (m : Int) = (j : Int) := by omega
  have hjI2 : (j : Int) < (D : Int) := by omega
  have hsl := hrep.lt
  have hgRl : gR < w.heap.size := World.block_lt_of_cell? _ _ hcR
  have hcb := heap_alloc_new w (.cells #[.int .i64 ck, .int .i64 cn, .int .i64 co, .slice cao cl cc] 85)
  have hkB : Kept (fun _ => False) w (w.alloc (.cells #[.int .i64 ck, .int .i64 cn, .int .i64 co, .slice cao cl cc] 85)) := (Kept.refl _ _).alloc _
  have b0 : (w.alloc (.cells #[.int .i64 ck, .int .i64 cn, .int .i64 co, .slice cao cl cc] 85)).cell? ⟨w.heap.size, 0, none⟩ = some (.int .i64 ck) := by rw [cell_block _ _ _ _ _ _ hcb]; rfl
  have b1 : (w.alloc (.cells #[.int .i64 ck, .int .i64 cn, .int .i64 co, .slice cao cl cc] 85)).cell? ⟨w.heap.size, 1, none⟩ = some (.int .i64 cn) := by rw [cell_block _ _ _ _ _ _ hcb]; rfl
  have b2 : (w.alloc (.cells #[.int .i64 ck, .int .i64 cn, .int .i64 co, .slice cao cl cc] 85)).cell? ⟨w.heap.size, 2, none⟩ = some (.int .i64 co) := by rw [cell_block _ _ _ _ _ _ hcb]; rfl
  have t2 := hkB.cell s2 (fun f => f)
  have tR : (w.alloc (.cells #[.int .i64 ck, .int .i64 cn, .int .i64 co, .slice cao cl cc] 85)).cell? ⟨gR, j, none⟩ = some (.pointer (some ⟨rj, 0, none⟩)) := hkB.cell hcR (fun f => f)
  clear hrep hlv l3 hround hv1 hsrc hisw hvv hrest hrV s0 s1 s2 s3 s4 s5 hcR hm hwj hj hrj hrjm hcb hbase
  go_enter Try.func39, Try.ntmps39
  go_wp2_with fail
  have hw9 : IntKind.i64.wrap ((D : Int) - 1) = (D : Int) - 1 := by simp [IntKind.wrap, IntKind.bits, IntKind.signed]; omega
  have hw8 : IntKind.i64.wrap (j : Int) = (j : Int) := by simp [IntKind.wrap, IntKind.bits, IntKind.signed]; omega
  go_region_held3 (fun w' => w'.cell? ⟨sb, 2, none⟩ = some (.slice (some ⟨gR, 0, none⟩) D rc) ∧ w'.cell? ⟨gR, j, none⟩ = some (.pointer (some ⟨rj, 0, none⟩)) ∧ w'.cell? ⟨w.heap.size, 2, none⟩ = some (.int .i64 co)) (first | exact ⟨t2, tR, b2⟩ | assumption | go_keep) (first | (go_at_call 25; refine (HHR.out _).mono ?_; rintro e w5 ⟨rfl, rfl⟩))
  have hkA : Kept (fun _ => False) w ((w.alloc (.cells #[.int .i64 ck, .int .i64 cn, .int .i64 co, .slice cao cl cc] 85)).alloc (.cells #[.int .i64 ck, .int .i64 0, .slice none 0 0] 54)).drew := (((Kept.refl _ _).alloc _).alloc _).drew
  have hszA : ((w.alloc (.cells #[.int .i64 ck, .int .i64 cn, .int .i64 co, .slice cao cl cc] 85)).alloc (.cells #[.int .i64 ck, .int .i64 0, .slice none 0 0] 54)).drew.heap.size = w.heap.size + 1 + 1 := by show (World.heap (World.alloc _ _)).size = _; simp
  have hpx : ((w.alloc (.cells #[.int .i64 ck, .int .i64 cn, .int .i64 co, .slice cao cl cc] 85)).alloc (.cells #[.int .i64 ck, .int .i64 0, .slice none 0 0] 54)).drew.heap[w.heap.size + 1]? = some (.cells #[.int .i64 ck, .int .i64 0, .slice none 0 0] 54 (0, 0)) := by
    have := heap_alloc_new (w.alloc (.cells #[.int .i64 ck, .int .i64 cn, .int .i64 co, .slice cao cl cc] 85)) (.cells #[.int .i64 ck, .int .i64 0, .slice none 0 0] 54)
    rw [show (w.alloc (.cells #[.int .i64 ck, .int .i64 cn, .int .i64 co, .slice cao cl cc] 85)).heap.size = w.heap.size + 1 from by simp] at this
    exact this
  have a0 : ((w.alloc (.cells #[.int .i64 ck, .int .i64 cn, .int .i64 co, .slice cao cl cc] 85)).alloc (.cells #[.int .i64 ck, .int .i64 0, .slice none 0 0] 54)).drew.cell? ⟨w.heap.size, 0, none⟩ = some (.int .i64 ck) := (((Kept.refl (fun _ => False) _).alloc _).drew).cell b0 (fun f => f)
  have a1 : ((w.alloc (.cells #[.int .i64 ck, .int .i64 cn, .int .i64 co, .slice cao cl cc] 85)).alloc (.cells #[.int .i64 ck, .int .i64 0, .slice none 0 0] 54)).drew.cell? ⟨w.heap.size, 1, none⟩ = some (.int .i64 cn) := (((Kept.refl (fun _ => False) _).alloc _).drew).cell b1 (fun f => f)
  have HV1A := hid_of (HV1.out.kept hkA (fun f => f))
  have HV2A := hid_of (HV2.out.kept hkA (fun _ _ f => f))
  have HPX := hid_of hpx
  have HKA := hid_of hkA
  clear b0 b1 b2 t2 tR hpx hkA HV1 HV2 hkB
  go_upto_block 0 with fail
  generalize hwA : ((w.alloc (.cells #[.int .i64 ck, .int .i64 cn, .int .i64 co, .slice cao cl cc] 85)).alloc (.cells #[.int .i64 ck, .int .i64 0, .slice none 0 0] 54)).drew = wA at *
  go_cut [6, 7] (fun rv xv wx => rv = .pointer (some ⟨rj, 0, none⟩) ∧ xv = .pointer (some ⟨w.heap.size + 1, 0, none⟩) ∧ (∃ (y : ItV) (q : Nat) (f : Int), wx.heap[w.heap.size + 1]? = some (.cells #[.int .i64 y.k, .int .i64 y.n, y.bv] 54 (0, 0)) ∧ (y.k = ck ∧ (1 ≤ (ck : Int) ∧ (ck : Int) ≤ 9)) ∧ Kept (fun q => q = rj) w wx ∧ RR wx rj v q f ∧ IsB wx y.bv y.xs ∧ ((f = 0 ∧ q ≤ xs.length ∧ oneD ck cn (xs.drop p) = .ok ((y.n, y.xs), xs.drop q) ∧ ∀ b, y.bv.ownBlock = some b → w.heap.size ≤ b ∧ b < wx.heap.size) ∨ (oneD ck cn (xs.drop p) = .error f ∧ f ≠ 0))))
  case first =>
    by_cases hck : 1 ≤ ck ∧ ck ≤ 9
    · have hkk : ck = 1 ∨ ck = 2 ∨ ck = 3 ∨ ck = 4 ∨ ck = 5 ∨ ck = 6 ∨ ck = 7 ∨ ck = 8 ∨ ck = 9 := by omega
      clear hck
      rcases hkk with rfl | rfl | rfl | rfl | rfl | rfl | rfl | rfl | rfl
      · skip
        have hcall := hid_of (read_ref1 rj v xs p cn wA HV1A.out HV2A.out HBO.out hpx)
        go_wp2_with fail
        refine hcall.out.mono ?_
        rintro e w2 (⟨⟨gn, gx⟩, q, bv, h1, h2, rfl, h4, h5, h6, h7⟩ | ⟨f, q, h1, rfl, h6, h7⟩)
        · obtain ⟨bao, bc, hbv⟩ := h4.shape
          dsimp only at hbv h1 h4
          subst hbv
          obtain ⟨f, hf⟩ : ∃ f : Int, f = 0 := ⟨0, rfl⟩
          rw [← hf] at h6
          have hsz2 := h7.size
          have hl2 : w.heap.size + 1 < w2.heap.size := by omega
          have hb2 := (h7.block (w.heap.size + 1) (by rw [hszA]; omega) (by omega)).trans HPX.out
          have hk12 : Kept (fun _ => False) w2 (w2.alloc (.cells #[.int .i64 1, .int .i64 gn, .slice bao gx.length bc] 27)) := (Kept.refl _ _).alloc _
          have hx3 := heap_alloc_new w2 (.cells #[.int .i64 1, .int .i64 gn, .slice bao gx.length bc] 27)
          have hszC : (w2.alloc (.cells #[.int .i64 1, .int .i64 gn, .slice bao gx.length bc] 27)).heap.size = w2.heap.size + 1 := by simp
          go_upto_region 11 with fail
          generalize w2.alloc (.cells #[.int .i64 1, .int .i64 gn, .slice bao gx.length bc] 27) = wC at *
          have hb3 := (hk12.block (w.heap.size + 1) hl2 (fun f => f)).trans hb2
          have p1 : wC.cell? ⟨w.heap.size + 1, 1, none⟩ = some (.int .i64 0) := by rw [cell_block _ _ _ _ _ _ hb3]; rfl
          have pf := frozen_block _ _ 1 _ _ hb3
          have x1 : wC.cell? ⟨w2.heap.size, 1, none⟩ = some (.int .i64 gn) := by rw [cell_block _ _ _ _ _ _ hx3]; rfl
          have HB3 := hid_of hb3
          have HX3 := hid_of hx3
          have HK12 := hid_of hk12
          have HH6 := hid_of h6
          have HH7 := hid_of h7
          clear hcall h6 h7 hb2 hb3 hk12 hx3 HPX
          go_upto_region 12 with fail
          have hkD := kept_set wC (w.heap.size + 1) 1 (.int .i64 gn)
          have hb4 : (wC.setCell ⟨w.heap.size + 1, 1, none⟩ (.int .i64 gn)).heap[w.heap.size + 1]? = some (.cells #[.int .i64 1, .int .i64 gn, .slice none 0 0] 54 (0, 0)) := by rw [set_block _ _ _ _ _ _ HB3.out]; rfl
          have hx4 := (hkD.block w2.heap.size (by omega) (by omega)).trans HX3.out
          have hszD : (wC.setCell ⟨w.heap.size + 1, 1, none⟩ (.int .i64 gn)).heap.size = w2.heap.size + 1 := by simp [hszC]
          clear p1 pf x1
          generalize wC.setCell ⟨w.heap.size + 1, 1, none⟩ (.int .i64 gn) = wD at *
          have p2 : wD.cell? ⟨w.heap.size + 1, 2, none⟩ = some (.slice none 0 0) := by rw [cell_block _ _ _ _ _ _ hb4]; rfl
          have pf2 := frozen_block _ _ 2 _ _ hb4
          have x2 : wD.cell? ⟨w2.heap.size, 2, none⟩ = some (.slice bao gx.length bc) := by rw [cell_block _ _ _ _ _ _ hx4]; rfl
          have hk23 : Kept (fun q => q = w.heap.size + 1) w2 (wD.setCell ⟨w.heap.size + 1, 2, none⟩ (.slice bao gx.length bc)) := ((HK12.out.mono (fun _ _ f => f.elim)).trans hkD).trans (kept_set _ _ _ _)
          have hszW : (wD.setCell ⟨w.heap.size + 1, 2, none⟩ (.slice bao gx.length bc)).heap.size = w2.heap.size + 1 := by simp [hszD]
          have HM : Hid (∃ (y : ItV) (q : Nat) (f : Int), (wD.setCell ⟨w.heap.size + 1, 2, none⟩ (.slice bao gx.length bc)).heap[w.heap.size + 1]? = some (.cells #[.int .i64 y.k, .int .i64 y.n, y.bv] 54 (0, 0)) ∧ (y.k = 1 ∧ (1 ≤ (1 : Int) ∧ (1 : Int) ≤ 9)) ∧ Kept (fun q => q = rj) w (wD.setCell ⟨w.heap.size + 1, 2, none⟩ (.slice bao gx.length bc)) ∧ RR (wD.setCell ⟨w.heap.size + 1, 2, none⟩ (.slice bao gx.length bc)) rj v q f ∧ IsB (wD.setCell ⟨w.heap.size + 1, 2, none⟩ (.slice bao gx.length bc)) y.bv y.xs ∧ ((f = 0 ∧ q ≤ xs.length ∧ oneD 1 cn (xs.drop p) = .ok ((y.n, y.xs), xs.drop q) ∧ ∀ b, y.bv.ownBlock = some b → w.heap.size ≤ b ∧ b < (wD.setCell ⟨w.heap.size + 1, 2, none⟩ (.slice bao gx.length bc)).heap.size) ∨ (oneD 1 cn (xs.drop p) = .error f ∧ f ≠ 0))) := ⟨⟨1, gn, .slice bao gx.length bc, gx⟩, q, f, by rw [set_block _ _ _ _ _ _ hb4]; rfl, ⟨rfl, by decide⟩, ((HKA.out.mono (fun _ _ f => f.elim)).trans HH7.out).step hk23 (fun q hq e => by omega), HH6.out.kept hk23 (by omega), h4.kept hk23 (fun b hb e => by have := (h5 b hb).1; omega), .inl ⟨hf, h2, h1, fun b hb => by rw [hszW]; have := h5 b hb; omega⟩⟩
          clear hb4 hx4 hk23 hkD HB3 HX3 HK12 HH6 HH7 hszW
          go_wp2_with fail
          go_meet
          exact ⟨rfl, rfl, HM.out⟩
        · have hf0 : f ≠ 0 := oneD_fault (fun x hx => HBO.out.1 x (List.mem_of_mem_drop hx)) h1
          have hsz2 := h7.size
          have hl2 : w.heap.size + 1 < w2.heap.size := by omega
          have hb2 := (h7.block (w.heap.size + 1) (by rw [hszA]; omega) (by omega)).trans HPX.out
          have hk12 : Kept (fun _ => False) w2 (w2.alloc (.cells #[.int .i64 1, .int .i64 0, .slice none 0 0] 27)) := (Kept.refl _ _).alloc _
          have hx3 := heap_alloc_new w2 (.cells #[.int .i64 1, .int .i64 0, .slice none 0 0] 27)
          have hszC : (w2.alloc (.cells #[.int .i64 1, .int .i64 0, .slice none 0 0] 27)).heap.size = w2.heap.size + 1 := by simp
          go_upto_region 11 with fail
          generalize w2.alloc (.cells #[.int .i64 1, .int .i64 0, .slice none 0 0] 27) = wC at *
          have hb3 := (hk12.block (w.heap.size + 1) hl2 (fun f => f)).trans hb2
          have p1 : wC.cell? ⟨w.heap.size + 1, 1, none⟩ = some (.int .i64 0) := by rw [cell_block _ _ _ _ _ _ hb3]; rfl
          have pf := frozen_block _ _ 1 _ _ hb3
          have x1 : wC.cell? ⟨w2.heap.size, 1, none⟩ = some (.int .i64 0) := by rw [cell_block _ _ _ _ _ _ hx3]; rfl
          have HB3 := hid_of hb3
          have HX3 := hid_of hx3
          have HK12 := hid_of hk12
          have HH6 := hid_of h6
          have HH7 := hid_of h7
          clear hcall h6 h7 hb2 hb3 hk12 hx3 HPX
          go_upto_region 12 with fail
          have hkD := kept_set wC (w.heap.size + 1) 1 (.int .i64 0)
          have hb4 : (wC.setCell ⟨w.heap.size + 1, 1, none⟩ (.int .i64 0)).heap[w.heap.size + 1]? = some (.cells #[.int .i64 1, .int .i64 0, .slice none 0 0] 54 (0, 0)) := by rw [set_block _ _ _ _ _ _ HB3.out]; rfl
          have hx4 := (hkD.block w2.heap.size (by omega) (by omega)).trans HX3.out
          have hszD : (wC.setCell ⟨w.heap.size + 1, 1, none⟩ (.int .i64 0)).heap.size = w2.heap.size + 1 := by simp [hszC]
          clear p1 pf x1
          generalize wC.setCell ⟨w.heap.size + 1, 1, none⟩ (.int .i64 0) = wD at *
          have p2 : wD.cell? ⟨w.heap.size + 1, 2, none⟩ = some (.slice none 0 0) := by rw [cell_block _ _ _ _ _ _ hb4]; rfl
          have pf2 := frozen_block _ _ 2 _ _ hb4
          have x2 : wD.cell? ⟨w2.heap.size, 2, none⟩ = some (.slice none 0 0) := by rw [cell_block _ _ _ _ _ _ hx4]; rfl
          have hk23 : Kept (fun q => q = w.heap.size + 1) w2 (wD.setCell ⟨w.heap.size + 1, 2, none⟩ (.slice none 0 0)) := ((HK12.out.mono (fun _ _ f => f.elim)).trans hkD).trans (kept_set _ _ _ _)
          have hszW : (wD.setCell ⟨w.heap.size + 1, 2, none⟩ (.slice none 0 0)).heap.size = w2.heap.size + 1 := by simp [hszD]
          have HM : Hid (∃ (y : ItV) (q : Nat) (f : Int), (wD.setCell ⟨w.heap.size + 1, 2, none⟩ (.slice none 0 0)).heap[w.heap.size + 1]? = some (.cells #[.int .i64 y.k, .int .i64 y.n, y.bv] 54 (0, 0)) ∧ (y.k = 1 ∧ (1 ≤ (1 : Int) ∧ (1 : Int) ≤ 9)) ∧ Kept (fun q => q = rj) w (wD.setCell ⟨w.heap.size + 1, 2, none⟩ (.slice none 0 0)) ∧ RR (wD.setCell ⟨w.heap.size + 1, 2, none⟩ (.slice none 0 0)) rj v q f ∧ IsB (wD.setCell ⟨w.heap.size + 1, 2, none⟩ (.slice none 0 0)) y.bv y.xs ∧ ((f = 0 ∧ q ≤ xs.length ∧ oneD 1 cn (xs.drop p) = .ok ((y.n, y.xs), xs.drop q) ∧ ∀ b, y.bv.ownBlock = some b → w.heap.size ≤ b ∧ b < (wD.setCell ⟨w.heap.size + 1, 2, none⟩ (.slice none 0 0)).heap.size) ∨ (oneD 1 cn (xs.drop p) = .error f ∧ f ≠ 0))) := ⟨⟨1, 0, .slice none 0 0, []⟩, q, f, by rw [set_block _ _ _ _ _ _ hb4]; rfl, ⟨rfl, by decide⟩, ((HKA.out.mono (fun _ _ f => f.elim)).trans HH7.out).step hk23 (fun q hq e => by omega), HH6.out.kept hk23 (by omega), .inl ⟨rfl, _, _, rfl⟩, .inr ⟨h1, hf0⟩⟩
          clear hb4 hx4 hk23 hkD HB3 HX3 HK12 HH6 HH7 hszW
          go_wp2_with fail
          go_meet
          exact ⟨rfl, rfl, HM.out⟩
      · skip
        have hcall := hid_of (read_ref2 rj v xs p cn wA HV1A.out HV2A.out HBO.out hpx)
        go_wp2_with fail
        refine hcall.out.mono ?_
        rintro e w2 (⟨⟨gn, gx⟩, q, bv, h1, h2, rfl, h4, h5, h6, h7⟩ | ⟨f, q, h1, rfl, h6, h7⟩)
        · obtain ⟨bao, bc, hbv⟩ := h4.shape
          dsimp only at hbv h1 h4
          subst hbv
          obtain ⟨f, hf⟩ : ∃ f : Int, f = 0 := ⟨0, rfl⟩
          rw [← hf] at h6
          have hsz2 := h7.size
          have hl2 : w.heap.size + 1 < w2.heap.size := by omega
          have hb2 := (h7.block (w.heap.size + 1) (by rw [hszA]; omega) (by omega)).trans HPX.out
          have hk12 : Kept (fun _ => False) w2 (w2.alloc (.cells #[.int .i64 2, .int .i64 gn, .slice bao gx.length bc] 27)) := (Kept.refl _ _).alloc _
          have hx3 := heap_alloc_new w2 (.cells #[.int .i64 2, .int .i64 gn, .slice bao gx.length bc] 27)
          have hszC : (w2.alloc (.cells #[.int .i64 2, .int .i64 gn, .slice bao gx.length bc] 27)).heap.size = w2.heap.size + 1 := by simp
          go_upto_region 11 with fail
          generalize w2.alloc (.cells #[.int .i64 2, .int .i64 gn, .slice bao gx.length bc] 27) = wC at *
          have hb3 := (hk12.block (w.heap.size + 1) hl2 (fun f => f)).trans hb2
          have p1 : wC.cell? ⟨w.heap.size + 1, 1, none⟩ = some (.int .i64 0) := by rw [cell_block _ _ _ _ _ _ hb3]; rfl
          have pf := frozen_block _ _ 1 _ _ hb3
          have x1 : wC.cell? ⟨w2.heap.size, 1, none⟩ = some (.int .i64 gn) := by rw [cell_block _ _ _ _ _ _ hx3]; rfl
          have HB3 := hid_of hb3
          have HX3 := hid_of hx3
          have HK12 := hid_of hk12
          have HH6 := hid_of h6
          have HH7 := hid_of h7
          clear hcall h6 h7 hb2 hb3 hk12 hx3 HPX
          go_upto_region 12 with fail
          have hkD := kept_set wC (w.heap.size + 1) 1 (.int .i64 gn)
          have hb4 : (wC.setCell ⟨w.heap.size + 1, 1, none⟩ (.int .i64 gn)).heap[w.heap.size + 1]? = some (.cells #[.int .i64 2, .int .i64 gn, .slice none 0 0] 54 (0, 0)) := by rw [set_block _ _ _ _ _ _ HB3.out]; rfl
          have hx4 := (hkD.block w2.heap.size (by omega) (by omega)).trans HX3.out
          have hszD : (wC.setCell ⟨w.heap.size + 1, 1, none⟩ (.int .i64 gn)).heap.size = w2.heap.size + 1 := by simp [hszC]
          clear p1 pf x1
          generalize wC.setCell ⟨w.heap.size + 1, 1, none⟩ (.int .i64 gn) = wD at *
          have p2 : wD.cell? ⟨w.heap.size + 1, 2, none⟩ = some (.slice none 0 0) := by rw [cell_block _ _ _ _ _ _ hb4]; rfl
          have pf2 := frozen_block _ _ 2 _ _ hb4
          have x2 : wD.cell? ⟨w2.heap.size, 2, none⟩ = some (.slice bao gx.length bc) := by rw [cell_block _ _ _ _ _ _ hx4]; rfl
          have hk23 : Kept (fun q => q = w.heap.size + 1) w2 (wD.setCell ⟨w.heap.size + 1, 2, none⟩ (.slice bao gx.length bc)) := ((HK12.out.mono (fun _ _ f => f.elim)).trans hkD).trans (kept_set _ _ _ _)
          have hszW : (wD.setCell ⟨w.heap.size + 1, 2, none⟩ (.slice bao gx.length bc)).heap.size = w2.heap.size + 1 := by simp [hszD]
          have HM : Hid (∃ (y : ItV) (q : Nat) (f : Int), (wD.setCell ⟨w.heap.size + 1, 2, none⟩ (.slice bao gx.length bc)).heap[w.heap.size + 1]? = some (.cells #[.int .i64 y.k, .int .i64 y.n, y.bv] 54 (0, 0)) ∧ (y.k = 2 ∧ (1 ≤ (2 : Int) ∧ (2 : Int) ≤ 9)) ∧ Kept (fun q => q = rj) w (wD.setCell ⟨w.heap.size + 1, 2, none⟩ (.slice bao gx.length bc)) ∧ RR (wD.setCell ⟨w.heap.size + 1, 2, none⟩ (.slice bao gx.length bc)) rj v q f ∧ IsB (wD.setCell ⟨w.heap.size + 1, 2, none⟩ (.slice bao gx.length bc)) y.bv y.xs ∧ ((f = 0 ∧ q ≤ xs.length ∧ oneD 2 cn (xs.drop p) = .ok ((y.n, y.xs), xs.drop q) ∧ ∀ b, y.bv.ownBlock = some b → w.heap.size ≤ b ∧ b < (wD.setCell ⟨w.heap.size + 1, 2, none⟩ (.slice bao gx.length bc)).heap.size) ∨ (oneD 2 cn (xs.drop p) = .error f ∧ f ≠ 0))) := ⟨⟨2, gn, .slice bao gx.length bc, gx⟩, q, f, by rw [set_block _ _ _ _ _ _ hb4]; rfl, ⟨rfl, by decide⟩, ((HKA.out.mono (fun _ _ f => f.elim)).trans HH7.out).step hk23 (fun q hq e => by omega), HH6.out.kept hk23 (by omega), h4.kept hk23 (fun b hb e => by have := (h5 b hb).1; omega), .inl ⟨hf, h2, h1, fun b hb => by rw [hszW]; have := h5 b hb; omega⟩⟩
          clear hb4 hx4 hk23 hkD HB3 HX3 HK12 HH6 HH7 hszW
          go_wp2_with fail
          go_meet
          exact ⟨rfl, rfl, HM.out⟩
        · have hf0 : f ≠ 0 := oneD_fault (fun x hx => HBO.out.1 x (List.mem_of_mem_drop hx)) h1
          have hsz2 := h7.size
          have hl2 : w.heap.size + 1 < w2.heap.size := by omega
          have hb2 := (h7.block (w.heap.size + 1) (by rw [hszA]; omega) (by omega)).trans HPX.out
          have hk12 : Kept (fun _ => False) w2 (w2.alloc (.cells #[.int .i64 2, .int .i64 0, .slice none 0 0] 27)) := (Kept.refl _ _).alloc _
          have hx3 := heap_alloc_new w2 (.cells #[.int .i64 2, .int .i64 0, .slice none 0 0] 27)
          have hszC : (w2.alloc (.cells #[.int .i64 2, .int .i64 0, .slice none 0 0] 27)).heap.size = w2.heap.size + 1 := by simp
          go_upto_region 11 with fail
          generalize w2.alloc (.cells #[.int .i64 2, .int .i64 0, .slice none 0 0] 27) = wC at *
          have hb3 := (hk12.block (w.heap.size + 1) hl2 (fun f => f)).trans hb2
          have p1 : wC.cell? ⟨w.heap.size + 1, 1, none⟩ = some (.int .i64 0) := by rw [cell_block _ _ _ _ _ _ hb3]; rfl
          have pf := frozen_block _ _ 1 _ _ hb3
          have x1 : wC.cell? ⟨w2.heap.size, 1, none⟩ = some (.int .i64 0) := by rw [cell_block _ _ _ _ _ _ hx3]; rfl
          have HB3 := hid_of hb3
          have HX3 := hid_of hx3
          have HK12 := hid_of hk12
          have HH6 := hid_of h6
          have HH7 := hid_of h7
          clear hcall h6 h7 hb2 hb3 hk12 hx3 HPX
          go_upto_region 12 with fail
          have hkD := kept_set wC (w.heap.size + 1) 1 (.int .i64 0)
          have hb4 : (wC.setCell ⟨w.heap.size + 1, 1, none⟩ (.int .i64 0)).heap[w.heap.size + 1]? = some (.cells #[.int .i64 2, .int .i64 0, .slice none 0 0] 54 (0, 0)) := by rw [set_block _ _ _ _ _ _ HB3.out]; rfl
          have hx4 := (hkD.block w2.heap.size (by omega) (by omega)).trans HX3.out
          have hszD : (wC.setCell ⟨w.heap.size + 1, 1, none⟩ (.int .i64 0)).heap.size = w2.heap.size + 1 := by simp [hszC]
          clear p1 pf x1
          generalize wC.setCell ⟨w.heap.size + 1, 1, none⟩ (.int .i64 0) = wD at *
          have p2 : wD.cell? ⟨w.heap.size + 1, 2, none⟩ = some (.slice none 0 0) := by rw [cell_block _ _ _ _ _ _ hb4]; rfl
          have pf2 := frozen_block _ _ 2 _ _ hb4
          have x2 : wD.cell? ⟨w2.heap.size, 2, none⟩ = some (.slice none 0 0) := by rw [cell_block _ _ _ _ _ _ hx4]; rfl
          have hk23 : Kept (fun q => q = w.heap.size + 1) w2 (wD.setCell ⟨w.heap.size + 1, 2, none⟩ (.slice none 0 0)) := ((HK12.out.mono (fun _ _ f => f.elim)).trans hkD).trans (kept_set _ _ _ _)
          have hszW : (wD.setCell ⟨w.heap.size + 1, 2, none⟩ (.slice none 0 0)).heap.size = w2.heap.size + 1 := by simp [hszD]
          have HM : Hid (∃ (y : ItV) (q : Nat) (f : Int), (wD.setCell ⟨w.heap.size + 1, 2, none⟩ (.slice none 0 0)).heap[w.heap.size + 1]? = some (.cells #[.int .i64 y.k, .int .i64 y.n, y.bv] 54 (0, 0)) ∧ (y.k = 2 ∧ (1 ≤ (2 : Int) ∧ (2 : Int) ≤ 9)) ∧ Kept (fun q => q = rj) w (wD.setCell ⟨w.heap.size + 1, 2, none⟩ (.slice none 0 0)) ∧ RR (wD.setCell ⟨w.heap.size + 1, 2, none⟩ (.slice none 0 0)) rj v q f ∧ IsB (wD.setCell ⟨w.heap.size + 1, 2, none⟩ (.slice none 0 0)) y.bv y.xs ∧ ((f = 0 ∧ q ≤ xs.length ∧ oneD 2 cn (xs.drop p) = .ok ((y.n, y.xs), xs.drop q) ∧ ∀ b, y.bv.ownBlock = some b → w.heap.size ≤ b ∧ b < (wD.setCell ⟨w.heap.size + 1, 2, none⟩ (.slice none 0 0)).heap.size) ∨ (oneD 2 cn (xs.drop p) = .error f ∧ f ≠ 0))) := ⟨⟨2, 0, .slice none 0 0, []⟩, q, f, by rw [set_block _ _ _ _ _ _ hb4]; rfl, ⟨rfl, by decide⟩, ((HKA.out.mono (fun _ _ f => f.elim)).trans HH7.out).step hk23 (fun q hq e => by omega), HH6.out.kept hk23 (by omega), .inl ⟨rfl, _, _, rfl⟩, .inr ⟨h1, hf0⟩⟩
          clear hb4 hx4 hk23 hkD HB3 HX3 HK12 HH6 HH7 hszW
          go_wp2_with fail
          go_meet
          exact ⟨rfl, rfl, HM.out⟩
      · skip
        have hcall := hid_of (read_ref3 rj v xs p cn wA HV1A.out HV2A.out HBO.out HSRC.out.2.2 hpx)
        go_wp2_with fail
        refine hcall.out.mono ?_
        rintro e w2 (⟨⟨gn, gx⟩, q, bv, h1, h2, rfl, h4, h5, h6, h7⟩ | ⟨f, q, h1, rfl, h6, h7⟩)
        · obtain ⟨bao, bc, hbv⟩ := h4.shape
          dsimp only at hbv h1 h4
          subst hbv
          obtain ⟨f, hf⟩ : ∃ f : Int, f = 0 := ⟨0, rfl⟩
          rw [← hf] at h6
          have hsz2 := h7.size
          have hl2 : w.heap.size + 1 < w2.heap.size := by omega
          have hb2 := (h7.block (w.heap.size + 1) (by rw [hszA]; omega) (by omega)).trans HPX.out
          have hk12 : Kept (fun _ => False) w2 (w2.alloc (.cells #[.int .i64 3, .int .i64 gn, .slice bao gx.length bc] 27)) := (Kept.refl _ _).alloc _
          have hx3 := heap_alloc_new w2 (.cells #[.int .i64 3, .int .i64 gn, .slice bao gx.length bc] 27)
          have hszC : (w2.alloc (.cells #[.int .i64 3, .int .i64 gn, .slice bao gx.length bc] 27)).heap.size = w2.heap.size + 1 := by simp
          go_upto_region 11 with fail
          generalize w2.alloc (.cells #[.int .i64 3, .int .i64 gn, .slice bao gx.length bc] 27) = wC at *
          have hb3 := (hk12.block (w.heap.size + 1) hl2 (fun f => f)).trans hb2
          have p1 : wC.cell? ⟨w.heap.size + 1, 1, none⟩ = some (.int .i64 0) := by rw [cell_block _ _ _ _ _ _ hb3]; rfl
          have pf := frozen_block _ _ 1 _ _ hb3
          have x1 : wC.cell? ⟨w2.heap.size, 1, none⟩ = some (.int .i64 gn) := by rw [cell_block _ _ _ _ _ _ hx3]; rfl
          have HB3 := hid_of hb3
          have HX3 := hid_of hx3
          have HK12 := hid_of hk12
          have HH6 := hid_of h6
          have HH7 := hid_of h7
          clear hcall h6 h7 hb2 hb3 hk12 hx3 HPX
          go_upto_region 12 with fail
          have hkD := kept_set wC (w.heap.size + 1) 1 (.int .i64 gn)
          have hb4 : (wC.setCell ⟨w.heap.size + 1, 1, none⟩ (.int .i64 gn)).heap[w.heap.size + 1]? = some (.cells #[.int .i64 3, .int .i64 gn, .slice none 0 0] 54 (0, 0)) := by rw [set_block _ _ _ _ _ _ HB3.out]; rfl
          have hx4 := (hkD.block w2.heap.size (by omega) (by omega)).trans HX3.out
          have hszD : (wC.setCell ⟨w.heap.size + 1, 1, none⟩ (.int .i64 gn)).heap.size = w2.heap.size + 1 := by simp [hszC]
          clear p1 pf x1
          generalize wC.setCell ⟨w.heap.size + 1, 1, none⟩ (.int .i64 gn) = wD at *
          have p2 : wD.cell? ⟨w.heap.size + 1, 2, none⟩ = some (.slice none 0 0) := by rw [cell_block _ _ _ _ _ _ hb4]; rfl
          have pf2 := frozen_block _ _ 2 _ _ hb4
          have x2 : wD.cell? ⟨w2.heap.size, 2, none⟩ = some (.slice bao gx.length bc) := by rw [cell_block _ _ _ _ _ _ hx4]; rfl
          have hk23 : Kept (fun q => q = w.heap.size + 1) w2 (wD.setCell ⟨w.heap.size + 1, 2, none⟩ (.slice bao gx.length bc)) := ((HK12.out.mono (fun _ _ f => f.elim)).trans hkD).trans (kept_set _ _ _ _)
          have hszW : (wD.setCell ⟨w.heap.size + 1, 2, none⟩ (.slice bao gx.length bc)).heap.size = w2.heap.size + 1 := by simp [hszD]
          have HM : Hid (∃ (y : ItV) (q : Nat) (f : Int), (wD.setCell ⟨w.heap.size + 1, 2, none⟩ (.slice bao gx.length bc)).heap[w.heap.size + 1]? = some (.cells #[.int .i64 y.k, .int .i64 y.n, y.bv] 54 (0, 0)) ∧ (y.k = 3 ∧ (1 ≤ (3 : Int) ∧ (3 : Int) ≤ 9)) ∧ Kept (fun q => q = rj) w (wD.setCell ⟨w.heap.size + 1, 2, none⟩ (.slice bao gx.length bc)) ∧ RR (wD.setCell ⟨w.heap.size + 1, 2, none⟩ (.slice bao gx.length bc)) rj v q f ∧ IsB (wD.setCell ⟨w.heap.size + 1, 2, none⟩ (.slice bao gx.length bc)) y.bv y.xs ∧ ((f = 0 ∧ q ≤ xs.length ∧ oneD 3 cn (xs.drop p) = .ok ((y.n, y.xs), xs.drop q) ∧ ∀ b, y.bv.ownBlock = some b → w.heap.size ≤ b ∧ b < (wD.setCell ⟨w.heap.size + 1, 2, none⟩ (.slice bao gx.length bc)).heap.size) ∨ (oneD 3 cn (xs.drop p) = .error f ∧ f ≠ 0))) := ⟨⟨3, gn, .slice bao gx.length bc, gx⟩, q, f, by rw [set_block _ _ _ _ _ _ hb4]; rfl, ⟨rfl, by decide⟩, ((HKA.out.mono (fun _ _ f => f.elim)).trans HH7.out).step hk23 (fun q hq e => by omega), HH6.out.kept hk23 (by omega), h4.kept hk23 (fun b hb e => by have := (h5 b hb).1; omega), .inl ⟨hf, h2, h1, fun b hb => by rw [hszW]; have := h5 b hb; omega⟩⟩
          clear hb4 hx4 hk23 hkD HB3 HX3 HK12 HH6 HH7 hszW
          go_wp2_with fail
          go_meet
          exact ⟨rfl, rfl, HM.out⟩
        · have hf0 : f ≠ 0 := oneD_fault (fun x hx => HBO.out.1 x (List.mem_of_mem_drop hx)) h1
          have hsz2 := h7.size
          have hl2 : w.heap.size + 1 < w2.heap.size := by omega
          have hb2 := (h7.block (w.heap.size + 1) (by rw [hszA]; omega) (by omega)).trans HPX.out
          have hk12 : Kept (fun _ => False) w2 (w2.alloc (.cells #[.int .i64 3, .int .i64 0, .slice none 0 0] 27)) := (Kept.refl _ _).alloc _
          have hx3 := heap_alloc_new w2 (.cells #[.int .i64 3, .int .i64 0, .slice none 0 0] 27)
          have hszC : (w2.alloc (.cells #[.int .i64 3, .int .i64 0, .slice none 0 0] 27)).heap.size = w2.heap.size + 1 := by simp
          go_upto_region 11 with fail
          generalize w2.alloc (.cells #[.int .i64 3, .int .i64 0, .slice none 0 0] 27) = wC at *
          have hb3 := (hk12.block (w.heap.size + 1) hl2 (fun f => f)).trans hb2
          have p1 : wC.cell? ⟨w.heap.size + 1, 1, none⟩ = some (.int .i64 0) := by rw [cell_block _ _ _ _ _ _ hb3]; rfl
          have pf := frozen_block _ _ 1 _ _ hb3
          have x1 : wC.cell? ⟨w2.heap.size, 1, none⟩ = some (.int .i64 0) := by rw [cell_block _ _ _ _ _ _ hx3]; rfl
          have HB3 := hid_of hb3
          have HX3 := hid_of hx3
          have HK12 := hid_of hk12
          have HH6 := hid_of h6
          have HH7 := hid_of h7
          clear hcall h6 h7 hb2 hb3 hk12 hx3 HPX
          go_upto_region 12 with fail
          have hkD := kept_set wC (w.heap.size + 1) 1 (.int .i64 0)
          have hb4 : (wC.setCell ⟨w.heap.size + 1, 1, none⟩ (.int .i64 0)).heap[w.heap.size + 1]? = some (.cells #[.int .i64 3, .int .i64 0, .slice none 0 0] 54 (0, 0)) := by rw [set_block _ _ _ _ _ _ HB3.out]; rfl
          have hx4 := (hkD.block w2.heap.size (by omega) (by omega)).trans HX3.out
          have hszD : (wC.setCell ⟨w.heap.size + 1, 1, none⟩ (.int .i64 0)).heap.size = w2.heap.size + 1 := by simp [hszC]
          clear p1 pf x1
          generalize wC.setCell ⟨w.heap.size + 1, 1, none⟩ (.int .i64 0) = wD at *
          have p2 : wD.cell? ⟨w.heap.size + 1, 2, none⟩ = some (.slice none 0 0) := by rw [cell_block _ _ _ _ _ _ hb4]; rfl
          have pf2 := frozen_block _ _ 2 _ _ hb4
          have x2 : wD.cell? ⟨w2.heap.size, 2, none⟩ = some (.slice none 0 0) := by rw [cell_block _ _ _ _ _ _ hx4]; rfl
          have hk23 : Kept (fun q => q = w.heap.size + 1) w2 (wD.setCell ⟨w.heap.size + 1, 2, none⟩ (.slice none 0 0)) := ((HK12.out.mono (fun _ _ f => f.elim)).trans hkD).trans (kept_set _ _ _ _)
          have hszW : (wD.setCell ⟨w.heap.size + 1, 2, none⟩ (.slice none 0 0)).heap.size = w2.heap.size + 1 := by simp [hszD]
          have HM : Hid (∃ (y : ItV) (q : Nat) (f : Int), (wD.setCell ⟨w.heap.size + 1, 2, none⟩ (.slice none 0 0)).heap[w.heap.size + 1]? = some (.cells #[.int .i64 y.k, .int .i64 y.n, y.bv] 54 (0, 0)) ∧ (y.k = 3 ∧ (1 ≤ (3 : Int) ∧ (3 : Int) ≤ 9)) ∧ Kept (fun q => q = rj) w (wD.setCell ⟨w.heap.size + 1, 2, none⟩ (.slice none 0 0)) ∧ RR (wD.setCell ⟨w.heap.size + 1, 2, none⟩ (.slice none 0 0)) rj v q f ∧ IsB (wD.setCell ⟨w.heap.size + 1, 2, none⟩ (.slice none 0 0)) y.bv y.xs ∧ ((f = 0 ∧ q ≤ xs.length ∧ oneD 3 cn (xs.drop p) = .ok ((y.n, y.xs), xs.drop q) ∧ ∀ b, y.bv.ownBlock = some b → w.heap.size ≤ b ∧ b < (wD.setCell ⟨w.heap.size + 1, 2, none⟩ (.slice none 0 0)).heap.size) ∨ (oneD 3 cn (xs.drop p) = .error f ∧ f ≠ 0))) := ⟨⟨3, 0, .slice none 0 0, []⟩, q, f, by rw [set_block _ _ _ _ _ _ hb4]; rfl, ⟨rfl, by decide⟩, ((HKA.out.mono (fun _ _ f => f.elim)).trans HH7.out).step hk23 (fun q hq e => by omega), HH6.out.kept hk23 (by omega), .inl ⟨rfl, _, _, rfl⟩, .inr ⟨h1, hf0⟩⟩
          clear hb4 hx4 hk23 hkD HB3 HX3 HK12 HH6 HH7 hszW
          go_wp2_with fail
          go_meet
          exact ⟨rfl, rfl, HM.out⟩
      · skip
        have hcall := hid_of (read_ref4 rj v xs p cn wA HV1A.out HV2A.out HBO.out HSRC.out.2.2 hpx)
        go_wp2_with fail
        refine hcall.out.mono ?_
        rintro e w2 (⟨⟨gn, gx⟩, q, bv, h1, h2, rfl, h4, h5, h6, h7⟩ | ⟨f, q, h1, rfl, h6, h7⟩)
        · obtain ⟨bao, bc, hbv⟩ := h4.shape
          dsimp only at hbv h1 h4
          subst hbv
          obtain ⟨f, hf⟩ : ∃ f : Int, f = 0 := ⟨0, rfl⟩
          rw [← hf] at h6
          have hsz2 := h7.size
          have hl2 : w.heap.size + 1 < w2.heap.size := by omega
          have hb2 := (h7.block (w.heap.size + 1) (by rw [hszA]; omega) (by omega)).trans HPX.out
          have hk12 : Kept (fun _ => False) w2 (w2.alloc (.cells #[.int .i64 4, .int .i64 gn, .slice bao gx.length bc] 27)) := (Kept.refl _ _).alloc _
          have hx3 := heap_alloc_new w2 (.cells #[.int .i64 4, .int .i64 gn, .slice bao gx.length bc] 27)
          have hszC : (w2.alloc (.cells #[.int .i64 4, .int .i64 gn, .slice bao gx.length bc] 27)).heap.size = w2.heap.size + 1 := by simp
          go_upto_region 11 with fail
          generalize w2.alloc (.cells #[.int .i64 4, .int .i64 gn, .slice bao gx.length bc] 27) = wC at *
          have hb3 := (hk12.block (w.heap.size + 1) hl2 (fun f => f)).trans hb2
          have p1 : wC.cell? ⟨w.heap.size + 1, 1, none⟩ = some (.int .i64 0) := by rw [cell_block _ _ _ _ _ _ hb3]; rfl
          have pf := frozen_block _ _ 1 _ _ hb3
          have x1 : wC.cell? ⟨w2.heap.size, 1, none⟩ = some (.int .i64 gn) := by rw [cell_block _ _ _ _ _ _ hx3]; rfl
          have HB3 := hid_of hb3
          have HX3 := hid_of hx3
          have HK12 := hid_of hk12
          have HH6 := hid_of h6
          have HH7 := hid_of h7
          clear hcall h6 h7 hb2 hb3 hk12 hx3 HPX
          go_upto_region 12 with fail
          have hkD := kept_set wC (w.heap.size + 1) 1 (.int .i64 gn)
          have hb4 : (wC.setCell ⟨w.heap.size + 1, 1, none⟩ (.int .i64 gn)).heap[w.heap.size + 1]? = some (.cells #[.int .i64 4, .int .i64 gn, .slice none 0 0] 54 (0, 0)) := by rw [set_block _ _ _ _ _ _ HB3.out]; rfl
          have hx4 := (hkD.block w2.heap.size (by omega) (by omega)).trans HX3.out
          have hszD : (wC.setCell ⟨w.heap.size + 1, 1, none⟩ (.int .i64 gn)).heap.size = w2.heap.size + 1 := by simp [hszC]
          clear p1 pf x1
          generalize wC.setCell ⟨w.heap.size + 1, 1, none⟩ (.int .i64 gn) = wD at *
          have p2 : wD.cell? ⟨w.heap.size + 1, 2, none⟩ = some (.slice none 0 0) := by rw [cell_block _ _ _ _ _ _ hb4]; rfl
          have pf2 := frozen_block _ _ 2 _ _ hb4
          have x2 : wD.cell? ⟨w2.heap.size, 2, none⟩ = some (.slice bao gx.length bc) := by rw [cell_block _ _ _ _ _ _ hx4]; rfl
          have hk23 : Kept (fun q => q = w.heap.size + 1) w2 (wD.setCell ⟨w.heap.size + 1, 2, none⟩ (.slice bao gx.length bc)) := ((HK12.out.mono (fun _ _ f => f.elim)).trans hkD).trans (kept_set _ _ _ _)
          have hszW : (wD.setCell ⟨w.heap.size + 1, 2, none⟩ (.slice bao gx.length bc)).heap.size = w2.heap.size + 1 := by simp [hszD]
          have HM : Hid (∃ (y : ItV) (q : Nat) (f : Int), (wD.setCell ⟨w.heap.size + 1, 2, none⟩ (.slice bao gx.length bc)).heap[w.heap.size + 1]? = some (.cells #[.int .i64 y.k, .int .i64 y.n, y.bv] 54 (0, 0)) ∧ (y.k = 4 ∧ (1 ≤ (4 : Int) ∧ (4 : Int) ≤ 9)) ∧ Kept (fun q => q = rj) w (wD.setCell ⟨w.heap.size + 1, 2, none⟩ (.slice bao gx.length bc)) ∧ RR (wD.setCell ⟨w.heap.size + 1, 2, none⟩ (.slice bao gx.length bc)) rj v q f ∧ IsB (wD.setCell ⟨w.heap.size + 1, 2, none⟩ (.slice bao gx.length bc)) y.bv y.xs ∧ ((f = 0 ∧ q ≤ xs.length ∧ oneD 4 cn (xs.drop p) = .ok ((y.n, y.xs), xs.drop q) ∧ ∀ b, y.bv.ownBlock = some b → w.heap.size ≤ b ∧ b < (wD.setCell ⟨w.heap.size + 1, 2, none⟩ (.slice bao gx.length bc)).heap.size) ∨ (oneD 4 cn (xs.drop p) = .error f ∧ f ≠ 0))) := ⟨⟨4, gn, .slice bao gx.length bc, gx⟩, q, f, by rw [set_block _ _ _ _ _ _ hb4]; rfl, ⟨rfl, by decide⟩, ((HKA.out.mono (fun _ _ f => f.elim)).trans HH7.out).step hk23 (fun q hq e => by omega), HH6.out.kept hk23 (by omega), h4.kept hk23 (fun b hb e => by have := (h5 b hb).1; omega), .inl ⟨hf, h2, h1, fun b hb => by rw [hszW]; have := h5 b hb; omega⟩⟩
          clear hb4 hx4 hk23 hkD HB3 HX3 HK12 HH6 HH7 hszW
          go_wp2_with fail
          go_meet
          exact ⟨rfl, rfl, HM.out⟩
        · have hf0 : f ≠ 0 := oneD_fault (fun x hx => HBO.out.1 x (List.mem_of_mem_drop hx)) h1
          have hsz2 := h7.size
          have hl2 : w.heap.size + 1 < w2.heap.size := by omega
          have hb2 := (h7.block (w.heap.size + 1) (by rw [hszA]; omega) (by omega)).trans HPX.out
          have hk12 : Kept (fun _ => False) w2 (w2.alloc (.cells #[.int .i64 4, .int .i64 0, .slice none 0 0] 27)) := (Kept.refl _ _).alloc _
          have hx3 := heap_alloc_new w2 (.cells #[.int .i64 4, .int .i64 0, .slice none 0 0] 27)
          have hszC : (w2.alloc (.cells #[.int .i64 4, .int .i64 0, .slice none 0 0] 27)).heap.size = w2.heap.size + 1 := by simp
          go_upto_region 11 with fail
          generalize w2.alloc (.cells #[.int .i64 4, .int .i64 0, .slice none 0 0] 27) = wC at *
          have hb3 := (hk12.block (w.heap.size + 1) hl2 (fun f => f)).trans hb2
          have p1 : wC.cell? ⟨w.heap.size + 1, 1, none⟩ = some (.int .i64 0) := by rw [cell_block _ _ _ _ _ _ hb3]; rfl
          have pf := frozen_block _ _ 1 _ _ hb3
          have x1 : wC.cell? ⟨w2.heap.size, 1, none⟩ = some (.int .i64 0) := by rw [cell_block _ _ _ _ _ _ hx3]; rfl
          have HB3 := hid_of hb3
          have HX3 := hid_of hx3
          have HK12 := hid_of hk12
          have HH6 := hid_of h6
          have HH7 := hid_of h7
          clear hcall h6 h7 hb2 hb3 hk12 hx3 HPX
          go_upto_region 12 with fail
          have hkD := kept_set wC (w.heap.size + 1) 1 (.int .i64 0)
          have hb4 : (wC.setCell ⟨w.heap.size + 1, 1, none⟩ (.int .i64 0)).heap[w.heap.size + 1]? = some (.cells #[.int .i64 4, .int .i64 0, .slice none 0 0] 54 (0, 0)) := by rw [set_block _ _ _ _ _ _ HB3.out]; rfl
          have hx4 := (hkD.block w2.heap.size (by omega) (by omega)).trans HX3.out
          have hszD : (wC.setCell ⟨w.heap.size + 1, 1, none⟩ (.int .i64 0)).heap.size = w2.heap.size + 1 := by simp [hszC]
          clear p1 pf x1
          generalize wC.setCell ⟨w.heap.size + 1, 1, none⟩ (.int .i64 0) = wD at *
          have p2 : wD.cell? ⟨w.heap.size + 1, 2, none⟩ = some (.slice none 0 0) := by rw [cell_block _ _ _ _ _ _ hb4]; rfl
          have pf2 := frozen_block _ _ 2 _ _ hb4
          have x2 : wD.cell? ⟨w2.heap.size, 2, none⟩ = some (.slice none 0 0) := by rw [cell_block _ _ _ _ _ _ hx4]; rfl
          have hk23 : Kept (fun q => q = w.heap.size + 1) w2 (wD.setCell ⟨w.heap.size + 1, 2, none⟩ (.slice none 0 0)) := ((HK12.out.mono (fun _ _ f => f.elim)).trans hkD).trans (kept_set _ _ _ _)
          have hszW : (wD.setCell ⟨w.heap.size + 1, 2, none⟩ (.slice none 0 0)).heap.size = w2.heap.size + 1 := by simp [hszD]
          have HM : Hid (∃ (y : ItV) (q : Nat) (f : Int), (wD.setCell ⟨w.heap.size + 1, 2, none⟩ (.slice none 0 0)).heap[w.heap.size + 1]? = some (.cells #[.int .i64 y.k, .int .i64 y.n, y.bv] 54 (0, 0)) ∧ (y.k = 4 ∧ (1 ≤ (4 : Int) ∧ (4 : Int) ≤ 9)) ∧ Kept (fun q => q = rj) w (wD.setCell ⟨w.heap.size + 1, 2, none⟩ (.slice none 0 0)) ∧ RR (wD.setCell ⟨w.heap.size + 1, 2, none⟩ (.slice none 0 0)) rj v q f ∧ IsB (wD.setCell ⟨w.heap.size + 1, 2, none⟩ (.slice none 0 0)) y.bv y.xs ∧ ((f = 0 ∧ q ≤ xs.length ∧ oneD 4 cn (xs.drop p) = .ok ((y.n, y.xs), xs.drop q) ∧ ∀ b, y.bv.ownBlock = some b → w.heap.size ≤ b ∧ b < (wD.setCell ⟨w.heap.size + 1, 2, none⟩ (.slice none 0 0)).heap.size) ∨ (oneD 4 cn (xs.drop p) = .error f ∧ f ≠ 0))) := ⟨⟨4, 0, .slice none 0 0, []⟩, q, f, by rw [set_block _ _ _ _ _ _ hb4]; rfl, ⟨rfl, by decide⟩, ((HKA.out.mono (fun _ _ f => f.elim)).trans HH7.out).step hk23 (fun q hq e => by omega), HH6.out.kept hk23 (by omega), .inl ⟨rfl, _, _, rfl⟩, .inr ⟨h1, hf0⟩⟩
          clear hb4 hx4 hk23 hkD HB3 HX3 HK12 HH6 HH7 hszW
          go_wp2_with fail
          go_meet
          exact ⟨rfl, rfl, HM.out⟩
      · skip
        have hcall := hid_of (read_ref5 rj v xs p cn wA HV1A.out HV2A.out HBO.out HSRC.out.2.2 hpx)
        go_wp2_with fail
        refine hcall.out.mono ?_
        rintro e w2 (⟨⟨gn, gx⟩, q, bv, h1, h2, rfl, h4, h5, h6, h7⟩ | ⟨f, q, h1, rfl, h6, h7⟩)
        · obtain ⟨bao, bc, hbv⟩ := h4.shape
          dsimp only at hbv h1 h4
          subst hbv
          obtain ⟨f, hf⟩ : ∃ f : Int, f = 0 := ⟨0, rfl⟩
          rw [← hf] at h6
          have hsz2 := h7.size
          have hl2 : w.heap.size + 1 < w2.heap.size := by omega
          have hb2 := (h7.block (w.heap.size + 1) (by rw [hszA]; omega) (by omega)).trans HPX.out
          have hk12 : Kept (fun _ => False) w2 (w2.alloc (.cells #[.int .i64 5, .int .i64 gn, .slice bao gx.length bc] 27)) := (Kept.refl _ _).alloc _
          have hx3 := heap_alloc_new w2 (.cells #[.int .i64 5, .int .i64 gn, .slice bao gx.length bc] 27)
          have hszC : (w2.alloc (.cells #[.int .i64 5, .int .i64 gn, .slice bao gx.length bc] 27)).heap.size = w2.heap.size + 1 := by simp
          go_upto_region 11 with fail
          generalize w2.alloc (.cells #[.int .i64 5, .int .i64 gn, .slice bao gx.length bc] 27) = wC at *
          have hb3 := (hk12.block (w.heap.size + 1) hl2 (fun f => f)).trans hb2
          have p1 : wC.cell? ⟨w.heap.size + 1, 1, none⟩ = some (.int .i64 0) := by rw [cell_block _ _ _ _ _ _ hb3]; rfl
          have pf := frozen_block _ _ 1 _ _ hb3
          have x1 : wC.cell? ⟨w2.heap.size, 1, none⟩ = some (.int .i64 gn) := by rw [cell_block _ _ _ _ _ _ hx3]; rfl
          have HB3 := hid_of hb3
          have HX3 := hid_of hx3
          have HK12 := hid_of hk12
          have HH6 := hid_of h6
          have HH7 := hid_of h7
          clear hcall h6 h7 hb2 hb3 hk12 hx3 HPX
          go_upto_region 12 with fail
          have hkD := kept_set wC (w.heap.size + 1) 1 (.int .i64 gn)
          have hb4 : (wC.setCell ⟨w.heap.size + 1, 1, none⟩ (.int .i64 gn)).heap[w.heap.size + 1]? = some (.cells #[.int .i64 5, .int .i64 gn, .slice none 0 0] 54 (0, 0)) := by rw [set_block _ _ _ _ _ _ HB3.out]; rfl
          have hx4 := (hkD.block w2.heap.size (by omega) (by omega)).trans HX3.out
          have hszD : (wC.setCell ⟨w.heap.size + 1, 1, none⟩ (.int .i64 gn)).heap.size = w2.heap.size + 1 := by simp [hszC]
          clear p1 pf x1
          generalize wC.setCell ⟨w.heap.size + 1, 1, none⟩ (.int .i64 gn) = wD at *
          have p2 : wD.cell? ⟨w.heap.size + 1, 2, none⟩ = some (.slice none 0 0) := by rw [cell_block _ _ _ _ _ _ hb4]; rfl
          have pf2 := frozen_block _ _ 2 _ _ hb4
          have x2 : wD.cell? ⟨w2.heap.size, 2, none⟩ = some (.slice bao gx.length bc) := by rw [cell_block _ _ _ _ _ _ hx4]; rfl
          have hk23 : Kept (fun q => q = w.heap.size + 1) w2 (wD.setCell ⟨w.heap.size + 1, 2, none⟩ (.slice bao gx.length bc)) := ((HK12.out.mono (fun _ _ f => f.elim)).trans hkD).trans (kept_set _ _ _ _)
          have hszW : (wD.setCell ⟨w.heap.size + 1, 2, none⟩ (.slice bao gx.length bc)).heap.size = w2.heap.size + 1 := by simp [hszD]
          have HM : Hid (∃ (y : ItV) (q : Nat) (f : Int), (wD.setCell ⟨w.heap.size + 1, 2, none⟩ (.slice bao gx.length bc)).heap[w.heap.size + 1]? = some (.cells #[.int .i64 y.k, .int .i64 y.n, y.bv] 54 (0, 0)) ∧ (y.k = 5 ∧ (1 ≤ (5 : Int) ∧ (5 : Int) ≤ 9)) ∧ Kept (fun q => q = rj) w (wD.setCell ⟨w.heap.size + 1, 2, none⟩ (.slice bao gx.length bc)) ∧ RR (wD.setCell ⟨w.heap.size + 1, 2, none⟩ (.slice bao gx.length bc)) rj v q f ∧ IsB (wD.setCell ⟨w.heap.size + 1, 2, none⟩ (.slice bao gx.length bc)) y.bv y.xs ∧ ((f = 0 ∧ q ≤ xs.length ∧ oneD 5 cn (xs.drop p) = .ok ((y.n, y.xs), xs.drop q) ∧ ∀ b, y.bv.ownBlock = some b → w.heap.size ≤ b ∧ b < (wD.setCell ⟨w.heap.size + 1, 2, none⟩ (.slice bao gx.length bc)).heap.size) ∨ (oneD 5 cn (xs.drop p) = .error f ∧ f ≠ 0))) := ⟨⟨5, gn, .slice bao gx.length bc, gx⟩, q, f, by rw [set_block _ _ _ _ _ _ hb4]; rfl, ⟨rfl, by decide⟩, ((HKA.out.mono (fun _ _ f => f.elim)).trans HH7.out).step hk23 (fun q hq e => by omega), HH6.out.kept hk23 (by omega), h4.kept hk23 (fun b hb e => by have := (h5 b hb).1; omega), .inl ⟨hf, h2, h1, fun b hb => by rw [hszW]; have := h5 b hb; omega⟩⟩
          clear hb4 hx4 hk23 hkD HB3 HX3 HK12 HH6 HH7 hszW
          go_wp2_with fail
          go_meet
          exact ⟨rfl, rfl, HM.out⟩
        · have hf0 : f ≠ 0 := oneD_fault (fun x hx => HBO.out.1 x (List.mem_of_mem_drop hx)) h1
          have hsz2 := h7.size
          have hl2 : w.heap.size + 1 < w2.heap.size := by omega
          have hb2 := (h7.block (w.heap.size + 1) (by rw [hszA]; omega) (by omega)).trans HPX.out
          have hk12 : Kept (fun _ => False) w2 (w2.alloc (.cells #[.int .i64 5, .int .i64 0, .slice none 0 0] 27)) := (Kept.refl _ _).alloc _
          have hx3 := heap_alloc_new w2 (.cells #[.int .i64 5, .int .i64 0, .slice none 0 0] 27)
          have hszC : (w2.alloc (.cells #[.int .i64 5, .int .i64 0, .slice none 0 0] 27)).heap.size = w2.heap.size + 1 := by simp
          go_upto_region 11 with fail
          generalize w2.alloc (.cells #[.int .i64 5, .int .i64 0, .slice none 0 0] 27) = wC at *
          have hb3 := (hk12.block (w.heap.size + 1) hl2 (fun f => f)).trans hb2
          have p1 : wC.cell? ⟨w.heap.size + 1, 1, none⟩ = some (.int .i64 0) := by rw [cell_block _ _ _ _ _ _ hb3]; rfl
          have pf := frozen_block _ _ 1 _ _ hb3
          have x1 : wC.cell? ⟨w2.heap.size, 1, none⟩ = some (.int .i64 0) := by rw [cell_block _ _ _ _ _ _ hx3]; rfl
          have HB3 := hid_of hb3
          have HX3 := hid_of hx3
          have HK12 := hid_of hk12
          have HH6 := hid_of h6
          have HH7 := hid_of h7
          clear hcall h6 h7 hb2 hb3 hk12 hx3 HPX
          go_upto_region 12 with fail
          have hkD := kept_set wC (w.heap.size + 1) 1 (.int .i64 0)
          have hb4 : (wC.setCell ⟨w.heap.size + 1, 1, none⟩ (.int .i64 0)).heap[w.heap.size + 1]? = some (.cells #[.int .i64 5, .int .i64 0, .slice none 0 0] 54 (0, 0)) := by rw [set_block _ _ _ _ _ _ HB3.out]; rfl
          have hx4 := (hkD.block w2.heap.size (by omega) (by omega)).trans HX3.out
          have hszD : (wC.setCell ⟨w.heap.size + 1, 1, none⟩ (.int .i64 0)).heap.size = w2.heap.size + 1 := by simp [hszC]
          clear p1 pf x1
          generalize wC.setCell ⟨w.heap.size + 1, 1, none⟩ (.int .i64 0) = wD at *
          have p2 : wD.cell? ⟨w.heap.size + 1, 2, none⟩ = some (.slice none 0 0) := by rw [cell_block _ _ _ _ _ _ hb4]; rfl
          have pf2 := frozen_block _ _ 2 _ _ hb4
          have x2 : wD.cell? ⟨w2.heap.size, 2, none⟩ = some (.slice none 0 0) := by rw [cell_block _ _ _ _ _ _ hx4]; rfl
          have hk23 : Kept (fun q => q = w.heap.size + 1) w2 (wD.setCell ⟨w.heap.size + 1, 2, none⟩ (.slice none 0 0)) := ((HK12.out.mono (fun _ _ f => f.elim)).trans hkD).trans (kept_set _ _ _ _)
          have hszW : (wD.setCell ⟨w.heap.size + 1, 2, none⟩ (.slice none 0 0)).heap.size = w2.heap.size + 1 := by simp [hszD]
          have HM : Hid (∃ (y : ItV) (q : Nat) (f : Int), (wD.setCell ⟨w.heap.size + 1, 2, none⟩ (.slice none 0 0)).heap[w.heap.size + 1]? = some (.cells #[.int .i64 y.k, .int .i64 y.n, y.bv] 54 (0, 0)) ∧ (y.k = 5 ∧ (1 ≤ (5 : Int) ∧ (5 : Int) ≤ 9)) ∧ Kept (fun q => q = rj) w (wD.setCell ⟨w.heap.size + 1, 2, none⟩ (.slice none 0 0)) ∧ RR (wD.setCell ⟨w.heap.size + 1, 2, none⟩ (.slice none 0 0)) rj v q f ∧ IsB (wD.setCell ⟨w.heap.size + 1, 2, none⟩ (.slice none 0 0)) y.bv y.xs ∧ ((f = 0 ∧ q ≤ xs.length ∧ oneD 5 cn (xs.drop p) = .ok ((y.n, y.xs), xs.drop q) ∧ ∀ b, y.bv.ownBlock = some b → w.heap.size ≤ b ∧ b < (wD.setCell ⟨w.heap.size + 1, 2, none⟩ (.slice none 0 0)).heap.size) ∨ (oneD 5 cn (xs.drop p) = .error f ∧ f ≠ 0))) := ⟨⟨5, 0, .slice none 0 0, []⟩, q, f, by rw [set_block _ _ _ _ _ _ hb4]; rfl, ⟨rfl, by decide⟩, ((HKA.out.mono (fun _ _ f => f.elim)).trans HH7.out).step hk23 (fun q hq e => by omega), HH6.out.kept hk23 (by omega), .inl ⟨rfl, _, _, rfl⟩, .inr ⟨h1, hf0⟩⟩
          clear hb4 hx4 hk23 hkD HB3 HX3 HK12 HH6 HH7 hszW
          go_wp2_with fail
          go_meet
          exact ⟨rfl, rfl, HM.out⟩
      · skip
        have hcall := hid_of (read_ref6 rj v xs p cn wA HV1A.out HV2A.out HBO.out HSRC.out.2.2 hpx hn1)
        go_wp2_with fail
        refine hcall.out.mono ?_
        rintro e w2 (⟨⟨gn, gx⟩, q, bv, h1, h2, rfl, h4, h5, h6, h7⟩ | ⟨f, q, h1, rfl, h6, h7⟩)
        · obtain ⟨bao, bc, hbv⟩ := h4.shape
          dsimp only at hbv h1 h4
          subst hbv
          obtain ⟨f, hf⟩ : ∃ f : Int, f = 0 := ⟨0, rfl⟩
          rw [← hf] at h6
          have hsz2 := h7.size
          have hl2 : w.heap.size + 1 < w2.heap.size := by omega
          have hb2 := (h7.block (w.heap.size + 1) (by rw [hszA]; omega) (by omega)).trans HPX.out
          have hk12 : Kept (fun _ => False) w2 (w2.alloc (.cells #[.int .i64 6, .int .i64 gn, .slice bao gx.length bc] 27)) := (Kept.refl _ _).alloc _
          have hx3 := heap_alloc_new w2 (.cells #[.int .i64 6, .int .i64 gn, .slice bao gx.length bc] 27)
          have hszC : (w2.alloc (.cells #[.int .i64 6, .int .i64 gn, .slice bao gx.length bc] 27)).heap.size = w2.heap.size + 1 := by simp
          go_upto_region 11 with fail
          generalize w2.alloc (.cells #[.int .i64 6, .int .i64 gn, .slice bao gx.length bc] 27) = wC at *
          have hb3 := (hk12.block (w.heap.size + 1) hl2 (fun f => f)).trans hb2
          have p1 : wC.cell? ⟨w.heap.size + 1, 1, none⟩ = some (.int .i64 0) := by rw [cell_block _ _ _ _ _ _ hb3]; rfl
          have pf := frozen_block _ _ 1 _ _ hb3
          have x1 : wC.cell? ⟨w2.heap.size, 1, none⟩ = some (.int .i64 gn) := by rw [cell_block _ _ _ _ _ _ hx3]; rfl
          have HB3 := hid_of hb3
          have HX3 := hid_of hx3
          have HK12 := hid_of hk12
          have HH6 := hid_of h6
          have HH7 := hid_of h7
          clear hcall h6 h7 hb2 hb3 hk12 hx3 HPX
          go_upto_region 12 with fail
          have hkD := kept_set wC (w.heap.size + 1) 1 (.int .i64 gn)
          have hb4 : (wC.setCell ⟨w.heap.size + 1, 1, none⟩ (.int .i64 gn)).heap[w.heap.size + 1]? = some (.cells #[.int .i64 6, .int .i64 gn, .slice none 0 0] 54 (0, 0)) := by rw [set_block _ _ _ _ _ _ HB3.out]; rfl
          have hx4 := (hkD.block w2.heap.size (by omega) (by omega)).trans HX3.out
          have hszD : (wC.setCell ⟨w.heap.size + 1, 1, none⟩ (.int .i64 gn)).heap.size = w2.heap.size + 1 := by simp [hszC]
          clear p1 pf x1
          generalize wC.setCell ⟨w.heap.size + 1, 1, none⟩ (.int .i64 gn) = wD at *
          have p2 : wD.cell? ⟨w.heap.size + 1, 2, none⟩ = some (.slice none 0 0) := by rw [cell_block _ _ _ _ _ _ hb4]; rfl
          have pf2 := frozen_block _ _ 2 _ _ hb4
          have x2 : wD.cell? ⟨w2.heap.size, 2, none⟩ = some (.slice bao gx.length bc) := by rw [cell_block _ _ _ _ _ _ hx4]; rfl
          have hk23 : Kept (fun q => q = w.heap.size + 1) w2 (wD.setCell ⟨w.heap.size + 1, 2, none⟩ (.slice bao gx.length bc)) := ((HK12.out.mono (fun _ _ f => f.elim)).trans hkD).trans (kept_set _ _ _ _)
          have hszW : (wD.setCell ⟨w.heap.size + 1, 2, none⟩ (.slice bao gx.length bc)).heap.size = w2.heap.size + 1 := by simp [hszD]
          have HM : Hid (∃ (y : ItV) (q : Nat) (f : Int), (wD.setCell ⟨w.heap.size + 1, 2, none⟩ (.slice bao gx.length bc)).heap[w.heap.size + 1]? = some (.cells #[.int .i64 y.k, .int .i64 y.n, y.bv] 54 (0, 0)) ∧ (y.k = 6 ∧ (1 ≤ (6 : Int) ∧ (6 : Int) ≤ 9)) ∧ Kept (fun q => q = rj) w (wD.setCell ⟨w.heap.size + 1, 2, none⟩ (.slice bao gx.length bc)) ∧ RR (wD.setCell ⟨w.heap.size + 1, 2, none⟩ (.slice bao gx.length bc)) rj v q f ∧ IsB (wD.setCell ⟨w.heap.size + 1, 2, none⟩ (.slice bao gx.length bc)) y.bv y.xs ∧ ((f = 0 ∧ q ≤ xs.length ∧ oneD 6 cn (xs.drop p) = .ok ((y.n, y.xs), xs.drop q) ∧ ∀ b, y.bv.ownBlock = some b → w.heap.size ≤ b ∧ b < (wD.setCell ⟨w.heap.size + 1, 2, none⟩ (.slice bao gx.length bc)).heap.size) ∨ (oneD 6 cn (xs.drop p) = .error f ∧ f ≠ 0))) := ⟨⟨6, gn, .slice bao gx.length bc, gx⟩, q, f, by rw [set_block _ _ _ _ _ _ hb4]; rfl, ⟨rfl, by decide⟩, ((HKA.out.mono (fun _ _ f => f.elim)).trans HH7.out).step hk23 (fun q hq e => by omega), HH6.out.kept hk23 (by omega), h4.kept hk23 (fun b hb e => by have := (h5 b hb).1; omega), .inl ⟨hf, h2, h1, fun b hb => by rw [hszW]; have := h5 b hb; omega⟩⟩
          clear hb4 hx4 hk23 hkD HB3 HX3 HK12 HH6 HH7 hszW
          go_wp2_with fail
          go_meet
          exact ⟨rfl, rfl, HM.out⟩
        · have hf0 : f ≠ 0 := oneD_fault (fun x hx => HBO.out.1 x (List.mem_of_mem_drop hx)) h1
          have hsz2 := h7.size
          have hl2 : w.heap.size + 1 < w2.heap.size := by omega
          have hb2 := (h7.block (w.heap.size + 1) (by rw [hszA]; omega) (by omega)).trans HPX.out
          have hk12 : Kept (fun _ => False) w2 (w2.alloc (.cells #[.int .i64 6, .int .i64 0, .slice none 0 0] 27)) := (Kept.refl _ _).alloc _
          have hx3 := heap_alloc_new w2 (.cells #[.int .i64 6, .int .i64 0, .slice none 0 0] 27)
          have hszC : (w2.alloc (.cells #[.int .i64 6, .int .i64 0, .slice none 0 0] 27)).heap.size = w2.heap.size + 1 := by simp
          go_upto_region 11 with fail
          generalize w2.alloc (.cells #[.int .i64 6, .int .i64 0, .slice none 0 0] 27) = wC at *
          have hb3 := (hk12.block (w.heap.size + 1) hl2 (fun f => f)).trans hb2
          have p1 : wC.cell? ⟨w.heap.size + 1, 1, none⟩ = some (.int .i64 0) := by rw [cell_block _ _ _ _ _ _ hb3]; rfl
          have pf := frozen_block _ _ 1 _ _ hb3
          have x1 : wC.cell? ⟨w2.heap.size, 1, none⟩ = some (.int .i64 0) := by rw [cell_block _ _ _ _ _ _ hx3]; rfl
          have HB3 := hid_of hb3
          have HX3 := hid_of hx3
          have HK12 := hid_of hk12
          have HH6 := hid_of h6
          have HH7 := hid_of h7
          clear hcall h6 h7 hb2 hb3 hk12 hx3 HPX
          go_upto_region 12 with fail
          have hkD := kept_set wC (w.heap.size + 1) 1 (.int .i64 0)
          have hb4 : (wC.setCell ⟨w.heap.size + 1, 1, none⟩ (.int .i64 0)).heap[w.heap.size + 1]? = some (.cells #[.int .i64 6, .int .i64 0, .slice none 0 0] 54 (0, 0)) := by rw [set_block _ _ _ _ _ _ HB3.out]; rfl
          have hx4 := (hkD.block w2.heap.size (by omega) (by omega)).trans HX3.out
          have hszD : (wC.setCell ⟨w.heap.size + 1, 1, none⟩ (.int .i64 0)).heap.size = w2.heap.size + 1 := by simp [hszC]
          clear p1 pf x1
          generalize wC.setCell ⟨w.heap.size + 1, 1, none⟩ (.int .i64 0) = wD at *
          have p2 : wD.cell? ⟨w.heap.size + 1, 2, none⟩ = some (.slice none 0 0) := by rw [cell_block _ _ _ _ _ _ hb4]; rfl
          have pf2 := frozen_block _ _ 2 _ _ hb4
          have x2 : wD.cell? ⟨w2.heap.size, 2, none⟩ = some (.slice none 0 0) := by rw [cell_block _ _ _ _ _ _ hx4]; rfl
          have hk23 : Kept (fun q => q = w.heap.size + 1) w2 (wD.setCell ⟨w.heap.size + 1, 2, none⟩ (.slice none 0 0)) := ((HK12.out.mono (fun _ _ f => f.elim)).trans hkD).trans (kept_set _ _ _ _)
          have hszW : (wD.setCell ⟨w.heap.size + 1, 2, none⟩ (.slice none 0 0)).heap.size = w2.heap.size + 1 := by simp [hszD]
          have HM : Hid (∃ (y : ItV) (q : Nat) (f : Int), (wD.setCell ⟨w.heap.size + 1, 2, none⟩ (.slice none 0 0)).heap[w.heap.size + 1]? = some (.cells #[.int .i64 y.k, .int .i64 y.n, y.bv] 54 (0, 0)) ∧ (y.k = 6 ∧ (1 ≤ (6 : Int) ∧ (6 : Int) ≤ 9)) ∧ Kept (fun q => q = rj) w (wD.setCell ⟨w.heap.size + 1, 2, none⟩ (.slice none 0 0)) ∧ RR (wD.setCell ⟨w.heap.size + 1, 2, none⟩ (.slice none 0 0)) rj v q f ∧ IsB (wD.setCell ⟨w.heap.size + 1, 2, none⟩ (.slice none 0 0)) y.bv y.xs ∧ ((f = 0 ∧ q ≤ xs.length ∧ oneD 6 cn (xs.drop p) = .ok ((y.n, y.xs), xs.drop q) ∧ ∀ b, y.bv.ownBlock = some b → w.heap.size ≤ b ∧ b < (wD.setCell ⟨w.heap.size + 1, 2, none⟩ (.slice none 0 0)).heap.size) ∨ (oneD 6 cn (xs.drop p) = .error f ∧ f ≠ 0))) := ⟨⟨6, 0, .slice none 0 0, []⟩, q, f, by rw [set_block _ _ _ _ _ _ hb4]; rfl, ⟨rfl, by decide⟩, ((HKA.out.mono (fun _ _ f => f.elim)).trans HH7.out).step hk23 (fun q hq e => by omega), HH6.out.kept hk23 (by omega), .inl ⟨rfl, _, _, rfl⟩, .inr ⟨h1, hf0⟩⟩
          clear hb4 hx4 hk23 hkD HB3 HX3 HK12 HH6 HH7 hszW
          go_wp2_with fail
          go_meet
          exact ⟨rfl, rfl, HM.out⟩
      · skip
        have hcall := hid_of (most_ref rj v xs p 0 cn wA HV1A.out HV2A.out HBO.out hpx)
        go_wp2_with fail
        refine hcall.out.mono ?_
        rintro e w2 (⟨u, q, h1, h2, h3, rfl, h6, h7⟩ | ⟨f, h1, rfl, h6, h7⟩)
        · have hb2 := (h7.block (w.heap.size + 1) (by rw [hszA]; omega) (by omega)).trans HPX.out
          have p1 : w2.cell? ⟨w.heap.size + 1, 1, none⟩ = some (.int .i64 0) := by rw [cell_block _ _ _ _ _ _ hb2]; rfl
          have pf := frozen_block _ _ 1 _ _ hb2
          have HM : Hid (∃ (y : ItV) (q : Nat) (f : Int), (w2.setCell ⟨w.heap.size + 1, 1, none⟩ (.int .i64 u)).heap[w.heap.size + 1]? = some (.cells #[.int .i64 y.k, .int .i64 y.n, y.bv] 54 (0, 0)) ∧ (y.k = 7 ∧ (1 ≤ (7 : Int) ∧ (7 : Int) ≤ 9)) ∧ Kept (fun q => q = rj) w (w2.setCell ⟨w.heap.size + 1, 1, none⟩ (.int .i64 u)) ∧ RR (w2.setCell ⟨w.heap.size + 1, 1, none⟩ (.int .i64 u)) rj v q f ∧ IsB (w2.setCell ⟨w.heap.size + 1, 1, none⟩ (.int .i64 u)) y.bv y.xs ∧ ((f = 0 ∧ q ≤ xs.length ∧ oneD 7 cn (xs.drop p) = .ok ((y.n, y.xs), xs.drop q) ∧ ∀ b, y.bv.ownBlock = some b → w.heap.size ≤ b ∧ b < (w2.setCell ⟨w.heap.size + 1, 1, none⟩ (.int .i64 u)).heap.size) ∨ (oneD 7 cn (xs.drop p) = .error f ∧ f ≠ 0))) := ⟨⟨7, u, .slice none 0 0, []⟩, q, 0, by rw [set_block _ _ _ _ _ _ hb2]; rfl, ⟨rfl, by decide⟩, ((HKA.out.mono (fun _ _ f => f.elim)).trans h7).setCell (.inl (Nat.le_succ _)) _, h6.kept (kept_set _ _ _ _) (by omega), .inl ⟨rfl, _, _, rfl⟩, .inl ⟨rfl, h3, by simp [oneD, lift1, h1], fun b hb => (by cases hb)⟩⟩
          clear hcall h6 h7 hb2 HPX h1
          go_wp2_with fail
          go_meet
          exact ⟨rfl, rfl, HM.out⟩
        · have hb2 := (h7.block (w.heap.size + 1) (by rw [hszA]; omega) (by omega)).trans HPX.out
          have p1 : w2.cell? ⟨w.heap.size + 1, 1, none⟩ = some (.int .i64 0) := by rw [cell_block _ _ _ _ _ _ hb2]; rfl
          have pf := frozen_block _ _ 1 _ _ hb2
          have HM : Hid (∃ (y : ItV) (q : Nat) (f : Int), (w2.setCell ⟨w.heap.size + 1, 1, none⟩ (.int .i64 0)).heap[w.heap.size + 1]? = some (.cells #[.int .i64 y.k, .int .i64 y.n, y.bv] 54 (0, 0)) ∧ (y.k = 7 ∧ (1 ≤ (7 : Int) ∧ (7 : Int) ≤ 9)) ∧ Kept (fun q => q = rj) w (w2.setCell ⟨w.heap.size + 1, 1, none⟩ (.int .i64 0)) ∧ RR (w2.setCell ⟨w.heap.size + 1, 1, none⟩ (.int .i64 0)) rj v q f ∧ IsB (w2.setCell ⟨w.heap.size + 1, 1, none⟩ (.int .i64 0)) y.bv y.xs ∧ ((f = 0 ∧ q ≤ xs.length ∧ oneD 7 cn (xs.drop p) = .ok ((y.n, y.xs), xs.drop q) ∧ ∀ b, y.bv.ownBlock = some b → w.heap.size ≤ b ∧ b < (w2.setCell ⟨w.heap.size + 1, 1, none⟩ (.int .i64 0)).heap.size) ∨ (oneD 7 cn (xs.drop p) = .error f ∧ f ≠ 0))) := ⟨⟨7, 0, .slice none 0 0, []⟩, p, f, by rw [set_block _ _ _ _ _ _ hb2]; rfl, ⟨rfl, by decide⟩, ((HKA.out.mono (fun _ _ f => f.elim)).trans h7).setCell (.inl (Nat.le_succ _)) _, h6.kept (kept_set _ _ _ _) (by omega), .inl ⟨rfl, _, _, rfl⟩, .inr ⟨by simp [oneD, lift1, h1], oneD_fault (k := 7) (n := cn) (xs := xs.drop p) (fun x hx => HBO.out.1 x (List.mem_of_mem_drop hx)) (by simp [oneD, lift1, h1])⟩⟩
          clear hcall h6 h7 hb2 HPX h1
          go_wp2_with fail
          go_meet
          exact ⟨rfl, rfl, HM.out⟩
      · skip
        have hvA := HV1A.out
        rw [HVV.out] at hvA
        have hcall := hid_of (left_ref rj vao xs.length vc p 0 wA hvA hpx hbl)
        clear hvA
        go_wp2_with fail
        refine hcall.out.mono ?_
        rintro e w2 ⟨rfl, d, rfl⟩
        have hkd : Kept (fun _ => False) wA (wA.drewN d) := kept_drewN (Kept.refl _ _) d
        have hb2 := (hkd.block (w.heap.size + 1) (by rw [hszA]; omega) (fun f => f)).trans HPX.out
        have p1 : (wA.drewN d).cell? ⟨w.heap.size + 1, 1, none⟩ = some (.int .i64 0) := by rw [cell_block _ _ _ _ _ _ hb2]; rfl
        have pf := frozen_block _ _ 1 _ _ hb2
        have HM : Hid (∃ (y : ItV) (q : Nat) (f : Int), ((wA.drewN d).setCell ⟨w.heap.size + 1, 1, none⟩ (.int .i64 ((xs.length : Int) - p))).heap[w.heap.size + 1]? = some (.cells #[.int .i64 y.k, .int .i64 y.n, y.bv] 54 (0, 0)) ∧ (y.k = 8 ∧ (1 ≤ (8 : Int) ∧ (8 : Int) ≤ 9)) ∧ Kept (fun q => q = rj) w ((wA.drewN d).setCell ⟨w.heap.size + 1, 1, none⟩ (.int .i64 ((xs.length : Int) - p))) ∧ RR ((wA.drewN d).setCell ⟨w.heap.size + 1, 1, none⟩ (.int .i64 ((xs.length : Int) - p))) rj v q f ∧ IsB ((wA.drewN d).setCell ⟨w.heap.size + 1, 1, none⟩ (.int .i64 ((xs.length : Int) - p))) y.bv y.xs ∧ ((f = 0 ∧ q ≤ xs.length ∧ oneD 8 cn (xs.drop p) = .ok ((y.n, y.xs), xs.drop q) ∧ ∀ b, y.bv.ownBlock = some b → w.heap.size ≤ b ∧ b < ((wA.drewN d).setCell ⟨w.heap.size + 1, 1, none⟩ (.int .i64 ((xs.length : Int) - p))).heap.size) ∨ (oneD 8 cn (xs.drop p) = .error f ∧ f ≠ 0))) := ⟨⟨8, (xs.length : Int) - p, .slice none 0 0, []⟩, p, 0, by rw [set_block _ _ _ _ _ _ hb2]; rfl, ⟨rfl, by decide⟩, ((HKA.out.trans hkd).mono (fun _ _ f => f.elim)).setCell (.inl (Nat.le_succ _)) _, (HV1A.out.kept hkd (fun f => f)).kept (kept_set _ _ _ _) (by omega), .inl ⟨rfl, _, _, rfl⟩, .inl ⟨rfl, hpx, by simp [oneD]; omega, fun b hb => (by cases hb)⟩⟩
        clear hcall HPX hkd hb2
        go_wp2_with fail
        go_meet
        exact ⟨rfl, rfl, HM.out⟩
      · skip
        obtain ⟨_, _, c2, c3, c4⟩ := HV1A.out.cells
        have c3' := c3 2
        obtain ⟨f1, f2⟩ := HV1A.out.fault cn
        have HM : Hid (∃ (y : ItV) (q : Nat) (f : Int), (wA.setCell ⟨rj, 2, none⟩ (.int .i64 cn)).heap[w.heap.size + 1]? = some (.cells #[.int .i64 y.k, .int .i64 y.n, y.bv] 54 (0, 0)) ∧ (y.k = 9 ∧ (1 ≤ (9 : Int) ∧ (9 : Int) ≤ 9)) ∧ Kept (fun q => q = rj) w (wA.setCell ⟨rj, 2, none⟩ (.int .i64 cn)) ∧ RR (wA.setCell ⟨rj, 2, none⟩ (.int .i64 cn)) rj v q f ∧ IsB (wA.setCell ⟨rj, 2, none⟩ (.int .i64 cn)) y.bv y.xs ∧ ((f = 0 ∧ q ≤ xs.length ∧ oneD 9 cn (xs.drop p) = .ok ((y.n, y.xs), xs.drop q) ∧ ∀ b, y.bv.ownBlock = some b → w.heap.size ≤ b ∧ b < (wA.setCell ⟨rj, 2, none⟩ (.int .i64 cn)).heap.size) ∨ (oneD 9 cn (xs.drop p) = .error f ∧ f ≠ 0))) := ⟨⟨9, 0, .slice none 0 0, []⟩, p, cn, (f2.block (w.heap.size + 1) (by rw [hszA]; omega) (by omega)).trans HPX.out, ⟨rfl, by decide⟩, (HKA.out.mono (fun _ _ f => f.elim)).trans f2, f1, .inl ⟨rfl, _, _, rfl⟩, by
          by_cases hn : cn = 0
          · exact .inl ⟨hn, hpx, by simp [oneD, hn], fun b hb => (by cases hb)⟩
          · exact .inr ⟨by simp [oneD, hn], hn⟩⟩
        clear c3 f1 f2 HPX
        go_wp2_with fail
        go_meet
        exact ⟨rfl, rfl, HM.out⟩
    · have n1 : (ck == 1) = false := by simp; omega
      have n2 : (ck == 2) = false := by simp; omega
      have n3 : (ck == 3) = false := by simp; omega
      have n4 : (ck == 4) = false := by simp; omega
      have n5 : (ck == 5) = false := by simp; omega
      have n6 : (ck == 6) = false := by simp; omega
      have n7 : (ck == 7) = false := by simp; omega
      have n8 : (ck == 8) = false := by simp; omega
      have n9 : (ck == 9) = false := by simp; omega
      have HPO : Hid (CallPostP W w κ sb callsV rb rV eV s ⟨ck, cn, co, .slice cao cl cc, cxs⟩ (.returned (.tuple #[])) wA) :=
        ⟨rfl, .inl ⟨s, by unfold callP; rw [if_neg hck], κ, tV, told, HREP.out.new HKA.out, HLV.out.new HKA.out, HKA.out.mono (fun _ _ f => f.elim), fun _ _ => rfl⟩⟩
      go_wp2
      refine body_retv rfl rfl ?_
      exact HPO.out
  case rest =>
    obtain ⟨hx6, hx7, ⟨yk, yn, ybv, yxs⟩, q, f, hpb, ⟨hyk, hck⟩, hkx, hrr, hyb, hcase⟩ := hcut
    subst hx6
    subst hx7
    obtain ⟨yao, yc, hyv⟩ := hyb.shape
    dsimp only at hyv hpb hyk hcase
    subst hyv
    subst hyk
    rename World => w3
    obtain ⟨hwj, hjD2, l1, hxs, hrj, hrm⟩ := HJ.out
    obtain ⟨_, _, c2, _, c4⟩ := hrr.cells
    rcases hcase with ⟨hf0, hqx, hone, hyo⟩ | ⟨hone, hf0⟩
    · subst hf0
      have hag : ∀ q, q < w.heap.size → named κ (.slice yao yxs.length yc) 8 q = κ q := fun q hq => by
        unfold named
        rw [if_neg (fun e => by have := (hyo q e).1; omega)]
      have HR3 := hid_of (HREP.out.kept hkx (fun q hq e => .inl (by rw [e]; exact hk6)) hag)
      have HDONE : Hid (∀ (tV' : Value) (w5 : World), w5.ownsRow 0 54 3 tV' (told.length + 1) (told.flatMap ItV.cells ++ [.int .i64 yk, .int .i64 yn, .slice yao yxs.length yc]) → Kept (fun q => tV.ownBlock = some q) w3 w5 → (tV'.ownBlock = tV.ownBlock ∨ ∀ q, tV'.ownBlock = some q → w3.heap.size ≤ q) → CallPostP W w κ sb callsV rb rV eV s ⟨yk, cn, co, .slice cao cl cc, cxs⟩ (.returned (.tuple #[])) (w5.setCell ⟨sb, 3, none⟩ tV')) := fun tV' w5 hown hk hat =>
        pcall_told (y := ⟨yk, yn, .slice yao yxs.length yc, yxs⟩) (rest' := xs.drop q) HR3.out hag (fun b hb => (HREP.out.c6 b hb).1) HLV.out hwj hjD2 (by rw [← hrj]; exact hkx) (by rw [← hrj]; exact ⟨v, xs, q, hrr, HSRC.out, hqx, rfl⟩) hck rfl (by rw [← hxs]; exact hone) hyb (fun q hq => ⟨named_new q hq, (hyo q hq).2⟩) hown hk hat
      have p0 : w3.cell? ⟨w.heap.size + 1, 0, none⟩ = some (.int .i64 yk) := by rw [cell_block _ _ _ _ _ _ hpb]; rfl
      have p1 : w3.cell? ⟨w.heap.size + 1, 1, none⟩ = some (.int .i64 yn) := by rw [cell_block _ _ _ _ _ _ hpb]; rfl
      have p2 : w3.cell? ⟨w.heap.size + 1, 2, none⟩ = some (.slice yao yxs.length yc) := by rw [cell_block _ _ _ _ _ _ hpb]; rfl
      have hpl : w.heap.size + 1 < w3.heap.size := (Array.getElem?_eq_some_iff.1 hpb).1
      have d1 := HR3.out.cells.2.2.2.1
      have hs3 := HR3.out.lt
      have HROW := hid_of HR3.out.trow
      have HTS : Hid (∀ w5 : World, Kept (fun q => tV.ownBlock = some q) w3 w5 → w5.cell? ⟨sb, 3, none⟩ = some tV ∧ w5.frozen? ⟨sb, 3, none⟩ = false) := fun w5 hk5 => by
        have h5 := (hk5.block sb HR3.out.lt (fun e => by have := HR3.out.c4 sb e; rw [HR3.out.c1] at this; omega)).trans HR3.out.blk
        exact ⟨by rw [cell_block _ _ _ _ _ _ h5]; rfl, frozen_block _ _ _ _ _ h5⟩
      clear hpb hrr hkx hyb hyo hag hone HREP HR3 HJ HLV HV1A HV2A HPX HKA hwA hxs hrj hrm a0 a1 HHR HBO HSRC HVV HDD
      go_wp2_with fail
      go_region_law (first | (refine step_own_at rfl (.tmp 74) (.tmp 76) 35 rfl 0 54 i54 (.agg #[.int .i64 0, .int .i64 0, .slice none 0 0]) 3 40 Try.underlying35 hi54 z540 z541 z542 rfl (by decide) tV told.length (told.flatMap ItV.cells) rfl (by exact HROW.out.alloc _) ⟨w3.heap.size, 0, none⟩ 1 1 [.int .i64 yk, .int .i64 yn, .slice yao yxs.length yc] rfl rfl (by intro j u hj; simpa using cell_three_new w3 _ _ _ 54 j u hj) (by intro u hu; simp at hu; rcases hu with rfl | rfl | rfl <;> rfl) (by unfold maxLen; omega) (by omega) (Nat.zero_le _) ?_; intro tV' w5 hown' hgrow hat; have hk5 := kept_app (w3 := w3) hgrow (by first | exact (Kept.refl _ w3).alloc _ | exact ((Kept.refl _ w3).alloc _).drew | exact ((Kept.refl _ w3).drew).alloc _); obtain ⟨k1, k2⟩ := HTS.out w5 hk5; have HR6 := hid_of (HDONE.out tV' w5 hown' hk5 (hat_of hat (by simp))); obtain ⟨tao, tcap, rfl⟩ := ownsRow_shape hown'; clear hown' hgrow hat hk5))
      all_goals (try go_wp2)
      all_goals (try go_end0)
      all_goals first | exact HR6.out | exact HR6.out.drew
    · have hfb : (f == 0) = false := by simpa using hf0
      have HPO : Hid (CallPostP W w κ sb callsV rb rV eV s ⟨yk, cn, co, .slice cao cl cc, cxs⟩ (.returned (.tuple #[])) w3) :=
        ⟨rfl, .inr ⟨j, f, by rw [callP_bad hck (by rw [l1, hwj, ← hxs]; exact hone), l1, hwj], hjD2, hf0, ⟨v, q, by rw [← hrj]; exact hrr⟩, by rw [← hrj]; exact hkx⟩⟩
      clear hpb hrr hkx hyb hone HREP HJ HLV HV1A HV2A HPX HKA hwA hxs hrj hrm a0 a1 HHR HBO HSRC HVV HDD
      go_wp2
      go_end0
      exact HPO.out
end Go.Proofs.Ytffabihenhejfaa
