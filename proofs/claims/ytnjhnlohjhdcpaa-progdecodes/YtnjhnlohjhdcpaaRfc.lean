/-
  Rfc: Rfw, Rfz.
-/
import Derived.Test.YtnjhnlohjhdcpaaRfa
import Derived.Deep.DeepCutAuto
import Derived.Deep.CutBlock
import Derived.Test.YtnjhnlohjhdcpaaRfy
namespace Go.Proofs.Ytnjhnlohjhdcpaa
open Go.RowKit Go.Deep
set_option linter.unusedVariables false

/-- What the reference's Read answers. -/
def ReadR (k n : Int) (xs : List Int) (w : World) (r : Nat) (v : Value) (p : Nat) (e : Ending) (w' : World) : Prop :=
  (∃ (g : Int × List Int) (q : Nat) (bv : Value), oneD k n (xs.drop p) = .ok (g, xs.drop q) ∧ q ≤ xs.length ∧ e = .returned (.agg #[.int .i64 k, .int .i64 g.1, bv]) ∧ IsB w' bv g.2 ∧ (∀ b, bv.ownBlock = some b → w.heap.size ≤ b ∧ b < w'.heap.size) ∧ RR w' r v q 0 ∧ Kept (fun q => q = r) w w') ∨
  ∃ f q, oneD k n (xs.drop p) = .error f ∧ e = .returned (.agg #[.int .i64 k, .int .i64 0, .slice none 0 0]) ∧ RR w' r v q f ∧ Kept (fun q => q = r) w w'

/-- What is laid ahead of a Read's call. -/
structure At60 (w wA : World) (k : Int) (r : Nat) (v : Value) (p : Nat) (xs : List Int) : Prop where
  kept : Kept (fun _ => False) w wA
  res : wA.heap[w.heap.size]? = some (.cells #[.int .i64 0, .int .i64 0, .slice none 0 0] 63 (0, 0))
  x : wA.heap[w.heap.size + 1]? = some (.cells #[.int .i64 k, .int .i64 0, .slice none 0 0] 63 (0, 0))
  rr : RR wA r v p 0
  isb : IsB wA v xs
  size : wA.heap.size = w.heap.size + 2

theorem at60 (w : World) (k : Int) (r : Nat) (v : Value) (p : Nat) (xs : List Int) (h : RR w r v p 0) (hx : IsB w v xs) :
    At60 w ((w.alloc (.cells #[.int .i64 0, .int .i64 0, .slice none 0 0] 63)).alloc (.cells #[.int .i64 k, .int .i64 0, .slice none 0 0] 63)) k r v p xs := by
  have hk : Kept (fun _ => False) w ((w.alloc (.cells #[.int .i64 0, .int .i64 0, .slice none 0 0] 63)).alloc (.cells #[.int .i64 k, .int .i64 0, .slice none 0 0] 63)) := ((Kept.refl _ _).alloc _).alloc _
  have h1 := heap_alloc_new w (.cells #[.int .i64 0, .int .i64 0, .slice none 0 0] 63)
  have h2 := heap_alloc_new (w.alloc (.cells #[.int .i64 0, .int .i64 0, .slice none 0 0] 63)) (.cells #[.int .i64 k, .int .i64 0, .slice none 0 0] 63)
  have hs : (w.alloc (.cells #[.int .i64 0, .int .i64 0, .slice none 0 0] 63)).heap.size = w.heap.size + 1 := by simp
  rw [hs] at h2
  exact ⟨hk, by rw [Below.heap_alloc _ _ _ (by rw [hs]; omega)]; exact h1, h2, h.kept hk (fun f => f), hx.kept hk (fun _ _ f => f), by simp⟩

theorem sizeItem : (Try.prog.info? 63).map (·.size) = some 3 := by kernel_rfl

/-- What a Read leaves when its answer is laid. -/
def laid60 (w w3 : World) (k n' : Int) (bv : Value) : World := ((w3.setCell ⟨w.heap.size, 0, none⟩ (.int .i64 k)).setCell ⟨w.heap.size, 1, none⟩ (.int .i64 n')).setCell ⟨w.heap.size, 2, none⟩ bv

/-- What is told of a Read's last steps. -/
theorem end60 {w w2 : World} {r q : Nat} {k n' f : Int} {v bv u0 u1 u2 : Value} {w3 : World} (hk2 : Kept (fun q => q = r) w w2) (hb2 : w2.heap[w.heap.size]? = some (.cells #[u0, u1, u2] 63 (0, 0))) (hx2 : w2.heap[w.heap.size + 1]? = some (.cells #[.int .i64 k, .int .i64 n', bv] 63 (0, 0))) (hrl : r < w.heap.size) (h3 : RR w3 r v q f) (hk3 : Kept (fun q => q = r) w2 w3) :
    w3.cell? ⟨w.heap.size + 1, 0, none⟩ = some (.int .i64 k) ∧ w3.cell? ⟨w.heap.size + 1, 1, none⟩ = some (.int .i64 n') ∧ w3.cell? ⟨w.heap.size + 1, 2, none⟩ = some bv ∧ w3.cell? ⟨w.heap.size, 0, none⟩ = some u0 ∧ w3.cell? ⟨w.heap.size, 1, none⟩ = some u1 ∧ w3.cell? ⟨w.heap.size, 2, none⟩ = some u2 ∧ w3.frozen? ⟨w.heap.size, 0, none⟩ = false ∧ w3.frozen? ⟨w.heap.size, 1, none⟩ = false ∧ w3.frozen? ⟨w.heap.size, 2, none⟩ = false ∧ w.heap.size + 1 < w3.heap.size ∧
    RR (laid60 w w3 k n' bv) r v q f ∧ Kept (fun q => q = r) w (laid60 w w3 k n' bv) ∧ Kept (fun q => q = w.heap.size) w3 (laid60 w w3 k n' bv) ∧ (laid60 w w3 k n' bv).heap[w.heap.size]? = some (.cells #[.int .i64 k, .int .i64 n', bv] 63 (0, 0)) := by
  have a1 := (hk3.block (w.heap.size + 1) (Array.getElem?_eq_some_iff.1 hx2).1 (by omega)).trans hx2
  have a2 := (hk3.block w.heap.size (Array.getElem?_eq_some_iff.1 hb2).1 (by omega)).trans hb2
  have hk : Kept (fun q => q = w.heap.size) w3 (laid60 w w3 k n' bv) := ((kept_set w3 w.heap.size 0 _).trans (kept_set _ w.heap.size 1 _)).trans (kept_set _ w.heap.size 2 _)
  refine ⟨by rw [cell_block _ _ _ _ _ _ a1]; rfl, by rw [cell_block _ _ _ _ _ _ a1]; rfl, by rw [cell_block _ _ _ _ _ _ a1]; rfl, by rw [cell_block _ _ _ _ _ _ a2]; rfl, by rw [cell_block _ _ _ _ _ _ a2]; rfl, by rw [cell_block _ _ _ _ _ _ a2]; rfl, frozen_block _ _ _ _ _ a2, frozen_block _ _ _ _ _ a2, frozen_block _ _ _ _ _ a2, (Array.getElem?_eq_some_iff.1 a1).1, h3.kept hk (by omega), (hk2.trans hk3).step hk (fun i hi e => by omega), hk, ?_⟩
  unfold laid60
  have b1 := set_block w3 w.heap.size 0 _ _ _ a2 (.int .i64 k)
  have b2 := set_block _ w.heap.size 1 _ _ _ b1 (.int .i64 n')
  have b3 := set_block _ w.heap.size 2 _ _ _ b2 bv
  exact b3

set_option maxRecDepth 100000 in
set_option maxHeartbeats 2000000 in
theorem read_ref1 (r : Nat) (v : Value) (xs : List Int) (p : Nat) (n : Int) (w : World) (h : RR w r v p 0) (hx : IsB w v xs) (hb : BytesOk xs) (hp : p ≤ xs.length) :
    Calls Try.prog 59 #[.pointer (some ⟨r, 0, none⟩), .int .i64 1, .int .i64 n] w (ReadR 1 n xs w r v p) := by
  have HA := hid_of (at60 w 1 r v p xs h hx)
  have HB := hid_of hb
  have hrl := h.cells.2.2.2.2
  have hl := hb.2
  clear h hx hb
  go_enter Try.func59, Try.ntmps59
  go_upto_block 0 with fail
  generalize hwA : (w.alloc (.cells #[.int .i64 0, .int .i64 0, .slice none 0 0] 63)).alloc (.cells #[.int .i64 1, .int .i64 0, .slice none 0 0] 63) = wA at *
  have HN := hid_of (num_ref r v xs p 0 wA HA.out.rr HA.out.isb HB.out hp)
  go_wp2_with fail
  refine HN.out.mono ?_
  rintro e w1 (⟨u, q, hf, hq, hqn, h0, h1, rfl, hk⟩ | ⟨f, hf, rfl, hr, hk⟩)
  · have hw : IntKind.i64.wrap ((p : Int) + ((q : Int) - p)) = (q : Int) := by simp [IntKind.wrap, IntKind.bits, IntKind.signed]; omega
    have HE : Hid (oneD 1 n (xs.drop p) = .ok ((u, []), xs.drop q)) := by unfold Hid oneD; rw [if_pos rfl, hf]; rfl
    have hs1 := hk.size
    have hxb := (hk.block (w.heap.size + 1) (by rw [HA.out.size]; omega) (fun f => f)).trans HA.out.x
    have hrb := (hk.block w.heap.size (by rw [HA.out.size]; omega) (fun f => f)).trans HA.out.res
    have hkw : Kept (fun q => q = r) w w1 := (HA.out.kept.trans hk).mono (fun _ _ f => f.elim)
    have HXB := hid_of hxb
    have HRB := hid_of hrb
    have HKW := hid_of hkw
    have HR1 := hid_of (HA.out.rr.kept hk (fun f => f))
    clear hf hk hxb hrb hkw HN
    have x1 : w1.cell? ⟨w.heap.size + 1, 1, none⟩ = some (.int .i64 0) := by rw [cell_block _ _ _ _ _ _ HXB.out]; rfl
    have xf := frozen_block _ _ 1 _ _ HXB.out
    have xl := (Array.getElem?_eq_some_iff.1 HXB.out).1
    go_upto_region 6 with fail
    have k2 := kept_set w1 (w.heap.size + 1) 1 (.int .i64 (u))
    have hx2 : (w1.setCell ⟨w.heap.size + 1, 1, none⟩ (.int .i64 (u))).heap[w.heap.size + 1]? = some (.cells #[.int .i64 1, .int .i64 (u), .slice none 0 0] 63 (0, 0)) := by rw [set_block _ _ _ _ _ _ HXB.out]; rfl
    have hr2 := HR1.out.kept k2 (by omega)
    have hb2 := (k2.block w.heap.size (Array.getElem?_eq_some_iff.1 HRB.out).1 (by omega)).trans HRB.out
    have hk2 : Kept (fun q => q = r) w (w1.setCell ⟨w.heap.size + 1, 1, none⟩ (.int .i64 (u))) := HKW.out.step k2 (fun i hi e => by omega)
    clear x1 xf xl
    generalize w1.setCell ⟨w.heap.size + 1, 1, none⟩ (.int .i64 (u)) = w2 at *
    obtain ⟨_, r1, _, rf, rl⟩ := hr2.cells
    have rf1 := rf 1
    obtain ⟨e1, e2⟩ := hr2.at q
    have HEND := hid_of (end60 hk2 hb2 hx2 hrl e1 e2)
    clear k2 hx2 hr2 hb2 hk2 HXB HRB HR1 HKW rf e1 e2
    go_upto_region 28 with fail
    clear r1 rf1
    generalize w2.setCell ⟨r, 1, none⟩ (.int .i64 (q : Int)) = w3 at *
    obtain ⟨z0, z1, z2, y0, y1, y2, g0, g1, g2, hsz, f1, f2, f3, f4⟩ := HEND.out
    have HF := hid_of f4
    have HG : Hid (ReadR 1 n xs w r v p (.returned (.agg #[.int .i64 1, .int .i64 u, .slice none 0 0])) (laid60 w w3 1 (u) (.slice none 0 0))) := .inl ⟨(u, []), q, .slice none 0 0, HE.out, hqn, rfl, .inl ⟨rfl, _, _, rfl⟩, fun b hb => (by cases hb), f1, f2⟩
    clear f1 f2 f3 f4 HEND
    unfold laid60 at HF HG
    go_wp2
    refine bodyPost_ret (v := .agg #[.int .i64 1, .int .i64 u, .slice none 0 0]) ?_ rfl HG.out
    exact results_cell_row (by rfl) _ _ w.heap.size 63 _ (0, 0) _ (by rfl) HF.out Try.underlying63 rfl sizeItem
  · have hw : IntKind.i64.wrap (p : Int) = (p : Int) := by simp [IntKind.wrap, IntKind.bits, IntKind.signed]; omega
    have HE : Hid (oneD 1 n (xs.drop p) = .error f) := by unfold Hid oneD; rw [if_pos rfl, hf]; rfl
    have hs1 := hk.size
    have hxb := (hk.block (w.heap.size + 1) (by rw [HA.out.size]; omega) (by omega)).trans HA.out.x
    have hrb := (hk.block w.heap.size (by rw [HA.out.size]; omega) (by omega)).trans HA.out.res
    have hkw : Kept (fun q => q = r) w w1 := (HA.out.kept.mono (fun _ _ f => f.elim)).trans hk
    have HXB := hid_of hxb
    have HRB := hid_of hrb
    have HKW := hid_of hkw
    have HR1 := hid_of hr
    clear hf hk hxb hrb hkw hr HN
    have x1 : w1.cell? ⟨w.heap.size + 1, 1, none⟩ = some (.int .i64 0) := by rw [cell_block _ _ _ _ _ _ HXB.out]; rfl
    have xf := frozen_block _ _ 1 _ _ HXB.out
    have xl := (Array.getElem?_eq_some_iff.1 HXB.out).1
    go_upto_region 6 with fail
    have k2 := kept_set w1 (w.heap.size + 1) 1 (.int .i64 (0))
    have hx2 : (w1.setCell ⟨w.heap.size + 1, 1, none⟩ (.int .i64 (0))).heap[w.heap.size + 1]? = some (.cells #[.int .i64 1, .int .i64 (0), .slice none 0 0] 63 (0, 0)) := by rw [set_block _ _ _ _ _ _ HXB.out]; rfl
    have hr2 := HR1.out.kept k2 (by omega)
    have hb2 := (k2.block w.heap.size (Array.getElem?_eq_some_iff.1 HRB.out).1 (by omega)).trans HRB.out
    have hk2 : Kept (fun q => q = r) w (w1.setCell ⟨w.heap.size + 1, 1, none⟩ (.int .i64 (0))) := HKW.out.step k2 (fun i hi e => by omega)
    clear x1 xf xl
    generalize w1.setCell ⟨w.heap.size + 1, 1, none⟩ (.int .i64 (0)) = w2 at *
    obtain ⟨_, r1, _, rf, rl⟩ := hr2.cells
    have rf1 := rf 1
    obtain ⟨e1, e2⟩ := hr2.at p
    have HEND := hid_of (end60 hk2 hb2 hx2 hrl e1 e2)
    clear k2 hx2 hr2 hb2 hk2 HXB HRB HR1 HKW rf e1 e2
    go_upto_region 28 with fail
    clear r1 rf1
    generalize w2.setCell ⟨r, 1, none⟩ (.int .i64 (p : Int)) = w3 at *
    obtain ⟨z0, z1, z2, y0, y1, y2, g0, g1, g2, hsz, f1, f2, f3, f4⟩ := HEND.out
    have HF := hid_of f4
    have HG : Hid (ReadR 1 n xs w r v p (.returned (.agg #[.int .i64 1, .int .i64 0, .slice none 0 0])) (laid60 w w3 1 (0) (.slice none 0 0))) := .inr ⟨f, p, HE.out, rfl, f1, f2⟩
    clear f1 f2 f3 f4 HEND
    unfold laid60 at HF HG
    go_wp2
    refine bodyPost_ret (v := .agg #[.int .i64 1, .int .i64 0, .slice none 0 0]) ?_ rfl HG.out
    exact results_cell_row (by rfl) _ _ w.heap.size 63 _ (0, 0) _ (by rfl) HF.out Try.underlying63 rfl sizeItem

set_option maxRecDepth 100000 in
set_option maxHeartbeats 2000000 in
theorem read_ref2 (r : Nat) (v : Value) (xs : List Int) (p : Nat) (n : Int) (w : World) (h : RR w r v p 0) (hx : IsB w v xs) (hb : BytesOk xs) (hp : p ≤ xs.length) :
    Calls Try.prog 59 #[.pointer (some ⟨r, 0, none⟩), .int .i64 2, .int .i64 n] w (ReadR 2 n xs w r v p) := by
  have HA := hid_of (at60 w 2 r v p xs h hx)
  have HB := hid_of hb
  have hrl := h.cells.2.2.2.2
  have hl := hb.2
  clear h hx hb
  go_enter Try.func59, Try.ntmps59
  go_upto_block 0 with fail
  generalize hwA : (w.alloc (.cells #[.int .i64 0, .int .i64 0, .slice none 0 0] 63)).alloc (.cells #[.int .i64 2, .int .i64 0, .slice none 0 0] 63) = wA at *
  have HN := hid_of (number_ref r v xs p 0 wA HA.out.rr HA.out.isb HB.out hp)
  go_wp2_with fail
  refine HN.out.mono ?_
  rintro e w1 (⟨u, q, hf, hq, hqn, h0, h1, rfl, hk⟩ | ⟨f, hf, rfl, hr, hk⟩)
  · have hw : IntKind.i64.wrap ((p : Int) + ((q : Int) - p)) = (q : Int) := by simp [IntKind.wrap, IntKind.bits, IntKind.signed]; omega
    have hwu : IntKind.i64.wrap (u / 2) = u / 2 := by simp [IntKind.wrap, IntKind.bits, IntKind.signed]; omega
    have HE : Hid (oneD 2 n (xs.drop p) = .ok ((unfoldI u, []), xs.drop q)) := by unfold Hid oneD; rw [if_neg (by decide), if_pos rfl]; unfold intD; rw [hf]; rfl
    have hs1 := hk.size
    have hxb := (hk.block (w.heap.size + 1) (by rw [HA.out.size]; omega) (fun f => f)).trans HA.out.x
    have hrb := (hk.block w.heap.size (by rw [HA.out.size]; omega) (fun f => f)).trans HA.out.res
    have hkw : Kept (fun q => q = r) w w1 := (HA.out.kept.trans hk).mono (fun _ _ f => f.elim)
    have HXB := hid_of hxb
    have HRB := hid_of hrb
    have HKW := hid_of hkw
    have HR1 := hid_of (HA.out.rr.kept hk (fun f => f))
    clear hf hk hxb hrb hkw HN
    have hand : bits .and .u64 u 1 = u % 2 := by
      obtain ⟨m, hm⟩ := Int.eq_ofNat_of_zero_le h0
      rw [hm]
      have := u64_and_nat m 1 (by omega) (by omega)
      rw [show ((1 : Nat) : Int) = 1 from rfl] at this
      rw [this, Nat.and_one_is_mod]
      omega
    by_cases hodd : u % 2 = 1
    · have hbt : (bits .and .u64 u 1 == 1) = true := by rw [hand, hodd]; rfl
      have hw2 : IntKind.i64.wrap (-(u / 2)) = -(u / 2) := by simp [IntKind.wrap, IntKind.bits, IntKind.signed]; omega
      have hw3 : IntKind.i64.wrap (-(u / 2) - 1) = -(u / 2) - 1 := by simp [IntKind.wrap, IntKind.bits, IntKind.signed]; omega
      have hun : unfoldI u = -(u / 2) - 1 := by unfold unfoldI; rw [if_pos hodd]
      rw [hun] at HE
      have x1 : w1.cell? ⟨w.heap.size + 1, 1, none⟩ = some (.int .i64 0) := by rw [cell_block _ _ _ _ _ _ HXB.out]; rfl
      have xf := frozen_block _ _ 1 _ _ HXB.out
      have xl := (Array.getElem?_eq_some_iff.1 HXB.out).1
      go_upto_region 10 with fail
      have k2 := kept_set w1 (w.heap.size + 1) 1 (.int .i64 (u / 2))
      have hx2 : (w1.setCell ⟨w.heap.size + 1, 1, none⟩ (.int .i64 (u / 2))).heap[w.heap.size + 1]? = some (.cells #[.int .i64 2, .int .i64 (u / 2), .slice none 0 0] 63 (0, 0)) := by rw [set_block _ _ _ _ _ _ HXB.out]; rfl
      have hr2 := HR1.out.kept k2 (by omega)
      have hb2 := (k2.block w.heap.size (Array.getElem?_eq_some_iff.1 HRB.out).1 (by omega)).trans HRB.out
      have hk2 : Kept (fun q => q = r) w (w1.setCell ⟨w.heap.size + 1, 1, none⟩ (.int .i64 (u / 2))) := HKW.out.step k2 (fun i hi e => by omega)
      clear x1 xf xl
      generalize w1.setCell ⟨w.heap.size + 1, 1, none⟩ (.int .i64 (u / 2)) = w2 at *
      have HXB := hid_of hx2
      have HRB := hid_of hb2
      have HKW := hid_of hk2
      have HR1 := hid_of hr2
      clear k2 hx2 hr2 hb2 hk2
      have x1 : w2.cell? ⟨w.heap.size + 1, 1, none⟩ = some (.int .i64 (u / 2)) := by rw [cell_block _ _ _ _ _ _ HXB.out]; rfl
      have xf := frozen_block _ _ 1 _ _ HXB.out
      have xl := (Array.getElem?_eq_some_iff.1 HXB.out).1
      go_upto_region 12 with fail
      have k2 := kept_set w2 (w.heap.size + 1) 1 (.int .i64 (-(u / 2) - 1))
      have hx2 : (w2.setCell ⟨w.heap.size + 1, 1, none⟩ (.int .i64 (-(u / 2) - 1))).heap[w.heap.size + 1]? = some (.cells #[.int .i64 2, .int .i64 (-(u / 2) - 1), .slice none 0 0] 63 (0, 0)) := by rw [set_block _ _ _ _ _ _ HXB.out]; rfl
      have hr2 := HR1.out.kept k2 (by omega)
      have hb2 := (k2.block w.heap.size (Array.getElem?_eq_some_iff.1 HRB.out).1 (by omega)).trans HRB.out
      have hk2 : Kept (fun q => q = r) w (w2.setCell ⟨w.heap.size + 1, 1, none⟩ (.int .i64 (-(u / 2) - 1))) := HKW.out.step k2 (fun i hi e => by omega)
      clear x1 xf xl
      generalize w2.setCell ⟨w.heap.size + 1, 1, none⟩ (.int .i64 (-(u / 2) - 1)) = w2b at *
      obtain ⟨_, r1, _, rf, rl⟩ := hr2.cells
      have rf1 := rf 1
      obtain ⟨e1, e2⟩ := hr2.at q
      have HEND := hid_of (end60 hk2 hb2 hx2 hrl e1 e2)
      clear k2 hx2 hr2 hb2 hk2 HXB HRB HR1 HKW rf e1 e2
      go_upto_region 28 with fail
      clear r1 rf1
      generalize w2b.setCell ⟨r, 1, none⟩ (.int .i64 (q : Int)) = w3 at *
      obtain ⟨z0, z1, z2, y0, y1, y2, g0, g1, g2, hsz, f1, f2, f3, f4⟩ := HEND.out
      have HF := hid_of f4
      have HG : Hid (ReadR 2 n xs w r v p (.returned (.agg #[.int .i64 2, .int .i64 (-(u / 2) - 1), .slice none 0 0])) (laid60 w w3 2 ((-(u / 2) - 1)) (.slice none 0 0))) := .inl ⟨((-(u / 2) - 1), []), q, .slice none 0 0, HE.out, hqn, rfl, .inl ⟨rfl, _, _, rfl⟩, fun b hb => (by cases hb), f1, f2⟩
      clear f1 f2 f3 f4 HEND
      unfold laid60 at HF HG
      go_wp2
      refine bodyPost_ret (v := .agg #[.int .i64 2, .int .i64 (-(u / 2) - 1), .slice none 0 0]) ?_ rfl HG.out
      exact results_cell_row (by rfl) _ _ w.heap.size 63 _ (0, 0) _ (by rfl) HF.out Try.underlying63 rfl sizeItem
    · have hbt : (bits .and .u64 u 1 == 1) = false := by rw [hand]; simpa using hodd
      have hun : unfoldI u = u / 2 := by unfold unfoldI; rw [if_neg hodd]
      rw [hun] at HE
      have x1 : w1.cell? ⟨w.heap.size + 1, 1, none⟩ = some (.int .i64 0) := by rw [cell_block _ _ _ _ _ _ HXB.out]; rfl
      have xf := frozen_block _ _ 1 _ _ HXB.out
      have xl := (Array.getElem?_eq_some_iff.1 HXB.out).1
      go_upto_region 10 with fail
      have k2 := kept_set w1 (w.heap.size + 1) 1 (.int .i64 (u / 2))
      have hx2 : (w1.setCell ⟨w.heap.size + 1, 1, none⟩ (.int .i64 (u / 2))).heap[w.heap.size + 1]? = some (.cells #[.int .i64 2, .int .i64 (u / 2), .slice none 0 0] 63 (0, 0)) := by rw [set_block _ _ _ _ _ _ HXB.out]; rfl
      have hr2 := HR1.out.kept k2 (by omega)
      have hb2 := (k2.block w.heap.size (Array.getElem?_eq_some_iff.1 HRB.out).1 (by omega)).trans HRB.out
      have hk2 : Kept (fun q => q = r) w (w1.setCell ⟨w.heap.size + 1, 1, none⟩ (.int .i64 (u / 2))) := HKW.out.step k2 (fun i hi e => by omega)
      clear x1 xf xl
      generalize w1.setCell ⟨w.heap.size + 1, 1, none⟩ (.int .i64 (u / 2)) = w2 at *
      obtain ⟨_, r1, _, rf, rl⟩ := hr2.cells
      have rf1 := rf 1
      obtain ⟨e1, e2⟩ := hr2.at q
      have HEND := hid_of (end60 hk2 hb2 hx2 hrl e1 e2)
      clear k2 hx2 hr2 hb2 hk2 HXB HRB HR1 HKW rf e1 e2
      go_upto_region 28 with fail
      clear r1 rf1
      generalize w2.setCell ⟨r, 1, none⟩ (.int .i64 (q : Int)) = w3 at *
      obtain ⟨z0, z1, z2, y0, y1, y2, g0, g1, g2, hsz, f1, f2, f3, f4⟩ := HEND.out
      have HF := hid_of f4
      have HG : Hid (ReadR 2 n xs w r v p (.returned (.agg #[.int .i64 2, .int .i64 (u / 2), .slice none 0 0])) (laid60 w w3 2 ((u / 2)) (.slice none 0 0))) := .inl ⟨((u / 2), []), q, .slice none 0 0, HE.out, hqn, rfl, .inl ⟨rfl, _, _, rfl⟩, fun b hb => (by cases hb), f1, f2⟩
      clear f1 f2 f3 f4 HEND
      unfold laid60 at HF HG
      go_wp2
      refine bodyPost_ret (v := .agg #[.int .i64 2, .int .i64 (u / 2), .slice none 0 0]) ?_ rfl HG.out
      exact results_cell_row (by rfl) _ _ w.heap.size 63 _ (0, 0) _ (by rfl) HF.out Try.underlying63 rfl sizeItem
  · have hw : IntKind.i64.wrap (p : Int) = (p : Int) := by simp [IntKind.wrap, IntKind.bits, IntKind.signed]; omega
    have HE : Hid (oneD 2 n (xs.drop p) = .error f) := by unfold Hid oneD; rw [if_neg (by decide), if_pos rfl]; unfold intD; rw [hf]; rfl
    have hs1 := hk.size
    have hxb := (hk.block (w.heap.size + 1) (by rw [HA.out.size]; omega) (by omega)).trans HA.out.x
    have hrb := (hk.block w.heap.size (by rw [HA.out.size]; omega) (by omega)).trans HA.out.res
    have hkw : Kept (fun q => q = r) w w1 := (HA.out.kept.mono (fun _ _ f => f.elim)).trans hk
    have HXB := hid_of hxb
    have HRB := hid_of hrb
    have HKW := hid_of hkw
    have HR1 := hid_of hr
    clear hf hk hxb hrb hkw hr HN
    have x1 : w1.cell? ⟨w.heap.size + 1, 1, none⟩ = some (.int .i64 0) := by rw [cell_block _ _ _ _ _ _ HXB.out]; rfl
    have xf := frozen_block _ _ 1 _ _ HXB.out
    have xl := (Array.getElem?_eq_some_iff.1 HXB.out).1
    go_upto_region 10 with fail
    have k2 := kept_set w1 (w.heap.size + 1) 1 (.int .i64 (0))
    have hx2 : (w1.setCell ⟨w.heap.size + 1, 1, none⟩ (.int .i64 (0))).heap[w.heap.size + 1]? = some (.cells #[.int .i64 2, .int .i64 (0), .slice none 0 0] 63 (0, 0)) := by rw [set_block _ _ _ _ _ _ HXB.out]; rfl
    have hr2 := HR1.out.kept k2 (by omega)
    have hb2 := (k2.block w.heap.size (Array.getElem?_eq_some_iff.1 HRB.out).1 (by omega)).trans HRB.out
    have hk2 : Kept (fun q => q = r) w (w1.setCell ⟨w.heap.size + 1, 1, none⟩ (.int .i64 (0))) := HKW.out.step k2 (fun i hi e => by omega)
    clear x1 xf xl
    generalize w1.setCell ⟨w.heap.size + 1, 1, none⟩ (.int .i64 (0)) = w2 at *
    obtain ⟨_, r1, _, rf, rl⟩ := hr2.cells
    have rf1 := rf 1
    obtain ⟨e1, e2⟩ := hr2.at p
    have HEND := hid_of (end60 hk2 hb2 hx2 hrl e1 e2)
    clear k2 hx2 hr2 hb2 hk2 HXB HRB HR1 HKW rf e1 e2
    go_upto_region 28 with fail
    clear r1 rf1
    generalize w2.setCell ⟨r, 1, none⟩ (.int .i64 (p : Int)) = w3 at *
    obtain ⟨z0, z1, z2, y0, y1, y2, g0, g1, g2, hsz, f1, f2, f3, f4⟩ := HEND.out
    have HF := hid_of f4
    have HG : Hid (ReadR 2 n xs w r v p (.returned (.agg #[.int .i64 2, .int .i64 0, .slice none 0 0])) (laid60 w w3 2 (0) (.slice none 0 0))) := .inr ⟨f, p, HE.out, rfl, f1, f2⟩
    clear f1 f2 f3 f4 HEND
    unfold laid60 at HF HG
    go_wp2
    refine bodyPost_ret (v := .agg #[.int .i64 2, .int .i64 0, .slice none 0 0]) ?_ rfl HG.out
    exact results_cell_row (by rfl) _ _ w.heap.size 63 _ (0, 0) _ (by rfl) HF.out Try.underlying63 rfl sizeItem

end Go.Proofs.Ytnjhnlohjhdcpaa

namespace Go.Proofs.Ytnjhnlohjhdcpaa
open Go.RowKit Go.Deep
set_option linter.unusedVariables false

set_option maxRecDepth 100000 in
set_option maxHeartbeats 2000000 in
theorem read_ref3 (r : Nat) (v : Value) (xs : List Int) (p : Nat) (n : Int) (w : World) (h : RR w r v p 0) (hx : IsB w v xs) (hb : BytesOk xs) (hc : Capd v xs.length) (hp : p ≤ xs.length) :
    Calls Try.prog 59 #[.pointer (some ⟨r, 0, none⟩), .int .i64 3, .int .i64 n] w (ReadR 3 n xs w r v p) := by
  have HA := hid_of (at60 w 3 r v p xs h hx)
  have HB := hid_of hb
  have hrl := h.cells.2.2.2.2
  have hl := hb.2
  clear h hx hb
  go_enter Try.func59, Try.ntmps59
  go_upto_block 0 with fail
  generalize hwA : (w.alloc (.cells #[.int .i64 0, .int .i64 0, .slice none 0 0] 63)).alloc (.cells #[.int .i64 3, .int .i64 0, .slice none 0 0] 63) = wA at *
  have HT : Hid (Calls Try.prog 79 #[.pointer (some ⟨r, 0, none⟩), .int .i64 0, .int .i64 1] wA (TakeR xs wA r v p 0 0 1)) := take_ref r v xs p 0 0 1 wA HA.out.rr HA.out.isb HB.out hc (by omega) (by decide)
  go_wp2_with fail
  refine HT.out.mono ?_
  rintro e w1 (⟨hlt, rfl, hr, hk⟩ | ⟨hle, v', rfl, hib, hown, hr, hk⟩)
  · have hd : xs.drop p = [] := List.drop_eq_nil_of_le (by omega)
    have HE : Hid (oneD 3 n (xs.drop p) = .error 11) := by unfold Hid oneD; rw [if_neg (by decide), if_neg (by decide), if_pos rfl, hd]; rfl
    have hs1 := hk.size
    have hxb := (hk.block (w.heap.size + 1) (by rw [HA.out.size]; omega) (by omega)).trans HA.out.x
    have hrb := (hk.block w.heap.size (by rw [HA.out.size]; omega) (by omega)).trans HA.out.res
    have hkw : Kept (fun q => q = r) w w1 := (HA.out.kept.mono (fun _ _ f => f.elim)).trans hk
    have HXB := hid_of hxb
    have HRB := hid_of hrb
    have HKW := hid_of hkw
    have HR1 := hid_of hr
    clear hk hxb hrb hkw hr HT
    have HEND := hid_of (end60 HKW.out HRB.out HXB.out hrl HR1.out (Kept.refl _ _))
    clear HXB HRB HR1 HKW
    go_upto_region 28 with fail
    obtain ⟨z0, z1, z2, y0, y1, y2, g0, g1, g2, hsz, f1, f2, f3, f4⟩ := HEND.out
    have HF := hid_of f4
    have HG : Hid (ReadR 3 n xs w r v p (.returned (.agg #[.int .i64 3, .int .i64 0, .slice none 0 0])) (laid60 w w1 3 (0) (.slice none 0 0))) := .inr ⟨11, p, HE.out, rfl, f1, f2⟩
    clear f1 f2 f3 f4 HEND
    unfold laid60 at HF HG
    go_wp2
    refine bodyPost_ret (v := .agg #[.int .i64 3, .int .i64 0, .slice none 0 0]) ?_ rfl HG.out
    exact results_cell_row (by rfl) _ _ w.heap.size 63 _ (0, 0) _ (by rfl) HF.out Try.underlying63 rfl sizeItem
  · have hpl : p < xs.length := by omega
    have hd : xs.drop p = xs.getD p 0 :: xs.drop (p + 1) := by rw [List.drop_eq_getElem_cons hpl, List.getD, List.getElem?_eq_getElem hpl]; rfl
    have hx0 := HB.out.1 (xs.getD p 0) (by rw [List.getD, List.getElem?_eq_getElem hpl]; exact List.getElem_mem hpl)
    rw [show (xs.drop (p + 0)).take (1 : Int).toNat = [xs.getD p 0] from by rw [Nat.add_zero, hd]; rfl] at hib
    have hbd : boolD (xs.drop p) = if 1 < xs.getD p 0 then .error 12 else .ok (xs.getD p 0, xs.drop (p + 1)) := by rw [hd]; rfl
    obtain ⟨x, hx⟩ : ∃ x, x = xs.getD p 0 := ⟨_, rfl⟩
    rw [← hx] at hib hx0 hbd
    rcases hib with ⟨h0, _⟩ | ⟨g, o, c, hv', hcl⟩
    · cases h0
    have hc0 := hcl 0 (by simp)
    rw [Nat.add_zero, show [x].getD 0 0 = x from rfl] at hc0
    have hv2 : v' = .slice (some ⟨g, o, none⟩) 1 c := hv'
    subst hv2
    have hwx : IntKind.i64.wrap x = x := by simp [IntKind.wrap, IntKind.bits, IntKind.signed]; omega
    have hrp : RR w1 r v (p + 1) 0 := hr
    have HHD := hid_of hbd
    have hgl := (hown g rfl).2
    have hgg := (hown g rfl).1
    have hs1 := hk.size
    have hxb := (hk.block (w.heap.size + 1) (by rw [HA.out.size]; omega) (by omega)).trans HA.out.x
    have hrb := (hk.block w.heap.size (by rw [HA.out.size]; omega) (by omega)).trans HA.out.res
    have hkw : Kept (fun q => q = r) w w1 := (HA.out.kept.mono (fun _ _ f => f.elim)).trans hk
    have HXB := hid_of hxb
    have HRB := hid_of hrb
    have HKW := hid_of hkw
    have HR1 := hid_of hrp
    clear hk hxb hrb hkw hr hrp HT hown hcl hv' hx hd hbd
    by_cases hx1 : 1 < x
    · have HE : Hid (oneD 3 n (xs.drop p) = .error 12) := by unfold Hid oneD; rw [if_neg (by decide), if_neg (by decide), if_pos rfl, HHD.out, if_pos hx1]; rfl
      obtain ⟨_, _, r2, rf, rl⟩ := HR1.out.cells
      have rf2 := rf 2
      obtain ⟨e1, e2⟩ := HR1.out.fault 12
      have HEND := hid_of (end60 HKW.out HRB.out HXB.out hrl e1 e2)
      clear HXB HRB HR1 HKW rf e1 e2
      go_upto_region 28 with fail
      clear r2 rf2
      generalize w1.setCell ⟨r, 2, none⟩ (.int .i64 12) = w3 at *
      obtain ⟨z0, z1, z2, y0, y1, y2, g0, g1, g2, hsz, f1, f2, f3, f4⟩ := HEND.out
      have HF := hid_of f4
      have HG : Hid (ReadR 3 n xs w r v p (.returned (.agg #[.int .i64 3, .int .i64 0, .slice none 0 0])) (laid60 w w3 3 (0) (.slice none 0 0))) := .inr ⟨12, p + 1, HE.out, rfl, f1, f2⟩
      clear f1 f2 f3 f4 HEND
      unfold laid60 at HF HG
      go_wp2
      refine bodyPost_ret (v := .agg #[.int .i64 3, .int .i64 0, .slice none 0 0]) ?_ rfl HG.out
      exact results_cell_row (by rfl) _ _ w.heap.size 63 _ (0, 0) _ (by rfl) HF.out Try.underlying63 rfl sizeItem
    · have HE : Hid (oneD 3 n (xs.drop p) = .ok ((x, []), xs.drop (p + 1))) := by unfold Hid oneD; rw [if_neg (by decide), if_neg (by decide), if_pos rfl, HHD.out, if_neg hx1]; rfl
      have hqn : p + 1 ≤ xs.length := hpl
      have x1 : w1.cell? ⟨w.heap.size + 1, 1, none⟩ = some (.int .i64 0) := by rw [cell_block _ _ _ _ _ _ HXB.out]; rfl
      have xf := frozen_block _ _ 1 _ _ HXB.out
      have xl := (Array.getElem?_eq_some_iff.1 HXB.out).1
      go_upto_region 28 with fail
      have k2 := kept_set w1 (w.heap.size + 1) 1 (.int .i64 (x))
      have hx2 : (w1.setCell ⟨w.heap.size + 1, 1, none⟩ (.int .i64 (x))).heap[w.heap.size + 1]? = some (.cells #[.int .i64 3, .int .i64 (x), .slice none 0 0] 63 (0, 0)) := by rw [set_block _ _ _ _ _ _ HXB.out]; rfl
      have hr2 := HR1.out.kept k2 (by omega)
      have hb2 := (k2.block w.heap.size (Array.getElem?_eq_some_iff.1 HRB.out).1 (by omega)).trans HRB.out
      have hk2 : Kept (fun q => q = r) w (w1.setCell ⟨w.heap.size + 1, 1, none⟩ (.int .i64 (x))) := HKW.out.step k2 (fun i hi e => by omega)
      clear x1 xf xl
      generalize w1.setCell ⟨w.heap.size + 1, 1, none⟩ (.int .i64 (x)) = w3 at *
      have HEND := hid_of (end60 hk2 hb2 hx2 hrl hr2 (Kept.refl _ _))
      clear k2 hx2 hr2 hb2 hk2 HXB HRB HR1 HKW
      obtain ⟨z0, z1, z2, y0, y1, y2, g0, g1, g2, hsz, f1, f2, f3, f4⟩ := HEND.out
      have HF := hid_of f4
      have HG : Hid (ReadR 3 n xs w r v p (.returned (.agg #[.int .i64 3, .int .i64 x, .slice none 0 0])) (laid60 w w3 3 (x) (.slice none 0 0))) := .inl ⟨(x, []), p + 1, .slice none 0 0, HE.out, hqn, rfl, .inl ⟨rfl, _, _, rfl⟩, fun b hb => (by cases hb), f1, f2⟩
      clear f1 f2 f3 f4 HEND
      unfold laid60 at HF HG
      go_wp2
      refine bodyPost_ret (v := .agg #[.int .i64 3, .int .i64 x, .slice none 0 0]) ?_ rfl HG.out
      exact results_cell_row (by rfl) _ _ w.heap.size 63 _ (0, 0) _ (by rfl) HF.out Try.underlying63 rfl sizeItem

set_option maxRecDepth 100000 in
set_option maxHeartbeats 2000000 in
theorem read_ref4 (r : Nat) (v : Value) (xs : List Int) (p : Nat) (n : Int) (w : World) (h : RR w r v p 0) (hx : IsB w v xs) (hb : BytesOk xs) (hc : Capd v xs.length) (hp : p ≤ xs.length) :
    Calls Try.prog 59 #[.pointer (some ⟨r, 0, none⟩), .int .i64 4, .int .i64 n] w (ReadR 4 n xs w r v p) := by
  have HA := hid_of (at60 w 4 r v p xs h hx)
  have HB := hid_of hb
  have hrl := h.cells.2.2.2.2
  have hl := hb.2
  clear h hx hb
  go_enter Try.func59, Try.ntmps59
  go_upto_block 0 with fail
  generalize hwA : (w.alloc (.cells #[.int .i64 0, .int .i64 0, .slice none 0 0] 63)).alloc (.cells #[.int .i64 4, .int .i64 0, .slice none 0 0] 63) = wA at *
  have HN := hid_of (num_ref r v xs p 0 wA HA.out.rr HA.out.isb HB.out hp)
  go_wp2_with fail
  refine HN.out.mono ?_
  rintro e w1 (⟨u, q, hf, hq, hqx, h0, h1, rfl, hk⟩ | ⟨f, hf, rfl, hr, hk⟩)
  · have hm : (0 : Int) < (q : Int) - p := by omega
    have hHF := hid_of hf
    have hpa : p + (q - p) = q := by omega
    have hT0 := take_ref r v xs p 0 (q - p) u w1 (HA.out.rr.kept hk (fun f => f)) (HA.out.isb.kept hk (fun _ _ f => f)) HB.out hc (by omega) h0
    rw [show ((q - p : Nat) : Int) = (q : Int) - p from by omega] at hT0
    have HT := hid_of hT0
    have hs0 := hk.size
    have hsF : w.heap.size + 2 ≤ w1.heap.size := by rw [← HA.out.size]; exact hs0
    have HXF := hid_of ((hk.block (w.heap.size + 1) (by rw [HA.out.size]; omega) (fun f => f)).trans HA.out.x)
    have HRF := hid_of ((hk.block w.heap.size (by rw [HA.out.size]; omega) (fun f => f)).trans HA.out.res)
    have HKF := hid_of (HA.out.kept.trans hk)
    clear hf hk hT0 HN hs0
    go_wp2_with fail
    refine HT.out.mono ?_
    intro e w2 ht
    unfold TakeR at ht
    rw [hpa] at ht
    revert ht
    rintro (⟨hlt, rfl, hr, hk⟩ | ⟨hle, v', rfl, hib, hown, hr, hk⟩)
    · have HE : Hid (oneD 4 n (xs.drop p) = .error 11) := by have hf := hHF.out; unfold Hid oneD; rw [if_neg (by decide), if_neg (by decide), if_neg (by decide), if_pos rfl]; unfold bytesD; rw [hf]; dsimp only; unfold rawD; rw [if_neg (by omega), List.length_drop, if_pos (by omega)]; rfl
      have hs1 := hk.size
      have hxb := (hk.block (w.heap.size + 1) (by omega) (by omega)).trans HXF.out
      have hrb := (hk.block w.heap.size (by omega) (by omega)).trans HRF.out
      have hkw : Kept (fun q => q = r) w w2 := (HKF.out.mono (fun _ _ f => f.elim)).trans hk
      have HXB := hid_of hxb
      have HRB := hid_of hrb
      have HKW := hid_of hkw
      have HR1 := hid_of hr
      clear hk hxb hrb hkw hr HT HXF HRF HKF
      have x1 : w2.cell? ⟨w.heap.size + 1, 2, none⟩ = some (.slice none 0 0) := by rw [cell_block _ _ _ _ _ _ HXB.out]; rfl
      have xf := frozen_block _ _ 2 _ _ HXB.out
      have xl := (Array.getElem?_eq_some_iff.1 HXB.out).1
      go_upto_region 28 with fail
      have k2 := kept_set w2 (w.heap.size + 1) 2 (.slice none 0 0)
      have hx2 : (w2.setCell ⟨w.heap.size + 1, 2, none⟩ (.slice none 0 0)).heap[w.heap.size + 1]? = some (.cells #[.int .i64 4, .int .i64 0, .slice none 0 0] 63 (0, 0)) := by rw [set_block _ _ _ _ _ _ HXB.out]; rfl
      have hr2 := HR1.out.kept k2 (by omega)
      have hb2 := (k2.block w.heap.size (Array.getElem?_eq_some_iff.1 HRB.out).1 (by omega)).trans HRB.out
      have hk2 : Kept (fun q => q = r) w (w2.setCell ⟨w.heap.size + 1, 2, none⟩ (.slice none 0 0)) := HKW.out.step k2 (fun i hi e => by omega)
      have HEND := hid_of (end60 hk2 hb2 hx2 hrl hr2 (Kept.refl _ _))
      clear k2 hx2 hr2 hb2 hk2 HXB HRB HR1 HKW x1 xf xl
      generalize w2.setCell ⟨w.heap.size + 1, 2, none⟩ (.slice none 0 0) = w3 at *
      obtain ⟨z0, z1, z2, y0, y1, y2, g0, g1, g2, hsz, f1, f2, f3, f4⟩ := HEND.out
      have HF := hid_of f4
      have HG : Hid (ReadR 4 n xs w r v p (.returned (.agg #[.int .i64 4, .int .i64 0, .slice none 0 0])) (laid60 w w3 4 (0) (.slice none 0 0))) := .inr ⟨11, p, HE.out, rfl, f1, f2⟩
      clear f1 f2 f3 f4 HEND
      unfold laid60 at HF HG
      go_wp2
      refine bodyPost_ret (v := .agg #[.int .i64 4, .int .i64 0, .slice none 0 0]) ?_ rfl HG.out
      exact results_cell_row (by rfl) _ _ w.heap.size 63 _ (0, 0) _ (by rfl) HF.out Try.underlying63 rfl sizeItem
    · obtain ⟨ys, hys⟩ : ∃ ys, ys = (xs.drop (q)).take (u).toNat := ⟨_, rfl⟩
      rw [← hys] at hib
      obtain ⟨bao, bc, hbv⟩ := hib.shape
      subst hbv
      have HE : Hid (oneD 4 n (xs.drop p) = .ok ((0, ys), xs.drop (q + (u).toNat))) := by have hf := hHF.out; unfold Hid oneD; rw [if_neg (by decide), if_neg (by decide), if_neg (by decide), if_pos rfl]; unfold bytesD; rw [hf]; dsimp only; unfold rawD; rw [if_neg (by omega), List.length_drop, if_neg (by omega), List.drop_drop, hys]; rfl
      have hqn : q + (u).toNat ≤ xs.length := by omega
      have hs1 := hk.size
      have hxb := (hk.block (w.heap.size + 1) (by omega) (by omega)).trans HXF.out
      have hrb := (hk.block w.heap.size (by omega) (by omega)).trans HRF.out
      have hkw : Kept (fun q => q = r) w w2 := (HKF.out.mono (fun _ _ f => f.elim)).trans hk
      have HXB := hid_of hxb
      have HRB := hid_of hrb
      have HKW := hid_of hkw
      have HR1 := hid_of hr
      have HIB := hid_of hib
      have HOW : Hid (∀ b, (Value.slice bao ys.length bc).ownBlock = some b → w.heap.size + 2 ≤ b ∧ b < w2.heap.size) := fun b hb => by have := hown b hb; omega
      have HYS := hid_of hys
      clear hk hxb hrb hkw hr HT HXF HRF HKF hib hown hys
      have x1 : w2.cell? ⟨w.heap.size + 1, 2, none⟩ = some (.slice none 0 0) := by rw [cell_block _ _ _ _ _ _ HXB.out]; rfl
      have xf := frozen_block _ _ 2 _ _ HXB.out
      have xl := (Array.getElem?_eq_some_iff.1 HXB.out).1
      go_upto_region 28 with fail
      have k2 := kept_set w2 (w.heap.size + 1) 2 (.slice bao ys.length bc)
      have hx2 : (w2.setCell ⟨w.heap.size + 1, 2, none⟩ (.slice bao ys.length bc)).heap[w.heap.size + 1]? = some (.cells #[.int .i64 4, .int .i64 0, .slice bao ys.length bc] 63 (0, 0)) := by rw [set_block _ _ _ _ _ _ HXB.out]; rfl
      have hr2 := HR1.out.kept k2 (by omega)
      have hb2 := (k2.block w.heap.size (Array.getElem?_eq_some_iff.1 HRB.out).1 (by omega)).trans HRB.out
      have hk2 : Kept (fun q => q = r) w (w2.setCell ⟨w.heap.size + 1, 2, none⟩ (.slice bao ys.length bc)) := HKW.out.step k2 (fun i hi e => by omega)
      have hszW : (w2.setCell ⟨w.heap.size + 1, 2, none⟩ (.slice bao ys.length bc)).heap.size = w2.heap.size := by simp
      have HI2 := hid_of (HIB.out.kept k2 (fun b hb e => by have := (HOW.out b hb).1; omega))
      have HO2 : Hid (∀ b, (Value.slice bao ys.length bc).ownBlock = some b → w.heap.size + 2 ≤ b ∧ b < (w2.setCell ⟨w.heap.size + 1, 2, none⟩ (.slice bao ys.length bc)).heap.size) := fun b hb => by rw [hszW]; exact HOW.out b hb
      have HEND := hid_of (end60 hk2 hb2 hx2 hrl hr2 (Kept.refl _ _))
      clear k2 hx2 hr2 hb2 hk2 HXB HRB HR1 HKW x1 xf xl hszW HIB HOW
      generalize w2.setCell ⟨w.heap.size + 1, 2, none⟩ (.slice bao ys.length bc) = w3 at *
      obtain ⟨z0, z1, z2, y0, y1, y2, g0, g1, g2, hsz, f1, f2, f3, f4⟩ := HEND.out
      have HF := hid_of f4
      have HG : Hid (ReadR 4 n xs w r v p (.returned (.agg #[.int .i64 4, .int .i64 0, .slice bao ys.length bc])) (laid60 w w3 4 (0) (.slice bao ys.length bc))) := .inl ⟨(0, ys), q + (u).toNat, .slice bao ys.length bc, HE.out, hqn, rfl, HI2.out.kept f3 (fun b hb e => by have := (HO2.out b hb).1; omega), fun b hb => ⟨by have := (HO2.out b hb).1; omega, Nat.lt_of_lt_of_le (HO2.out b hb).2 f3.size⟩, f1, f2⟩
      clear f1 f2 f3 f4 HEND
      unfold laid60 at HF HG
      go_wp2
      refine bodyPost_ret (v := .agg #[.int .i64 4, .int .i64 0, .slice bao ys.length bc]) ?_ rfl HG.out
      exact results_cell_row (by rfl) _ _ w.heap.size 63 _ (0, 0) _ (by rfl) HF.out Try.underlying63 rfl sizeItem
  · have HE : Hid (oneD 4 n (xs.drop p) = .error f) := by unfold Hid oneD; rw [if_neg (by decide), if_neg (by decide), if_neg (by decide), if_pos rfl]; unfold bytesD; rw [hf]; rfl
    have hs1 := hk.size
    have hxb := (hk.block (w.heap.size + 1) (by rw [HA.out.size]; omega) (by omega)).trans HA.out.x
    have hrb := (hk.block w.heap.size (by rw [HA.out.size]; omega) (by omega)).trans HA.out.res
    have hkw : Kept (fun q => q = r) w w1 := (HA.out.kept.mono (fun _ _ f => f.elim)).trans hk
    have HXB := hid_of hxb
    have HRB := hid_of hrb
    have HKW := hid_of hkw
    have HR1 := hid_of hr
    clear hf hk hxb hrb hkw hr HN
    have HEND := hid_of (end60 HKW.out HRB.out HXB.out hrl HR1.out (Kept.refl _ _))
    clear HXB HRB HR1 HKW
    go_upto_region 28 with fail
    obtain ⟨z0, z1, z2, y0, y1, y2, g0, g1, g2, hsz, f1, f2, f3, f4⟩ := HEND.out
    have HF := hid_of f4
    have HG : Hid (ReadR 4 n xs w r v p (.returned (.agg #[.int .i64 4, .int .i64 0, .slice none 0 0])) (laid60 w w1 4 (0) (.slice none 0 0))) := .inr ⟨f, p, HE.out, rfl, f1, f2⟩
    clear f1 f2 f3 f4 HEND
    unfold laid60 at HF HG
    go_wp2
    refine bodyPost_ret (v := .agg #[.int .i64 4, .int .i64 0, .slice none 0 0]) ?_ rfl HG.out
    exact results_cell_row (by rfl) _ _ w.heap.size 63 _ (0, 0) _ (by rfl) HF.out Try.underlying63 rfl sizeItem

set_option maxRecDepth 100000 in
set_option maxHeartbeats 2000000 in
theorem read_ref5 (r : Nat) (v : Value) (xs : List Int) (p : Nat) (n : Int) (w : World) (h : RR w r v p 0) (hx : IsB w v xs) (hb : BytesOk xs) (hc : Capd v xs.length) (hp : p ≤ xs.length) :
    Calls Try.prog 59 #[.pointer (some ⟨r, 0, none⟩), .int .i64 5, .int .i64 n] w (ReadR 5 n xs w r v p) := by
  have HA := hid_of (at60 w 5 r v p xs h hx)
  have HB := hid_of hb
  have hrl := h.cells.2.2.2.2
  have hl := hb.2
  clear h hx hb
  go_enter Try.func59, Try.ntmps59
  go_upto_block 0 with fail
  generalize hwA : (w.alloc (.cells #[.int .i64 0, .int .i64 0, .slice none 0 0] 63)).alloc (.cells #[.int .i64 5, .int .i64 0, .slice none 0 0] 63) = wA at *
  have HN := hid_of (num_ref r v xs p 0 wA HA.out.rr HA.out.isb HB.out hp)
  go_wp2_with fail
  refine HN.out.mono ?_
  rintro e w1 (⟨u, q, hf, hq, hqx, h0, h1, rfl, hk⟩ | ⟨f, hf, rfl, hr, hk⟩)
  · have hm : (0 : Int) < (q : Int) - p := by omega
    have hHF := hid_of hf
    have hpa : p + (q - p) = q := by omega
    have hT0 := take_ref r v xs p 0 (q - p) u w1 (HA.out.rr.kept hk (fun f => f)) (HA.out.isb.kept hk (fun _ _ f => f)) HB.out hc (by omega) h0
    rw [show ((q - p : Nat) : Int) = (q : Int) - p from by omega] at hT0
    have HT := hid_of hT0
    have hs0 := hk.size
    have hsF : w.heap.size + 2 ≤ w1.heap.size := by rw [← HA.out.size]; exact hs0
    have HXF := hid_of ((hk.block (w.heap.size + 1) (by rw [HA.out.size]; omega) (fun f => f)).trans HA.out.x)
    have HRF := hid_of ((hk.block w.heap.size (by rw [HA.out.size]; omega) (fun f => f)).trans HA.out.res)
    have HKF := hid_of (HA.out.kept.trans hk)
    clear hf hk hT0 HN hs0
    go_wp2_with fail
    refine HT.out.mono ?_
    intro e w2 ht
    unfold TakeR at ht
    rw [hpa] at ht
    revert ht
    rintro (⟨hlt, rfl, hr, hk⟩ | ⟨hle, v', rfl, hib, hown, hr, hk⟩)
    · have HE : Hid (oneD 5 n (xs.drop p) = .error 11) := by have hf := hHF.out; unfold Hid oneD; rw [if_neg (by decide), if_neg (by decide), if_neg (by decide), if_neg (by decide), if_pos rfl]; unfold bytesD; rw [hf]; dsimp only; unfold rawD; rw [if_neg (by omega), List.length_drop, if_pos (by omega)]; rfl
      have hs1 := hk.size
      have hxb := (hk.block (w.heap.size + 1) (by omega) (by omega)).trans HXF.out
      have hrb := (hk.block w.heap.size (by omega) (by omega)).trans HRF.out
      have hkw : Kept (fun q => q = r) w w2 := (HKF.out.mono (fun _ _ f => f.elim)).trans hk
      have HXB := hid_of hxb
      have HRB := hid_of hrb
      have HKW := hid_of hkw
      have HR1 := hid_of hr
      clear hk hxb hrb hkw hr HT HXF HRF HKF
      have x1 : w2.cell? ⟨w.heap.size + 1, 2, none⟩ = some (.slice none 0 0) := by rw [cell_block _ _ _ _ _ _ HXB.out]; rfl
      have xf := frozen_block _ _ 2 _ _ HXB.out
      have xl := (Array.getElem?_eq_some_iff.1 HXB.out).1
      go_upto_region 28 with fail
      have k2 := kept_set w2 (w.heap.size + 1) 2 (.slice none 0 0)
      have hx2 : (w2.setCell ⟨w.heap.size + 1, 2, none⟩ (.slice none 0 0)).heap[w.heap.size + 1]? = some (.cells #[.int .i64 5, .int .i64 0, .slice none 0 0] 63 (0, 0)) := by rw [set_block _ _ _ _ _ _ HXB.out]; rfl
      have hr2 := HR1.out.kept k2 (by omega)
      have hb2 := (k2.block w.heap.size (Array.getElem?_eq_some_iff.1 HRB.out).1 (by omega)).trans HRB.out
      have hk2 : Kept (fun q => q = r) w (w2.setCell ⟨w.heap.size + 1, 2, none⟩ (.slice none 0 0)) := HKW.out.step k2 (fun i hi e => by omega)
      have HEND := hid_of (end60 hk2 hb2 hx2 hrl hr2 (Kept.refl _ _))
      clear k2 hx2 hr2 hb2 hk2 HXB HRB HR1 HKW x1 xf xl
      generalize w2.setCell ⟨w.heap.size + 1, 2, none⟩ (.slice none 0 0) = w3 at *
      obtain ⟨z0, z1, z2, y0, y1, y2, g0, g1, g2, hsz, f1, f2, f3, f4⟩ := HEND.out
      have HF := hid_of f4
      have HG : Hid (ReadR 5 n xs w r v p (.returned (.agg #[.int .i64 5, .int .i64 0, .slice none 0 0])) (laid60 w w3 5 (0) (.slice none 0 0))) := .inr ⟨11, p, HE.out, rfl, f1, f2⟩
      clear f1 f2 f3 f4 HEND
      unfold laid60 at HF HG
      go_wp2
      refine bodyPost_ret (v := .agg #[.int .i64 5, .int .i64 0, .slice none 0 0]) ?_ rfl HG.out
      exact results_cell_row (by rfl) _ _ w.heap.size 63 _ (0, 0) _ (by rfl) HF.out Try.underlying63 rfl sizeItem
    · obtain ⟨ys, hys⟩ : ∃ ys, ys = (xs.drop (q)).take (u).toNat := ⟨_, rfl⟩
      rw [← hys] at hib
      obtain ⟨bao, bc, hbv⟩ := hib.shape
      subst hbv
      have HE : Hid (oneD 5 n (xs.drop p) = .ok ((0, ys), xs.drop (q + (u).toNat))) := by have hf := hHF.out; unfold Hid oneD; rw [if_neg (by decide), if_neg (by decide), if_neg (by decide), if_neg (by decide), if_pos rfl]; unfold bytesD; rw [hf]; dsimp only; unfold rawD; rw [if_neg (by omega), List.length_drop, if_neg (by omega), List.drop_drop, hys]; rfl
      have hqn : q + (u).toNat ≤ xs.length := by omega
      have hs1 := hk.size
      have hxb := (hk.block (w.heap.size + 1) (by omega) (by omega)).trans HXF.out
      have hrb := (hk.block w.heap.size (by omega) (by omega)).trans HRF.out
      have hkw : Kept (fun q => q = r) w w2 := (HKF.out.mono (fun _ _ f => f.elim)).trans hk
      have HXB := hid_of hxb
      have HRB := hid_of hrb
      have HKW := hid_of hkw
      have HR1 := hid_of hr
      have HIB := hid_of hib
      have HOW : Hid (∀ b, (Value.slice bao ys.length bc).ownBlock = some b → w.heap.size + 2 ≤ b ∧ b < w2.heap.size) := fun b hb => by have := hown b hb; omega
      have HYS := hid_of hys
      clear hk hxb hrb hkw hr HT HXF HRF HKF hib hown hys
      have x1 : w2.cell? ⟨w.heap.size + 1, 2, none⟩ = some (.slice none 0 0) := by rw [cell_block _ _ _ _ _ _ HXB.out]; rfl
      have xf := frozen_block _ _ 2 _ _ HXB.out
      have xl := (Array.getElem?_eq_some_iff.1 HXB.out).1
      go_upto_region 28 with fail
      have k2 := kept_set w2 (w.heap.size + 1) 2 (.slice bao ys.length bc)
      have hx2 : (w2.setCell ⟨w.heap.size + 1, 2, none⟩ (.slice bao ys.length bc)).heap[w.heap.size + 1]? = some (.cells #[.int .i64 5, .int .i64 0, .slice bao ys.length bc] 63 (0, 0)) := by rw [set_block _ _ _ _ _ _ HXB.out]; rfl
      have hr2 := HR1.out.kept k2 (by omega)
      have hb2 := (k2.block w.heap.size (Array.getElem?_eq_some_iff.1 HRB.out).1 (by omega)).trans HRB.out
      have hk2 : Kept (fun q => q = r) w (w2.setCell ⟨w.heap.size + 1, 2, none⟩ (.slice bao ys.length bc)) := HKW.out.step k2 (fun i hi e => by omega)
      have hszW : (w2.setCell ⟨w.heap.size + 1, 2, none⟩ (.slice bao ys.length bc)).heap.size = w2.heap.size := by simp
      have HI2 := hid_of (HIB.out.kept k2 (fun b hb e => by have := (HOW.out b hb).1; omega))
      have HO2 : Hid (∀ b, (Value.slice bao ys.length bc).ownBlock = some b → w.heap.size + 2 ≤ b ∧ b < (w2.setCell ⟨w.heap.size + 1, 2, none⟩ (.slice bao ys.length bc)).heap.size) := fun b hb => by rw [hszW]; exact HOW.out b hb
      have HEND := hid_of (end60 hk2 hb2 hx2 hrl hr2 (Kept.refl _ _))
      clear k2 hx2 hr2 hb2 hk2 HXB HRB HR1 HKW x1 xf xl hszW HIB HOW
      generalize w2.setCell ⟨w.heap.size + 1, 2, none⟩ (.slice bao ys.length bc) = w3 at *
      obtain ⟨z0, z1, z2, y0, y1, y2, g0, g1, g2, hsz, f1, f2, f3, f4⟩ := HEND.out
      have HF := hid_of f4
      have HG : Hid (ReadR 5 n xs w r v p (.returned (.agg #[.int .i64 5, .int .i64 0, .slice bao ys.length bc])) (laid60 w w3 5 (0) (.slice bao ys.length bc))) := .inl ⟨(0, ys), q + (u).toNat, .slice bao ys.length bc, HE.out, hqn, rfl, HI2.out.kept f3 (fun b hb e => by have := (HO2.out b hb).1; omega), fun b hb => ⟨by have := (HO2.out b hb).1; omega, Nat.lt_of_lt_of_le (HO2.out b hb).2 f3.size⟩, f1, f2⟩
      clear f1 f2 f3 f4 HEND
      unfold laid60 at HF HG
      go_wp2
      refine bodyPost_ret (v := .agg #[.int .i64 5, .int .i64 0, .slice bao ys.length bc]) ?_ rfl HG.out
      exact results_cell_row (by rfl) _ _ w.heap.size 63 _ (0, 0) _ (by rfl) HF.out Try.underlying63 rfl sizeItem
  · have HE : Hid (oneD 5 n (xs.drop p) = .error f) := by unfold Hid oneD; rw [if_neg (by decide), if_neg (by decide), if_neg (by decide), if_neg (by decide), if_pos rfl]; unfold bytesD; rw [hf]; rfl
    have hs1 := hk.size
    have hxb := (hk.block (w.heap.size + 1) (by rw [HA.out.size]; omega) (by omega)).trans HA.out.x
    have hrb := (hk.block w.heap.size (by rw [HA.out.size]; omega) (by omega)).trans HA.out.res
    have hkw : Kept (fun q => q = r) w w1 := (HA.out.kept.mono (fun _ _ f => f.elim)).trans hk
    have HXB := hid_of hxb
    have HRB := hid_of hrb
    have HKW := hid_of hkw
    have HR1 := hid_of hr
    clear hf hk hxb hrb hkw hr HN
    have HEND := hid_of (end60 HKW.out HRB.out HXB.out hrl HR1.out (Kept.refl _ _))
    clear HXB HRB HR1 HKW
    go_upto_region 28 with fail
    obtain ⟨z0, z1, z2, y0, y1, y2, g0, g1, g2, hsz, f1, f2, f3, f4⟩ := HEND.out
    have HF := hid_of f4
    have HG : Hid (ReadR 5 n xs w r v p (.returned (.agg #[.int .i64 5, .int .i64 0, .slice none 0 0])) (laid60 w w1 5 (0) (.slice none 0 0))) := .inr ⟨f, p, HE.out, rfl, f1, f2⟩
    clear f1 f2 f3 f4 HEND
    unfold laid60 at HF HG
    go_wp2
    refine bodyPost_ret (v := .agg #[.int .i64 5, .int .i64 0, .slice none 0 0]) ?_ rfl HG.out
    exact results_cell_row (by rfl) _ _ w.heap.size 63 _ (0, 0) _ (by rfl) HF.out Try.underlying63 rfl sizeItem

set_option maxRecDepth 100000 in
set_option maxHeartbeats 2000000 in
theorem read_ref6 (r : Nat) (v : Value) (xs : List Int) (p : Nat) (n : Int) (w : World) (h : RR w r v p 0) (hx : IsB w v xs) (hb : BytesOk xs) (hc : Capd v xs.length) (hp : p ≤ xs.length) (hn1 : n ≤ 9223372036854775807) :
    Calls Try.prog 59 #[.pointer (some ⟨r, 0, none⟩), .int .i64 6, .int .i64 n] w (ReadR 6 n xs w r v p) := by
  have HA := hid_of (at60 w 6 r v p xs h hx)
  have HB := hid_of hb
  have hrl := h.cells.2.2.2.2
  have hl := hb.2
  clear h hx hb
  go_enter Try.func59, Try.ntmps59
  go_upto_block 0 with fail
  generalize hwA : (w.alloc (.cells #[.int .i64 0, .int .i64 0, .slice none 0 0] 63)).alloc (.cells #[.int .i64 6, .int .i64 0, .slice none 0 0] 63) = wA at *
  by_cases hn : n < 0
  · have HE : Hid (oneD 6 n (xs.drop p) = .error 1) := by unfold Hid oneD; rw [if_neg (by decide), if_neg (by decide), if_neg (by decide), if_neg (by decide), if_neg (by decide), if_pos rfl]; unfold rawD; rw [if_pos hn]; rfl
    obtain ⟨_, _, r2, rf, rl⟩ := HA.out.rr.cells
    have rf2 := rf 2
    obtain ⟨e1, e2⟩ := HA.out.rr.fault 1
    have HEND := hid_of (end60 (HA.out.kept.mono (fun _ _ f => f.elim)) HA.out.res HA.out.x hrl e1 e2)
    clear rf e1 e2 HA hwA
    go_upto_region 28 with fail
    clear r2 rf2
    generalize wA.setCell ⟨r, 2, none⟩ (.int .i64 1) = w3 at *
    obtain ⟨z0, z1, z2, y0, y1, y2, g0, g1, g2, hsz, f1, f2, f3, f4⟩ := HEND.out
    have HF := hid_of f4
    have HG : Hid (ReadR 6 n xs w r v p (.returned (.agg #[.int .i64 6, .int .i64 0, .slice none 0 0])) (laid60 w w3 6 (0) (.slice none 0 0))) := .inr ⟨1, p, HE.out, rfl, f1, f2⟩
    clear f1 f2 f3 f4 HEND
    unfold laid60 at HF HG
    go_wp2
    refine bodyPost_ret (v := .agg #[.int .i64 6, .int .i64 0, .slice none 0 0]) ?_ rfl HG.out
    exact results_cell_row (by rfl) _ _ w.heap.size 63 _ (0, 0) _ (by rfl) HF.out Try.underlying63 rfl sizeItem
  · have h0 : 0 ≤ n := by omega
    have HT : Hid (Calls Try.prog 79 #[.pointer (some ⟨r, 0, none⟩), .int .i64 0, .int .i64 n] wA (TakeR xs wA r v p 0 0 n)) := take_ref r v xs p 0 0 n wA HA.out.rr HA.out.isb HB.out hc (by omega) h0
    have hsF : w.heap.size + 2 ≤ wA.heap.size := by rw [HA.out.size]; exact Nat.le_refl _
    have HXF := hid_of HA.out.x
    have HRF := hid_of HA.out.res
    have HKF := hid_of HA.out.kept
    go_wp2_with fail
    refine HT.out.mono ?_
    intro e w2 ht
    unfold TakeR at ht
    rw [Nat.add_zero] at ht
    revert ht
    rintro (⟨hlt, rfl, hr, hk⟩ | ⟨hle, v', rfl, hib, hown, hr, hk⟩)
    · have HE : Hid (oneD 6 n (xs.drop p) = .error 11) := by unfold Hid oneD; rw [if_neg (by decide), if_neg (by decide), if_neg (by decide), if_neg (by decide), if_neg (by decide), if_pos rfl]; unfold rawD; rw [if_neg (by omega), List.length_drop, if_pos (by omega)]; rfl
      have hs1 := hk.size
      have hxb := (hk.block (w.heap.size + 1) (by omega) (by omega)).trans HXF.out
      have hrb := (hk.block w.heap.size (by omega) (by omega)).trans HRF.out
      have hkw : Kept (fun q => q = r) w w2 := (HKF.out.mono (fun _ _ f => f.elim)).trans hk
      have HXB := hid_of hxb
      have HRB := hid_of hrb
      have HKW := hid_of hkw
      have HR1 := hid_of hr
      clear hk hxb hrb hkw hr HT HXF HRF HKF
      have x1 : w2.cell? ⟨w.heap.size + 1, 2, none⟩ = some (.slice none 0 0) := by rw [cell_block _ _ _ _ _ _ HXB.out]; rfl
      have xf := frozen_block _ _ 2 _ _ HXB.out
      have xl := (Array.getElem?_eq_some_iff.1 HXB.out).1
      go_upto_region 28 with fail
      have k2 := kept_set w2 (w.heap.size + 1) 2 (.slice none 0 0)
      have hx2 : (w2.setCell ⟨w.heap.size + 1, 2, none⟩ (.slice none 0 0)).heap[w.heap.size + 1]? = some (.cells #[.int .i64 6, .int .i64 0, .slice none 0 0] 63 (0, 0)) := by rw [set_block _ _ _ _ _ _ HXB.out]; rfl
      have hr2 := HR1.out.kept k2 (by omega)
      have hb2 := (k2.block w.heap.size (Array.getElem?_eq_some_iff.1 HRB.out).1 (by omega)).trans HRB.out
      have hk2 : Kept (fun q => q = r) w (w2.setCell ⟨w.heap.size + 1, 2, none⟩ (.slice none 0 0)) := HKW.out.step k2 (fun i hi e => by omega)
      have HEND := hid_of (end60 hk2 hb2 hx2 hrl hr2 (Kept.refl _ _))
      clear k2 hx2 hr2 hb2 hk2 HXB HRB HR1 HKW x1 xf xl
      generalize w2.setCell ⟨w.heap.size + 1, 2, none⟩ (.slice none 0 0) = w3 at *
      obtain ⟨z0, z1, z2, y0, y1, y2, g0, g1, g2, hsz, f1, f2, f3, f4⟩ := HEND.out
      have HF := hid_of f4
      have HG : Hid (ReadR 6 n xs w r v p (.returned (.agg #[.int .i64 6, .int .i64 0, .slice none 0 0])) (laid60 w w3 6 (0) (.slice none 0 0))) := .inr ⟨11, p, HE.out, rfl, f1, f2⟩
      clear f1 f2 f3 f4 HEND
      unfold laid60 at HF HG
      go_wp2
      refine bodyPost_ret (v := .agg #[.int .i64 6, .int .i64 0, .slice none 0 0]) ?_ rfl HG.out
      exact results_cell_row (by rfl) _ _ w.heap.size 63 _ (0, 0) _ (by rfl) HF.out Try.underlying63 rfl sizeItem
    · obtain ⟨ys, hys⟩ : ∃ ys, ys = (xs.drop (p)).take (n).toNat := ⟨_, rfl⟩
      rw [← hys] at hib
      obtain ⟨bao, bc, hbv⟩ := hib.shape
      subst hbv
      have HE : Hid (oneD 6 n (xs.drop p) = .ok ((0, ys), xs.drop (p + (n).toNat))) := by unfold Hid oneD; rw [if_neg (by decide), if_neg (by decide), if_neg (by decide), if_neg (by decide), if_neg (by decide), if_pos rfl]; unfold rawD; rw [if_neg (by omega), List.length_drop, if_neg (by omega), List.drop_drop, hys]; rfl
      have hqn : p + (n).toNat ≤ xs.length := by omega
      have hs1 := hk.size
      have hxb := (hk.block (w.heap.size + 1) (by omega) (by omega)).trans HXF.out
      have hrb := (hk.block w.heap.size (by omega) (by omega)).trans HRF.out
      have hkw : Kept (fun q => q = r) w w2 := (HKF.out.mono (fun _ _ f => f.elim)).trans hk
      have HXB := hid_of hxb
      have HRB := hid_of hrb
      have HKW := hid_of hkw
      have HR1 := hid_of hr
      have HIB := hid_of hib
      have HOW : Hid (∀ b, (Value.slice bao ys.length bc).ownBlock = some b → w.heap.size + 2 ≤ b ∧ b < w2.heap.size) := fun b hb => by have := hown b hb; omega
      have HYS := hid_of hys
      clear hk hxb hrb hkw hr HT HXF HRF HKF hib hown hys
      have x1 : w2.cell? ⟨w.heap.size + 1, 2, none⟩ = some (.slice none 0 0) := by rw [cell_block _ _ _ _ _ _ HXB.out]; rfl
      have xf := frozen_block _ _ 2 _ _ HXB.out
      have xl := (Array.getElem?_eq_some_iff.1 HXB.out).1
      go_upto_region 28 with fail
      have k2 := kept_set w2 (w.heap.size + 1) 2 (.slice bao ys.length bc)
      have hx2 : (w2.setCell ⟨w.heap.size + 1, 2, none⟩ (.slice bao ys.length bc)).heap[w.heap.size + 1]? = some (.cells #[.int .i64 6, .int .i64 0, .slice bao ys.length bc] 63 (0, 0)) := by rw [set_block _ _ _ _ _ _ HXB.out]; rfl
      have hr2 := HR1.out.kept k2 (by omega)
      have hb2 := (k2.block w.heap.size (Array.getElem?_eq_some_iff.1 HRB.out).1 (by omega)).trans HRB.out
      have hk2 : Kept (fun q => q = r) w (w2.setCell ⟨w.heap.size + 1, 2, none⟩ (.slice bao ys.length bc)) := HKW.out.step k2 (fun i hi e => by omega)
      have hszW : (w2.setCell ⟨w.heap.size + 1, 2, none⟩ (.slice bao ys.length bc)).heap.size = w2.heap.size := by simp
      have HI2 := hid_of (HIB.out.kept k2 (fun b hb e => by have := (HOW.out b hb).1; omega))
      have HO2 : Hid (∀ b, (Value.slice bao ys.length bc).ownBlock = some b → w.heap.size + 2 ≤ b ∧ b < (w2.setCell ⟨w.heap.size + 1, 2, none⟩ (.slice bao ys.length bc)).heap.size) := fun b hb => by rw [hszW]; exact HOW.out b hb
      have HEND := hid_of (end60 hk2 hb2 hx2 hrl hr2 (Kept.refl _ _))
      clear k2 hx2 hr2 hb2 hk2 HXB HRB HR1 HKW x1 xf xl hszW HIB HOW
      generalize w2.setCell ⟨w.heap.size + 1, 2, none⟩ (.slice bao ys.length bc) = w3 at *
      obtain ⟨z0, z1, z2, y0, y1, y2, g0, g1, g2, hsz, f1, f2, f3, f4⟩ := HEND.out
      have HF := hid_of f4
      have HG : Hid (ReadR 6 n xs w r v p (.returned (.agg #[.int .i64 6, .int .i64 0, .slice bao ys.length bc])) (laid60 w w3 6 (0) (.slice bao ys.length bc))) := .inl ⟨(0, ys), p + (n).toNat, .slice bao ys.length bc, HE.out, hqn, rfl, HI2.out.kept f3 (fun b hb e => by have := (HO2.out b hb).1; omega), fun b hb => ⟨by have := (HO2.out b hb).1; omega, Nat.lt_of_lt_of_le (HO2.out b hb).2 f3.size⟩, f1, f2⟩
      clear f1 f2 f3 f4 HEND
      unfold laid60 at HF HG
      go_wp2
      refine bodyPost_ret (v := .agg #[.int .i64 6, .int .i64 0, .slice bao ys.length bc]) ?_ rfl HG.out
      exact results_cell_row (by rfl) _ _ w.heap.size 63 _ (0, 0) _ (by rfl) HF.out Try.underlying63 rfl sizeItem
end Go.Proofs.Ytnjhnlohjhdcpaa
