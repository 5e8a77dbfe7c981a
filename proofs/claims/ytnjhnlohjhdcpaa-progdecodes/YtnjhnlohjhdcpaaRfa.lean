/-
  Rfa: Rfr, Rfn, Rfl, Rfm, Rfo, Rfp.
-/
import Derived.Test.YtnjhnlohjhdcpaaMc
import Derived.Deep.QuietTactic
import Derived.BigQuiet
namespace Go.Proofs.Ytnjhnlohjhdcpaa
open Go.RowKit Go.Deep
set_option linter.unusedVariables false

/-- The reference's Reader in memory: its bytes, where it stands, its fault. -/
def RR (w : World) (r : Nat) (v : Value) (p : Nat) (flt : Int) : Prop := w.heap[r]? = some (.cells #[v, .int .i64 (p : Int), .int .i64 flt] 71 (0, 0))

section
variable {w w' : World} {r p : Nat} {v : Value} {flt : Int}

theorem RR.cells (h : RR w r v p flt) : w.cell? ⟨r, 0, none⟩ = some v ∧ w.cell? ⟨r, 1, none⟩ = some (.int .i64 (p : Int)) ∧ w.cell? ⟨r, 2, none⟩ = some (.int .i64 flt) ∧ (∀ o, w.frozen? ⟨r, o, none⟩ = false) ∧ r < w.heap.size :=
  ⟨by rw [cell_block _ _ _ _ _ _ h]; rfl, by rw [cell_block _ _ _ _ _ _ h]; rfl, by rw [cell_block _ _ _ _ _ _ h]; rfl, fun o => frozen_block _ _ _ _ _ h, (Array.getElem?_eq_some_iff.1 h).1⟩
theorem RR.kept {S : Nat → Prop} (h : RR w r v p flt) (hk : Kept S w w') (hS : ¬ S r) : RR w' r v p flt := (hk.block r h.cells.2.2.2.2 hS).trans h
theorem RR.fault (h : RR w r v p flt) (f : Int) : RR (w.setCell ⟨r, 2, none⟩ (.int .i64 f)) r v p f ∧ Kept (fun q => q = r) w (w.setCell ⟨r, 2, none⟩ (.int .i64 f)) := by
  refine ⟨?_, kept_set w r 2 _⟩
  unfold RR
  rw [set_block _ _ _ _ _ _ h]
  rfl
theorem RR.at (h : RR w r v p flt) (q : Nat) : RR (w.setCell ⟨r, 1, none⟩ (.int .i64 (q : Int))) r v q flt ∧ Kept (fun q => q = r) w (w.setCell ⟨r, 1, none⟩ (.int .i64 (q : Int))) := by
  refine ⟨?_, kept_set w r 1 _⟩
  unfold RR
  rw [set_block _ _ _ _ _ _ h]
  rfl
end

set_option maxRecDepth 100000 in
theorem left_ref (r : Nat) (ao : Option Addr) (n c p : Nat) (flt : Int) (w : World) (h : RR w r (.slice ao n c) p flt) (hp : p ≤ n) (hn : n ≤ 140737488351232) :
    Calls Try.prog 37 #[.pointer (some ⟨r, 0, none⟩)] w fun e w' => e = .returned (.int .i64 ((n : Int) - p)) ∧ ∃ d, w' = w.drewN d := by
  obtain ⟨c0, c1, _, _, hl⟩ := h.cells
  have hw : IntKind.i64.wrap ((n : Int) - p) = (n : Int) - p := by simp [IntKind.wrap, IntKind.bits, IntKind.signed]; omega
  clear h
  go_enter Try.func37, Try.ntmps37
  go_wp2_with fail
  go_quiet (fail)
  go_wp2
  go_ret
  exact ⟨rfl, _, rfl⟩
end Go.Proofs.Ytnjhnlohjhdcpaa

namespace Go.Proofs.Ytnjhnlohjhdcpaa
open Go.RowKit Go.Deep
set_option linter.unusedVariables false

/-- The reference's Reader has met a fault. -/
def RThrew (w : World) (r : Nat) (v : Value) (p : Nat) (f : Int) (e : Ending) (w' : World) : Prop :=
  e = .returned (.tuple #[.int .u64 0, .int .i64 0]) ∧ RR w' r v p f ∧ Kept (fun q => q = r) w w'

theorem rthrew {w w1 : World} {r : Nat} {v : Value} {p : Nat} {flt : Int} (h : RR w r v p flt) (hk : Kept (fun _ => False) w w1) (f : Int) : RThrew w r v p f (.returned (.tuple #[.int .u64 0, .int .i64 0])) (w1.setCell ⟨r, 2, none⟩ (.int .i64 f)) := by
  obtain ⟨a, b⟩ := (h.kept hk (fun f => f)).fault f
  exact ⟨rfl, a, (hk.mono (fun _ _ f => f.elim)).trans b⟩

set_option maxRecDepth 100000 in
theorem number_none (r : Nat) (ao : Option Addr) (n c : Nat) (flt : Int) (w : World) (h : RR w r (.slice ao n c) n flt) :
    Calls Try.prog 78 #[.pointer (some ⟨r, 0, none⟩)] w (RThrew w r (.slice ao n c) n 11) := by
  have HT := hid_of (fun d => rthrew h (kept_drewN (Kept.refl _ w) d) 11)
  have HK := hid_of (fun d => (h.kept (kept_drewN (Kept.refl (fun _ => False) w) d) (fun f => f)).cells)
  obtain ⟨c0, c1, _, _, hl⟩ := h.cells
  clear h
  go_enter Try.func78, Try.ntmps78
  go_wp2_with fail
  go_quiet (fail)
  obtain ⟨_, _, d2, d3, d4⟩ := HK.out nq
  have d3' := d3 2
  have HTQ := hid_of (HT.out nq)
  clear HK HT d3 c0 c1 hl
  generalize w.drewN nq = wq at *
  go_wp2
  go_ret2
  exact HTQ.out

set_option maxRecDepth 100000 in
theorem number_small (r b o n c p : Nat) (flt u : Int) (w : World) (h : RR w r (.slice (some ⟨b, o, none⟩) n c) p flt) (hp : p < n) (hn : n ≤ 140737488351232) (hu : w.cell? ⟨b, o + p, none⟩ = some (.int .u8 u)) (h0 : 0 ≤ u) (h1 : u ≤ 247) :
    Calls Try.prog 78 #[.pointer (some ⟨r, 0, none⟩)] w fun e w' => e = .returned (.tuple #[.int .u64 u, .int .i64 1]) ∧ Kept (fun _ => False) w w' := by
  have HK := hid_of (fun d => (h.kept (kept_drewN (Kept.refl (fun _ => False) w) d) (fun f => f)).cells)
  have HU := hid_of (fun d => (kept_drewN (Kept.refl (fun _ => False) w) d).cell hu (fun f => f))
  have HKD := hid_of (fun d => kept_drewN (Kept.refl (fun _ => False) w) d)
  obtain ⟨c0, c1, _, _, hl⟩ := h.cells
  clear h
  have hpI : ¬ ((n : Int) ≤ (p : Int)) := by omega
  have hpJ : (p : Int) < (n : Int) := by omega
  have hw1 : IntKind.i64.wrap u = u := by simp [IntKind.wrap, IntKind.bits, IntKind.signed]; omega
  have hw2 : IntKind.u64.wrap u = u := by simp [IntKind.wrap, IntKind.bits, IntKind.signed]; omega
  go_enter Try.func78, Try.ntmps78
  go_wp2_with fail
  go_quiet (fail)
  obtain ⟨d0, d1, _, _, d4⟩ := HK.out nq
  have du := HU.out nq
  have HQ := hid_of (HKD.out nq)
  clear HK HU HKD c0 c1 hl hu
  generalize w.drewN nq = wq at *
  go_wp2_with fail
  go_quiet (fail)
  have HQ2 := hid_of (kept_drewN HQ.out nq)
  clear HQ du d0 d1 d4
  go_wp2
  go_ret2
  exact ⟨rfl, HQ2.out⟩
end Go.Proofs.Ytnjhnlohjhdcpaa

namespace Go.Proofs.Ytnjhnlohjhdcpaa
open Go.RowKit Go.Deep
set_option linter.unusedVariables false

set_option maxRecDepth 100000 in
theorem number_cut (r b o n c p K : Nat) (flt : Int) (w : World) (h : RR w r (.slice (some ⟨b, o, none⟩) n c) p flt) (hp : p < n) (hn : n ≤ 140737488351232) (hu : w.cell? ⟨b, o + p, none⟩ = some (.int .u8 (247 + (K : Int)))) (h1 : 1 ≤ K) (h8 : K ≤ 8) (hcut : n - p - 1 < K) :
    Calls Try.prog 78 #[.pointer (some ⟨r, 0, none⟩)] w (RThrew w r (.slice (some ⟨b, o, none⟩) n c) p 11) := by
  have HRR := hid_of h
  have HU := hid_of (fun d => (kept_drewN (Kept.refl (fun _ => False) w) d).cell hu (fun f => f))
  have HKD := hid_of (fun d => kept_drewN (Kept.refl (fun _ => False) w) d)
  obtain ⟨c0, c1, _, _, hl⟩ := h.cells
  clear h
  have hpI : ¬ ((n : Int) ≤ (p : Int)) := by omega
  have hpJ : (p : Int) < (n : Int) := by omega
  have hw1 : IntKind.i64.wrap (247 + (K : Int)) = 247 + (K : Int) := by simp [IntKind.wrap, IntKind.bits, IntKind.signed]; omega
  have hk1 : ¬ (247 + (K : Int) ≤ 247) := by omega
  have hw2 : IntKind.i64.wrap (247 + (K : Int) - 247) = (K : Int) := by simp [IntKind.wrap, IntKind.bits, IntKind.signed]; omega
  have hw3 : IntKind.i64.wrap ((n : Int) - p) = (n : Int) - p := by simp [IntKind.wrap, IntKind.bits, IntKind.signed]; omega
  have hw4 : IntKind.i64.wrap ((n : Int) - p - 1) = (n : Int) - p - 1 := by simp [IntKind.wrap, IntKind.bits, IntKind.signed]; omega
  have hlt : (n : Int) - p - 1 < (K : Int) := by omega
  go_enter Try.func78, Try.ntmps78
  go_wp2_with fail
  go_quiet (fail)
  have HQ := hid_of (HKD.out nq)
  obtain ⟨d0, d1, _, _, d4⟩ := (HRR.out.kept HQ.out (fun f => f)).cells
  have du := HU.out nq
  clear HU HKD c0 c1 hl hu
  generalize w.drewN nq = wq at *
  go_wp2_with fail
  go_quiet (fail)
  have HQ2 := hid_of (kept_drewN HQ.out nq)
  obtain ⟨g0, g1, _, _, g4⟩ := (HRR.out.kept HQ2.out (fun f => f)).cells
  clear HQ du d0 d1 d4
  generalize wq.drewN nq = wr at *
  go_wp2_with fail
  go_quiet (fail)
  have HQ3 := hid_of (kept_drewN HQ2.out nq)
  obtain ⟨_, _, e2, e3, e4⟩ := (HRR.out.kept HQ3.out (fun f => f)).cells
  have e3' := e3 2
  have HT := hid_of (rthrew HRR.out HQ3.out 11)
  clear HQ2 g0 g1 g4 e3
  generalize wr.drewN nq = ws at *
  go_wp2
  go_ret2
  exact HT.out

set_option maxRecDepth 100000 in
set_option maxHeartbeats 2000000 in
theorem number_long (r b o n c p K : Nat) (flt u : Int) (w : World) (h : RR w r (.slice (some ⟨b, o, none⟩) n c) p flt) (hp : p < n) (hn : n ≤ 140737488351232) (hu : w.cell? ⟨b, o + p, none⟩ = some (.int .u8 (247 + (K : Int)))) (h1 : 1 ≤ K) (h8 : K ≤ 8) (hcut : K ≤ n - p - 1) (h0 : 0 ≤ u) (hlt : u < (256 : Int) ^ K) (hc : ∀ i, i < K → w.cell? ⟨b, o + (p + (i + 1)), none⟩ = some (.int .u8 (u / (256 : Int) ^ (K - 1 - i) % 256))) :
    Calls Try.prog 78 #[.pointer (some ⟨r, 0, none⟩)] w fun e w' => ((Mth.form u).length = 1 + K ∧ e = .returned (.tuple #[.int .u64 u, .int .i64 (1 + (K : Int))]) ∧ Kept (fun _ => False) w w') ∨ ((Mth.form u).length ≠ 1 + K ∧ RThrew w r (.slice (some ⟨b, o, none⟩) n c) p 12 e w') := by
  have HRR := hid_of h
  have hu64 : u < 18446744073709551616 := Int.lt_of_lt_of_le hlt (pow256_le K h8)
  have HU := hid_of (fun d => (kept_drewN (Kept.refl (fun _ => False) w) d).cell hu (fun f => f))
  have HKD := hid_of (fun d => kept_drewN (Kept.refl (fun _ => False) w) d)
  have HC := hid_of hc
  have HLT := hid_of hlt
  obtain ⟨c0, c1, _, _, hl⟩ := h.cells
  clear h hc hlt
  have hpI : ¬ ((n : Int) ≤ (p : Int)) := by omega
  have hpJ : (p : Int) < (n : Int) := by omega
  have hw1 : IntKind.i64.wrap (247 + (K : Int)) = 247 + (K : Int) := by simp [IntKind.wrap, IntKind.bits, IntKind.signed]; omega
  have hk1 : ¬ (247 + (K : Int) ≤ 247) := by omega
  have hw2 : IntKind.i64.wrap (247 + (K : Int) - 247) = (K : Int) := by simp [IntKind.wrap, IntKind.bits, IntKind.signed]; omega
  have hw3 : IntKind.i64.wrap ((n : Int) - p) = (n : Int) - p := by simp [IntKind.wrap, IntKind.bits, IntKind.signed]; omega
  have hw4 : IntKind.i64.wrap ((n : Int) - p - 1) = (n : Int) - p - 1 := by simp [IntKind.wrap, IntKind.bits, IntKind.signed]; omega
  have hltI : ¬ ((n : Int) - p - 1 < (K : Int)) := by omega
  have hw5 : IntKind.i64.wrap (1 + (K : Int)) = 1 + (K : Int) := by simp [IntKind.wrap, IntKind.bits, IntKind.signed]; omega
  go_enter Try.func78, Try.ntmps78
  go_wp2_with fail
  go_quiet (fail)
  have HQ := hid_of (HKD.out nq)
  obtain ⟨d0, d1, _, _, d4⟩ := (HRR.out.kept HQ.out (fun f => f)).cells
  have du := HU.out nq
  clear HU HKD c0 c1 hl hu
  generalize w.drewN nq = wq at *
  go_wp2_with fail
  go_quiet (fail)
  have HQ2 := hid_of (kept_drewN HQ.out nq)
  obtain ⟨g0, g1, _, _, g4⟩ := (HRR.out.kept HQ2.out (fun f => f)).cells
  clear HQ du d0 d1 d4
  generalize wq.drewN nq = wr at *
  go_wp2_with fail
  go_quiet (fail)
  have HQ3 := hid_of (kept_drewN HQ2.out nq)
  clear HQ2 g0 g1 g4
  generalize wr.drewN nq = ws at *
  go_wp2
  go_loopw [6, 7] (fun a i wt => ∃ j : Nat, j ≤ K ∧ i = .int .i64 ((j : Int) + 1) ∧ a = .int .u64 (u / (256 : Int) ^ (K - j)) ∧ Kept (fun _ => False) w wt) (fun _ i _ => K + 1 - (intOf i).toNat)
  case atStart => exact ⟨0, Nat.zero_le _, rfl, by rw [Nat.sub_zero, Int.ediv_eq_zero_of_lt h0 HLT.out], HQ3.out⟩
  case round =>
    obtain ⟨j, hj, rfl, rfl, hkt⟩ := hrel
    obtain ⟨g0, g1, _, _, g4⟩ := (HRR.out.kept hkt (fun f => f)).cells
    have HKT := hid_of hkt
    by_cases hjK : j < K
    · have hjI : (j : Int) + 1 ≤ (K : Int) := by omega
      have hcell := hkt.cell (HC.out j hjK) (fun f => f)
      have hw6 : IntKind.i64.wrap ((p : Int) + ((j : Int) + 1)) = (p : Int) + ((j : Int) + 1) := by simp [IntKind.wrap, IntKind.bits, IntKind.signed]; omega
      have hix : ((p : Int) + ((j : Int) + 1)).toNat = p + (j + 1) := by omega
      have hix2 : (p : Int) + ((j : Int) + 1) < (n : Int) := by omega
      have hix3 : 0 ≤ (p : Int) + ((j : Int) + 1) := by omega
      have hd := div_le u (K - 1 - j) h0
      have hb0 : 0 ≤ u / (256 : Int) ^ (K - 1 - j) % 256 := by omega
      have hb1 : u / (256 : Int) ^ (K - 1 - j) % 256 < 256 := by omega
      have hwb : IntKind.u64.wrap (u / (256 : Int) ^ (K - 1 - j) % 256) = u / (256 : Int) ^ (K - 1 - j) % 256 := by rw [IntKind.wrap_u64]; omega
      have E : bits .or .u64 (IntKind.u64.wrap (u / 256 ^ (K - j) * 256)) (u / 256 ^ (K - 1 - j) % 256) = u / 256 ^ (K - (j + 1)) := by
        rw [show K - j = (K - 1 - j) + 1 by omega, div_step, show K - (j + 1) = K - 1 - j by omega]
        exact or_step _ hd.1 (by omega)
      have HE := hid_of E
      clear hd E hkt
      go_wp2_with fail
      go_quiet (fail)
      have HQ4 := hid_of (kept_drewN HKT.out nq)
      clear g0 g1 g4 hcell
      generalize wr.drewN nq = wz at *
      go_wp2
      go_roundw
      case rel => exact ⟨j + 1, by omega, by go_num, by rw [HE.out], HQ4.out⟩
      case measure => simp [intOf]; omega
    · obtain rfl : j = K := by omega
      have e : u / (256 : Int) ^ (j - j) = u := by rw [Nat.sub_self]; simp
      rw [e]
      have HF := hid_of (rform_any u wr h0 hu64)
      clear e hkt
      go_wp2_with fail
      refine HF.out.mono ?_
      rintro e wf ⟨v', rfl, hown, hkf⟩
      obtain ⟨fao, fc, rfl⟩ := ownsRow_shape hown
      have HKF := hid_of (HKT.out.trans hkf)
      obtain ⟨L, hL⟩ : ∃ L, L = (Mth.form u).length := ⟨_, rfl⟩
      have HL := hid_of hL
      rw [← hL]
      clear hown hkf HKT HF g0 g1 g4 hL
      by_cases hlen : L = 1 + j
      · have hne : ((L : Int) != 1 + (j : Int)) = false := by simp; omega
        go_wp2
        go_ret2
        exact .inl ⟨by rw [← HL.out]; exact hlen, rfl, HKF.out⟩
      · have hne : ((L : Int) != 1 + (j : Int)) = true := by simp; omega
        obtain ⟨_, _, e2, e3, e4⟩ := (HRR.out.kept HKF.out (fun f => f)).cells
        have e3' := e3 2
        have HT := hid_of (rthrew HRR.out HKF.out 12)
        clear e3
        go_wp2
        go_ret2
        exact .inr ⟨by rw [← HL.out]; exact hlen, HT.out⟩
end Go.Proofs.Ytnjhnlohjhdcpaa

namespace Go.Proofs.Ytnjhnlohjhdcpaa
open Go.RowKit Go.Deep
set_option linter.unusedVariables false

/-- What the reference's number answers. -/
def NumR (xs : List Int) (w : World) (r : Nat) (v : Value) (p : Nat) (e : Ending) (w' : World) : Prop :=
  (∃ (u : Int) (q : Nat), formD (xs.drop p) = .ok (u, xs.drop q) ∧ p < q ∧ q ≤ xs.length ∧ 0 ≤ u ∧ u < 18446744073709551616 ∧ e = .returned (.tuple #[.int .u64 u, .int .i64 ((q : Int) - p)]) ∧ Kept (fun _ => False) w w') ∨
  ∃ f, formD (xs.drop p) = .error f ∧ RThrew w r v p f e w'

theorem drop_split {xs a rest : List Int} {p : Nat} (h : xs.drop p = a ++ rest) : rest = xs.drop (p + a.length) ∧ (∀ i, i < a.length → xs.getD (p + i) 0 = a.getD i 0) := by
  refine ⟨?_, fun i hi => ?_⟩
  · rw [← List.drop_drop, h, List.drop_left]
  · have : (xs.drop p)[i]? = a[i]? := by rw [h, List.getElem?_append_left hi]
    rw [List.getElem?_drop] at this
    rw [List.getD, List.getD, this]

theorem number_ref (r : Nat) (v : Value) (xs : List Int) (p : Nat) (flt : Int) (w : World) (h : RR w r v p flt) (hx : IsB w v xs) (hb : BytesOk xs) (hp : p ≤ xs.length) :
    Calls Try.prog 78 #[.pointer (some ⟨r, 0, none⟩)] w (NumR xs w r v p) := by
  have hbd : ∀ x ∈ xs.drop p, 0 ≤ x ∧ x ≤ 255 := fun x hx => hb.1 x (List.mem_of_mem_drop hx)
  have hlen : (xs.drop p).length = xs.length - p := List.length_drop
  have hn := hb.2
  by_cases hpn : p = xs.length
  · obtain ⟨ao, c, rfl⟩ := hx.shape
    subst hpn
    have hf : formD (xs.drop xs.length) = .error 11 := by rw [List.drop_length]; rfl
    exact (number_none r ao xs.length c flt w h).mono (fun e w' ht => .inr ⟨11, hf, ht⟩)
  · obtain ⟨g, o, c, hv, hc⟩ : ∃ g o c, v = .slice (some ⟨g, o, none⟩) xs.length c ∧ ∀ i, i < xs.length → w.cell? ⟨g, o + i, none⟩ = some (.int .u8 (xs.getD i 0)) := by
      rcases hx with ⟨h0, _⟩ | ⟨g, o, c, h1, h2⟩
      · have : xs.length = 0 := by rw [h0]; rfl
        omega
      · exact ⟨g, o, c, h1, h2⟩
    subst hv
    have hpl : p < xs.length := by omega
    rcases formD_cases (xs.drop p) hbd with ⟨u, rest, hf, hsp, h0, h1⟩ | ⟨hf, hsp | ⟨K, t, hsp, h1, h8, h2⟩⟩ | ⟨hf, K, u, rest, hsp, h1, h8, h3, h4, h5⟩
    · by_cases hu : u ≤ 247
      · rw [show Mth.form u = [u] from by unfold Mth.form; rw [if_pos hu]] at hsp
        obtain ⟨e1, e2⟩ := drop_split hsp
        have h00 := e2 0 (by simp)
        refine (number_small r g o xs.length c p flt u w h hpl hn (by rw [hc p hpl, ← Nat.add_zero p, h00]; rfl) h0 hu).mono ?_
        rintro e w' ⟨rfl, hk⟩
        exact .inl ⟨u, p + 1, by rw [hf, e1]; rfl, by omega, by omega, h0, h1, by rw [show ((p + 1 : Nat) : Int) - (p : Int) = 1 from by omega], hk⟩
      · have hfu : Mth.form u = (247 + ((Mth.sz u : Nat) : Int)) :: Mth.be (Mth.sz u) u := by unfold Mth.form; rw [if_neg hu]
        have hK8 := Mth.sz_le u
        have hK1 : 1 ≤ Mth.sz u := by have := Mth.sz_cases u; omega
        have hlt := Mth.sz_spec u h1
        rw [hfu] at hsp
        generalize hK : Mth.sz u = K at *
        obtain ⟨e1, e2⟩ := drop_split hsp
        have hll : ((247 + (K : Int)) :: Mth.be K u).length = K + 1 := by rw [List.length_cons, Mth.be_length]
        have hlr := congrArg List.length hsp
        rw [hlen, List.length_append, hll] at hlr
        have h00 := e2 0 (by omega)
        refine (number_long r g o xs.length c p K flt u w h hpl hn (by rw [hc p hpl, ← Nat.add_zero p, h00]; rfl) hK1 hK8 (by omega) h0 hlt (fun i hi => ?_)).mono ?_
        · rw [hc (p + (i + 1)) (by omega), e2 (i + 1) (by omega), List.getD, List.getElem?_cons_succ, Mth.be_get K u i hi]
          rfl
        · rintro e w' (⟨hl, rfl, hk⟩ | ⟨hl, _⟩)
          · exact .inl ⟨u, p + (K + 1), by rw [hf, e1, hll], by omega, by omega, h0, h1, by rw [show ((p + (K + 1) : Nat) : Int) - (p : Int) = 1 + (K : Int) from by omega], hk⟩
          · exact absurd (by rw [hfu, List.length_cons, Mth.be_length]; omega) hl
    · rw [hsp] at hlen
      simp at hlen
      omega
    · obtain ⟨e1, e2⟩ := drop_split (a := [247 + (K : Int)]) (rest := t) hsp
      have h00 := e2 0 (by simp)
      have hlr := congrArg List.length hsp
      rw [hlen, List.length_cons] at hlr
      exact (number_cut r g o xs.length c p K flt w h hpl hn (by rw [hc p hpl, ← Nat.add_zero p, h00]; rfl) h1 h8 (by omega)).mono (fun e w' ht => .inr ⟨11, hf, ht⟩)
    · have hsp' : xs.drop p = ((247 + (K : Int)) :: Mth.be K u) ++ rest := hsp
      obtain ⟨e1, e2⟩ := drop_split hsp'
      have hll : ((247 + (K : Int)) :: Mth.be K u).length = K + 1 := by rw [List.length_cons, Mth.be_length]
      have hlr := congrArg List.length hsp'
      rw [hlen, List.length_append, hll] at hlr
      have h00 := e2 0 (by omega)
      refine (number_long r g o xs.length c p K flt u w h hpl hn (by rw [hc p hpl, ← Nat.add_zero p, h00]; rfl) h1 h8 (by omega) h3 h4 (fun i hi => ?_)).mono ?_
      · rw [hc (p + (i + 1)) (by omega), e2 (i + 1) (by omega), List.getD, List.getElem?_cons_succ, Mth.be_get K u i hi]
        rfl
      · rintro e w' (⟨hl, rfl, hk⟩ | ⟨hl, ht⟩)
        · exfalso
          unfold Mth.form at hl
          by_cases hu : u ≤ 247
          · rw [if_pos hu] at hl
            simp at hl
            omega
          · rw [if_neg hu, List.length_cons, Mth.be_length] at hl
            rcases h5 with h5 | h5
            · exact hu h5
            · omega
        · exact .inr ⟨12, hf, ht⟩
end Go.Proofs.Ytnjhnlohjhdcpaa

namespace Go.Proofs.Ytnjhnlohjhdcpaa
open Go.RowKit Go.Deep
set_option linter.unusedVariables false

/-- What the reference's num answers. -/
def NumR2 (xs : List Int) (w : World) (r : Nat) (v : Value) (p : Nat) (e : Ending) (w' : World) : Prop :=
  (∃ (u : Int) (q : Nat), numD (xs.drop p) = .ok (u, xs.drop q) ∧ p < q ∧ q ≤ xs.length ∧ 0 ≤ u ∧ u ≤ 9223372036854775807 ∧ e = .returned (.tuple #[.int .i64 u, .int .i64 ((q : Int) - p)]) ∧ Kept (fun _ => False) w w') ∨
  ∃ f, numD (xs.drop p) = .error f ∧ e = .returned (.tuple #[.int .i64 0, .int .i64 0]) ∧ RR w' r v p f ∧ Kept (fun q => q = r) w w'

set_option maxRecDepth 100000 in
theorem num_ref (r : Nat) (v : Value) (xs : List Int) (p : Nat) (flt : Int) (w : World) (h : RR w r v p flt) (hx : IsB w v xs) (hb : BytesOk xs) (hp : p ≤ xs.length) :
    Calls Try.prog 77 #[.pointer (some ⟨r, 0, none⟩)] w (NumR2 xs w r v p) := by
  have HN := hid_of (number_ref r v xs p flt w h hx hb hp)
  have HRR := hid_of h
  clear h hx hb
  go_enter Try.func77, Try.ntmps77
  go_wp2_with fail
  refine HN.out.mono ?_
  rintro e w1 (⟨u, q, hf, hq, hqn, h0, h1, rfl, hk⟩ | ⟨f, hf, rfl, hr, hk⟩)
  · have HF := hid_of hf
    have HK := hid_of hk
    have hm : (0 : Int) < (q : Int) - p := by omega
    by_cases hu : u ≤ 9223372036854775807
    · have hd : u / 9223372036854775808 = 0 := by omega
      have hw : IntKind.i64.wrap u = u := by simp [IntKind.wrap, IntKind.bits, IntKind.signed]; omega
      have HE : Hid (numD (xs.drop p) = .ok (u, xs.drop q)) := by unfold Hid numD; rw [hf]; dsimp only; rw [if_pos hu]
      clear hf hk HN HF
      go_wp2
      go_ret2
      exact .inl ⟨u, q, HE.out, hq, hqn, h0, hu, rfl, HK.out⟩
    · have hd : u / 9223372036854775808 = 1 := by omega
      have HE : Hid (numD (xs.drop p) = .error 12) := by unfold Hid numD; rw [hf]; dsimp only; rw [if_neg hu]
      obtain ⟨_, _, e2, e3, e4⟩ := (HRR.out.kept hk (fun f => f)).cells
      have e3' := e3 2
      obtain ⟨a1, a2⟩ := (HRR.out.kept hk (fun f => f)).fault 12
      have HA := hid_of a1
      have HA2 := hid_of ((hk.mono (fun _ _ f => f.elim)).trans a2)
      clear hf hk HN HF e3 a1 a2
      go_wp2
      go_ret2
      exact .inr ⟨12, HE.out, rfl, HA.out, HA2.out⟩
  · have HE : Hid (numD (xs.drop p) = .error f) := by unfold Hid numD; rw [hf]
    have HR := hid_of hr
    have HK := hid_of hk
    clear hf hr hk HN
    go_wp2
    go_ret2
    exact .inr ⟨f, HE.out, rfl, HR.out, HK.out⟩
end Go.Proofs.Ytnjhnlohjhdcpaa

namespace Go.Proofs.Ytnjhnlohjhdcpaa
open Go.RowKit Go.Deep
set_option linter.unusedVariables false

/-- What the reference's Most answers. -/
def MostR (n : Int) (xs : List Int) (w : World) (r : Nat) (v : Value) (p : Nat) (flt : Int) (e : Ending) (w' : World) : Prop :=
  (∃ (u : Int) (q : Nat), mostD n (xs.drop p) = .ok (u, xs.drop q) ∧ p < q ∧ q ≤ xs.length ∧ e = .returned (.int .i64 u) ∧ RR w' r v q flt ∧ Kept (fun q => q = r) w w') ∨
  ∃ f, mostD n (xs.drop p) = .error f ∧ e = .returned (.int .i64 0) ∧ RR w' r v p f ∧ Kept (fun q => q = r) w w'

end Go.Proofs.Ytnjhnlohjhdcpaa
