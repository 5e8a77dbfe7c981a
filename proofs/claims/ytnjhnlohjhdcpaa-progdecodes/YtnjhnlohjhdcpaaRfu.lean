/-
  The reference's Reader: take, where there is enough.
-/
import Derived.Test.YtnjhnlohjhdcpaaRft
import Derived.Deep.RegionLaw
namespace Go.Proofs.Ytnjhnlohjhdcpaa
open Go.RowKit Go.Deep
set_option linter.unusedVariables false

set_option maxRecDepth 100000 in
set_option maxHeartbeats 1000000 in
theorem take_some (r b o L c p : Nat) (flt : Int) (a m : Nat) (ys : List Int) (w : World) (h : RR w r (.slice (some ⟨b, o, none⟩) L c) p flt) (hL : L ≤ 140737488351232) (hLc : L ≤ c) (hp : p + a + m ≤ L) (hm : 0 < m) (hy : ys.length = m) (hc : ∀ i, i < m → w.cell? ⟨b, o + (p + a) + i, none⟩ = some (.int .u8 (ys.getD i 0))) :
    Calls Try.prog 79 #[.pointer (some ⟨r, 0, none⟩), .int .i64 (a : Int), .int .i64 (m : Int)] w fun e w' => ∃ v', e = .returned v' ∧ w'.ownsRow w.heap.size 5 1 v' m (ys.map (Value.int .u8)) ∧ RR w' r (.slice (some ⟨b, o, none⟩) L c) (p + a + m) flt ∧ Kept (fun q => q = r) w w' := by
  obtain ⟨i5, hi5, z50, z51, z52⟩ := info_parts Try.info5
  have HRR := hid_of h
  obtain ⟨c0, c1, _, _, hl⟩ := h.cells
  have HC := hid_of hc
  have hw3 : IntKind.i64.wrap ((L : Int) - p) = (L : Int) - p := by simp [IntKind.wrap, IntKind.bits, IntKind.signed]; omega
  have hw4 : IntKind.i64.wrap ((L : Int) - p - a) = (L : Int) - p - a := by simp [IntKind.wrap, IntKind.bits, IntKind.signed]; omega
  have hw5 : IntKind.i64.wrap ((p : Int) + a) = (p : Int) + a := by simp [IntKind.wrap, IntKind.bits, IntKind.signed]; omega
  have hw6 : IntKind.i64.wrap ((p : Int) + a + m) = (p : Int) + a + m := by simp [IntKind.wrap, IntKind.bits, IntKind.signed]; omega
  have hlt : ¬ ((L : Int) - p - a < (m : Int)) := by omega
  clear h hc
  go_enter Try.func79, Try.ntmps79
  go_wp2_with fail
  go_quiet (fail)
  have hk := kept_drewN (Kept.refl (fun _ => False) w) nq
  have HK := hid_of hk
  obtain ⟨d0, d1, _, d3, d4⟩ := (HRR.out.kept hk (fun f => f)).cells
  have hsz : (w.drewN nq).heap.size = w.heap.size := by have := hk.size; simp [World.drewN]
  clear hk c0 c1 hl
  generalize w.drewN nq = wq at *
  go_wp2_with fail
  have hix1 : ((p : Int) + a).toNat = p + a := by omega
  have hix2 : ((p : Int) + a + m).toNat = p + a + m := by omega
  have hcne : ¬ (c = p + a) := by omega
  have hix3 : p + a + m - (p + a) = m := by omega
  have hi0 : (0 : Int) ≤ (p : Int) + a := by omega
  have hi1 : (p : Int) + a ≤ (p : Int) + a + m := by omega
  have hi2 : (p : Int) + a + m ≤ (c : Int) := by omega
  have HNW : Hid (∀ (j : Nat) (u : Value), (ys.map (Value.int .u8))[j]? = some u → wq.cell? ((⟨b, o + (p + a), none⟩ : Addr).add j) = some u) := fun j u hj => by
    rw [List.getElem?_map] at hj
    cases hyj : ys[j]? with
    | none => rw [hyj] at hj; cases hj
    | some x =>
      rw [hyj] at hj
      cases hj
      obtain ⟨hlt, _⟩ := List.getElem?_eq_some_iff.1 hyj
      have hh := HK.out.cell (HC.out j (by omega)) (fun f => f)
      rw [List.getD, hyj] at hh
      rw [Addr.add_lit]
      exact hh
  have HFIN : Hid (∀ (v' : Value) (w5 : World), w5.ownsRow wq.heap.size 5 1 v' m (ys.map (Value.int .u8)) → Kept (fun _ => False) wq w5 → w5.cell? ⟨r, 1, none⟩ = some (.int .i64 (p : Int)) ∧ w5.frozen? ⟨r, 1, none⟩ = false ∧ r < w5.heap.size ∧ ∃ v2, Ending.returned v' = .returned v2 ∧ (w5.setCell ⟨r, 1, none⟩ (.int .i64 ((p : Int) + a + m))).ownsRow w.heap.size 5 1 v2 m (ys.map (Value.int .u8)) ∧ RR (w5.setCell ⟨r, 1, none⟩ (.int .i64 ((p : Int) + a + m))) r (.slice (some ⟨b, o, none⟩) L c) (p + a + m) flt ∧ Kept (fun q => q = r) w (w5.setCell ⟨r, 1, none⟩ (.int .i64 ((p : Int) + a + m)))) := fun v' w5 hown hk5 => by
    have hkk := HK.out.trans hk5
    have h5 := HRR.out.kept hkk (fun f => f)
    obtain ⟨_, g1, _, g3, g4⟩ := h5.cells
    obtain ⟨a1, a2⟩ := h5.at (p + a + m)
    rw [show ((p + a + m : Nat) : Int) = (p : Int) + a + m from by omega] at a1 a2
    refine ⟨g1, g3 1, g4, v', rfl, ?_, a1, (hkk.mono (fun _ _ f => f.elim)).trans a2⟩
    rw [← hsz]
    exact a2.ownsRow hown (fun q hq e => by have := (hown.lt q hq).1; omega)
  go_region_law (first | (refine step_own_at rfl (.tmp 25) (.tmp 44) 22 rfl wq.heap.size 5 i5 (.int .u8 0) 1 1 Try.underlying22 hi5 z50 z51 z52 rfl (by decide) (.slice none 0 0) 0 [] (by first | rfl | simp [Act.eval, Act.put]) (World.ownsRow_nil _ _ _ _) ⟨b, o + (p + a), none⟩ m (c - (p + a)) (ys.map (Value.int .u8)) (by first | rfl | (simp [Act.eval, Act.put, hcne]; done) | (simp [Act.eval, Act.put, hcne, hix1, hix2, hix3])) (by simp [hy]) (by first | exact HNW.out | (intro j u hj; exact HNW.out j u hj)) (map_one ys) (by unfold maxLen; omega) (by omega) (by first | exact Nat.le_refl _ | simp) ?_; intro v' w5 hown hgrow hat; have hk5 := kept_app (w3 := wq) hgrow (by first | exact Kept.refl _ wq | exact (Kept.refl _ wq).drew | exact ((Kept.refl _ wq).drew).drew); obtain ⟨k1, k2, k3, k4⟩ := HFIN.out v' w5 (by simpa using hown) (hk5.mono (fun q hq e => by cases e)); clear hown hgrow hat hk5))
  all_goals (try go_wp2)
  all_goals (try go_ret)
  all_goals exact k4
end Go.Proofs.Ytnjhnlohjhdcpaa
