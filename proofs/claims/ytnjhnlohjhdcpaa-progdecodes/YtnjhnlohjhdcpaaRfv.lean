/-
  The reference's Reader: take of no bytes.
-/
import Derived.Test.YtnjhnlohjhdcpaaRft
import Derived.Deep.RegionLaw
namespace Go.Proofs.Ytnjhnlohjhdcpaa
open Go.RowKit Go.Deep
set_option linter.unusedVariables false

set_option maxRecDepth 100000 in
set_option maxHeartbeats 1000000 in
theorem take_none1 (r : Nat) (ad : Addr) (L c p a : Nat) (flt : Int) (w : World) (h : RR w r (.slice (some ad) L c) p flt) (hL : L ≤ 140737488351232) (hLc : L ≤ c) (hp : p + a ≤ L) (hcne : ¬ c = p + a) :
    Calls Try.prog 79 #[.pointer (some ⟨r, 0, none⟩), .int .i64 (a : Int), .int .i64 0] w fun e w' => e = .returned (.slice none 0 0) ∧ RR w' r (.slice (some ad) L c) (p + a) flt ∧ Kept (fun q => q = r) w w' := by
  have HRR := hid_of h
  obtain ⟨c0, c1, _, _, hl⟩ := h.cells
  have hw3 : IntKind.i64.wrap ((L : Int) - p) = (L : Int) - p := by simp [IntKind.wrap, IntKind.bits, IntKind.signed]; omega
  have hw4 : IntKind.i64.wrap ((L : Int) - p - a) = (L : Int) - p - a := by simp [IntKind.wrap, IntKind.bits, IntKind.signed]; omega
  have hw5 : IntKind.i64.wrap ((p : Int) + a) = (p : Int) + a := by simp [IntKind.wrap, IntKind.bits, IntKind.signed]; omega
  have hlt : ¬ ((L : Int) - p - a < 0) := by omega
  have hix1 : ((p : Int) + a).toNat = p + a := by omega
  have hi0 : (0 : Int) ≤ (p : Int) + a := by omega
  have hi2 : (p : Int) + a ≤ (c : Int) := by omega
  clear h
  go_enter Try.func79, Try.ntmps79
  go_wp2_with fail
  go_quiet (fail)
  have hk := kept_drewN (Kept.refl (fun _ => False) w) nq
  have HK := hid_of hk
  obtain ⟨d0, d1, _, d3, d4⟩ := (HRR.out.kept hk (fun f => f)).cells
  have d3' := d3 1
  have hkk : Kept (fun _ => False) w (w.drewN nq).drew := hk.drew
  have h5 := HRR.out.kept hkk (fun f => f)
  obtain ⟨_, g1, _, g3, g4⟩ := h5.cells
  have g3' := g3 1
  obtain ⟨a1, a2⟩ := h5.at (p + a)
  rw [show ((p + a : Nat) : Int) = (p : Int) + a from by omega] at a1 a2
  have HF : Hid (RR ((w.drewN nq).drew.setCell ⟨r, 1, none⟩ (.int .i64 ((p : Int) + a))) r (.slice (some ad) L c) (p + a) flt ∧ Kept (fun q => q = r) w ((w.drewN nq).drew.setCell ⟨r, 1, none⟩ (.int .i64 ((p : Int) + a)))) := ⟨a1, (hkk.mono (fun _ _ f => f.elim)).trans a2⟩
  clear hk hkk h5 a1 a2 c0 c1 hl d3 g3
  generalize w.drewN nq = wq at *
  go_wp2_with fail
  go_region_law (first | fail)
  all_goals (try go_wp2)
  all_goals (try go_ret)
  all_goals exact ⟨rfl, HF.out⟩

end Go.Proofs.Ytnjhnlohjhdcpaa
