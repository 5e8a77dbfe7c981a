/-
  The reference's Reader: take of no bytes.
-/
import Derived.Test.YtnjhnlohjhdcpaaRft
import Derived.Deep.RegionLaw
namespace Go.Proofs.Ytnjhnlohjhdcpaa
open Go.RowKit Go.Deep
set_option linter.unusedVariables false

set_option maxRecDepth 100000 in
set_option maxHeartbeats 1000000 in
theorem take_none3 (r : Nat) (flt : Int) (w : World) (h : RR w r (.slice none 0 0) 0 flt) :
    Calls Try.prog 79 #[.pointer (some ⟨r, 0, none⟩), .int .i64 0, .int .i64 0] w fun e w' => e = .returned (.slice none 0 0) ∧ RR w' r (.slice none 0 0) 0 flt ∧ Kept (fun q => q = r) w w' := by
  have HRR := hid_of h
  have hw0 : IntKind.i64.wrap 0 = 0 := rfl
  obtain ⟨c0, c1, _, _, hl⟩ := h.cells
  clear h
  go_enter Try.func79, Try.ntmps79
  go_wp2_with fail
  go_quiet (fail)
  have hk := kept_drewN (Kept.refl (fun _ => False) w) nq
  have HK := hid_of hk
  obtain ⟨d0, d1, _, d3, d4⟩ := (HRR.out.kept hk (fun f => f)).cells
  have d3' := d3 1
  have hkk : Kept (fun _ => False) w (w.drewN nq).drew := hk.drew
  have h5 := HRR.out.kept hkk (fun f => f)
  obtain ⟨_, g1, _, g3, g4⟩ := h5.cells
  have g3' := g3 1
  obtain ⟨a1, a2⟩ := h5.at 0
  have HF : Hid (RR ((w.drewN nq).drew.setCell ⟨r, 1, none⟩ (.int .i64 0)) r (.slice none 0 0) 0 flt ∧ Kept (fun q => q = r) w ((w.drewN nq).drew.setCell ⟨r, 1, none⟩ (.int .i64 0))) := ⟨a1, (hkk.mono (fun _ _ f => f.elim)).trans a2⟩
  clear hk hkk h5 a1 a2 c0 c1 hl d3 g3
  generalize w.drewN nq = wq at *
  go_wp2_with fail
  go_region_law (first | fail)
  all_goals (try go_wp2)
  all_goals (try go_ret)
  all_goals exact ⟨rfl, HF.out⟩

end Go.Proofs.Ytnjhnlohjhdcpaa
