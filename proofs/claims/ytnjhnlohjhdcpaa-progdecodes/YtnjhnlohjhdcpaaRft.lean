/-
  The reference's Reader: take, where there is too little.
-/
import Derived.Test.YtnjhnlohjhdcpaaRfa
namespace Go.Proofs.Ytnjhnlohjhdcpaa
open Go.RowKit Go.Deep
set_option linter.unusedVariables false

set_option maxRecDepth 100000 in
theorem take_short (r : Nat) (ao : Option Addr) (L c p : Nat) (flt n : Int) (a : Nat) (w : World) (h : RR w r (.slice ao L c) p flt) (hL : L ≤ 140737488351232) (hp : p + a ≤ L) (hn : (L : Int) - p - a < n) :
    Calls Try.prog 79 #[.pointer (some ⟨r, 0, none⟩), .int .i64 (a : Int), .int .i64 n] w fun e w' => e = .returned (.slice none 0 0) ∧ RR w' r (.slice ao L c) p 11 ∧ Kept (fun q => q = r) w w' := by
  have HRR := hid_of h
  obtain ⟨c0, c1, _, _, hl⟩ := h.cells
  have hw3 : IntKind.i64.wrap ((L : Int) - p) = (L : Int) - p := by simp [IntKind.wrap, IntKind.bits, IntKind.signed]; omega
  have hw4 : IntKind.i64.wrap ((L : Int) - p - a) = (L : Int) - p - a := by simp [IntKind.wrap, IntKind.bits, IntKind.signed]; omega
  clear h
  go_enter Try.func79, Try.ntmps79
  go_wp2_with fail
  go_quiet (fail)
  have hk := kept_drewN (Kept.refl (fun _ => False) w) nq
  obtain ⟨_, _, e2, e3, e4⟩ := (HRR.out.kept hk (fun f => f)).cells
  have e3' := e3 2
  obtain ⟨a1, a2⟩ := (HRR.out.kept hk (fun f => f)).fault 11
  have HA := hid_of a1
  have HA2 := hid_of ((hk.mono (fun _ _ f => f.elim)).trans a2)
  clear hk e3 a1 a2 c0 c1 hl
  generalize w.drewN nq = wq at *
  go_wp2
  go_ret
  exact ⟨rfl, HA.out, HA2.out⟩
end Go.Proofs.Ytnjhnlohjhdcpaa
