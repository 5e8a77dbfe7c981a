/-
 CasAlls, whatever it is given.
-/
import Derived.Test.YtjdbmjkidljhpaaGreatDoorTAlw
import Derived.Test.YtjdbmjkidljhpaaGreatDoorTAlv
namespace Go.Proofs.YtjdbmjkidljhpaaGreatDoor
open Go.RowKit
theorem alls_any (wd cp stop : Int) (vs vm : Value) (ts ms : List Stp) (W : World) (hL : Laid W) (ht : TIs W vs ts) (hm : TIs W vm ms) :
  Calls Tryz.prog 4 #[.int .i64 wd, .int .i64 cp, vs, vm, .int .i64 stop] W fun e w' => e = .returned (.bool true) ∧ Kept (fun _ => False) W w' := by
 by_cases h : (1 ≤ wd ∧ wd ≤ 32) ∧ 0 ≤ cp ∧ cp ≤ 67108864
 ·obtain ⟨⟨h1, h2⟩, h3, h4⟩ := h
  obtain ⟨k, rfl⟩ : ∃ k : Nat, wd = k := ⟨wd.toNat, by omega⟩
  exact alls_ok k cp stop vs vm ts ms W (by omega) (by omega) h3 h4 hL ht hm
 ·exact alls_bad wd cp stop vs vm ts ms W h hL ht hm
end Go.Proofs.YtjdbmjkidljhpaaGreatDoor
