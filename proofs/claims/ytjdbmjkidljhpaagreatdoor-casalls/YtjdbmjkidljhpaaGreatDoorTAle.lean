/-
 CasAlls, by contract.
-/
import Derived.Test.YtjdbmjkidljhpaaGreatDoorTSnp
import Derived.Test.YtjdbmjkidljhpaaGreatDoorTAld
import Derived.Deep.DeepCutAuto
namespace Go.Proofs.YtjdbmjkidljhpaaGreatDoor
open Go.RowKit Go.Shelf
attribute [local go_sem] Oper.semAt_some
set_option linter.unusedVariables false
set_option linter.unusedSimpArgs false
set_option maxRecDepth 100000
theorem made_al (k : Nat) (cp : Int) (w : World) (h1 : 1 ≤ k) (h2 : k ≤ 32) (h3 : 0 ≤ cp) (h4 : cp ≤ 67108864) (hL : Laid w) :
  Calls Tryz.prog 5 #[.int .i64 k, .int .i64 cp] w fun e w' => e = .returned (.tuple #[.pointer (some ⟨w.heap.size + 1 + 1, 0, none⟩), .bool true]) ∧ AlS (fun q => q < w.heap.size) (fun q => q < w.heap.size) w.heap.size w' k 0 (w.heap.size + 1 + 1) (w.heap.size + 1) ∧ Kept (fun _ => False) w w' := by
 refine (made_ok k cp w (by omega) (by omega) h3 h4).mono ?_
 rintro e w' ⟨rfl, rfl⟩
 have hw := wd_new k h1 h2 cp h4 w hL
 have hk : Kept (fun _ => False) w (((w.alloc (.cells ((Sg.new k cp).cells (.map none)) 65)).alloc (.cells ((Rg.new k cp).cells (.slice none 0 0)) 42)).alloc (.cells (wcells w.heap.size (w.heap.size + 1) (.slice none 0 0)) 36)) := (((Kept.refl _ w).alloc _).alloc _).alloc _
 refine ⟨rfl, ⟨_, _, _, _, _, _, _, hw, fun q hq ho => ?_, fun q _ _ hb => ?_⟩, hk⟩
 ·have := hw.base q ho; omega
 ·rcases hb with ⟨e, he, _⟩ | ⟨e, he, _⟩
  ·cases he
  ·cases he
/-- What is held while the script is played. -/
structure Al1 (W wB wr : World) (k n b11 g r : Nat) : Prop where
 al : AlS (fun q => q < W.heap.size + 3 ∨ q = b11) (fun q => q < W.heap.size + 3 ∨ q = b11) (W.heap.size + 3) wr k n g r
 kp : Kept (fun q => ¬ (q < W.heap.size + 3 ∨ q = b11)) wB wr
end Go.Proofs.YtjdbmjkidljhpaaGreatDoor
