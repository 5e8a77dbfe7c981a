/-
  rights, written, run, same of no item.
-/
import Derived.Test.YtffabihenhejfabSames
namespace Go.Proofs.Ytffabihenhejfab
open Go.RowKit
set_option linter.unusedVariables false

set_option maxRecDepth 100000 in
set_option maxHeartbeats 1000000 in
theorem rights_none (ao : Option Addr) (c many most : Nat) (W : World) : Calls Try.prog 5 #[.slice ao 0 c, .int .i64 many, .int .i64 most] W fun e w' => e = .returned (.slice none 0 0) ∧ w' = W := by
  go_enter Try.func5, Try.ntmps5
  go_wp2
  go_loop [7, 8] (fun nv i => nv = .slice none 0 0 ∧ i = .int .i64 0) (fun _ _ => 0)
  case atStart => exact ⟨rfl, rfl⟩
  case round =>
    obtain ⟨rfl, rfl⟩ := hrel
    go_wp2
    go_ret
    exact ⟨rfl, rfl⟩

/-- rights, of whatever was handed in. -/
theorem rights_any (v : Value) (many most : Nat) (W : World) (h : (∃ ao c, v = .slice ao 0 c) ∨ ∃ (b o c : Nat) (arg : List ItV), v = .slice (some ⟨b, o, none⟩) arg.length c ∧ arg.length ≤ maxLen ∧ ArgItems W b o arg ∧ (∀ i, i < arg.length → ArgOk W (arg.getD i ItV.default)) ∧ b < W.heap.size)
    (hmany : many ≤ 400) (hmost : most ≤ 8192) :
    Calls Try.prog 5 #[v, .int .i64 many, .int .i64 most] W fun e w' => ∃ v its, e = .returned v ∧ Goods W w' W.heap.size v its ∧ its.length ≤ many ∧ (∀ i, i < its.length → (its.getD i ItV.default).xs.length ≤ most) ∧ Kept (fun _ => False) W w' ∧ (its = [] → v = .slice none 0 0) := by
  rcases h with ⟨ao, c, rfl⟩ | ⟨b, o, c, arg, rfl, hl, hit, hok, hb⟩
  · refine (rights_none ao c many most W).mono ?_
    rintro e w' ⟨rfl, rfl⟩
    exact ⟨_, [], rfl, ⟨World.ownsRow_nil _ _ _ _, fun i hi => absurd hi (by simp)⟩, by simp, fun i hi => absurd hi (by simp), Kept.refl _ _, fun _ => rfl⟩
  · exact rights_walk b o c many most arg arg.length W rfl hl hit hok (fun _ => hb) hmany hmost

set_option maxRecDepth 100000 in
set_option maxHeartbeats 1000000 in
theorem run_none (s r : Nat) (w : World) (tv lv rv : Value) (hsh : Sh w s (.slice none 0 0) tv lv rv) :
    Calls Try.prog 11 #[.pointer (some ⟨s, 0, none⟩), .pointer (some ⟨r, 0, none⟩)] w fun e w' => e = .returned (.tuple #[]) ∧ w' = w.setCell ⟨s, 3, none⟩ (.pointer (some ⟨r, 0, none⟩)) := by
  obtain ⟨s0, s1, s2, s3⟩ := hsh.cells
  obtain ⟨t0, _, _, _⟩ := (hsh.set3 (.pointer (some ⟨r, 0, none⟩))).cells
  have sf := hsh.frozen 3
  clear hsh
  go_enter Try.func11, Try.ntmps11
  go_wp2
  go_loop [4] (fun i => i = .int .i64 0) (fun _ => 0)
  case atStart => rfl
  case round =>
    subst hrel
    go_wp2
    go_end0
    exact ⟨rfl, rfl⟩

set_option maxRecDepth 100000 in
set_option maxHeartbeats 1000000 in
theorem same_items_none (ao ao' : Option Addr) (c c' : Nat) (w : World) : Calls Try.prog 12 #[.slice ao 0 c, .slice ao' 0 c'] w fun e w' => e = .returned (.bool true) ∧ w' = w := by
  go_enter Try.func12, Try.ntmps12
  go_wp2
  go_loop [5] (fun i => i = .int .i64 0) (fun _ => 0)
  case atStart => rfl
  case round =>
    subst hrel
    go_wp2
    go_ret
    exact ⟨rfl, rfl⟩
end Go.Proofs.Ytffabihenhejfab
