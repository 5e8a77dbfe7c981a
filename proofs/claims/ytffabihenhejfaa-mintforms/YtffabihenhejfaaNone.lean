/-
  rights, written, run, same of no item.
-/
import Derived.Test.YtffabihenhejfaaSames
namespace Go.Proofs.Ytffabihenhejfaa
open Go.RowKit
set_option linter.unusedVariables false

set_option maxRecDepth 100000 in
set_option maxHeartbeats 1000000 in
theorem rights_none (ao : Option Addr) (c many most : Nat) (W : World) : Calls Try.prog 21 #[.slice ao 0 c, .int .i64 many, .int .i64 most] W fun e w' => e = .returned (.slice none 0 0) ∧ w' = W := by
  go_enter Try.func21, Try.ntmps21
  go_wp2
  go_loop [7, 8] (fun nv i => nv = .slice none 0 0 ∧ i = .int .i64 0) (fun _ _ => 0)
  case atStart => exact ⟨rfl, rfl⟩
  case round =>
    obtain ⟨rfl, rfl⟩ := hrel
    go_wp2
    go_ret
    exact ⟨rfl, rfl⟩

/-- rights, of whatever was handed in. -/
theorem rights_any (v : Value) (many most : Nat) (W : World) (h : (∃ ao c, v = .slice ao 0 c) ∨ ∃ (b o c : Nat) (arg : List ItV), v = .slice (some ⟨b, o, none⟩) arg.length c ∧ arg.length ≤ maxLen ∧ ArgItems W b o arg ∧ (∀ i, i < arg.length → ArgOk W (arg.getD i ItV.default)) ∧ b < W.heap.size)
    (hmany : many ≤ 400) (hmost : most ≤ 8192) :
    Calls Try.prog 21 #[v, .int .i64 many, .int .i64 most] W fun e w' => ∃ v its, e = .returned v ∧ Goods W w' W.heap.size v its ∧ its.length ≤ many ∧ (∀ i, i < its.length → (its.getD i ItV.default).xs.length ≤ most) ∧ Kept (fun _ => False) W w' ∧ (its = [] → v = .slice none 0 0) := by
  rcases h with ⟨ao, c, rfl⟩ | ⟨b, o, c, arg, rfl, hl, hit, hok, hb⟩
  · refine (rights_none ao c many most W).mono ?_
    rintro e w' ⟨rfl, rfl⟩
    exact ⟨_, [], rfl, ⟨World.ownsRow_nil _ _ _ _, fun i hi => absurd hi (by simp)⟩, by simp, fun i hi => absurd hi (by simp), Kept.refl _ _, fun _ => rfl⟩
  · exact rights_walk b o c many most arg arg.length W rfl hl hit hok (fun _ => hb) hmany hmost

set_option maxRecDepth 100000 in
set_option maxHeartbeats 1000000 in
theorem written_none (w : World) : Calls Try.prog 22 #[.slice none 0 0] w fun e w' => ∃ v', e = .returned (.tuple #[v', .bool true]) ∧ w'.ownsRow w.heap.size 5 1 v' 0 [] ∧ Kept (fun _ => False) w w' := by
  have hd := hid_of (done_s w.heap.size (.slice none 0 0) (.ok []) _ (wr_new_s w))
  go_enter Try.func22, Try.ntmps22
  go_wp2_with fail
  refine (new_any w).mono ?_
  rintro e w0 ⟨rfl, rfl⟩
  go_wp2
  go_loop [5] (fun i => i = .int .i64 0) (fun _ => 0)
  case atStart => rfl
  case round =>
    subst hrel
    go_wp2_with fail
    refine hd.out.mono ?_
    rintro e w2 ⟨v2, rfl, ho, hbl⟩
    simp only [St.err, St.bytes] at ho ⊢
    have HO := hid_of (own_less (B := w.heap.size) ho (by simp))
    have HK2 : Hid (Kept (fun _ => False) w w2) := (((Kept.refl (fun _ => False) w).alloc _).trans ((kept_of_below hbl).mono (fun q hq h => absurd hq (by omega))))
    clear hd ho hbl
    go_wp2
    go_ret2
    exact ⟨_, rfl, HO.out, HK2.out⟩

/-- written, of a row of items that may be put. -/
theorem written_any (v : Value) (B : Nat) (its : List ItV) (w : World) (hg : Goods w w B v its) (hm : its.length ≤ 1000) (hl : (encs its).length ≤ 4194304) (hnil : its = [] → v = .slice none 0 0) :
    Calls Try.prog 22 #[v] w fun e w' => ∃ v', e = .returned (.tuple #[v', .bool true]) ∧ w'.ownsRow w.heap.size 5 1 v' (encs its).length ((encs its).map (Value.int .u8)) ∧ Kept (fun _ => False) w w' := by
  by_cases h0 : its = []
  · subst h0
    rw [hnil rfl]
    exact written_none w
  · have hr : Row w v its := by
      refine ⟨hg.row.1, ?_⟩
      rcases hg.row.2 with h | ⟨g, cap, cur, e, hb, r⟩
      · exact .inl h
      · exact .inr ⟨g, cap, cur, e, Nat.zero_le _, r⟩
    rcases World.ownsRow.mk' hg.row with ⟨_, hn⟩ | ⟨g, cap, rfl⟩
    · exact absurd (List.length_eq_zero_iff.1 hn) h0
    · exact written_row g cap B its its.length w rfl hm (Row.items hr) hg.good hl

set_option maxRecDepth 100000 in
set_option maxHeartbeats 1000000 in
theorem run_none (s r : Nat) (w : World) (tv lv rv : Value) (hsh : Sh w s (.slice none 0 0) tv lv rv) :
    Calls Try.prog 23 #[.pointer (some ⟨s, 0, none⟩), .pointer (some ⟨r, 0, none⟩)] w fun e w' => e = .returned (.tuple #[]) ∧ w' = w.setCell ⟨s, 3, none⟩ (.pointer (some ⟨r, 0, none⟩)) := by
  obtain ⟨s0, s1, s2, s3⟩ := hsh.cells
  obtain ⟨t0, _, _, _⟩ := (hsh.set3 (.pointer (some ⟨r, 0, none⟩))).cells
  have sf := hsh.frozen 3
  clear hsh
  go_enter Try.func23, Try.ntmps23
  go_wp2
  go_loop [4] (fun i => i = .int .i64 0) (fun _ => 0)
  case atStart => rfl
  case round =>
    subst hrel
    go_wp2
    go_end0
    exact ⟨rfl, rfl⟩

set_option maxRecDepth 100000 in
set_option maxHeartbeats 1000000 in
theorem same_items_none (ao ao' : Option Addr) (c c' : Nat) (w : World) : Calls Try.prog 24 #[.slice ao 0 c, .slice ao' 0 c'] w fun e w' => e = .returned (.bool true) ∧ w' = w := by
  go_enter Try.func24, Try.ntmps24
  go_wp2
  go_loop [5] (fun i => i = .int .i64 0) (fun _ => 0)
  case atStart => rfl
  case round =>
    subst hrel
    go_wp2
    go_ret
    exact ⟨rfl, rfl⟩
end Go.Proofs.Ytffabihenhejfaa
