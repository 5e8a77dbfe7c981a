/-
  THE WRITER's PUTS, in whatever state: form, Num, fold, Int, Bool, Bytes, Text.
-/
import Derived.Test.YtffabihenhejfaaSt
import Derived.Test.YtffabihenhejfaaBits
namespace Go.Proofs.Ytffabihenhejfaa
open Go.RowKit
set_option linter.unusedVariables false

theorem WS.new {w w1 : World} {a : Nat} {v : Value} {s : St} (hw : WS w a v s) (h : Kept (fun _ => False) w w1) : WS w1 a v s := hw.kept h (fun f => f) (fun _ _ f => f)

set_option maxRecDepth 100000 in
set_option maxHeartbeats 1000000 in
theorem wform_s_small (a : Nat) (v : Value) (s : St) (u : Int) (w : World) (hw : WS w a v s) (h0 : 0 ≤ u) (h1 : u ≤ 247) :
    Calls Try.prog 54 #[.pointer (some ⟨a, 0, none⟩), .int .u64 u] w (PutS a v (s.put [u]) w) := by
  have hk : Kept (fun _ => False) w (w.alloc (.cells #[.int .u8 u] 5)) := (Kept.refl _ _).alloc _
  have hraw := hid_of (raw_s a v s ⟨w.heap.size, 0, none⟩ 1 1 [u] (w.alloc (.cells #[.int .u8 u] 5)) (hw.new hk) rfl (by decide) (fun i hi => by
    obtain rfl : i = 0 := by omega
    exact cell_one_new w _ 5 0 _ rfl))
  have HK := hid_of hk
  clear hw hk
  go_enter Try.func54, Try.ntmps54
  go_wp2_with fail
  refine hraw.out.mono ?_
  intro e w1 hp
  have hp' := hid_of (hp.behind HK.out)
  obtain ⟨rfl, _⟩ := hp
  clear hraw HK
  go_wp2
  exact body_retv rfl rfl hp'.out

set_option maxRecDepth 100000 in
set_option maxHeartbeats 1000000 in
theorem wform_s_big (a : Nat) (v : Value) (s : St) (u : Int) (w : World) (hw : WS w a v s) (h0 : 247 < u) (h1 : u < 18446744073709551616) (K : Nat) (hK : Mth.sz u = K) (hK8 : K ≤ 8) (hK1 : 1 ≤ K) :
    Calls Try.prog 54 #[.pointer (some ⟨a, 0, none⟩), .int .u64 u] w (PutS a v (s.put ((247 + (K : Int)) :: Mth.be K u)) w) := by
  obtain ⟨i0, hi, hz0, hz1, hz2⟩ := info_parts Try.info5
  have hsize := size_any u w (by omega) h1
  rw [hK] at hsize
  clear hK
  have HW := hid_of hw
  clear hw
  have h2 : (K : Int) ≤ 8 := by omega
  go_enter Try.func54, Try.ntmps54
  go_wp2_with (go_at_call 65; refine hsize.mono ?_; rintro e w1 ⟨rfl, hw1⟩; have hw2 := hw1.symm; subst hw2)
  go_loopw [5, 21] (fun b i wr => ∃ k : Nat, k ≤ K ∧ i = .int .i64 k ∧ wr.ownsRow w.heap.size 5 1 b (k + 1) (((247 + (K : Int)) :: (Mth.be K u).take k).map (Value.int .u8)) ∧ Kept (fun _ => False) w wr) (fun _ i _ => K - (intOf i).toNat)
  case atStart =>
    refine ⟨0, Nat.zero_le _, rfl, ?_, (Kept.refl _ w).alloc _⟩
    exact ⟨rfl, .inr ⟨w.heap.size, 1, #[.int .u8 (247 + (K : Int))], rfl, Nat.le_refl _, heap_alloc_new w _, Nat.le_refl _, by decide, rfl, rfl⟩⟩
  case round =>
    obtain ⟨k, hk, rfl, hown, hkept⟩ := hrel
    by_cases hlt : k < K
    · have HO := hid_of hown
      clear hown
      have hws := hkept.size
      go_wp2_with (at_builtin; refine wpList_append_own _ rfl (.tmp 24) (.tmp 33) 25 rfl w.heap.size 5 i0 (.int .u8 0) 1 1 Try.underlying25 hi hz0 hz1 hz2 rfl (by decide) _ _ _ rfl (HO.out.alloc _) ⟨wr.heap.size, 0, none⟩ 1 1 [.int .u8 (u / 2 ^ (8 * (K - 1 - k)) % 256)] rfl rfl (cell_one_new _ _ _) (by intro u hu; simp at hu; subst hu; rfl) (by unfold maxLen; omega) (by omega) (by simp; omega) ?_)
      intro v' w' hown' hgrow hnil
      have R := form_step hlt hkept HO.out hown' hgrow
      clear hown' hgrow hnil HO
      go_wp2
      go_roundw
      case rel => exact ⟨k + 1, by omega, by go_num, R.1, R.2⟩
      case measure => simp [intOf]; omega
    · obtain rfl : k = K := by omega
      obtain ⟨g, cap, rfl⟩ : ∃ g cap, u5 = .slice (some ⟨g, 0, none⟩) (k + 1) cap := by
        rcases hown.2 with ⟨_, h⟩ | ⟨g, cap, _, h, _⟩
        · omega
        · exact ⟨g, cap, h⟩
      have hraw := raw_s a v s ⟨g, 0, none⟩ (k + 1) cap ((247 + (k : Int)) :: (Mth.be k u).take k) wr (HW.out.new hkept) (by simp [Mth.be_length]) (by unfold maxLen; omega) (own_cells hown)
      rw [show (Mth.be k u).take k = Mth.be k u from List.take_of_length_le (by rw [Mth.be_length]; exact Nat.le_refl _)] at hraw
      have HR := hid_of hraw
      have HK := hid_of hkept
      clear hown hraw hkept
      go_wp2_with fail
      refine HR.out.mono ?_
      intro e w2 hp
      have hp' := hid_of (hp.behind HK.out)
      obtain ⟨rfl, _⟩ := hp
      clear HR HK
      go_wp2
      go_end0
      exact hp'.out

theorem wform_s (a : Nat) (v : Value) (s : St) (u : Int) (w : World) (hw : WS w a v s) (h0 : 0 ≤ u) (h1 : u < 18446744073709551616) :
    Calls Try.prog 54 #[.pointer (some ⟨a, 0, none⟩), .int .u64 u] w (PutS a v (s.put (Mth.form u)) w) := by
  unfold Mth.form
  by_cases h : u ≤ 247
  · rw [if_pos h]
    exact wform_s_small a v s u w hw h0 h
  · rw [if_neg h]
    refine wform_s_big a v s u w hw (by omega) h1 (Mth.sz u) rfl (Mth.sz_le u) ?_
    have := Mth.sz_cases u
    omega

/-- A fault of the caller's. -/
def St.fail (s : St) (k : Int) : St :=
  match s with
  | .ok _ => .error k
  | .error e => .error e

theorem stop_s (a : Nat) (v : Value) (s : St) (k : Int) (hk : k ≠ 0) (w : World) (hw : WS w a v s) :
    Calls Try.prog 53 #[.pointer (some ⟨a, 0, none⟩), .int .i64 k] w (PutS a v (s.fail k) w) := by
  cases s with
  | error e =>
    refine (stop_bad a e k w hw.1 hw.2.1).mono ?_
    rintro r w1 ⟨rfl, rfl⟩
    exact PutS.same hw
  | ok l =>
    refine (stop_ok a v l k w hw.1).mono ?_
    rintro r w1 ⟨rfl, h1, h2⟩
    exact ⟨rfl, .slice none 0 0, ⟨h1, hk, rfl⟩, h2.mono (fun _ _ e => .inl e), fun g hg => by cases hg⟩

/-- What Num puts. -/
def St.num (s : St) (n : Int) : St := if n < 0 then s.fail 1 else s.put (Mth.form n)

set_option maxRecDepth 100000 in
set_option maxHeartbeats 1000000 in
theorem num_s (a : Nat) (v : Value) (s : St) (n : Int) (w : World) (hw : WS w a v s) (hn : -9223372036854775808 ≤ n) (h1 : n < 9223372036854775808) :
    Calls Try.prog 30 #[.pointer (some ⟨a, 0, none⟩), .int .i64 n] w (PutS a v (s.num n) w) := by
  unfold St.num
  by_cases h0 : n < 0
  · rw [if_pos h0]
    have hf := hid_of (stop_s a v s 1 (by decide) w hw)
    clear hw
    go_enter Try.func30, Try.ntmps30
    go_wp2_with fail
    refine hf.out.mono ?_
    intro e w1 hp
    have HP := hid_of hp
    obtain ⟨rfl, _⟩ := hp
    clear hf
    go_wp2
    exact body_retv rfl rfl HP.out
  · rw [if_neg h0]
    have hf := hid_of (wform_s a v s n w hw (by omega) (by omega))
    clear hw
    go_enter Try.func30, Try.ntmps30
    go_wp2_with fail
    refine hf.out.mono ?_
    intro e w1 hp
    have HP := hid_of hp
    obtain ⟨rfl, _⟩ := hp
    clear hf
    go_wp2
    go_end0
    exact HP.out

/-- The fold of an int. -/
def fold (n : Int) : Int := if n < 0 then -2 * n - 1 else 2 * n

set_option maxRecDepth 100000 in
set_option maxHeartbeats 1000000 in
theorem fold_any (n : Int) (w : World) (hn : -9223372036854775808 ≤ n) (h1 : n < 9223372036854775808) :
    Calls Try.prog 55 #[.int .i64 n] w fun e w' => e = .returned (.int .u64 (fold n)) ∧ w' = w := by
  unfold fold
  by_cases h0 : n < 0
  · rw [if_pos h0]
    go_enter Try.func55, Try.ntmps55
    go_wp2
    go_ret
    exact ⟨congrArg (fun x => Ending.returned (Value.int .u64 x)) (fold_neg n hn h0), rfl⟩
  · rw [if_neg h0]
    go_enter Try.func55, Try.ntmps55
    go_wp2
    go_ret
    exact ⟨congrArg (fun x => Ending.returned (Value.int .u64 x)) (Int.mul_comm n 2), rfl⟩

set_option maxRecDepth 100000 in
set_option maxHeartbeats 1000000 in
theorem int_s (a : Nat) (v : Value) (s : St) (n : Int) (w : World) (hw : WS w a v s) (hn : -9223372036854775808 ≤ n) (h1 : n < 9223372036854775808) :
    Calls Try.prog 33 #[.pointer (some ⟨a, 0, none⟩), .int .i64 n] w (PutS a v (s.put (Mth.form (fold n))) w) := by
  have hf := hid_of (fold_any n w hn h1)
  have hw' := hid_of (wform_s a v s (fold n) w hw (by unfold fold; split <;> omega) (by unfold fold; split <;> omega))
  clear hw
  generalize fold n = u at *
  go_enter Try.func33, Try.ntmps33
  go_wp2_with fail
  refine hf.out.mono ?_
  rintro e w1 ⟨rfl, rfl⟩
  go_wp2_with fail
  refine hw'.out.mono ?_
  intro e w2 hp
  have HP := hid_of hp
  obtain ⟨rfl, _⟩ := hp
  clear hf hw'
  go_wp2
  go_end0
  exact HP.out

/-- One byte that is written out, handed to Raw. -/
theorem raw_one (a : Nat) (v : Value) (s : St) (u : Int) (w : World) (hw : WS w a v s) :
    Calls Try.prog 28 #[.pointer (some ⟨a, 0, none⟩), .slice (some ⟨w.heap.size, 0, none⟩) 1 1] (w.alloc (.cells #[.int .u8 u] 5)) (PutS a v (s.put [u]) w) :=
  have hk : Kept (fun _ => False) w (w.alloc (.cells #[.int .u8 u] 5)) := (Kept.refl _ _).alloc _
  (raw_s a v s ⟨w.heap.size, 0, none⟩ 1 1 [u] (w.alloc (.cells #[.int .u8 u] 5)) (hw.new hk) rfl (by decide) (fun i hi => by
    obtain rfl : i = 0 := by omega
    exact cell_one_new w _ 5 0 _ rfl)).mono fun _ _ h => h.behind hk

set_option maxRecDepth 100000 in
set_option maxHeartbeats 1000000 in
theorem bool_s (a : Nat) (v : Value) (s : St) (b : Bool) (w : World) (hw : WS w a v s) :
    Calls Try.prog 31 #[.pointer (some ⟨a, 0, none⟩), .bool b] w (PutS a v (s.put [if b then 1 else 0]) w) := by
  cases b
  · have hr := hid_of (raw_one a v s 0 w hw)
    clear hw
    go_enter Try.func31, Try.ntmps31
    go_wp2_with fail
    refine hr.out.mono ?_
    intro e w2 hp
    have HP := hid_of hp
    obtain ⟨rfl, _⟩ := hp
    clear hr
    go_wp2
    go_end0
    exact HP.out
  · have hr := hid_of (raw_one a v s 1 w hw)
    clear hw
    go_enter Try.func31, Try.ntmps31
    go_wp2_with fail
    refine hr.out.mono ?_
    intro e w2 hp
    have HP := hid_of hp
    obtain ⟨rfl, _⟩ := hp
    clear hr
    go_wp2
    go_end0
    exact HP.out

set_option maxRecDepth 100000 in
set_option maxHeartbeats 1000000 in
theorem bytes_s (a : Nat) (v : Value) (s : St) (g o m c : Nat) (xs : List Int) (w : World) (hw : WS w a v s) (hx : xs.length = m) (hm : m ≤ maxLen) (hga : g ≠ a) (hgv : v.ownBlock ≠ some g)
    (hc : ∀ i, i < m → w.cell? ⟨g, o + i, none⟩ = some (.int .u8 (xs.getD i 0))) :
    Calls Try.prog 34 #[.pointer (some ⟨a, 0, none⟩), .slice (some ⟨g, o, none⟩) m c] w (PutS a v (s.put (Mth.form m ++ xs)) w) := by
  have hm' := hm
  unfold maxLen at hm'
  have hn := num_s a v s m w hw (by omega) (by omega)
  unfold St.num at hn
  rw [if_neg (by omega)] at hn
  have HN := hid_of hn
  have HC := hid_of hc
  clear hn hw hc
  go_enter Try.func34, Try.ntmps34
  go_wp2_with fail
  refine HN.out.mono ?_
  rintro e w1 ⟨rfl, v1, hw1, hk1, ho1⟩
  have hraw := hid_of (raw_s a v1 _ ⟨g, o, none⟩ m c xs w1 hw1 hx hm (fun i hi => by
    rw [Addr.add_lit]
    exact hk1.cell (HC.out i hi) (by intro h; rcases h with h | h; exact hga h; exact hgv h)))
  have HK := hid_of hk1
  have HO := hid_of ho1
  clear HN HC hw1 hk1 ho1
  go_wp2_with fail
  refine hraw.out.mono ?_
  intro e w2 hp
  have HP := hid_of (PutS.next HK.out HO.out hp)
  obtain ⟨rfl, _⟩ := hp
  clear hraw HK HO
  go_wp2
  go_end0
  rw [St.put_put] at HP
  exact HP.out

/-- Bytes(nil), behind a fault or without room for a byte. -/
theorem fold_le (n : Int) (hn : -9223372036854775808 ≤ n) (h1 : n < 9223372036854775808) : 0 ≤ fold n ∧ fold n < 18446744073709551616 := by
  unfold fold; split <;> omega
end Go.Proofs.Ytffabihenhejfaa
