import Derived.Test.YtpfmhibdmehlcaaGreatDoorProg
import Derived.WalkKit
import Derived.ProofKit
import Derived.Maps.AppendAt
import Derived.Deep.RegionHeld3
import Derived.Lib.SliceRun
import Derived.Laws.BitsAllLaws
import Derived.Lib.AppendStr
import Derived.Deep.QuietTactic
import Derived.BigQuiet
import Derived.WalkSmall
import Derived.Laws.CopyRow
import Derived.Laws.IdiomCopy
namespace Go.Proofs.YtpfmhibdmehlcaaGreatDoor.Mth
set_option linter.unusedVariables false
def sz (u : Int) : Nat :=
 if u < 1 then 0 else if u < 256 then 1 else if u < 65536 then 2 else if u < 16777216 then 3 else if u < 4294967296 then 4
 else if u < 1099511627776 then 5 else if u < 281474976710656 then 6 else if u < 72057594037927936 then 7 else 8
theorem sz_le (u : Int) : sz u ≤ 8 := by unfold sz; (repeat' split) <;> omega
def be : Nat → Int → List Int
 | 0, _ => []
 | k + 1, u => (u / (256 : Int) ^ k) % 256 :: be k u
theorem be_length (k : Nat) (u : Int) : (be k u).length = k := by
 induction k with
 | zero => rfl
 | succ k ih => simp [be, ih]
theorem be_get (k : Nat) (u : Int) (i : Nat) (h : i < k) : (be k u)[i]? = some ((u / (256 : Int) ^ (k - 1 - i)) % 256) := by
 induction k generalizing i with
 | zero => omega
 | succ k ih =>
  cases i with
  | zero => simp [be]
  | succ i =>
   simp only [be, List.getElem?_cons_succ]
   rw [ih i (by omega)]
   rw [show k + 1 - 1 - (i + 1) = k - 1 - i from by omega]
theorem be_take_succ (k : Nat) (u : Int) (i : Nat) (h : i < k) : (be k u).take (i + 1) = (be k u).take i ++ [(u / (256 : Int) ^ (k - 1 - i)) % 256] := by
 have hl : i < (be k u).length := by rw [be_length]; exact h
 rw [List.take_succ_eq_append_getElem hl]
 congr 2
 have := be_get k u i h
 rw [List.getElem?_eq_getElem hl] at this
 exact Option.some.inj this
def form (u : Int) : List Int := if u ≤ 247 then [u] else (247 + (sz u : Int)) :: be (sz u) u
theorem form_length (u : Int) (h1 : u < 18446744073709551616) : 1 ≤ (form u).length ∧ (form u).length ≤ 9 := by
 have := sz_le u
 unfold form
 split
 ·simp
 ·simp [be_length]; exact sz_le u
theorem sz_cases (u : Int) : (sz u = 0 ∧ u < 1) ∨ (sz u = 1 ∧ 1 ≤ u ∧ u < 256) ∨ (sz u = 2 ∧ 256 ≤ u ∧ u < 65536) ∨ (sz u = 3 ∧ 65536 ≤ u ∧ u < 16777216) ∨ (sz u = 4 ∧ 16777216 ≤ u ∧ u < 4294967296) ∨
  (sz u = 5 ∧ 4294967296 ≤ u ∧ u < 1099511627776) ∨ (sz u = 6 ∧ 1099511627776 ≤ u ∧ u < 281474976710656) ∨ (sz u = 7 ∧ 281474976710656 ≤ u ∧ u < 72057594037927936) ∨ (sz u = 8 ∧ 72057594037927936 ≤ u) := by
 unfold sz
 (repeat' split) <;> omega
end Go.Proofs.YtpfmhibdmehlcaaGreatDoor.Mth
namespace Go.Proofs.YtpfmhibdmehlcaaGreatDoor
theorem nmd {α : Type} (a : α) : ∃ z, z = a := ⟨_, rfl⟩
open Go.RowKit
set_option linter.unusedVariables false
def tabOk (s : ByteArray) : Bool := s.size == 256 && (List.range 256).all fun i => (s.get! i).toNat ≤ 8 && (i == 0) == ((s.get! i).toNat == 0)
theorem tab_at (s : ByteArray) (ok : tabOk s = true) (i : Nat) (h : i < s.size) : (s[i]'h).toNat ≤ 8 ∧ (i = 0 ↔ (s[i]'h).toNat = 0) := by
 unfold tabOk at ok
 simp only [Bool.and_eq_true, List.all_eq_true, List.mem_range, beq_iff_eq, decide_eq_true_eq] at ok
 have h2 := ok.2 i (by omega)
 have e : s.get! i = s[i]'h := by simp [ByteArray.get!, h]; rfl
 rw [e] at h2
 refine ⟨h2.1, ?_⟩
 have := h2.2
 rw [Bool.eq_iff_iff] at this
 simpa using this
theorem len_close (s : ByteArray) (ok : tabOk s = true) (i : Nat) (h : i < s.size) (m : Int) (u : Int) (h0 : 0 ≤ m) (h1 : m ≤ 56) (h2 : m % 8 = 0)
  (hz : i = 0 → (Mth.sz u : Int) = m / 8) (hn : i ≠ 0 → (Mth.sz u : Int) = m / 8 + 1) :
  ∃ n : Int, Ending.returned (.int .i64 (wrap64 (m + wrap64 ((s[i]'h).toNat : Int)))) = .returned (.int .i64 n) ∧ 0 ≤ n ∧ n ≤ 64 ∧ (n + 7) / 8 = (Mth.sz u : Int) := by
 obtain ⟨t1, t2⟩ := tab_at s ok i h
 refine ⟨m + ((s[i]'h).toNat : Int), ?_, by omega, by omega, ?_⟩
 ·congr 2
  simp only [wrap64]
  omega
 ·by_cases hi : i = 0
  ·have := hz hi; have := t2.1 hi; omega
  ·have := hn hi; have : ¬ (s[i]'h).toNat = 0 := fun e => hi (t2.2 e); omega
theorem len_close0 (s : ByteArray) (ok : tabOk s = true) (i : Nat) (h : i < s.size) (u : Int)
  (hz : i = 0 → (Mth.sz u : Int) = 0) (hn : i ≠ 0 → (Mth.sz u : Int) = 1) :
  ∃ n : Int, Ending.returned (.int .i64 (wrap64 (wrap64 ((s[i]'h).toNat : Int)))) = .returned (.int .i64 n) ∧ 0 ≤ n ∧ n ≤ 64 ∧ (n + 7) / 8 = (Mth.sz u : Int) := by
 have := len_close s ok i h 0 u (by omega) (by omega) (by omega) (by simpa using hz) (by simpa using hn)
 simpa using this
set_option maxRecDepth 100000 in
set_option maxHeartbeats 2000000 in
theorem len64_any (u : Int) (w : World) (h0 : 0 ≤ u) (h1 : u < 18446744073709551616) :
  Calls Tryz.prog 145 #[.int .u64 u] w fun e w' => (∃ n : Int, e = .returned (.int .i64 n) ∧ 0 ≤ n ∧ n ≤ 64 ∧ (n + 7) / 8 = (Mth.sz u : Int)) ∧ w' = w := by
 have hs := Mth.sz_cases u
 by_cases hb : u < 4294967296
 all_goals
  go_enter Tryz.func145, Tryz.ntmps145
  go_wp2
  all_goals go_ret
  all_goals (first
   | exact ⟨len_close _ (by decide +kernel) _ _ _ u (by omega) (by omega) (by omega) (by omega) (by omega), rfl⟩
   | exact ⟨len_close0 _ (by decide +kernel) _ _ u (by omega) (by omega), rfl⟩)
set_option maxHeartbeats 400000 in
theorem size_any (u : Int) (w : World) (h0 : 0 ≤ u) (h1 : u < 18446744073709551616) :
  Calls Tryz.prog 111 #[.int .u64 u] w fun e w' => e = .returned (.int .i64 (Mth.sz u : Int)) ∧ w' = w := by
 go_enter Tryz.func111, Tryz.ntmps111
 go_wp2_with (go_at_call 145; refine (len64_any _ _ h0 h1).mono ?_; rintro e w' ⟨⟨n, rfl, hn0, hn1, hn2⟩, rfl⟩; have HN : Hid ((n + 7) / 8 = (Mth.sz u : Int)) := hn2; clear hn2)
 go_ret
 exact ⟨congrArg (fun x => Ending.returned (Value.int .i64 x)) HN.out, rfl⟩
structure Kept (S : Nat → Prop) (w w' : World) : Prop where
 os : w'.os = w.os
 tape : w'.tape = w.tape
 output : w'.output = w.output
 size : w.heap.size ≤ w'.heap.size
 block : ∀ k, k < w.heap.size → ¬ S k → w'.heap[k]? = w.heap[k]?
theorem Kept.refl (S : Nat → Prop) (w : World) : Kept S w w := ⟨rfl, rfl, rfl, Nat.le_refl _, fun _ _ _ => rfl⟩
theorem Kept.mono {S T : Nat → Prop} {w w' : World} (h : Kept S w w') (hs : ∀ k, k < w.heap.size → S k → T k) : Kept T w w' := ⟨h.os, h.tape, h.output, h.size, fun k hk hn => h.block k hk (fun e => hn (hs k hk e))⟩
theorem Kept.trans {S : Nat → Prop} {a b c : World} (h : Kept S a b) (k : Kept S b c) : Kept S a c :=
 ⟨k.os.trans h.os, k.tape.trans h.tape, k.output.trans h.output, Nat.le_trans h.size k.size, fun i hi hn => (k.block i (Nat.lt_of_lt_of_le hi h.size) hn).trans (h.block i hi hn)⟩
theorem Kept.step {S T : Nat → Prop} {a b c : World} (h : Kept S a b) (k : Kept T b c) (hs : ∀ i, i < a.heap.size → T i → S i) : Kept S a c :=
 ⟨k.os.trans h.os, k.tape.trans h.tape, k.output.trans h.output, Nat.le_trans h.size k.size, fun i hi hn => (k.block i (Nat.lt_of_lt_of_le hi h.size) (fun e => hn (hs i hi e))).trans (h.block i hi hn)⟩
theorem Kept.alloc {S : Nat → Prop} {a w : World} (h : Kept S a w) (o : Obj) : Kept S a (w.alloc o) :=
 h.trans ⟨rfl, rfl, rfl, by simp, fun k hk _ => Below.heap_alloc _ _ _ (by omega)⟩
theorem Kept.drew {S : Nat → Prop} {a w : World} (h : Kept S a w) : Kept S a w.drew := ⟨h.os, h.tape, h.output, h.size, h.block⟩
theorem Kept.setCell {S : Nat → Prop} {a w : World} (h : Kept S a w) {p : Addr} (hp : a.heap.size ≤ p.block ∨ S p.block) (u : Value) : Kept S a (w.setCell p u) :=
 h.step (T := fun k => k = p.block) ⟨rfl, rfl, rfl, by simp [World.setCell], fun k _ hn => Below.heap_setCell _ _ _ _ hn⟩ (fun i hi e => by subst e; rcases hp with hp | hp; omega; exact hp)
theorem Kept.grown {S : Nat → Prop} {a w w' : World} {row : Option Nat} (h : Kept S a w) (hg : w.grownBy w' row) (hr : ∀ k, row = some k → a.heap.size ≤ k ∨ S k) : Kept S a w' :=
 h.step (T := fun k => row = some k) ⟨hg.os, hg.tape, hg.output, hg.size, fun k hk hn => hg.block k hk (fun e => hn e.symm)⟩ (fun i hi e => by rcases hr i e with h | h; omega; exact h)
theorem Kept.below {S : Nat → Prop} {B : Nat} {w w' : World} (h : Kept S w w') (hB : B ≤ w.heap.size) (hs : ∀ k, S k → B ≤ k) : Below B w w' :=
 ⟨h.os, h.tape, h.output, h.size, fun k hk => h.block k (by omega) (fun e => by have := hs k e; omega)⟩
theorem kept_of_below {B : Nat} {w w' : World} (h : Below B w w') : Kept (fun k => B ≤ k) w w' := ⟨h.os, h.tape, h.output, h.size, fun k _ hn => h.block k (by omega)⟩
theorem Kept.cell {S : Nat → Prop} {w w' : World} (h : Kept S w w') {p : Addr} {v : Value} (hc : w.cell? p = some v) (hp : ¬ S p.block) : w'.cell? p = some v :=
 (World.cell?_of_block (w := w) (h.block p.block (World.block_lt_of_cell? w p hc) hp)).trans hc
theorem Kept.ownsRow {S : Nat → Prop} {w w' : World} (h : Kept S w w') {base : Nat} {e : TypeId} {size : Nat} {v : Value} {n : Nat} {xs : List Value} (ho : w.ownsRow base e size v n xs) (hn : ∀ g, v.ownBlock = some g → ¬ S g) : w'.ownsRow base e size v n xs := by
 refine ⟨ho.1, ?_⟩
 rcases ho.2 with hh | ⟨g, cap, cur, rfl, hb, hgg, rest⟩
 ·exact .inl hh
 ·refine .inr ⟨g, cap, cur, rfl, hb, ?_, rest⟩
  rw [h.block g (Array.getElem?_eq_some_iff.1 hgg).1 (hn g rfl)]
  exact hgg
def Wr (w : World) (a : Nat) (v : Value) (l : List Int) : Prop :=
 w.heap[a]? = some (.cells #[v, .int .i64 0] 168 (0, 0)) ∧ w.ownsRow 0 5 1 v l.length (l.map (Value.int .u8)) ∧ v.ownBlock ≠ some a
theorem cell_block (w : World) (a o : Nat) (c : Array Value) (t : TypeId) (f : Nat × Nat) (h : w.heap[a]? = some (.cells c t f)) : w.cell? ⟨a, o, none⟩ = c[o]? := by
 simp [World.cell?, h]
theorem frozen_block (w : World) (a o : Nat) (c : Array Value) (t : TypeId) (h : w.heap[a]? = some (.cells c t (0, 0))) : w.frozen? ⟨a, o, none⟩ = false := by
 simp [World.frozen?, h]
theorem set_block (w : World) (a o : Nat) (c : Array Value) (t : TypeId) (f : Nat × Nat) (h : w.heap[a]? = some (.cells c t f)) (u : Value) : (w.setCell ⟨a, o, none⟩ u).heap[a]? = some (.cells (c.setIfInBounds o u) t f) := by
 simp [World.setCell, Array.getElem?_modify, h]
theorem ownsRow_shape {w : World} {base : Nat} {e : TypeId} {size : Nat} {v : Value} {n : Nat} {xs : List Value} (h : w.ownsRow base e size v n xs) : ∃ ao cap, v = .slice ao n cap := by
 rcases h.2 with ⟨rfl, rfl⟩ | ⟨g, cap, cur, rfl, _⟩
 ·exact ⟨_, _, rfl⟩
 ·exact ⟨_, _, rfl⟩
theorem Tryz.info5 : (Tryz.prog.info? 5).map (fun i => (i.zero, i.size, i.bytes)) = some (some (.int .u8 0), 1, 1) := by kernel_rfl
set_option maxHeartbeats 400000 in
theorem room_ok (a n cap : Nat) (ao : Option Addr) (m : Int) (w : World) (h0 : w.cell? ⟨a, 0, none⟩ = some (.slice ao n cap)) (h1 : w.cell? ⟨a, 1, none⟩ = some (.int .i64 0)) (hm : 0 ≤ m) (hn : (n : Int) + m ≤ 4194304) :
  Calls Tryz.prog 144 #[.pointer (some ⟨a, 0, none⟩), .int .i64 m] w fun e w' => e = .returned (.bool true) ∧ w' = w := by
 go_enter Tryz.func144, Tryz.ntmps144
 go_wp2
 go_ret
 exact ⟨rfl, rfl⟩
theorem map_cells {w : World} {p : Addr} {m : Nat} {xs : List Int} (hx : xs.length = m) (hc : ∀ i, i < m → w.cell? (p.add i) = some (.int .u8 (xs.getD i 0))) : ∀ j u, (xs.map (Value.int .u8))[j]? = some u → w.cell? (p.add j) = some u := by
 intro j u hj
 have hl := (List.getElem?_eq_some_iff.1 hj).1
 simp at hl
 rw [hc j (by omega)]
 simp [List.getElem?_map, List.getElem?_eq_getElem hl] at hj
 simp [List.getD, List.getElem?_eq_getElem hl, hj]
theorem map_one (xs : List Int) : ∀ u ∈ xs.map (Value.int .u8), u.oneCell' = true := by
 intro u hu
 obtain ⟨_, _, rfl⟩ := List.mem_map.1 hu
 rfl
theorem kept_set (w : World) (a o : Nat) (u : Value) : Kept (fun k => k = a) w (w.setCell ⟨a, o, none⟩ u) :=
 Kept.setCell (S := fun k => k = a) (p := ⟨a, o, none⟩) (Kept.refl _ _) (.inr rfl) u
theorem raw_close {a : Nat} {v v' : Value} {l xs : List Int} {m : Nat} {w w' : World} (hb : w.heap[a]? = some (.cells #[v, .int .i64 0] 168 (0, 0))) (_hown : w.ownsRow 0 5 1 v l.length (l.map (Value.int .u8))) (hne : v.ownBlock ≠ some a)
  (hown' : w'.ownsRow 0 5 1 v' (l.length + m) (l.map (Value.int .u8) ++ xs.map (Value.int .u8))) (hgrow : w.grownBy w' v.ownBlock) (hat : v'.ownBlock = v.ownBlock ∨ v'.ownBlock = some w.heap.size) :
  Wr (w'.setCell ⟨a, 0, none⟩ v') a v' (l ++ xs) ∧ Kept (fun k => k = a ∨ v.ownBlock = some k) w (w'.setCell ⟨a, 0, none⟩ v') ∧ (v'.ownBlock = v.ownBlock ∨ v'.ownBlock = some w.heap.size) := by
 have hal : a < w.heap.size := (Array.getElem?_eq_some_iff.1 hb).1
 have hb' : w'.heap[a]? = some (.cells #[v, .int .i64 0] 168 (0, 0)) := (hgrow.block a hal (fun e => hne e.symm)).trans hb
 have hne' : v'.ownBlock ≠ some a := by
  rcases hat with h | h
  ·rw [h]; exact hne
  ·rw [h]; intro e; have := Option.some.inj e; omega
 have hlen : (l ++ xs).length = l.length + m := by
  have := hown'.1
  simp at this ⊢
  omega
 refine ⟨⟨?_, ?_, hne'⟩, ?_, hat⟩
 ·rw [set_block w' a 0 _ _ _ hb']; rfl
 ·rw [hlen, List.map_append]
  exact (kept_set w' a 0 v').ownsRow hown' (fun g hg e => by subst e; exact hne' hg)
 ·exact ((Kept.refl _ w).grown hgrow (fun k e => .inr (.inr e))).setCell (.inr (.inl rfl)) _
set_option maxHeartbeats 800000 in
set_option maxRecDepth 1000000 in
theorem raw_any (a : Nat) (v : Value) (l : List Int) (p : Addr) (m c : Nat) (xs : List Int) (w : World) (hw : Wr w a v l) (hx : xs.length = m)
  (hc : ∀ i, i < m → w.cell? (p.add i) = some (.int .u8 (xs.getD i 0))) (hfit : l.length + m ≤ 4194304) :
  Calls Tryz.prog 110 #[.pointer (some ⟨a, 0, none⟩), .slice (some p) m c] w fun e w' => e = .returned (.tuple #[]) ∧
   ∃ v', Wr w' a v' (l ++ xs) ∧ Kept (fun k => k = a ∨ v.ownBlock = some k) w w' ∧ (v'.ownBlock = v.ownBlock ∨ v'.ownBlock = some w.heap.size) := by
 obtain ⟨hb, hown, hne⟩ := hw
 obtain ⟨ao, cap, rfl⟩ := ownsRow_shape hown
 obtain ⟨i0, hi, hz0, hz1, hz2⟩ := info_parts Tryz.info5
 have h0 : w.cell? ⟨a, 0, none⟩ = some (.slice ao l.length cap) := by rw [cell_block w a 0 _ _ _ hb]; rfl
 have h1 : w.cell? ⟨a, 1, none⟩ = some (.int .i64 0) := by rw [cell_block w a 1 _ _ _ hb]; rfl
 have hal : a < w.heap.size := (Array.getElem?_eq_some_iff.1 hb).1
 have hm0 : (0 : Int) ≤ (m : Int) := by omega
 have hm1 : (l.length : Int) + (m : Int) ≤ 4194304 := by omega
 go_enter Tryz.func110, Tryz.ntmps110
 go_wp2_with fail
 refine (room_ok a l.length cap ao m _ h0 h1 hm0 hm1).mono ?_
 rintro e w1 ⟨rfl, rfl⟩
 go_wp2_with (at_builtin; refine wpList_append_own_at _ rfl (.tmp 12) (.tmp 13) 22 rfl 0 5 i0 (.int .u8 0) 1 1 Tryz.underlying22 hi hz0 hz1 hz2 rfl (by decide) _ _ _ rfl hown p m c (xs.map (Value.int .u8)) rfl (by simp [hx]) (map_cells hx hc) (map_one xs) (by unfold maxLen; omega) (by omega) (Nat.zero_le _) ?_)
 intro v' w' hown' hgrow hnil hat
 have H := raw_close hb hown hne hown' hgrow hat
 obtain ⟨ao', cap', rfl⟩ := ownsRow_shape hown'
 have hb' : w'.heap[a]? = some (.cells #[.slice ao l.length cap, .int .i64 0] 168 (0, 0)) := (hgrow.block a hal (fun e => hne e.symm)).trans hb
 have k0 : w'.cell? ⟨a, 0, none⟩ = some (.slice ao l.length cap) := by rw [cell_block w' a 0 _ _ _ hb']; rfl
 have kf : w'.frozen? ⟨a, 0, none⟩ = false := frozen_block w' a 0 _ _ hb'
 clear hown' hgrow hat hown hc hb hb' h0 h1 hnil
 go_wp2
 go_end0
 exact ⟨rfl, _, H⟩
set_option maxHeartbeats 400000 in
theorem new_any (w : World) : Calls Tryz.prog 60 #[] w fun e w' => e = .returned (.pointer (some ⟨w.heap.size, 0, none⟩)) ∧ w' = w.alloc (.cells #[.slice none 0 0, .int .i64 0] 168) := by
 go_enter Tryz.func60, Tryz.ntmps60
 go_wp2
 go_ret
 exact ⟨rfl, rfl⟩
theorem eqNil (w : World) (a : Option Addr) (n c n' c' : Nat) : (binOp .eql 22 (.slice a n c) (.slice none n' c')).run Tryz.prog w = .ok (.bool a.isNone) w := Lib.run_eql_slice_nil w _ _ a n c n' c' Tryz.underlying22
set_option maxRecDepth 100000 in
set_option maxHeartbeats 400000 in
theorem clone_nil (w : World) : Calls Tryz.prog 84 #[.slice none 0 0] w fun e w' => e = .returned (.slice none 0 0) ∧ w' = w := by
 have q := eqNil
 go_enter Tryz.func84, Tryz.ntmps84
 go_wp2
 go_ret
 exact ⟨rfl, rfl⟩
set_option maxRecDepth 100000 in
set_option maxHeartbeats 400000 in
theorem clone_any (p : Addr) (m c : Nat) (xs : List Int) (w : World) (hx : xs.length = m) (hbig : m ≤ 140737488355328)
  (hc : ∀ i, i < m → w.cell? (p.add i) = some (.int .u8 (xs.getD i 0))) :
  Calls Tryz.prog 84 #[.slice (some p) m c] w fun e w' => ∃ v', e = .returned v' ∧ w'.ownsRow w.heap.size 5 1 v' m (xs.map (Value.int .u8)) ∧ v' ≠ .slice none 0 0 ∧ Below w.heap.size w w' := by
 obtain ⟨i0, hi, hz0, hz1, hz2⟩ := info_parts Tryz.info5
 have hc' : ∀ j u, (xs.map (Value.int .u8))[j]? = some u → (w.alloc (.cells #[] 5)).cell? (p.add j) = some u := fun j u h => Lib.cell?_alloc_some _ (map_cells hx hc j u h)
 have A : Hid (∀ j u, (xs.map (Value.int .u8))[j]? = some u → (w.alloc (.cells #[] 5)).cell? (p.add j) = some u) := hc'
 clear hc hc'
 have q := eqNil
 go_enter Tryz.func84, Tryz.ntmps84
 go_wp2_with (at_builtin; refine wpList_append_own _ rfl _ _ 22 rfl w.heap.size 5 i0 (.int .u8 0) 1 1 Tryz.underlying22 hi hz0 hz1 hz2 rfl (by decide) _ _ _ rfl (World.ownsRow_made w #[] 0 (Nat.le_refl _) (Nat.zero_le _) rfl) p m c (xs.map (Value.int .u8)) rfl (by simp [hx]) A.out (map_one xs) (by unfold maxLen; omega) (by omega) (by simp) ?_)
 intro v' w1 hown hgrow hnil
 go_wp2
 go_ret
 refine ⟨v', rfl, by simpa using hown, ?_, ?_⟩
 ·exact hnil
 ·exact ((Below.refl _ w).alloc (Nat.le_refl _) _).grown hgrow (by simp) (by intro k hk; rw [← Option.some.inj hk]; exact Nat.le_refl _)
theorem wr_cells {w : World} {a : Nat} {v : Value} {l : List Int} (hw : Wr w a v l) : w.cell? ⟨a, 0, none⟩ = some v ∧ w.cell? ⟨a, 1, none⟩ = some (.int .i64 0) ∧ w.frozen? ⟨a, 0, none⟩ = false ∧ w.frozen? ⟨a, 1, none⟩ = false ∧ a < w.heap.size :=
 ⟨by rw [cell_block w a 0 _ _ _ hw.1]; rfl, by rw [cell_block w a 1 _ _ _ hw.1]; rfl, frozen_block w a 0 _ _ hw.1, frozen_block w a 1 _ _ hw.1, (Array.getElem?_eq_some_iff.1 hw.1).1⟩
set_option maxRecDepth 100000 in
set_option maxHeartbeats 1000000 in
theorem done_nil (a : Nat) (w : World) (hw : Wr w a (.slice none 0 0) []) :
  Calls Tryz.prog 63 #[.pointer (some ⟨a, 0, none⟩)] w fun e w' => ∃ v', e = .returned (.tuple #[v', .int .i64 0]) ∧ w'.ownsRow w.heap.size 5 1 v' 0 [] ∧ Below w.heap.size w w' := by
 obtain ⟨h0, h1, _, _, hal⟩ := wr_cells hw
 go_enter Tryz.func63, Tryz.ntmps63
 go_wp2
 go_region_held3 (fun w' => w'.cell? ⟨a, 0, none⟩ = some (.slice none 0 0) ∧ w'.cell? ⟨a, 1, none⟩ = some (.int .i64 0) ∧ Below w.heap.size w w') (first | exact ⟨h0, h1, (Below.refl _ _).drew⟩ | assumption | go_keep)
  (first | (go_at_call 84; refine (clone_nil _).mono ?_; rintro e w' ⟨rfl, rfl⟩))
 go_wp2
 go_ret2
 exact ⟨_, rfl, World.ownsRow_nil _ _ _ _, (Below.refl _ _).drew⟩
set_option maxRecDepth 100000 in
set_option maxHeartbeats 1000000 in
theorem done_row (a g cap : Nat) (l : List Int) (w : World) (hw : Wr w a (.slice (some ⟨g, 0, none⟩) l.length cap) l) (hbig : l.length ≤ 4194304) :
  Calls Tryz.prog 63 #[.pointer (some ⟨a, 0, none⟩)] w fun e w' => ∃ v', e = .returned (.tuple #[v', .int .i64 0]) ∧ w'.ownsRow w.heap.size 5 1 v' l.length (l.map (Value.int .u8)) ∧ Below w.heap.size w w' := by
 obtain ⟨h0, h1, _, _, hal⟩ := wr_cells hw
 have hcs : ∀ i, i < l.length → w.drew.cell? ((⟨g, 0, none⟩ : Addr).add i) = some (.int .u8 (l.getD i 0)) := by
  intro i hi
  have := hw.2.1.cells (g := g) rfl i (.int .u8 (l.getD i 0)) (by simp [List.getElem?_map, List.getElem?_eq_getElem hi, List.getD])
  simpa using this
 have hcl := (clone_any ⟨g, 0, none⟩ l.length cap l w.drew rfl (by omega) hcs)
 clear hcs
 clear hw
 go_enter Tryz.func63, Tryz.ntmps63
 go_wp2
 go_region_held3 (fun w' => w'.cell? ⟨a, 0, none⟩ = some (.slice (some ⟨g, 0, none⟩) l.length cap) ∧ w'.cell? ⟨a, 1, none⟩ = some (.int .i64 0)) (first | exact ⟨h0, h1⟩ | exact ⟨k0, k1⟩)
  (first | (go_at_call 84; refine hcl.mono ?_; rintro e w1 ⟨v', rfl, hown, hnn, hb⟩; have k0 := (hb.cell (p := ⟨a, 0, none⟩) hal).trans h0; have k1 := (hb.cell (p := ⟨a, 1, none⟩) hal).trans h1))
 go_wp2
 go_ret2
 exact ⟨_, rfl, hown, ((Below.refl w.heap.size w).drew).trans hb⟩
theorem done_any (a : Nat) (v : Value) (l : List Int) (w : World) (hw : Wr w a v l) (hbig : l.length ≤ 4194304) :
  Calls Tryz.prog 63 #[.pointer (some ⟨a, 0, none⟩)] w fun e w' => ∃ v', e = .returned (.tuple #[v', .int .i64 0]) ∧ w'.ownsRow w.heap.size 5 1 v' l.length (l.map (Value.int .u8)) ∧ Below w.heap.size w w' := by
 have hw0 := hw
 obtain ⟨_, ho, _⟩ := hw0
 rcases ho.2 with ⟨rfl, hn⟩ | ⟨g, cap, cur, rfl, _⟩
 ·obtain rfl : l = [] := List.length_eq_zero_iff.1 hn
  exact done_nil a w hw
 ·exact done_row a g cap l w hw hbig
theorem body_retv {P : Program} {fn : Func} {R : Ending → World → Prop} {a : Act} {w : World} (hr : fn.results = #[]) (hd : a.defers = []) (hR : R (.returned (.tuple #[])) w) : bodyPost P fn R .ret a w :=
 bodyPost_ret (results_none hr _ _ _) hd hR
theorem hid_of {p : Prop} (h : p) : Hid p := h
theorem own_cells {w : World} {base : Nat} {g n cap : Nat} {xs : List Int} (h : w.ownsRow base 5 1 (.slice (some ⟨g, 0, none⟩) n cap) n (xs.map (Value.int .u8))) : ∀ i, i < n → w.cell? ((⟨g, 0, none⟩ : Addr).add i) = some (.int .u8 (xs.getD i 0)) := by
 intro i hi
 have hl := h.1
 simp at hl
 exact h.cells (g := g) rfl i _ (by simp [List.getElem?_map, List.getElem?_eq_getElem (show i < xs.length by omega), List.getD])
theorem pow8 (n : Nat) : (2 : Int) ^ (8 * n) = (256 : Int) ^ n := by
 induction n with
 | zero => rfl
 | succ n ih => rw [Nat.mul_succ, Int.pow_add, ih, Int.pow_succ]; rfl
theorem form_step {w wr w' : World} {b v' : Value} {k K : Nat} {u : Int} {o : Obj} (hlt : k < K) (hkept : Kept (fun _ => False) w wr)
  (hown : wr.ownsRow w.heap.size 5 1 b (k + 1) (((247 + (K : Int)) :: (Mth.be K u).take k).map (Value.int .u8)))
  (hown' : w'.ownsRow w.heap.size 5 1 v' (k + 1 + 1) (Value.int .u8 (247 + (K : Int)) :: (List.take k (List.map (Value.int .u8) (Mth.be K u)) ++ [Value.int .u8 (u / 2 ^ (8 * (K - 1 - k)) % 256)])))
  (hgrow : (wr.alloc o).grownBy w' b.ownBlock) :
  w'.ownsRow w.heap.size 5 1 v' (k + 1 + 1) (((247 + (K : Int)) :: (Mth.be K u).take (k + 1)).map (Value.int .u8)) ∧ Kept (fun _ => False) w w' := by
 constructor
 ·rw [Mth.be_take_succ K u k hlt, ← pow8]
  simpa using hown'
 ·exact (hkept.alloc o).grown hgrow (fun g hg => .inl (hown.lt g hg).1)
abbrev St := Except Int (List Int)
def St.put (s : St) (m : List Int) : St :=
 match s with
 | .ok l => if l.length + m.length ≤ 4194304 then .ok (l ++ m) else .error 2
 | .error e => .error e
def WS (w : World) (a : Nat) (v : Value) : St → Prop
 | .ok l => Wr w a v l ∧ l.length ≤ 4194304
 | .error e => w.heap[a]? = some (.cells #[.slice none 0 0, .int .i64 e] 168 (0, 0)) ∧ e ≠ 0 ∧ v = .slice none 0 0
def PutS (a : Nat) (v : Value) (s : St) (w : World) (e : Ending) (w' : World) : Prop :=
 e = .returned (.tuple #[]) ∧ ∃ v', WS w' a v' s ∧ Kept (fun k => k = a ∨ v.ownBlock = some k) w w' ∧ (∀ g, v'.ownBlock = some g → v.ownBlock = some g ∨ w.heap.size ≤ g)
theorem WS.size {w : World} {a : Nat} {v : Value} {s : St} (h : WS w a v s) : a < w.heap.size := by
 cases s with
 | ok l => exact (Array.getElem?_eq_some_iff.1 h.1.1).1
 | error e => exact (Array.getElem?_eq_some_iff.1 h.1).1
theorem WS.lt {w : World} {a : Nat} {v : Value} {s : St} (h : WS w a v s) : ∀ g, v.ownBlock = some g → g < w.heap.size ∧ g ≠ a := by
 intro g hg
 cases s with
 | ok l => exact ⟨(h.1.2.1.lt g hg).2, fun e => h.1.2.2 (by rw [← e]; exact hg)⟩
 | error e => obtain ⟨_, _, rfl⟩ := h; cases hg
theorem WS.kept {w w1 : World} {a : Nat} {v : Value} {s : St} {S : Nat → Prop} (hw : WS w a v s) (h : Kept S w w1) (hS : ¬ S a) (hS' : ∀ g, v.ownBlock = some g → ¬ S g) : WS w1 a v s := by
 have ha := hw.size
 cases s with
 | ok l =>
  obtain ⟨⟨h0, h1, h2⟩, h3⟩ := hw
  exact ⟨⟨(h.block a ha hS).trans h0, h.ownsRow h1 (fun g hg => hS' g hg), h2⟩, h3⟩
 | error e =>
  obtain ⟨h0, h1, h2⟩ := hw
  exact ⟨(h.block a ha hS).trans h0, h1, h2⟩
theorem PutS.behind {a : Nat} {v : Value} {s : St} {w w1 : World} {e : Ending} {w' : World} (h : PutS a v s w1 e w') (hk : Kept (fun _ => False) w w1) : PutS a v s w e w' := by
 obtain ⟨rfl, v', h1, h2, h3⟩ := h
 refine ⟨rfl, v', h1, (hk.mono (fun _ _ f => f.elim)).trans h2, fun g hg => ?_⟩
 rcases h3 g hg with h | h
 ·exact .inl h
 ·exact .inr (Nat.le_trans hk.size h)
theorem bad_cells {w : World} {a : Nat} {e : Int} (h : w.heap[a]? = some (.cells #[.slice none 0 0, .int .i64 e] 168 (0, 0))) : w.cell? ⟨a, 0, none⟩ = some (.slice none 0 0) ∧ w.cell? ⟨a, 1, none⟩ = some (.int .i64 e) :=
 ⟨by rw [cell_block w a 0 _ _ _ h]; rfl, by rw [cell_block w a 1 _ _ _ h]; rfl⟩
set_option maxRecDepth 100000 in
set_option maxHeartbeats 400000 in
theorem stop_bad (a : Nat) (e k : Int) (w : World) (h : w.heap[a]? = some (.cells #[.slice none 0 0, .int .i64 e] 168 (0, 0))) (he : e ≠ 0) :
  Calls Tryz.prog 82 #[.pointer (some ⟨a, 0, none⟩), .int .i64 k] w fun r w' => r = .returned (.tuple #[]) ∧ w' = w := by
 obtain ⟨h0, h1⟩ := bad_cells h
 have hq : (e == 0) = false := by simp [he]
 clear h he
 go_enter Tryz.func82, Tryz.ntmps82
 go_wp2
 go_end0
 exact ⟨rfl, rfl⟩
set_option maxRecDepth 100000 in
set_option maxHeartbeats 400000 in
theorem stop_ok (a : Nat) (v : Value) (l : List Int) (k : Int) (w : World) (h : Wr w a v l) :
  Calls Tryz.prog 82 #[.pointer (some ⟨a, 0, none⟩), .int .i64 k] w fun r w' => r = .returned (.tuple #[]) ∧ w'.heap[a]? = some (.cells #[.slice none 0 0, .int .i64 k] 168 (0, 0)) ∧ Kept (fun k => k = a) w w' := by
 obtain ⟨h0, h1, f0, f1, hal⟩ := wr_cells h
 have H : ((w.setCell ⟨a, 1, none⟩ (.int .i64 k)).setCell ⟨a, 0, none⟩ (.slice none 0 0)).heap[a]? = some (.cells #[.slice none 0 0, .int .i64 k] 168 (0, 0)) := by
  rw [set_block _ a 0 _ _ _ (set_block _ a 1 _ _ _ h.1 _)]
  rfl
 have HK : Kept (fun k => k = a) w ((w.setCell ⟨a, 1, none⟩ (.int .i64 k)).setCell ⟨a, 0, none⟩ (.slice none 0 0)) := (kept_set w a 1 _).trans (kept_set _ a 0 _)
 have HH := hid_of H
 clear H h
 go_enter Tryz.func82, Tryz.ntmps82
 go_wp2
 go_end0
 exact ⟨rfl, HH.out, HK⟩
set_option maxRecDepth 100000 in
set_option maxHeartbeats 400000 in
theorem room_bad (a : Nat) (e m : Int) (w : World) (h : w.heap[a]? = some (.cells #[.slice none 0 0, .int .i64 e] 168 (0, 0))) (he : e ≠ 0) (hm : 0 ≤ m) (hm' : m ≤ 9223372036854775807) :
  Calls Tryz.prog 144 #[.pointer (some ⟨a, 0, none⟩), .int .i64 m] w fun r w' => r = .returned (.bool false) ∧ w' = w := by
 obtain ⟨h0, h1⟩ := bad_cells h
 have hq : (e == 0) = false := by simp [he]
 have hs := hid_of (stop_bad a e 2 w h he)
 clear h he
 by_cases hb : m ≤ 4194304
 ·go_enter Tryz.func144, Tryz.ntmps144
  go_wp2
  go_ret
  exact ⟨rfl, rfl⟩
 ·go_enter Tryz.func144, Tryz.ntmps144
  go_wp2_with fail
  refine hs.out.mono ?_
  rintro r w1 ⟨rfl, rfl⟩
  go_wp2
  go_ret
  exact ⟨rfl, rfl⟩
set_option maxRecDepth 100000 in
set_option maxHeartbeats 400000 in
theorem room_full (a : Nat) (v : Value) (l : List Int) (m : Int) (w : World) (h : Wr w a v l) (hm : 4194304 < (l.length : Int) + m) (hm' : m ≤ 9223372036854775807) (hl : (l.length : Int) ≤ 4194304) :
  Calls Tryz.prog 144 #[.pointer (some ⟨a, 0, none⟩), .int .i64 m] w fun r w' => r = .returned (.bool false) ∧ w'.heap[a]? = some (.cells #[.slice none 0 0, .int .i64 2] 168 (0, 0)) ∧ Kept (fun k => k = a) w w' := by
 obtain ⟨h0, h1, f0, f1, hal⟩ := wr_cells h
 obtain ⟨ao, cap, rfl⟩ := ownsRow_shape h.2.1
 have hs := hid_of (stop_ok a _ l 2 w h)
 clear h
 go_enter Tryz.func144, Tryz.ntmps144
 go_wp2_with fail
 refine hs.out.mono ?_
 rintro r w1 ⟨rfl, hb, hk⟩
 obtain ⟨k0, k1⟩ := bad_cells hb
 have HB := hid_of hb
 have HK := hid_of hk
 clear hb hk hs
 go_wp2
 go_ret
 exact ⟨rfl, HB.out, HK.out⟩
set_option maxRecDepth 100000 in
set_option maxHeartbeats 400000 in
theorem raw_bad (a : Nat) (e : Int) (ao : Option Addr) (m c : Nat) (w : World) (h : w.heap[a]? = some (.cells #[.slice none 0 0, .int .i64 e] 168 (0, 0))) (he : e ≠ 0) (hm : m ≤ maxLen) :
  Calls Tryz.prog 110 #[.pointer (some ⟨a, 0, none⟩), .slice ao m c] w fun r w' => r = .returned (.tuple #[]) ∧ w' = w := by
 unfold maxLen at hm
 have hr := hid_of (room_bad a e m w h he (by omega) (by omega))
 clear h he
 go_enter Tryz.func110, Tryz.ntmps110
 go_wp2_with fail
 refine hr.out.mono ?_
 rintro r w1 ⟨rfl, rfl⟩
 go_wp2
 go_end0
 exact ⟨rfl, rfl⟩
set_option maxRecDepth 100000 in
set_option maxHeartbeats 400000 in
theorem raw_full (a : Nat) (v : Value) (l : List Int) (ao : Option Addr) (m c : Nat) (w : World) (h : Wr w a v l) (hm : m ≤ maxLen) (hf : 4194304 < l.length + m) (hl : l.length ≤ 4194304) :
  Calls Tryz.prog 110 #[.pointer (some ⟨a, 0, none⟩), .slice ao m c] w fun r w' => r = .returned (.tuple #[]) ∧ w'.heap[a]? = some (.cells #[.slice none 0 0, .int .i64 2] 168 (0, 0)) ∧ Kept (fun k => k = a) w w' := by
 unfold maxLen at hm
 have hr := hid_of (room_full a v l m w h (by omega) (by omega) (by omega))
 clear h
 go_enter Tryz.func110, Tryz.ntmps110
 go_wp2_with fail
 refine hr.out.mono ?_
 rintro r w1 ⟨rfl, h1, h2⟩
 have H1 := hid_of h1
 have H2 := hid_of h2
 clear h1 h2 hr
 go_wp2
 go_end0
 exact ⟨rfl, H1.out, H2.out⟩
theorem PutS.same {a : Nat} {v : Value} {s : St} {w : World} (h : WS w a v s) : PutS a v s w (.returned (.tuple #[])) w := ⟨rfl, v, h, Kept.refl _ _, fun g hg => .inl hg⟩
theorem raw_s (a : Nat) (v : Value) (s : St) (p : Addr) (m c : Nat) (xs : List Int) (w : World) (hw : WS w a v s) (hx : xs.length = m) (hm : m ≤ maxLen)
  (hc : ∀ i, i < m → w.cell? (p.add i) = some (.int .u8 (xs.getD i 0))) :
  Calls Tryz.prog 110 #[.pointer (some ⟨a, 0, none⟩), .slice (some p) m c] w (PutS a v (s.put xs) w) := by
 cases s with
 | error e =>
  refine (raw_bad a e (some p) m c w hw.1 hw.2.1 hm).mono ?_
  rintro r w1 ⟨rfl, rfl⟩
  exact PutS.same hw
 | ok l =>
  by_cases h : l.length + m ≤ 4194304
  ·refine (raw_any a v l p m c xs w hw.1 hx hc h).mono ?_
   rintro r w1 ⟨rfl, v', h1, h2, h3⟩
   refine ⟨rfl, v', ?_, h2, fun g hg => ?_⟩
   ·simp only [St.put, hx, if_pos h]
    exact ⟨h1, by simp [hx]; omega⟩
   ·rcases h3 with h3 | h3
    ·exact .inl (by rw [← h3]; exact hg)
    ·rw [h3] at hg; exact .inr (Nat.le_of_eq (Option.some.inj hg))
  ·refine (raw_full a v l (some p) m c w hw.1 hm (by omega) hw.2).mono ?_
   rintro r w1 ⟨rfl, h1, h2⟩
   refine ⟨rfl, .slice none 0 0, ?_, h2.mono (fun _ _ e => .inl e), fun g hg => by cases hg⟩
   simp only [St.put, hx, if_neg h]
   exact ⟨h1, by decide, rfl⟩
theorem u64_not_nat (a : Nat) (ha : a < 18446744073709551616) : bits .xor .u64 IntKind.u64.max (a : Int) = 18446744073709551615 - (a : Int) := by
 show IntKind.u64.wrap ((BitVec.ofInt 64 IntKind.u64.max ^^^ BitVec.ofInt 64 (a : Int)).toNat : Int) = _
 have h1 : BitVec.ofInt 64 IntKind.u64.max = BitVec.allOnes 64 := by decide
 rw [h1, BitVec.allOnes_xor, BitVec.toNat_not, ofInt_u64 a (by omega)]
 simp [IntKind.wrap, IntKind.bits, IntKind.signed]
 omega
theorem u64_not (x : Int) (h0 : 0 ≤ x) (h1 : x < 18446744073709551616) : bits .xor .u64 IntKind.u64.max x = 18446744073709551615 - x := by
 obtain ⟨a, rfl⟩ := Int.eq_ofNat_of_zero_le h0
 exact u64_not_nat a (by omega)
theorem fold_neg (n : Int) (h0 : -9223372036854775808 ≤ n) (h1 : n < 0) : bits .xor .u64 IntKind.u64.max (IntKind.u64.wrap (IntKind.u64.wrap n * 2)) = -2 * n - 1 := by
 rw [IntKind.wrap_u64, IntKind.wrap_u64]
 rw [u64_not _ (by omega) (by omega)]
 omega
theorem WS.new {w w1 : World} {a : Nat} {v : Value} {s : St} (hw : WS w a v s) (h : Kept (fun _ => False) w w1) : WS w1 a v s := hw.kept h id (fun _ _ f => f)
set_option maxRecDepth 100000 in
set_option maxHeartbeats 1000000 in
theorem wform_s_small (a : Nat) (v : Value) (s : St) (u : Int) (w : World) (hw : WS w a v s) (h0 : 0 ≤ u) (h1 : u ≤ 247) :
  Calls Tryz.prog 83 #[.pointer (some ⟨a, 0, none⟩), .int .u64 u] w (PutS a v (s.put [u]) w) := by
 have hk : Kept (fun _ => False) w (w.alloc (.cells #[.int .u8 u] 5)) := (Kept.refl _ _).alloc _
 have hraw := hid_of (raw_s a v s ⟨w.heap.size, 0, none⟩ 1 1 [u] (w.alloc (.cells #[.int .u8 u] 5)) (hw.new hk) rfl (by decide) (fun i hi => by
  obtain rfl : i = 0 := by omega
  exact cell_one_new w _ 5 0 _ rfl))
 have HK := hid_of hk
 clear hw hk
 go_enter Tryz.func83, Tryz.ntmps83
 go_wp2_with fail
 refine hraw.out.mono ?_
 intro e w1 hp
 have hp' := hid_of (hp.behind HK.out)
 obtain ⟨rfl, _⟩ := hp
 clear hraw HK
 go_wp2
 exact body_retv rfl rfl hp'.out
set_option maxRecDepth 100000 in
set_option maxHeartbeats 1000000 in
theorem wform_s_big (a : Nat) (v : Value) (s : St) (u : Int) (w : World) (hw : WS w a v s) (h0 : 247 < u) (h1 : u < 18446744073709551616) (K : Nat) (hK : Mth.sz u = K) (hK8 : K ≤ 8) (hK1 : 1 ≤ K) :
  Calls Tryz.prog 83 #[.pointer (some ⟨a, 0, none⟩), .int .u64 u] w (PutS a v (s.put ((247 + (K : Int)) :: Mth.be K u)) w) := by
 obtain ⟨i0, hi, hz0, hz1, hz2⟩ := info_parts Tryz.info5
 have hsize := size_any u w (by omega) h1
 rw [hK] at hsize
 clear hK
 have HW := hid_of hw
 clear hw
 have h2 : (K : Int) ≤ 8 := by omega
 go_enter Tryz.func83, Tryz.ntmps83
 go_wp2_with (go_at_call 111; refine hsize.mono ?_; rintro e w1 ⟨rfl, hw1⟩; have hw2 := hw1.symm; subst hw2)
 go_loopw [5, 21] (fun b i wr => ∃ k : Nat, k ≤ K ∧ i = .int .i64 k ∧ wr.ownsRow w.heap.size 5 1 b (k + 1) (((247 + (K : Int)) :: (Mth.be K u).take k).map (Value.int .u8)) ∧ Kept (fun _ => False) w wr) (fun _ i _ => K - (intOf i).toNat)
 case atStart =>
  refine ⟨0, Nat.zero_le _, rfl, ?_, (Kept.refl _ w).alloc _⟩
  exact ⟨rfl, .inr ⟨w.heap.size, 1, #[.int .u8 (247 + (K : Int))], rfl, Nat.le_refl _, heap_alloc_new w _, Nat.le_refl _, by decide, rfl, rfl⟩⟩
 case round =>
  obtain ⟨k, hk, rfl, hown, hkept⟩ := hrel
  by_cases hlt : k < K
  ·have HO := hid_of hown
   clear hown
   have hws := hkept.size
   go_wp2_with (at_builtin; refine wpList_append_own _ rfl (.tmp 24) (.tmp 33) 22 rfl w.heap.size 5 i0 (.int .u8 0) 1 1 Tryz.underlying22 hi hz0 hz1 hz2 rfl (by decide) _ _ _ rfl (HO.out.alloc _) ⟨wr.heap.size, 0, none⟩ 1 1 [.int .u8 (u / 2 ^ (8 * (K - 1 - k)) % 256)] rfl rfl (cell_one_new _ _ _) (by intro u hu; simp at hu; subst hu; rfl) (by unfold maxLen; omega) (by omega) (by simp; omega) ?_)
   intro v' w' hown' hgrow hnil
   have R := form_step hlt hkept HO.out hown' hgrow
   clear hown' hgrow hnil HO
   go_wp2
   go_roundw
   case rel => exact ⟨k + 1, by omega, by go_num, R.1, R.2⟩
   case measure => simp [intOf]; omega
  ·obtain rfl : k = K := by omega
   obtain ⟨g, cap, rfl⟩ : ∃ g cap, u5 = .slice (some ⟨g, 0, none⟩) (k + 1) cap := by
    rcases hown.2 with ⟨_, h⟩ | ⟨g, cap, _, h, _⟩
    ·omega
    ·exact ⟨g, cap, h⟩
   have hraw := raw_s a v s ⟨g, 0, none⟩ (k + 1) cap ((247 + (k : Int)) :: (Mth.be k u).take k) wr (HW.out.new hkept) (by simp [Mth.be_length]) (by unfold maxLen; omega) (own_cells hown)
   rw [show (Mth.be k u).take k = Mth.be k u from List.take_of_length_le (by rw [Mth.be_length]; exact Nat.le_refl _)] at hraw
   have HR := hid_of hraw
   have HK := hid_of hkept
   clear hown hraw hkept
   go_wp2_with fail
   refine HR.out.mono ?_
   intro e w2 hp
   have hp' := hid_of (hp.behind HK.out)
   obtain ⟨rfl, _⟩ := hp
   clear HR HK
   go_wp2
   go_end0
   exact hp'.out
theorem wform_s (a : Nat) (v : Value) (s : St) (u : Int) (w : World) (hw : WS w a v s) (h0 : 0 ≤ u) (h1 : u < 18446744073709551616) :
  Calls Tryz.prog 83 #[.pointer (some ⟨a, 0, none⟩), .int .u64 u] w (PutS a v (s.put (Mth.form u)) w) := by
 unfold Mth.form
 by_cases h : u ≤ 247
 ·rw [if_pos h]
  exact wform_s_small a v s u w hw h0 h
 ·rw [if_neg h]
  refine wform_s_big a v s u w hw (by omega) h1 (Mth.sz u) rfl (Mth.sz_le u) ?_
  have := Mth.sz_cases u
  omega
def St.fail (s : St) (k : Int) : St :=
 match s with
 | .ok _ => .error k
 | .error e => .error e
theorem stop_s (a : Nat) (v : Value) (s : St) (k : Int) (hk : k ≠ 0) (w : World) (hw : WS w a v s) :
  Calls Tryz.prog 82 #[.pointer (some ⟨a, 0, none⟩), .int .i64 k] w (PutS a v (s.fail k) w) := by
 cases s with
 | error e =>
  refine (stop_bad a e k w hw.1 hw.2.1).mono ?_
  rintro r w1 ⟨rfl, rfl⟩
  exact PutS.same hw
 | ok l =>
  refine (stop_ok a v l k w hw.1).mono ?_
  rintro r w1 ⟨rfl, h1, h2⟩
  exact ⟨rfl, .slice none 0 0, ⟨h1, hk, rfl⟩, h2.mono (fun _ _ e => .inl e), fun g hg => by cases hg⟩
def St.num (s : St) (n : Int) : St := if n < 0 then s.fail 1 else s.put (Mth.form n)
set_option maxRecDepth 100000 in
set_option maxHeartbeats 1000000 in
theorem num_s (a : Nat) (v : Value) (s : St) (n : Int) (w : World) (hw : WS w a v s) (hn : -9223372036854775808 ≤ n) (h1 : n < 9223372036854775808) :
  Calls Tryz.prog 62 #[.pointer (some ⟨a, 0, none⟩), .int .i64 n] w (PutS a v (s.num n) w) := by
 unfold St.num
 by_cases h0 : n < 0
 ·rw [if_pos h0]
  have hf := hid_of (stop_s a v s 1 (by decide) w hw)
  clear hw
  go_enter Tryz.func62, Tryz.ntmps62
  go_wp2_with fail
  refine hf.out.mono ?_
  intro e w1 hp
  have HP := hid_of hp
  obtain ⟨rfl, _⟩ := hp
  clear hf
  go_wp2
  exact body_retv rfl rfl HP.out
 ·rw [if_neg h0]
  have hf := hid_of (wform_s a v s n w hw (by omega) (by omega))
  clear hw
  go_enter Tryz.func62, Tryz.ntmps62
  go_wp2_with fail
  refine hf.out.mono ?_
  intro e w1 hp
  have HP := hid_of hp
  obtain ⟨rfl, _⟩ := hp
  clear hf
  go_wp2
  go_end0
  exact HP.out
def fold (n : Int) : Int := if n < 0 then -2 * n - 1 else 2 * n
theorem fold_le (n : Int) (hn : -9223372036854775808 ≤ n) (h1 : n < 9223372036854775808) : 0 ≤ fold n ∧ fold n < 18446744073709551616 := by
 unfold fold; split <;> omega
open Go.RowKit Go.Lib
section
variable {P : Program} (w : World)
end
def nums (s : ByteArray) : List Int := s.data.toList.map fun b => (b.toNat : Int)
def IsB (w : World) (v : Value) (xs : List Int) : Prop :=
 (xs = [] ∧ ∃ ao c, v = .slice ao 0 c) ∨ ∃ g o c, v = .slice (some ⟨g, o, none⟩) xs.length c ∧ ∀ i, i < xs.length → w.cell? ⟨g, o + i, none⟩ = some (.int .u8 (xs.getD i 0))
theorem isB_own {w : World} {base : Nat} {v : Value} {n : Nat} {xs : List Int} (h : w.ownsRow base 5 1 v n (xs.map (Value.int .u8))) : IsB w v xs := by
 have hl := h.1
 simp at hl
 rcases h.2 with ⟨rfl, rfl⟩ | ⟨g, cap, cur, rfl, _⟩
 ·exact .inl ⟨List.length_eq_zero_iff.1 hl, _, _, rfl⟩
 ·subst hl
  exact .inr ⟨g, 0, cap, rfl, fun i hi => by simpa [Addr.add_lit] using own_cells h i hi⟩
def St.bytes : St → List Int
 | .ok l => l
 | .error _ => []
def St.err : St → Int
 | .ok _ => 0
 | .error e => e
set_option maxRecDepth 100000 in
set_option maxHeartbeats 1000000 in
theorem done_bad (a : Nat) (k : Int) (w : World) (hw : w.heap[a]? = some (.cells #[.slice none 0 0, .int .i64 k] 168 (0, 0))) :
  Calls Tryz.prog 63 #[.pointer (some ⟨a, 0, none⟩)] w fun e w' => e = .returned (.tuple #[.slice none 0 0, .int .i64 k]) ∧ w' = w.drew := by
 obtain ⟨h0, h1⟩ := bad_cells hw
 clear hw
 go_enter Tryz.func63, Tryz.ntmps63
 go_wp2
 go_region_held3 (fun w' => w'.cell? ⟨a, 0, none⟩ = some (.slice none 0 0) ∧ w'.cell? ⟨a, 1, none⟩ = some (.int .i64 k)) (first | exact ⟨h0, h1⟩ | assumption | go_keep)
  (first | (go_at_call 84; refine (clone_nil _).mono ?_; rintro e w' ⟨rfl, rfl⟩))
 go_wp2
 go_ret2
 exact ⟨rfl, rfl⟩
theorem done_s (a : Nat) (v : Value) (s : St) (w : World) (hw : WS w a v s) :
  Calls Tryz.prog 63 #[.pointer (some ⟨a, 0, none⟩)] w fun e w' => ∃ v', e = .returned (.tuple #[v', .int .i64 s.err]) ∧ w'.ownsRow w.heap.size 5 1 v' s.bytes.length (s.bytes.map (Value.int .u8)) ∧ Below w.heap.size w w' := by
 cases s with
 | ok l => exact done_any a v l w hw.1 hw.2
 | error k =>
  refine (done_bad a k w hw.1).mono ?_
  rintro e w' ⟨rfl, rfl⟩
  exact ⟨_, rfl, World.ownsRow_nil _ _ _ _, (Below.refl _ _).drew⟩
def zer (n : Nat) : Array Value := madeCells (Value.int .u8 0).cells n
theorem zer_size (n : Nat) : (zer n).size = n := size_madeCells _ n
theorem make_any (W : World) (l : Nat) (h : l ≤ 140737488355328) : (Instr.makeSlice 22 (.int .i64 (l : Int)) (.int .i64 (l : Int))).run Tryz.prog W = .ok (.slice (some ⟨W.heap.size, 0, none⟩) l l) (W.alloc (.cells (zer l) 5)) := by
 obtain ⟨i0, hi, hz0, hz1, hz2⟩ := info_parts Tryz.info5
 have := run_make (P := Tryz.prog) W 22 5 i0 (.int .u8 0) Tryz.underlying22 hi hz0 .i64 .i64 (l : Int) (l : Int) (by omega) (by omega) (by rw [hz2]; omega) (by omega)
 simpa [zer, hz1] using this
theorem put_ok (l m : List Int) (h : l.length + m.length ≤ 4194304) : St.put (.ok l) m = .ok (l ++ m) := by simp only [St.put, if_pos h]
theorem info5size : (Tryz.prog.info? 5).map (·.size) = some 1 := by kernel_rfl
theorem kept_drewN {S : Nat → Prop} {a w : World} (h : Kept S a w) (n : Nat) : Kept S a (w.drewN n) := h.trans ⟨rfl, rfl, rfl, Nat.le_refl _, fun _ _ _ => rfl⟩
end Go.Proofs.YtpfmhibdmehlcaaGreatDoor
