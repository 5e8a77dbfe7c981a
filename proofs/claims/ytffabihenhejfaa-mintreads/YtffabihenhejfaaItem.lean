/-
  put (the statements' own), is: by contract.
-/
import Derived.Test.YtffabihenhejfaaLend
import Derived.Laws.BytesString
namespace Go.Proofs.Ytffabihenhejfaa
open Go.RowKit
set_option linter.unusedVariables false

theorem IsB.shape {w : World} {v : Value} {xs : List Int} (h : IsB w v xs) : ∃ ao c, v = .slice ao xs.length c := by
  rcases h with ⟨rfl, ao, c, rfl⟩ | ⟨g, o, c, rfl, hc⟩
  · exact ⟨_, _, rfl⟩
  · exact ⟨_, _, rfl⟩

theorem IsB.kept {w w' : World} {v : Value} {xs : List Int} {S : Nat → Prop} (h : IsB w v xs) (hk : Kept S w w') (hS : ∀ g, v.ownBlock = some g → ¬ S g) : IsB w' v xs := by
  rcases h with ⟨rfl, ao, c, rfl⟩ | ⟨g, o, c, rfl, hc⟩
  · exact .inl ⟨rfl, _, _, rfl⟩
  · exact .inr ⟨g, o, c, rfl, fun i hi => hk.cell (hc i hi) (hS g rfl)⟩

theorem IsB.kept2 {w w' : World} {v : Value} {xs : List Int} {S : Nat → Prop} (h : IsB w v xs) (hk : Kept S w w') (hS : xs ≠ [] → ∀ g, v.ownBlock = some g → ¬ S g) : IsB w' v xs := by
  rcases h with ⟨rfl, ao, c, rfl⟩ | ⟨g, o, c, rfl, hc⟩
  · exact .inl ⟨rfl, _, _, rfl⟩
  · exact .inr ⟨g, o, c, rfl, fun i hi => hk.cell (hc i hi) (hS (by intro e; rw [e] at hi; simp at hi) g rfl)⟩

/-- Bytes that are there lie in a block that is there. -/
theorem IsB.lt {w : World} {v : Value} {xs : List Int} (h : IsB w v xs) (hx : xs ≠ []) : ∀ g, v.ownBlock = some g → g < w.heap.size := by
  intro q hq
  rcases h with ⟨rfl, _⟩ | ⟨g, o, c, rfl, hc⟩
  · exact absurd rfl hx
  · have := World.block_lt_of_cell? _ _ (hc 0 (List.length_pos_iff.2 hx))
    rw [← Option.some.inj hq]
    exact this

theorem Lent.kept {w w' : World} {g : Nat} {xs : List Int} {j : Nat} {S : Nat → Prop} (h : Lent w g xs j) (hk : Kept S w w') (hS : ¬ S g) : Lent w' g xs j := by
  obtain ⟨cur, h0, r⟩ := h
  exact ⟨cur, (hk.block g (Array.getElem?_eq_some_iff.1 h0).1 hS).trans h0, r⟩

/-- Bytes as a string. -/
def str (xs : List Int) : ByteArray := xs.foldl (fun r n => r.push (UInt8.ofNat n.toNat)) ByteArray.empty

theorem push_data (r : ByteArray) (b : UInt8) : (r.push b).data.toList = r.data.toList ++ [b] := by simp [ByteArray.push]
theorem fold_data (xs : List Int) : ∀ r : ByteArray, (xs.foldl (fun r n => r.push (UInt8.ofNat n.toNat)) r).data.toList = r.data.toList ++ xs.map fun n => UInt8.ofNat n.toNat := by
  induction xs with
  | nil => intro r; simp
  | cons x xs ih => intro r; rw [List.foldl_cons, ih, push_data]; simp

theorem str_nums (xs : List Int) (h : ∀ x ∈ xs, 0 ≤ x ∧ x ≤ 255) : nums (str xs) = xs := by
  unfold nums str
  rw [fold_data]
  have e : (ByteArray.empty.data.toList : List UInt8) = [] := rfl
  rw [e, List.nil_append, List.map_map]
  conv => rhs; rw [← List.map_id xs]
  apply List.map_congr_left
  intro x hx
  have := h x hx
  simp only [Function.comp, id]
  rw [UInt8.toNat_ofNat']
  omega

theorem str_size (xs : List Int) : (str xs).size = xs.length := by
  have : (str xs).size = (str xs).data.toList.length := by simp
  rw [this]
  unfold str
  rw [fold_data]
  have e : (ByteArray.empty.data.toList : List UInt8) = [] := rfl
  simp

theorem conv_str (w : World) (v : Value) (xs : List Int) (h : IsB w v xs) : (convert 25 9 v).run Try.prog w = .ok (.string (str xs)) w := by
  rcases h with ⟨rfl, ao, c, rfl⟩ | ⟨g, o, c, rfl, hc⟩
  · rw [run_convert_bytes_string w 25 9 5 ao 0 c Try.underlying25 Try.underlying5 Try.underlying9]
    cases ao with
    | none => simp [Conv.bytesToString, str]
    | some p => exact run_bytesToString w p 0 c [] (run_loadCells_list w p [] (fun j v h => by cases h))
  · rw [run_convert_bytes_string w 25 9 5 _ _ c Try.underlying25 Try.underlying5 Try.underlying9]
    refine run_bytesToString w _ _ c xs ?_
    have := run_loadCells_list (P := Try.prog) w ⟨g, o, none⟩ (xs.map (Value.int .u8)) (map_cells rfl (fun i hi => by rw [Addr.add_lit]; exact hc i hi))
    simpa using this

/-- What a put of an item makes of a Writer's state. -/
def St.item (s : St) (k n : Int) (xs : List Int) : St :=
  if k = 1 then s.num n else if k = 2 then s.put (Mth.form (fold n)) else if k = 3 then s.put [if (n == 1) = true then 1 else 0]
  else if k = 4 then s.put (Mth.form xs.length ++ xs) else if k = 5 then s.put (Mth.form xs.length ++ xs) else s.put xs

/-- What a put of the statements' own leaves. -/
def PutB (a : Nat) (v : Value) (s : St) (w : World) (e : Ending) (w' : World) : Prop :=
  e = .returned (.bool true) ∧ ∃ v', WS w' a v' s ∧ Kept (fun k => k = a ∨ v.ownBlock = some k) w w' ∧ (∀ g, v'.ownBlock = some g → v.ownBlock = some g ∨ w.heap.size ≤ g)

/-- Behind the call: the lent bytes are given back. -/
theorem put_back {a g : Nat} {v v' : Value} {s : St} {w w2 w3 w4 : World} (hk2 : Kept (fun _ => False) w w2) (hg : w.heap.size ≤ g) (hg2 : g < w2.heap.size) (h1 : WS w3 a v' s) (h2 : Kept (fun k => k = a ∨ v.ownBlock = some k) w2 w3)
    (h3 : ∀ g, v'.ownBlock = some g → v.ownBlock = some g ∨ w2.heap.size ≤ g) (hv : ∀ q, v.ownBlock = some q → q < w.heap.size) (ha : a < w.heap.size) (h4 : Kept (fun k => k = g) w3 w4) : PutB a v s w (.returned (.bool true)) w4 := by
  have h34 : Kept (fun k => k = a ∨ v.ownBlock = some k) w w3 := (hk2.mono (fun _ _ f => f.elim)).trans h2
  refine ⟨rfl, v', h1.kept h4 (by omega) (fun q hq => ?_), h34.step h4 (fun i hi e => by omega), fun q hq => ?_⟩
  · rcases h3 q hq with h | h
    · have := hv q h; omega
    · omega
  · rcases h3 q hq with h | h
    · exact .inl h
    · exact .inr (Nat.le_trans hk2.size h)

set_option maxRecDepth 100000 in
set_option maxHeartbeats 4000000 in
theorem put_big (a : Nat) (v : Value) (s : St) (k n : Int) (bv : Value) (xs : List Int) (w : World) (hw : WS w a v s) (hk0 : 1 ≤ k) (hk1 : k ≤ 6) (hn0 : -9223372036854775808 ≤ n) (hn1 : n < 9223372036854775808)
    (hx : IsB w bv xs) (hbx : ∀ x ∈ xs, 0 ≤ x ∧ x ≤ 255) (hl : xs.length ≤ 4194304) (hap : xs ≠ [] → ∀ g, bv.ownBlock = some g → g ≠ a ∧ v.ownBlock ≠ some g) :
    Calls Try.prog 12 #[.pointer (some ⟨a, 0, none⟩), .agg #[.int .i64 k, .int .i64 n, bv]] w (PutB a v (s.item k n xs) w) := by
  have ha := hw.size
  have hv := fun q hq => (hw.lt q hq).1
  obtain ⟨ao, c, hbv⟩ := hx.shape
  have hbox := heap_alloc_new w (.cells #[.int .i64 k, .int .i64 n, bv] 27)
  have hk' : Kept (fun _ => False) w (w.alloc (.cells #[.int .i64 k, .int .i64 n, bv] 27)) := (Kept.refl _ _).alloc _
  have hld := lend_any bv xs _ (hx.kept hk' (fun _ _ f => f)) (by omega)
  have HLD := hid_of hld
  have HKB := hid_of hk'
  have HBOX := hid_of hbox
  have HW := hid_of hw
  have HX := hid_of hx
  have HV := hid_of hv
  have HAP := hid_of hap
  have HBX := hid_of hbx
  clear hld hk' hbox hw hx hv hap hbx
  subst hbv
  go_enter Try.func12, Try.ntmps12
  go_wp2_with fail
  refine HLD.out.mono ?_
  rintro e w2 ⟨rfl, hLe, hK2⟩
  have hK : Kept (fun _ => False) w w2 := HKB.out.trans hK2
  have hws := HW.out.new hK
  have hbx2 : w2.heap[w.heap.size]? = some (.cells #[.int .i64 k, .int .i64 n, .slice ao xs.length c] 27 (0, 0)) := (hK2.block _ (by simp) (fun f => f)).trans HBOX.out
  have b0 : w2.cell? ⟨w.heap.size, 0, none⟩ = some (.int .i64 k) := by rw [cell_block _ _ _ _ _ _ hbx2]; rfl
  have b1 : w2.cell? ⟨w.heap.size, 1, none⟩ = some (.int .i64 n) := by rw [cell_block _ _ _ _ _ _ hbx2]; rfl
  have b2 : w2.cell? ⟨w.heap.size, 2, none⟩ = some (.slice ao xs.length c) := by rw [cell_block _ _ _ _ _ _ hbx2]; rfl
  rw [show (w.alloc (.cells #[.int .i64 k, .int .i64 n, .slice ao xs.length c] 27)).heap.size = w.heap.size + 1 from by simp] at hLe ⊢
  have hg2 : w.heap.size + 1 < w2.heap.size := by
    obtain ⟨cur, h0, _⟩ := hLe
    exact (Array.getElem?_eq_some_iff.1 h0).1
  have hLB := hLe.isB (c := xs.length + 5)
  have hLC : ∀ i, i < xs.length → w2.cell? ⟨w.heap.size + 1, 0 + i, none⟩ = some (.int .u8 (xs.getD i 0)) := by
    obtain ⟨cur, h0, h1, h2, h3⟩ := hLe
    intro i hi
    rw [cell_block _ _ _ _ _ _ h0, Nat.zero_add]
    exact h2 i hi
  have hX2 : IsB w2 (.slice ao xs.length c) xs := HX.out.kept hK (fun _ _ f => f)
  have hcv := conv_str w2 _ xs hX2
  have C1 := hid_of (num_s a v s n w2 hws hn0 hn1)
  have C2 := hid_of (int_s a v s n w2 hws hn0 hn1)
  have C3 := hid_of (bool_s a v s (n == 1) w2 hws)
  have C4 := hid_of (bytes_s a v s (w.heap.size + 1) 0 xs.length (xs.length + 5) xs w2 hws rfl (by unfold maxLen; omega) (by omega) (fun e => by have := HV.out _ e; omega) hLC)
  have C5 := text_s a v s (str xs) w2 hws (by rw [str_size]; unfold maxLen; omega)
  rw [str_size, str_nums xs HBX.out] at C5
  have HC5 := hid_of C5
  have C6 := hid_of (raw_s a v s ⟨w.heap.size + 1, 0, none⟩ xs.length (xs.length + 5) xs w2 hws rfl (by unfold maxLen; omega) (fun i hi => by rw [Addr.add_lit]; exact hLC i hi))
  have END : Hid (∀ s' e w3, PutS a v s' w2 e w3 → e = .returned (.tuple #[]) ∧ w3.cell? ⟨w.heap.size, 2, none⟩ = some (.slice ao xs.length c) ∧ Calls Try.prog 16 #[.slice (some ⟨w.heap.size + 1, 0, none⟩) xs.length (xs.length + 5), .slice ao xs.length c] w3 (PutB a v s' w)) := by
    intro s' e w3 hp
    obtain ⟨rfl, v', h1, h2, h3⟩ := hp
    refine ⟨rfl, h2.cell b2 ?_, ?_⟩
    · intro h
      rcases h with h | h
      · simp at h; omega
      · have := HV.out _ h; simp at this
    · have hl3 : Lent w3 (w.heap.size + 1) xs 5 := hLe.kept h2 (by intro h; rcases h with h | h; omega; have := HV.out _ h; omega)
      have hx3 : IsB w3 (.slice ao xs.length c) xs := hX2.kept2 h2 (fun hne g hg h => by rcases h with h | h; exact (HAP.out hne g hg).1 h; exact (HAP.out hne g hg).2 h)
      refine (back_any _ _ xs w3 hl3 hx3 (by omega)).mono ?_
      rintro e w4 ⟨rfl, h4⟩
      exact put_back hK (by omega) hg2 h1 h2 h3 HV.out ha h4
  have hk : k = 1 ∨ k = 2 ∨ k = 3 ∨ k = 4 ∨ k = 5 ∨ k = 6 := by omega
  clear HLD HKB HBOX HW HX HV HAP HBX hLe hK2 hK hws hbx2 hLB hLC hX2 C5 hk0 hk1
  rcases hk with rfl | rfl | rfl | rfl | rfl | rfl
  go_wp2_with fail
  refine C1.out.mono ?_
  intro e w3 hp
  obtain ⟨rfl, d2, hb⟩ := END.out _ e w3 hp
  clear hp
  rotate_left 1
  go_wp2_with fail
  refine C2.out.mono ?_
  intro e w3 hp
  obtain ⟨rfl, d2, hb⟩ := END.out _ e w3 hp
  clear hp
  rotate_left 1
  go_wp2_with fail
  refine C3.out.mono ?_
  intro e w3 hp
  obtain ⟨rfl, d2, hb⟩ := END.out _ e w3 hp
  clear hp
  rotate_left 1
  go_wp2_with fail
  refine C4.out.mono ?_
  intro e w3 hp
  obtain ⟨rfl, d2, hb⟩ := END.out _ e w3 hp
  clear hp
  rotate_left 1
  go_wp2_with fail
  refine HC5.out.mono ?_
  intro e w3 hp
  obtain ⟨rfl, d2, hb⟩ := END.out _ e w3 hp
  clear hp
  rotate_left 1
  go_wp2_with fail
  refine C6.out.mono ?_
  intro e w3 hp
  obtain ⟨rfl, d2, hb⟩ := END.out _ e w3 hp
  clear hp
  rotate_left 1
  all_goals
    have HB := hid_of hb
    clear hb END C1 C2 C3 C4 HC5 C6 hcv b0 b1 b2
    go_wp2_with fail
    refine HB.out.mono ?_
    intro e w4 hp
    have HP := hid_of hp
    obtain ⟨rfl, _⟩ := hp
    clear HB
    go_wp2
    go_ret
    exact HP.out

theorem put_any (a : Nat) (v : Value) (s : St) (k n : Int) (bv : Value) (xs : List Int) (w : World) (hw : WS w a v s) (hk0 : 1 ≤ k) (hk1 : k ≤ 6) (hn0 : -9223372036854775808 ≤ n) (hn1 : n < 9223372036854775808)
    (hx : IsB w bv xs) (hbx : ∀ x ∈ xs, 0 ≤ x ∧ x ≤ 255) (hl : xs.length ≤ 65536) (hap : xs ≠ [] → ∀ g, bv.ownBlock = some g → g ≠ a ∧ v.ownBlock ≠ some g) :
    Calls Try.prog 12 #[.pointer (some ⟨a, 0, none⟩), .agg #[.int .i64 k, .int .i64 n, bv]] w (PutB a v (s.item k n xs) w) :=
  put_big a v s k n bv xs w hw hk0 hk1 hn0 hn1 hx hbx (Nat.le_trans hl (by decide)) hap

/-- May the item be put? -/
def isOk (k : Int) (len : Nat) : Bool := decide (1 ≤ k ∧ k ≤ 6 ∧ len ≤ 65536)

set_option maxRecDepth 100000 in
set_option maxHeartbeats 1000000 in
theorem is_any (k n : Int) (ao : Option Addr) (len c : Nat) (w : World) (hl : len ≤ maxLen) :
    Calls Try.prog 11 #[.agg #[.int .i64 k, .int .i64 n, .slice ao len c]] w fun e w' => e = .returned (.bool (isOk k len)) ∧ w' = w.alloc (.cells #[.int .i64 k, .int .i64 n, .slice ao len c] 27) := by
  unfold maxLen at hl
  by_cases h1 : 1 ≤ k
  · by_cases h2 : k ≤ 6
    · by_cases h3 : (len : Int) ≤ 65536
      · have e : isOk k len = true := decide_eq_true ⟨h1, h2, by omega⟩
        rw [e]
        go_enter Try.func11, Try.ntmps11
        go_wp2
        go_ret
        exact ⟨by first | rfl | simp [h1, h2, h3], rfl⟩
      · have e : isOk k len = false := decide_eq_false (by omega)
        rw [e]
        have h3' : (65536 : Int) < (len : Int) := by omega
        go_enter Try.func11, Try.ntmps11
        go_wp2
        go_ret
        exact ⟨by first | rfl | simp [h1, h2], rfl⟩
    · have e : isOk k len = false := decide_eq_false (by omega)
      rw [e]
      have h2' : decide (k ≤ 6) = false := by simp; omega
      go_enter Try.func11, Try.ntmps11
      go_wp2
      go_ret
      exact ⟨by first | rfl | simp [h1], rfl⟩
  · have e : isOk k len = false := decide_eq_false (by omega)
    rw [e]
    have h1' : decide (1 ≤ k) = false := by simp; omega
    go_enter Try.func11, Try.ntmps11
    go_wp2
    go_ret
    exact ⟨by first | rfl | simp, rfl⟩
end Go.Proofs.Ytffabihenhejfaa
