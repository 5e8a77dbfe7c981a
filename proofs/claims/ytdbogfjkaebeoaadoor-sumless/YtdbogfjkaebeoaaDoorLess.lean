/-
  Less, of the program and of the reference, by contract.
-/
import Derived.Test.YtdbogfjkaebeoaaDoorKnown
import Derived.Lib.BytesEntry
namespace Go.Proofs.YtdbogfjkaebeoaaDoor
open Go.RowKit
set_option linter.unusedVariables false
set_option linter.unusedSimpArgs false

/-- Bytes in order. -/
def ltB : List Int → List Int → Bool
  | [], [] => false
  | [], _ :: _ => true
  | _ :: _, [] => false
  | a :: l, b :: m => if a < b then true else if b < a then false else ltB l m

theorem toU8_lt {a b : Int} (ha : 0 ≤ a ∧ a < 256) (hb : 0 ≤ b ∧ b < 256) : a.toNat.toUInt8 < b.toNat.toUInt8 ↔ a < b := by
  rw [UInt8.lt_iff_toNat_lt]
  simp only [Nat.toUInt8, UInt8.toNat_ofNat']
  omega

theorem cmp_lt : ∀ (a b : List Int), (∀ x ∈ a, 0 ≤ x ∧ x < 256) → (∀ x ∈ b, 0 ≤ x ∧ x < 256) → decide (Lib.compareBytes (Lib.bytesOf a) (Lib.bytesOf b) < 0) = ltB a b
  | [], [], _, _ => rfl
  | [], _ :: _, _, _ => rfl
  | _ :: _, [], _, _ => rfl
  | a :: l, b :: m, ha, hb => by
    have ih := cmp_lt l m (fun x hx => ha x (List.mem_cons_of_mem _ hx)) (fun x hx => hb x (List.mem_cons_of_mem _ hx))
    have h1 := toU8_lt (ha a (List.mem_cons_self ..)) (hb b (List.mem_cons_self ..))
    have h2 := toU8_lt (hb b (List.mem_cons_self ..)) (ha a (List.mem_cons_self ..))
    show decide (Lib.compareBytes (a.toNat.toUInt8 :: Lib.bytesOf l) (b.toNat.toUInt8 :: Lib.bytesOf m) < 0) = _
    rw [Lib.compareBytes, ltB]
    by_cases c1 : a < b
    · rw [if_pos (h1.2 c1), if_pos c1]; rfl
    · rw [if_neg (fun h => c1 (h1.1 h)), if_neg c1]
      by_cases c2 : b < a
      · rw [if_pos (h2.2 c2), if_pos c2]; rfl
      · rw [if_neg (fun h => c2 (h2.1 h)), if_neg c2]; exact ih

theorem run_bytesOf (w : World) (b o n c : Nat) (xs : List Int) (hx : xs.length = n) (hc : ∀ i, i < n → w.cell? ⟨b, o + i, none⟩ = some (.int .u8 (xs.getD i 0))) :
    (Extern.Bytes.bytesOf (.slice (some ⟨b, o, none⟩) n c)).run Tryd.prog w = .ok ⟨(Lib.bytesOf xs).toArray⟩ w := by
  have hl := Lib.run_loadBytesX (P := Tryd.prog) w xs ⟨b, o, none⟩ .empty (fun j x hj => by
    have hjl : j < xs.length := (List.getElem?_eq_some_iff.1 hj).1
    rw [Addr.add_mid, hc j (by omega), List.getD_eq_getElem?_getD, hj]
    rfl)
  rw [hx] at hl
  have he : (⟨ByteArray.empty.data ++ (Lib.bytesOf xs).toArray⟩ : ByteArray) = ⟨(Lib.bytesOf xs).toArray⟩ := by
    apply ByteArray.ext
    show (#[] : Array UInt8) ++ (Lib.bytesOf xs).toArray = (Lib.bytesOf xs).toArray
    simp
  rw [he] at hl
  exact hl

theorem run_compare (w : World) (b o n c b' o' n' c' : Nat) (xs ys : List Int) (hx : xs.length = n) (hy : ys.length = n') (hc : ∀ i, i < n → w.cell? ⟨b, o + i, none⟩ = some (.int .u8 (xs.getD i 0))) (hd : ∀ i, i < n' → w.cell? ⟨b', o' + i, none⟩ = some (.int .u8 (ys.getD i 0))) :
    (Extern.BytealgCompare.compare #[.slice (some ⟨b, o, none⟩) n c, .slice (some ⟨b', o', none⟩) n' c']).run Tryd.prog w = .ok (.int .i64 (Lib.compareBytes (Lib.bytesOf xs) (Lib.bytesOf ys))) w := by
  have h1 := run_bytesOf w b o n c xs hx hc
  have h2 := run_bytesOf w b' o' n' c' ys hy hd
  show Sem.run Tryd.prog (do pure (goInt (Extern.BytealgCompare.cmp (← Extern.Bytes.bytesOf (.slice (some ⟨b, o, none⟩) n c)) (← Extern.Bytes.bytesOf (.slice (some ⟨b', o', none⟩) n' c'))))) w = _
  simp only [Sem.run_bind, Sem.run_pure, h1, h2, Result.andThen, Lib.cmp_eq, goInt]

set_option maxRecDepth 100000 in
set_option maxHeartbeats 1000000 in
theorem compare_any (b o n c b' o' n' c' : Nat) (xs ys : List Int) (w : World) (hx : xs.length = n) (hy : ys.length = n') (hc : ∀ i, i < n → w.cell? ⟨b, o + i, none⟩ = some (.int .u8 (xs.getD i 0))) (hd : ∀ i, i < n' → w.cell? ⟨b', o' + i, none⟩ = some (.int .u8 (ys.getD i 0))) :
    Calls Tryd.prog 41 #[.slice (some ⟨b, o, none⟩) n c, .slice (some ⟨b', o', none⟩) n' c'] w fun e w' => e = .returned (.int .i64 (Lib.compareBytes (Lib.bytesOf xs) (Lib.bytesOf ys))) ∧ w' = w := by
  have hrun := run_compare w b o n c b' o' n' c' xs ys hx hy hc hd
  have HRUN := hid_of hrun
  clear hrun hc hd
  go_enter Tryd.func41, Tryd.ntmps41
  go_wp2
  rw [run_callFunc_extern Tryd.func48 (by kernel_rfl) (by kernel_rfl) (by kernel_rfl) (e := Extern.BytealgCompare.compare) (by kernel_rfl), HRUN.out]
  simp only [Result.andThen]
  rw [Oper.upon_value]
  go_wp2
  go_ret
  exact ⟨rfl, rfl⟩

theorem cells_list {w : World} {b : Nat} {xs : List Int} {t : TypeId} {f : Nat × Nat} (h : w.heap[b]? = some (.cells (xs.map (Value.int .u8)).toArray t f)) : ∀ i, i < xs.length → w.cell? ⟨b, i, none⟩ = some (.int .u8 (xs.getD i 0)) := fun i hi => by
  rw [cell_block _ _ _ _ _ _ h]
  simp [List.getD, List.getElem?_eq_getElem hi]

set_option maxRecDepth 100000 in
set_option maxHeartbeats 1000000 in
theorem less_any (a b : List Int) (ha : a.length = 32) (hb : b.length = 32) (hra : ∀ x ∈ a, 0 ≤ x ∧ x < 256) (hrb : ∀ x ∈ b, 0 ≤ x ∧ x < 256) (w : World) :
    Calls Tryd.prog 31 #[.agg (a.map (Value.int .u8)).toArray, .agg (b.map (Value.int .u8)).toArray] w fun e w' => e = .returned (.bool (ltB a b)) ∧ Kept (fun _ => False) w w' := by
  have hl := cmp_lt a b hra hrb
  have HL := hid_of hl
  clear hl hra hrb
  go_enter Tryd.func31, Tryd.ntmps31
  go_wp2
  have h1 := cells_list (w := ((w.alloc (Obj.cells (List.map (Value.int IntKind.u8) a).toArray 28)).alloc (Obj.cells (List.map (Value.int IntKind.u8) b).toArray 28))) (b := w.heap.size) (alloc_old (alloc_new _ _ rfl))
  have h2 := cells_list (w := ((w.alloc (Obj.cells (List.map (Value.int IntKind.u8) a).toArray 28)).alloc (Obj.cells (List.map (Value.int IntKind.u8) b).toArray 28))) (b := w.heap.size + 1) (alloc_new _ _ (by simp))
  have hk : Kept (fun _ => False) w ((w.alloc (Obj.cells (List.map (Value.int IntKind.u8) a).toArray 28)).alloc (Obj.cells (List.map (Value.int IntKind.u8) b).toArray 28)) := ((Kept.refl _ w).alloc _).alloc _
  generalize (w.alloc (Obj.cells (List.map (Value.int IntKind.u8) a).toArray 28)).alloc (Obj.cells (List.map (Value.int IntKind.u8) b).toArray 28) = w2 at *
  rw [ha] at h1
  rw [hb] at h2
  have HC : Hid (∀ n, Calls Tryd.prog 41 #[.slice (some ⟨w.heap.size, 0, none⟩) 32 32, .slice (some ⟨w.heap.size + 1, 0, none⟩) 32 32] (w2.drewN n) fun e w' => e = .returned (.int .i64 (Lib.compareBytes (Lib.bytesOf a) (Lib.bytesOf b))) ∧ w' = w2.drewN n) :=
    fun n => compare_any _ _ _ _ _ _ _ _ a b (w2.drewN n) ha hb (fun i hi => by rw [Nat.zero_add]; exact h1 i hi) (fun i hi => by rw [Nat.zero_add]; exact h2 i hi)
  have HK := hid_of hk
  clear h1 h2 hk
  go_quiet (first | (go_at_call 41; exact (HC.out _).mono (fun _ _ h => ⟨h.1, _, h.2⟩)))
  go_wp2
  go_ret
  exact ⟨by rw [← HL.out]; rfl, kept_drewN HK.out _⟩

theorem ltB_step (a b : List Int) (k : Nat) (ha : k < a.length) (hb : k < b.length) (h : ltB a b = ltB (a.drop k) (b.drop k)) :
    (a.getD k 0 = b.getD k 0 → ltB a b = ltB (a.drop (k + 1)) (b.drop (k + 1))) ∧ (a.getD k 0 ≠ b.getD k 0 → ltB a b = decide (a.getD k 0 < b.getD k 0)) := by
  have e1 : a.drop k = a.getD k 0 :: a.drop (k + 1) := by
    rw [List.drop_eq_getElem_cons ha]
    simp [List.getD, List.getElem?_eq_getElem ha]
  have e2 : b.drop k = b.getD k 0 :: b.drop (k + 1) := by
    rw [List.drop_eq_getElem_cons hb]
    simp [List.getD, List.getElem?_eq_getElem hb]
  rw [e1, e2, ltB] at h
  generalize a.getD k 0 = x at *
  generalize b.getD k 0 = y at *
  constructor
  · intro e
    rw [h, if_neg (by omega), if_neg (by omega)]
  · intro e
    rw [h]
    by_cases c : x < y
    · rw [if_pos c, decide_eq_true c]
    · rw [if_neg c, if_pos (by omega), decide_eq_false c]

set_option maxRecDepth 100000 in
set_option maxHeartbeats 1000000 in
theorem rless_any (a b : List Int) (ha : a.length = 32) (hb : b.length = 32) (w : World) :
    Calls Tryd.prog 32 #[.agg (a.map (Value.int .u8)).toArray, .agg (b.map (Value.int .u8)).toArray] w fun e w' => e = .returned (.bool (ltB a b)) ∧ Kept (fun _ => False) w w' := by
  go_enter Tryd.func32, Tryd.ntmps32
  go_wp2
  have h1 := cells_list (w := ((w.alloc (Obj.cells (List.map (Value.int IntKind.u8) a).toArray 31)).alloc (Obj.cells (List.map (Value.int IntKind.u8) b).toArray 31))) (b := w.heap.size) (alloc_old (alloc_new _ _ rfl))
  have h2 := cells_list (w := ((w.alloc (Obj.cells (List.map (Value.int IntKind.u8) a).toArray 31)).alloc (Obj.cells (List.map (Value.int IntKind.u8) b).toArray 31))) (b := w.heap.size + 1) (alloc_new _ _ (by simp))
  have hk : Kept (fun _ => False) w ((w.alloc (Obj.cells (List.map (Value.int IntKind.u8) a).toArray 31)).alloc (Obj.cells (List.map (Value.int IntKind.u8) b).toArray 31)) := ((Kept.refl _ w).alloc _).alloc _
  generalize (w.alloc (Obj.cells (List.map (Value.int IntKind.u8) a).toArray 31)).alloc (Obj.cells (List.map (Value.int IntKind.u8) b).toArray 31) = w2 at *
  rw [ha] at h1
  rw [hb] at h2
  have H1 := hid_of h1
  have H2 := hid_of h2
  have HK := hid_of hk
  clear h1 h2 hk
  go_loopw [5] (fun i wr => ∃ k q : Nat, k ≤ 32 ∧ i = .int .i64 k ∧ wr = w2.drewN q ∧ ltB a b = ltB (a.drop k) (b.drop k)) (fun i _ => 32 - (intOf i).toNat)
  case atStart => exact ⟨0, 0, by omega, rfl, rfl, rfl⟩
  case round =>
    obtain ⟨k, q, hk, rfl, rfl, hlt⟩ := hrel
    by_cases hk32 : k < 32
    · obtain ⟨s1, s2⟩ := ltB_step a b k (by omega) (by omega) hlt
      have c1 := H1.out k hk32
      have c2 := H2.out k hk32
      have hb0 : (0 : Int) ≤ (k : Int) := by omega
      have hb1 : (k : Int) < 32 := by omega
      clear hlt
      generalize a.getD k 0 = x at *
      generalize b.getD k 0 = y at *
      by_cases hxy : x = y
      · have HS := hid_of (s1 hxy)
        clear s1 s2
        subst hxy
        go_wp2
        go_quiet (fail)
        go_wp2
        go_roundw
        case rel => exact ⟨k + 1, _, by omega, by go_num, rfl, HS.out⟩
        case measure => simp [intOf]; omega
      · have HS := hid_of (s2 hxy)
        clear s1 s2
        have hne : (x == y) = false := by simpa using hxy
        go_wp2
        go_quiet (fail)
        go_wp2
        go_quiet (fail)
        go_wp2
        go_ret
        exact ⟨by rw [HS.out]; rfl, kept_drewN (kept_drewN (kept_drewN HK.out _) _) _⟩
    · obtain rfl : k = 32 := by omega
      have HS : Hid (ltB a b = false) := by
        rw [hlt, List.drop_eq_nil_of_le (by omega), List.drop_eq_nil_of_le (by omega)]
        rfl
      clear hlt
      go_wp2
      go_ret
      exact ⟨by rw [HS.out]; rfl, kept_drewN HK.out _⟩
end Go.Proofs.YtdbogfjkaebeoaaDoor
