/-
  Less by contract; the order of bytes.
-/
import Derived.Test.YtdbogfjkaebeoabDoorKnown
import Derived.Lib.BytesEntry
namespace Go.Proofs.YtdbogfjkaebeoabDoor
open Go.RowKit
set_option linter.unusedVariables false
set_option linter.unusedSimpArgs false

/-- Bytes in order. -/
def ltB : List Int → List Int → Bool
  | [], [] => false
  | [], _ :: _ => true
  | _ :: _, [] => false
  | a :: l, b :: m => if a < b then true else if b < a then false else ltB l m

theorem toU8_lt {a b : Int} (ha : 0 ≤ a ∧ a < 256) (hb : 0 ≤ b ∧ b < 256) : a.toNat.toUInt8 < b.toNat.toUInt8 ↔ a < b := by
  rw [UInt8.lt_iff_toNat_lt]
  simp only [Nat.toUInt8, UInt8.toNat_ofNat']
  omega

theorem cmp_lt : ∀ (a b : List Int), (∀ x ∈ a, 0 ≤ x ∧ x < 256) → (∀ x ∈ b, 0 ≤ x ∧ x < 256) → decide (Lib.compareBytes (Lib.bytesOf a) (Lib.bytesOf b) < 0) = ltB a b
  | [], [], _, _ => rfl
  | [], _ :: _, _, _ => rfl
  | _ :: _, [], _, _ => rfl
  | a :: l, b :: m, ha, hb => by
    have ih := cmp_lt l m (fun x hx => ha x (List.mem_cons_of_mem _ hx)) (fun x hx => hb x (List.mem_cons_of_mem _ hx))
    have h1 := toU8_lt (ha a (List.mem_cons_self ..)) (hb b (List.mem_cons_self ..))
    have h2 := toU8_lt (hb b (List.mem_cons_self ..)) (ha a (List.mem_cons_self ..))
    show decide (Lib.compareBytes (a.toNat.toUInt8 :: Lib.bytesOf l) (b.toNat.toUInt8 :: Lib.bytesOf m) < 0) = _
    rw [Lib.compareBytes, ltB]
    by_cases c1 : a < b
    · rw [if_pos (h1.2 c1), if_pos c1]; rfl
    · rw [if_neg (fun h => c1 (h1.1 h)), if_neg c1]
      by_cases c2 : b < a
      · rw [if_pos (h2.2 c2), if_pos c2]; rfl
      · rw [if_neg (fun h => c2 (h2.1 h)), if_neg c2]; exact ih

theorem run_bytesOf (w : World) (b o n c : Nat) (xs : List Int) (hx : xs.length = n) (hc : ∀ i, i < n → w.cell? ⟨b, o + i, none⟩ = some (.int .u8 (xs.getD i 0))) :
    (Extern.Bytes.bytesOf (.slice (some ⟨b, o, none⟩) n c)).run Tryd.prog w = .ok ⟨(Lib.bytesOf xs).toArray⟩ w := by
  have hl := Lib.run_loadBytesX (P := Tryd.prog) w xs ⟨b, o, none⟩ .empty (fun j x hj => by
    have hjl : j < xs.length := (List.getElem?_eq_some_iff.1 hj).1
    rw [Addr.add_mid, hc j (by omega), List.getD_eq_getElem?_getD, hj]
    rfl)
  rw [hx] at hl
  have he : (⟨ByteArray.empty.data ++ (Lib.bytesOf xs).toArray⟩ : ByteArray) = ⟨(Lib.bytesOf xs).toArray⟩ := by
    apply ByteArray.ext
    show (#[] : Array UInt8) ++ (Lib.bytesOf xs).toArray = (Lib.bytesOf xs).toArray
    simp
  rw [he] at hl
  exact hl

theorem run_compare (w : World) (b o n c b' o' n' c' : Nat) (xs ys : List Int) (hx : xs.length = n) (hy : ys.length = n') (hc : ∀ i, i < n → w.cell? ⟨b, o + i, none⟩ = some (.int .u8 (xs.getD i 0))) (hd : ∀ i, i < n' → w.cell? ⟨b', o' + i, none⟩ = some (.int .u8 (ys.getD i 0))) :
    (Extern.BytealgCompare.compare #[.slice (some ⟨b, o, none⟩) n c, .slice (some ⟨b', o', none⟩) n' c']).run Tryd.prog w = .ok (.int .i64 (Lib.compareBytes (Lib.bytesOf xs) (Lib.bytesOf ys))) w := by
  have h1 := run_bytesOf w b o n c xs hx hc
  have h2 := run_bytesOf w b' o' n' c' ys hy hd
  show Sem.run Tryd.prog (do pure (goInt (Extern.BytealgCompare.cmp (← Extern.Bytes.bytesOf (.slice (some ⟨b, o, none⟩) n c)) (← Extern.Bytes.bytesOf (.slice (some ⟨b', o', none⟩) n' c'))))) w = _
  simp only [Sem.run_bind, Sem.run_pure, h1, h2, Result.andThen, Lib.cmp_eq, goInt]

set_option maxRecDepth 100000 in
set_option maxHeartbeats 1000000 in
theorem compare_any (b o n c b' o' n' c' : Nat) (xs ys : List Int) (w : World) (hx : xs.length = n) (hy : ys.length = n') (hc : ∀ i, i < n → w.cell? ⟨b, o + i, none⟩ = some (.int .u8 (xs.getD i 0))) (hd : ∀ i, i < n' → w.cell? ⟨b', o' + i, none⟩ = some (.int .u8 (ys.getD i 0))) :
    Calls Tryd.prog 20 #[.slice (some ⟨b, o, none⟩) n c, .slice (some ⟨b', o', none⟩) n' c'] w fun e w' => e = .returned (.int .i64 (Lib.compareBytes (Lib.bytesOf xs) (Lib.bytesOf ys))) ∧ w' = w := by
  have hrun := run_compare w b o n c b' o' n' c' xs ys hx hy hc hd
  have HRUN := hid_of hrun
  clear hrun hc hd
  go_enter Tryd.func20, Tryd.ntmps20
  go_wp2
  rw [run_callFunc_extern Tryd.func26 (by kernel_rfl) (by kernel_rfl) (by kernel_rfl) (e := Extern.BytealgCompare.compare) (by kernel_rfl), HRUN.out]
  simp only [Result.andThen]
  rw [Oper.upon_value]
  go_wp2
  go_ret
  exact ⟨rfl, rfl⟩

theorem cells_list {w : World} {b : Nat} {xs : List Int} {t : TypeId} {f : Nat × Nat} (h : w.heap[b]? = some (.cells (xs.map (Value.int .u8)).toArray t f)) : ∀ i, i < xs.length → w.cell? ⟨b, i, none⟩ = some (.int .u8 (xs.getD i 0)) := fun i hi => by
  rw [cell_block _ _ _ _ _ _ h]
  simp [List.getD, List.getElem?_eq_getElem hi]

set_option maxRecDepth 100000 in
set_option maxHeartbeats 1000000 in
theorem less_any (a b : List Int) (ha : a.length = 32) (hb : b.length = 32) (hra : ∀ x ∈ a, 0 ≤ x ∧ x < 256) (hrb : ∀ x ∈ b, 0 ≤ x ∧ x < 256) (w : World) :
    Calls Tryd.prog 15 #[.agg (a.map (Value.int .u8)).toArray, .agg (b.map (Value.int .u8)).toArray] w fun e w' => e = .returned (.bool (ltB a b)) ∧ Kept (fun _ => False) w w' := by
  have hl := cmp_lt a b hra hrb
  have HL := hid_of hl
  clear hl hra hrb
  go_enter Tryd.func15, Tryd.ntmps15
  go_wp2
  have h1 := cells_list (w := ((w.alloc (Obj.cells (List.map (Value.int IntKind.u8) a).toArray 27)).alloc (Obj.cells (List.map (Value.int IntKind.u8) b).toArray 27))) (b := w.heap.size) (alloc_old (alloc_new _ _ rfl))
  have h2 := cells_list (w := ((w.alloc (Obj.cells (List.map (Value.int IntKind.u8) a).toArray 27)).alloc (Obj.cells (List.map (Value.int IntKind.u8) b).toArray 27))) (b := w.heap.size + 1) (alloc_new _ _ (by simp))
  have hk : Kept (fun _ => False) w ((w.alloc (Obj.cells (List.map (Value.int IntKind.u8) a).toArray 27)).alloc (Obj.cells (List.map (Value.int IntKind.u8) b).toArray 27)) := ((Kept.refl _ w).alloc _).alloc _
  generalize (w.alloc (Obj.cells (List.map (Value.int IntKind.u8) a).toArray 27)).alloc (Obj.cells (List.map (Value.int IntKind.u8) b).toArray 27) = w2 at *
  rw [ha] at h1
  rw [hb] at h2
  have HC : Hid (∀ n, Calls Tryd.prog 20 #[.slice (some ⟨w.heap.size, 0, none⟩) 32 32, .slice (some ⟨w.heap.size + 1, 0, none⟩) 32 32] (w2.drewN n) fun e w' => e = .returned (.int .i64 (Lib.compareBytes (Lib.bytesOf a) (Lib.bytesOf b))) ∧ w' = w2.drewN n) :=
    fun n => compare_any _ _ _ _ _ _ _ _ a b (w2.drewN n) ha hb (fun i hi => by rw [Nat.zero_add]; exact h1 i hi) (fun i hi => by rw [Nat.zero_add]; exact h2 i hi)
  have HK := hid_of hk
  clear h1 h2 hk
  go_quiet (first | (go_at_call 20; exact (HC.out _).mono (fun _ _ h => ⟨h.1, _, h.2⟩)))
  go_wp2
  go_ret
  exact ⟨by rw [← HL.out]; rfl, kept_drewN HK.out _⟩

theorem ltB_irr : ∀ a : List Int, ltB a a = false
  | [] => rfl
  | x :: l => by rw [ltB, if_neg (by omega), if_neg (by omega)]; exact ltB_irr l
theorem ltB_asym : ∀ a b : List Int, ltB a b = true → ltB b a = false
  | [], [], h => rfl
  | [], _ :: _, _ => rfl
  | x :: l, y :: m, h => by
    rw [ltB] at h ⊢
    by_cases c1 : x < y
    · rw [if_neg (by omega), if_pos c1]
    · rw [if_neg c1] at h
      by_cases c2 : y < x
      · rw [if_pos c2] at h
        cases h
      · rw [if_neg c2] at h
        rw [if_neg c2, if_neg c1]
        exact ltB_asym l m h
theorem ltB_total : ∀ a b : List Int, a.length = b.length → ltB a b = false → ltB b a = false → a = b
  | [], [], _, _, _ => rfl
  | x :: l, y :: m, hl, h1, h2 => by
    rw [ltB] at h1 h2
    by_cases c1 : x < y
    · rw [if_pos c1] at h1
      cases h1
    · by_cases c2 : y < x
      · rw [if_pos c2] at h2
        cases h2
      · rw [if_neg c1, if_neg c2] at h1
        rw [if_neg c2, if_neg c1] at h2
        obtain rfl : x = y := by omega
        rw [ltB_total l m (by simpa using hl) h1 h2]
theorem ltB_trans : ∀ a b c : List Int, ltB a b = true → ltB b c = true → ltB a c = true
  | [], _, [], h1, h2 => by
    rename_i b
    cases b with
    | nil => cases h1
    | cons y m => cases h2
  | [], _, _ :: _, _, _ => rfl
  | x :: l, [], _, h1, _ => by cases h1
  | x :: l, y :: m, [], _, h2 => by cases h2
  | x :: l, y :: m, z :: n, h1, h2 => by
    rw [ltB] at h1 h2 ⊢
    by_cases c1 : x < y
    · by_cases c2 : y < z
      · rw [if_pos (by omega)]
      · rw [if_neg c2] at h2
        by_cases c3 : z < y
        · rw [if_pos c3] at h2
          cases h2
        · rw [if_pos (by omega)]
    · rw [if_neg c1] at h1
      by_cases c4 : y < x
      · rw [if_pos c4] at h1
        cases h1
      · rw [if_neg c4] at h1
        obtain rfl : x = y := by omega
        by_cases c2 : x < z
        · rw [if_pos c2]
        · rw [if_neg c2] at h2 ⊢
          by_cases c3 : z < x
          · rw [if_pos c3] at h2
            cases h2
          · rw [if_neg c3] at h2 ⊢
            exact ltB_trans l m n h1 h2
end Go.Proofs.YtdbogfjkaebeoabDoor
