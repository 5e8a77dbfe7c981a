/-
 Md: Less, Alk, Cbytes, Ceq.
-/
import Derived.Test.YtjdbmjkidljhpaaGreatDoorTMc
import Derived.Lib.BytesEntry
import Derived.Test.YtjdbmjkidljhpaaGreatDoorTMa
import Derived.Laws.BytesString
import Derived.Lib.SliceRun
namespace Go.Proofs.YtjdbmjkidljhpaaGreatDoor
open Go.RowKit
set_option linter.unusedVariables false
set_option maxRecDepth 100000
set_option linter.unusedSimpArgs false
/-- Bytes in order. -/
def ltB : List Int → List Int → Bool
 | [], [] => false
 | [], _ :: _ => true
 | _ :: _, [] => false
 | a :: l, b :: m => if a < b then true else if b < a then false else ltB l m
theorem toU8_lt {a b : Int} (ha : 0 ≤ a ∧ a < 256) (hb : 0 ≤ b ∧ b < 256) : a.toNat.toUInt8 < b.toNat.toUInt8 ↔ a < b := by
 rw [UInt8.lt_iff_toNat_lt]
 simp only [Nat.toUInt8, UInt8.toNat_ofNat']
 omega
theorem cmp_lt : ∀ (a b : List Int), (∀ x ∈ a, 0 ≤ x ∧ x < 256) → (∀ x ∈ b, 0 ≤ x ∧ x < 256) → decide (Lib.compareBytes (Lib.bytesOf a) (Lib.bytesOf b) < 0) = ltB a b
 | [], [], _, _ => rfl
 | [], _ :: _, _, _ => rfl
 | _ :: _, [], _, _ => rfl
 | a :: l, b :: m, ha, hb => by
  have ih := cmp_lt l m (fun x hx => ha x (List.mem_cons_of_mem _ hx)) (fun x hx => hb x (List.mem_cons_of_mem _ hx))
  have h1 := toU8_lt (ha a (List.mem_cons_self ..)) (hb b (List.mem_cons_self ..))
  have h2 := toU8_lt (hb b (List.mem_cons_self ..)) (ha a (List.mem_cons_self ..))
  show decide (Lib.compareBytes (a.toNat.toUInt8 :: Lib.bytesOf l) (b.toNat.toUInt8 :: Lib.bytesOf m) < 0) = _
  rw [Lib.compareBytes, ltB]
  by_cases c1 : a < b
  ·rw [if_pos (h1.2 c1), if_pos c1]; rfl
  ·rw [if_neg (fun h => c1 (h1.1 h)), if_neg c1]
   by_cases c2 : b < a
   ·rw [if_pos (h2.2 c2), if_pos c2]; rfl
   ·rw [if_neg (fun h => c2 (h2.1 h)), if_neg c2]; exact ih
theorem run_bytesOf (w : World) (b o n c : Nat) (xs : List Int) (hx : xs.length = n) (hc : ∀ i, i < n → w.cell? ⟨b, o + i, none⟩ = some (.int .u8 (xs.getD i 0))) :
  (Extern.Bytes.bytesOf (.slice (some ⟨b, o, none⟩) n c)).run Tryz.prog w = .ok ⟨(Lib.bytesOf xs).toArray⟩ w := by
 have hl := Lib.run_loadBytesX (P := Tryz.prog) w xs ⟨b, o, none⟩ .empty (fun j x hj => by
  have hjl : j < xs.length := (List.getElem?_eq_some_iff.1 hj).1
  rw [Addr.add_mid, hc j (by omega), List.getD_eq_getElem?_getD, hj]
  rfl)
 rw [hx] at hl
 have he : (⟨ByteArray.empty.data ++ (Lib.bytesOf xs).toArray⟩ : ByteArray) = ⟨(Lib.bytesOf xs).toArray⟩ := by
  apply ByteArray.ext
  show (#[] : Array UInt8) ++ (Lib.bytesOf xs).toArray = (Lib.bytesOf xs).toArray
  simp
 rw [he] at hl
 exact hl
theorem run_compare (w : World) (b o n c b' o' n' c' : Nat) (xs ys : List Int) (hx : xs.length = n) (hy : ys.length = n') (hc : ∀ i, i < n → w.cell? ⟨b, o + i, none⟩ = some (.int .u8 (xs.getD i 0))) (hd : ∀ i, i < n' → w.cell? ⟨b', o' + i, none⟩ = some (.int .u8 (ys.getD i 0))) :
  (Extern.BytealgCompare.compare #[.slice (some ⟨b, o, none⟩) n c, .slice (some ⟨b', o', none⟩) n' c']).run Tryz.prog w = .ok (.int .i64 (Lib.compareBytes (Lib.bytesOf xs) (Lib.bytesOf ys))) w := by
 have h1 := run_bytesOf w b o n c xs hx hc
 have h2 := run_bytesOf w b' o' n' c' ys hy hd
 show Sem.run Tryz.prog (do pure (goInt (Extern.BytealgCompare.cmp (← Extern.Bytes.bytesOf (.slice (some ⟨b, o, none⟩) n c)) (← Extern.Bytes.bytesOf (.slice (some ⟨b', o', none⟩) n' c'))))) w = _
 simp only [Sem.run_bind, Sem.run_pure, h1, h2, Result.andThen, Lib.cmp_eq, goInt]
set_option maxRecDepth 100000 in
set_option maxHeartbeats 1000000 in
theorem compare_any (b o n c b' o' n' c' : Nat) (xs ys : List Int) (w : World) (hx : xs.length = n) (hy : ys.length = n') (hc : ∀ i, i < n → w.cell? ⟨b, o + i, none⟩ = some (.int .u8 (xs.getD i 0))) (hd : ∀ i, i < n' → w.cell? ⟨b', o' + i, none⟩ = some (.int .u8 (ys.getD i 0))) :
  Calls Tryz.prog 80 #[.slice (some ⟨b, o, none⟩) n c, .slice (some ⟨b', o', none⟩) n' c'] w fun e w' => e = .returned (.int .i64 (Lib.compareBytes (Lib.bytesOf xs) (Lib.bytesOf ys))) ∧ w' = w := by
 have hrun := run_compare w b o n c b' o' n' c' xs ys hx hy hc hd
 have HRUN := hid_of hrun
 clear hrun hc hd
 go_enter Tryz.func80, Tryz.ntmps80
 go_wp2
 rw [run_callFunc_extern Tryz.func97 (by kernel_rfl) (by kernel_rfl) (by kernel_rfl) (e := Extern.BytealgCompare.compare) (by kernel_rfl), HRUN.out]
 simp only [Result.andThen]
 rw [Oper.upon_value]
 go_wp2
 go_ret
 exact ⟨rfl, rfl⟩
theorem cells_list {w : World} {b : Nat} {xs : List Int} {t : TypeId} {f : Nat × Nat} (h : w.heap[b]? = some (.cells (xs.map (Value.int .u8)).toArray t f)) : ∀ i, i < xs.length → w.cell? ⟨b, i, none⟩ = some (.int .u8 (xs.getD i 0)) := fun i hi => by
 rw [cell_block _ _ _ _ _ _ h]
 simp [List.getD, List.getElem?_eq_getElem hi]
set_option maxRecDepth 100000 in
set_option maxHeartbeats 1000000 in
theorem less_any (a b : List Int) (ha : a.length = 32) (hb : b.length = 32) (hra : ∀ x ∈ a, 0 ≤ x ∧ x < 256) (hrb : ∀ x ∈ b, 0 ≤ x ∧ x < 256) (w : World) :
  Calls Tryz.prog 70 #[.agg (a.map (Value.int .u8)).toArray, .agg (b.map (Value.int .u8)).toArray] w fun e w' => e = .returned (.bool (ltB a b)) ∧ Kept (fun _ => False) w w' := by
 have hl := cmp_lt a b hra hrb
 have HL := hid_of hl
 clear hl hra hrb
 go_enter Tryz.func70, Tryz.ntmps70
 go_wp2
 have h1 := cells_list (w := ((w.alloc (Obj.cells (List.map (Value.int IntKind.u8) a).toArray 29)).alloc (Obj.cells (List.map (Value.int IntKind.u8) b).toArray 29))) (b := w.heap.size) (alloc_old (alloc_new _ _ rfl))
 have h2 := cells_list (w := ((w.alloc (Obj.cells (List.map (Value.int IntKind.u8) a).toArray 29)).alloc (Obj.cells (List.map (Value.int IntKind.u8) b).toArray 29))) (b := w.heap.size + 1) (alloc_new _ _ (by simp))
 have hk : Kept (fun _ => False) w ((w.alloc (Obj.cells (List.map (Value.int IntKind.u8) a).toArray 29)).alloc (Obj.cells (List.map (Value.int IntKind.u8) b).toArray 29)) := ((Kept.refl _ w).alloc _).alloc _
 generalize (w.alloc (Obj.cells (List.map (Value.int IntKind.u8) a).toArray 29)).alloc (Obj.cells (List.map (Value.int IntKind.u8) b).toArray 29) = w2 at *
 rw [ha] at h1
 rw [hb] at h2
 have HC : Hid (∀ n, Calls Tryz.prog 80 #[.slice (some ⟨w.heap.size, 0, none⟩) 32 32, .slice (some ⟨w.heap.size + 1, 0, none⟩) 32 32] (w2.drewN n) fun e w' => e = .returned (.int .i64 (Lib.compareBytes (Lib.bytesOf a) (Lib.bytesOf b))) ∧ w' = w2.drewN n) :=
  fun n => compare_any _ _ _ _ _ _ _ _ a b (w2.drewN n) ha hb (fun i hi => by rw [Nat.zero_add]; exact h1 i hi) (fun i hi => by rw [Nat.zero_add]; exact h2 i hi)
 have HK := hid_of hk
 clear h1 h2 hk
 go_quiet (first | (go_at_call 80; exact (HC.out _).mono (fun _ _ h => ⟨h.1, _, h.2⟩)))
 go_wp2
 go_ret
 exact ⟨by rw [← HL.out]; rfl, kept_drewN HK.out _⟩
theorem ltB_step (a b : List Int) (k : Nat) (ha : k < a.length) (hb : k < b.length) (h : ltB a b = ltB (a.drop k) (b.drop k)) :
  (a.getD k 0 = b.getD k 0 → ltB a b = ltB (a.drop (k + 1)) (b.drop (k + 1))) ∧ (a.getD k 0 ≠ b.getD k 0 → ltB a b = decide (a.getD k 0 < b.getD k 0)) := by
 have e1 : a.drop k = a.getD k 0 :: a.drop (k + 1) := by
  rw [List.drop_eq_getElem_cons ha]
  simp [List.getD, List.getElem?_eq_getElem ha]
 have e2 : b.drop k = b.getD k 0 :: b.drop (k + 1) := by
  rw [List.drop_eq_getElem_cons hb]
  simp [List.getD, List.getElem?_eq_getElem hb]
 rw [e1, e2, ltB] at h
 generalize a.getD k 0 = x at *
 generalize b.getD k 0 = y at *
 constructor
 ·intro e
  rw [h, if_neg (by omega), if_neg (by omega)]
 ·intro e
  rw [h]
  by_cases c : x < y
  ·rw [if_pos c, decide_eq_true c]
  ·rw [if_neg c, if_pos (by omega), decide_eq_false c]
set_option maxRecDepth 100000 in
set_option maxHeartbeats 1000000 in
theorem rless_any (a b : List Int) (ha : a.length = 32) (hb : b.length = 32) (w : World) :
  Calls Tryz.prog 71 #[.agg (a.map (Value.int .u8)).toArray, .agg (b.map (Value.int .u8)).toArray] w fun e w' => e = .returned (.bool (ltB a b)) ∧ Kept (fun _ => False) w w' := by
 go_enter Tryz.func71, Tryz.ntmps71
 go_wp2
 have h1 := cells_list (w := ((w.alloc (Obj.cells (List.map (Value.int IntKind.u8) a).toArray 100)).alloc (Obj.cells (List.map (Value.int IntKind.u8) b).toArray 100))) (b := w.heap.size) (alloc_old (alloc_new _ _ rfl))
 have h2 := cells_list (w := ((w.alloc (Obj.cells (List.map (Value.int IntKind.u8) a).toArray 100)).alloc (Obj.cells (List.map (Value.int IntKind.u8) b).toArray 100))) (b := w.heap.size + 1) (alloc_new _ _ (by simp))
 have hk : Kept (fun _ => False) w ((w.alloc (Obj.cells (List.map (Value.int IntKind.u8) a).toArray 100)).alloc (Obj.cells (List.map (Value.int IntKind.u8) b).toArray 100)) := ((Kept.refl _ w).alloc _).alloc _
 generalize (w.alloc (Obj.cells (List.map (Value.int IntKind.u8) a).toArray 100)).alloc (Obj.cells (List.map (Value.int IntKind.u8) b).toArray 100) = w2 at *
 rw [ha] at h1
 rw [hb] at h2
 have H1 := hid_of h1
 have H2 := hid_of h2
 have HK := hid_of hk
 clear h1 h2 hk
 go_loopw [5] (fun i wr => ∃ k q : Nat, k ≤ 32 ∧ i = .int .i64 k ∧ wr = w2.drewN q ∧ ltB a b = ltB (a.drop k) (b.drop k)) (fun i _ => 32 - (intOf i).toNat)
 case atStart => exact ⟨0, 0, by omega, rfl, rfl, rfl⟩
 case round =>
  obtain ⟨k, q, hk, rfl, rfl, hlt⟩ := hrel
  by_cases hk32 : k < 32
  ·obtain ⟨s1, s2⟩ := ltB_step a b k (by omega) (by omega) hlt
   have c1 := H1.out k hk32
   have c2 := H2.out k hk32
   have hb0 : (0 : Int) ≤ (k : Int) := by omega
   have hb1 : (k : Int) < 32 := by omega
   clear hlt
   generalize a.getD k 0 = x at *
   generalize b.getD k 0 = y at *
   by_cases hxy : x = y
   ·have HS := hid_of (s1 hxy)
    clear s1 s2
    subst hxy
    go_wp2
    go_quiet (fail)
    go_wp2
    go_roundw
    case rel => exact ⟨k + 1, _, by omega, by go_num, rfl, HS.out⟩
    case measure => simp [intOf]; omega
   ·have HS := hid_of (s2 hxy)
    clear s1 s2
    have hne : (x == y) = false := by simpa using hxy
    go_wp2
    go_quiet (fail)
    go_wp2
    go_quiet (fail)
    go_wp2
    go_ret
    exact ⟨by rw [HS.out]; rfl, kept_drewN (kept_drewN (kept_drewN HK.out _) _) _⟩
  ·obtain rfl : k = 32 := by omega
   have HS : Hid (ltB a b = false) := by
    rw [hlt, List.drop_eq_nil_of_le (by omega), List.drop_eq_nil_of_le (by omega)]
    rfl
   clear hlt
   go_wp2
   go_ret
   exact ⟨by rw [HS.out]; rfl, kept_drewN HK.out _⟩
end Go.Proofs.YtjdbmjkidljhpaaGreatDoor
namespace Go.Proofs.YtjdbmjkidljhpaaGreatDoor
open Go.RowKit
set_option linter.unusedVariables false
set_option linter.unusedSimpArgs false
theorem ltB_irr : ∀ a : List Int, ltB a a = false
 | [] => rfl
 | x :: l => by rw [ltB, if_neg (by omega), if_neg (by omega)]; exact ltB_irr l
theorem ltB_asym : ∀ a b : List Int, ltB a b = true → ltB b a = false
 | [], [], h => rfl
 | [], _ :: _, _ => rfl
 | x :: l, y :: m, h => by
  rw [ltB] at h ⊢
  by_cases c1 : x < y
  ·rw [if_neg (by omega), if_pos c1]
  ·rw [if_neg c1] at h
   by_cases c2 : y < x
   ·rw [if_pos c2] at h
    cases h
   ·rw [if_neg c2] at h
    rw [if_neg c2, if_neg c1]
    exact ltB_asym l m h
theorem ltB_total : ∀ a b : List Int, a.length = b.length → ltB a b = false → ltB b a = false → a = b
 | [], [], _, _, _ => rfl
 | x :: l, y :: m, hl, h1, h2 => by
  rw [ltB] at h1 h2
  by_cases c1 : x < y
  ·rw [if_pos c1] at h1
   cases h1
  ·by_cases c2 : y < x
   ·rw [if_pos c2] at h2
    cases h2
   ·rw [if_neg c1, if_neg c2] at h1
    rw [if_neg c2, if_neg c1] at h2
    obtain rfl : x = y := by omega
    rw [ltB_total l m (by simpa using hl) h1 h2]
theorem ltB_trans : ∀ a b c : List Int, ltB a b = true → ltB b c = true → ltB a c = true
 | [], _, [], h1, h2 => by
  rename_i b
  cases b with
  | nil => cases h1
  | cons y m => cases h2
 | [], _, _ :: _, _, _ => rfl
 | x :: l, [], _, h1, _ => by cases h1
 | x :: l, y :: m, [], _, h2 => by cases h2
 | x :: l, y :: m, z :: n, h1, h2 => by
  rw [ltB] at h1 h2 ⊢
  by_cases c1 : x < y
  ·by_cases c2 : y < z
   ·rw [if_pos (by omega)]
   ·rw [if_neg c2] at h2
    by_cases c3 : z < y
    ·rw [if_pos c3] at h2
     cases h2
    ·rw [if_pos (by omega)]
  ·rw [if_neg c1] at h1
   by_cases c4 : y < x
   ·rw [if_pos c4] at h1
    cases h1
   ·rw [if_neg c4] at h1
    obtain rfl : x = y := by omega
    by_cases c2 : x < z
    ·rw [if_pos c2]
    ·rw [if_neg c2] at h2 ⊢
     by_cases c3 : z < x
     ·rw [if_pos c3] at h2
      cases h2
     ·rw [if_neg c3] at h2 ⊢
      exact ltB_trans l m n h1 h2
/-- A blob of the document's Store. -/
structure Bl where
 d : List Int
 bv : Value
 xs : List Int
 st : Int
/-- Where a digest stands, or would. -/
def atB : List Bl → List Int → Nat
 | [], _ => 0
 | b :: l, d => if ltB b.d d = true then atB l d + 1 else 0
def findB : List Bl → List Int → Option Bl
 | [], _ => none
 | b :: l, d => if ltB b.d d = true then findB l d else if b.d = d then some b else none
def layB : List Bl → Bl → List Bl
 | [], x => [x]
 | b :: l, x => if ltB b.d x.d = true then b :: layB l x else if b.d = x.d then x :: l else x :: b :: l
def delB : List Bl → List Int → List Bl
 | [], _ => []
 | b :: l, d => if ltB b.d d = true then b :: delB l d else if b.d = d then l else b :: l
def totB : List Bl → Int
 | [] => 0
 | b :: l => ((b.xs.length : Int) + 32) + totB l
/-- Rising by digest. -/
def UpB (l : List Bl) : Prop := l.Pairwise (fun a b => ltB a.d b.d = true)
theorem atB_le : ∀ (l : List Bl) (d : List Int), atB l d ≤ l.length
 | [], _ => Nat.le_refl _
 | b :: l, d => by
  have := atB_le l d
  unfold atB
  split
  ·rw [List.length_cons]; omega
  ·exact Nat.zero_le _
theorem atB_low : ∀ (l : List Bl) (d : List Int) (i : Nat) (b : Bl), i < atB l d → l[i]? = some b → ltB b.d d = true
 | [], d, i, b, h, _ => by cases h
 | c :: l, d, i, b, h, hb => by
  unfold atB at h
  by_cases hc : ltB c.d d = true
  ·rw [if_pos hc] at h
   cases i with
   | zero =>
    obtain rfl : c = b := by simpa using hb
    exact hc
   | succ i => exact atB_low l d i b (by omega) (by simpa using hb)
  ·rw [if_neg hc] at h
   cases h
theorem atB_stop : ∀ (l : List Bl) (d : List Int) (b : Bl), l[atB l d]? = some b → ltB b.d d = false
 | [], d, b, h => by cases h
 | c :: l, d, b, h => by
  unfold atB at h
  by_cases hc : ltB c.d d = true
  ·rw [if_pos hc] at h
   exact atB_stop l d b (by simpa using h)
  ·rw [if_neg hc] at h
   obtain rfl : c = b := by simpa using h
   simpa using hc
theorem findB_at : ∀ (l : List Bl) (d : List Int), findB l d = match l[atB l d]? with | some b => if b.d = d then some b else none | none => none
 | [], d => rfl
 | b :: l, d => by
  unfold findB atB
  by_cases hc : ltB b.d d = true
  ·rw [if_pos hc, if_pos hc, findB_at l d]
   rfl
  ·rw [if_neg hc, if_neg hc]
   rfl
theorem findB_some {l : List Bl} {d : List Int} {b : Bl} (h : findB l d = some b) : l[atB l d]? = some b ∧ b.d = d := by
 rw [findB_at] at h
 split at h
 ·rename_i c hc
  split at h
  ·rename_i e
   cases h
   exact ⟨hc, e⟩
  ·cases h
 ·cases h
theorem findB_none {l : List Bl} {d : List Int} (h : findB l d = none) : ∀ b, l[atB l d]? = some b → b.d ≠ d := fun b hb e => by
 rw [findB_at, hb] at h
 simp [e] at h
theorem layB_set : ∀ (l : List Bl) (x : Bl), (findB l x.d).isSome = true → layB l x = l.set (atB l x.d) x
 | [], x, h => by cases h
 | b :: l, x, h => by
  unfold findB at h
  unfold layB atB
  by_cases hc : ltB b.d x.d = true
  ·rw [if_pos hc] at h ⊢
   rw [if_pos hc, List.set_cons_succ, layB_set l x h]
  ·rw [if_neg hc] at h ⊢
   rw [if_neg hc]
   by_cases he : b.d = x.d
   ·rw [if_pos he]
    rfl
   ·rw [if_neg he] at h
    cases h
theorem layB_ins : ∀ (l : List Bl) (x : Bl), findB l x.d = none → layB l x = l.take (atB l x.d) ++ [x] ++ l.drop (atB l x.d)
 | [], x, h => rfl
 | b :: l, x, h => by
  unfold findB at h
  unfold layB atB
  by_cases hc : ltB b.d x.d = true
  ·rw [if_pos hc] at h ⊢
   rw [if_pos hc, layB_ins l x h]
   simp
  ·rw [if_neg hc] at h ⊢
   rw [if_neg hc]
   by_cases he : b.d = x.d
   ·rw [if_pos he] at h
    cases h
   ·rw [if_neg he]
    rfl
theorem delB_cut : ∀ (l : List Bl) (d : List Int), (findB l d).isSome = true → delB l d = l.take (atB l d) ++ l.drop (atB l d + 1)
 | [], d, h => by cases h
 | b :: l, d, h => by
  unfold findB at h
  unfold delB atB
  by_cases hc : ltB b.d d = true
  ·rw [if_pos hc] at h ⊢
   rw [if_pos hc, delB_cut l d h]
   simp
  ·rw [if_neg hc] at h ⊢
   rw [if_neg hc]
   by_cases he : b.d = d
   ·rw [if_pos he]
    rfl
   ·rw [if_neg he] at h
    cases h
theorem delB_none : ∀ (l : List Bl) (d : List Int), findB l d = none → delB l d = l
 | [], d, h => rfl
 | b :: l, d, h => by
  unfold findB at h
  unfold delB
  by_cases hc : ltB b.d d = true
  ·rw [if_pos hc] at h ⊢
   rw [delB_none l d h]
  ·rw [if_neg hc] at h ⊢
   by_cases he : b.d = d
   ·rw [if_pos he] at h
    cases h
   ·rw [if_neg he]
theorem layB_mem : ∀ (l : List Bl) (x b : Bl), b ∈ layB l x → b ∈ l ∨ b = x
 | [], x, b, h => by simp [layB] at h; exact .inr h
 | c :: l, x, b, h => by
  unfold layB at h
  split at h
  ·rcases List.mem_cons.1 h with h | h
   ·exact .inl (by rw [h]; exact List.mem_cons_self ..)
   ·rcases layB_mem l x b h with h | h
    ·exact .inl (List.mem_cons_of_mem _ h)
    ·exact .inr h
  ·split at h
   ·rcases List.mem_cons.1 h with h | h
    ·exact .inr h
    ·exact .inl (List.mem_cons_of_mem _ h)
   ·rcases List.mem_cons.1 h with h | h
    ·exact .inr h
    ·exact .inl h
theorem delB_sub : ∀ (l : List Bl) (d : List Int), (delB l d).Sublist l
 | [], _ => List.Sublist.refl _
 | c :: l, d => by
  unfold delB
  split
  ·exact (delB_sub l d).cons_cons c
  ·split
   ·exact List.sublist_cons_self c l
   ·exact List.Sublist.refl _
theorem UpB.lay : ∀ {l : List Bl} (x : Bl), UpB l → (∀ b ∈ l, b.d.length = 32) → x.d.length = 32 → UpB (layB l x)
 | [], x, _, _, _ => by simp [layB, UpB]
 | c :: l, x, h, h32, hx => by
  have hc := (List.pairwise_cons.1 h).1
  have hl := (List.pairwise_cons.1 h).2
  unfold layB
  by_cases h1 : ltB c.d x.d = true
  ·rw [if_pos h1]
   refine List.pairwise_cons.2 ⟨fun b hb => ?_, UpB.lay x hl (fun b hb => h32 b (List.mem_cons_of_mem _ hb)) hx⟩
   rcases layB_mem l x b hb with hb | rfl
   ·exact hc b hb
   ·exact h1
  ·rw [if_neg h1]
   by_cases h2 : c.d = x.d
   ·rw [if_pos h2]
    exact List.pairwise_cons.2 ⟨fun b hb => by rw [← h2]; exact hc b hb, hl⟩
   ·rw [if_neg h2]
    have h3 : ltB x.d c.d = true := by
     cases h4 : ltB x.d c.d with
     | true => rfl
     | false => exact absurd (ltB_total _ _ (by rw [hx, h32 c (List.mem_cons_self ..)]) (by simpa using h1) h4) h2
    exact List.pairwise_cons.2 ⟨fun b hb => by
     rcases List.mem_cons.1 hb with rfl | hb
     ·exact h3
     ·exact ltB_trans _ _ _ h3 (hc b hb), h⟩
theorem findB_gone : ∀ {l : List Bl} {d : List Int}, (∀ b ∈ l, ltB d b.d = true) → findB l d = none
 | [], _, _ => rfl
 | b :: l, d, h => by
  have h1 := h b (List.mem_cons_self ..)
  unfold findB
  rw [if_neg (by rw [ltB_asym _ _ h1]; decide), if_neg (fun e => by rw [e, ltB_irr] at h1; cases h1)]
theorem findB_lay : ∀ (l : List Bl) (x : Bl), findB (layB l x) x.d = some x
 | [], x => by simp [layB, findB, ltB_irr]
 | b :: l, x => by
  unfold layB
  by_cases h1 : ltB b.d x.d = true
  ·rw [if_pos h1, findB, if_pos h1]
   exact findB_lay l x
  ·rw [if_neg h1]
   by_cases h2 : b.d = x.d
   ·rw [if_pos h2, findB, if_neg (by rw [ltB_irr]; decide), if_pos rfl]
   ·rw [if_neg h2, findB, if_neg (by rw [ltB_irr]; decide), if_pos rfl]
theorem findB_lay_ne : ∀ (l : List Bl) (x : Bl) (d : List Int), UpB l → (∀ b ∈ l, b.d.length = 32) → x.d.length = 32 → d.length = 32 → d ≠ x.d → findB (layB l x) d = findB l d
 | [], x, d, _, _, hx, hd, hne => by
  unfold layB findB findB
  split
  ·rfl
  ·rw [if_neg (fun e => hne e.symm)]
 | b :: l, x, d, hu, h32, hx, hd, hne => by
  have hb := (List.pairwise_cons.1 hu).1
  have hl := (List.pairwise_cons.1 hu).2
  have hb32 := h32 b (List.mem_cons_self ..)
  unfold layB
  by_cases h1 : ltB b.d x.d = true
  ·rw [if_pos h1, findB, findB, findB_lay_ne l x d hl (fun c hc => h32 c (List.mem_cons_of_mem _ hc)) hx hd hne]
  ·rw [if_neg h1]
   by_cases h2 : b.d = x.d
   ·have h9 : ¬ x.d = d := fun e => hne e.symm
    rw [if_pos h2, findB, findB, h2, if_neg h9, if_neg h9]
   ·rw [if_neg h2]
    have h3 : ltB x.d b.d = true := by
     cases h4 : ltB x.d b.d with
     | true => rfl
     | false => exact absurd (ltB_total _ _ (by rw [hx, hb32]) (by simpa using h1) h4) h2
    rw [findB]
    by_cases h5 : ltB x.d d = true
    ·rw [if_pos h5]
    ·rw [if_neg h5, if_neg (fun e => hne e.symm)]
     have h6 : ltB d x.d = true := by
      cases h7 : ltB d x.d with
      | true => rfl
      | false => exact absurd (ltB_total _ _ (by rw [hx, hd]) h7 (by simpa using h5)) hne
     refine (findB_gone fun c hc => ?_).symm
     rcases List.mem_cons.1 hc with rfl | hc
     ·exact ltB_trans _ _ _ h6 h3
     ·exact ltB_trans _ _ _ h6 (ltB_trans _ _ _ h3 (hb c hc))
theorem findB_del : ∀ (l : List Bl) (d : List Int), UpB l → findB (delB l d) d = none
 | [], _, _ => rfl
 | b :: l, d, hu => by
  have hb := (List.pairwise_cons.1 hu).1
  have hl := (List.pairwise_cons.1 hu).2
  unfold delB
  by_cases h1 : ltB b.d d = true
  ·rw [if_pos h1, findB, if_pos h1]
   exact findB_del l d hl
  ·rw [if_neg h1]
   by_cases h2 : b.d = d
   ·rw [if_pos h2]
    exact findB_gone fun c hc => by rw [← h2]; exact hb c hc
   ·rw [if_neg h2, findB, if_neg h1, if_neg h2]
theorem findB_del_ne : ∀ (l : List Bl) (d d' : List Int), UpB l → d' ≠ d → findB (delB l d) d' = findB l d'
 | [], _, _, _, _ => rfl
 | b :: l, d, d', hu, hne => by
  have hb := (List.pairwise_cons.1 hu).1
  have hl := (List.pairwise_cons.1 hu).2
  unfold delB
  by_cases h1 : ltB b.d d = true
  ·rw [if_pos h1, findB, findB, findB_del_ne l d d' hl hne]
  ·rw [if_neg h1]
   by_cases h2 : b.d = d
   ·rw [if_pos h2, findB]
    by_cases h3 : ltB b.d d' = true
    ·rw [if_pos h3]
    ·rw [if_neg h3, if_neg (fun e => hne (e.symm.trans h2))]
     cases l with
     | nil => rfl
     | cons c l =>
      have h4 : ltB b.d c.d = true := hb c (List.mem_cons_self ..)
      unfold findB
      have h5 : ¬ ltB c.d d' = true := fun h => h3 (ltB_trans _ _ _ h4 h)
      rw [if_neg h5, if_neg (fun e => h3 (by rw [← e]; exact h4))]
   ·rw [if_neg h2]
theorem totB_lay : ∀ (l : List Bl) (x : Bl), totB (layB l x) = totB l + ((x.xs.length : Int) + 32) - (match findB l x.d with | some b => (b.xs.length : Int) + 32 | none => 0)
 | [], x => by simp [layB, totB, findB]
 | b :: l, x => by
  unfold layB findB
  by_cases h1 : ltB b.d x.d = true
  ·rw [if_pos h1, if_pos h1, totB, totB, totB_lay l x]
   omega
  ·rw [if_neg h1, if_neg h1]
   by_cases h2 : b.d = x.d
   ·rw [if_pos h2, if_pos h2, totB, totB]
    simp only
    omega
   ·rw [if_neg h2, if_neg h2, totB, totB]
    simp only
    omega
theorem totB_del : ∀ (l : List Bl) (d : List Int), totB (delB l d) = totB l - (match findB l d with | some b => (b.xs.length : Int) + 32 | none => 0)
 | [], d => by simp [delB, totB, findB]
 | b :: l, d => by
  unfold delB findB
  by_cases h1 : ltB b.d d = true
  ·rw [if_pos h1, if_pos h1, totB, totB, totB_del l d]
   omega
  ·rw [if_neg h1, if_neg h1]
   by_cases h2 : b.d = d
   ·rw [if_pos h2, if_pos h2, totB]
    simp only
    omega
   ·rw [if_neg h2, if_neg h2, totB]
    simp only
    omega
theorem lenB_lay : ∀ (l : List Bl) (x : Bl), (layB l x).length = l.length + (match findB l x.d with | some _ => 0 | none => 1)
 | [], x => rfl
 | b :: l, x => by
  unfold layB findB
  by_cases h1 : ltB b.d x.d = true
  ·rw [if_pos h1, if_pos h1, List.length_cons, List.length_cons, lenB_lay l x]
   omega
  ·rw [if_neg h1, if_neg h1]
   by_cases h2 : b.d = x.d
   ·rw [if_pos h2, if_pos h2]
    rfl
   ·rw [if_neg h2, if_neg h2]
    rfl
theorem lenB_del : ∀ (l : List Bl) (d : List Int), (delB l d).length + (match findB l d with | some _ => 1 | none => 0) = l.length
 | [], d => rfl
 | b :: l, d => by
  unfold delB findB
  by_cases h1 : ltB b.d d = true
  ·rw [if_pos h1, if_pos h1, List.length_cons, List.length_cons, ← lenB_del l d]
   omega
  ·rw [if_neg h1, if_neg h1]
   by_cases h2 : b.d = d
   ·rw [if_pos h2, if_pos h2]
    rfl
   ·rw [if_neg h2, if_neg h2]
    rfl
theorem len_lays : ∀ (es : List En) (e : En), (lays es e).length = es.length + (match look es e.k with | some _ => 0 | none => 1)
 | [], e => rfl
 | x :: es, e => by
  unfold lays look
  by_cases h : e.k = x.k
  ·rw [if_pos h, if_pos h]
   rfl
  ·rw [if_neg h, if_neg h, List.length_cons, List.length_cons, len_lays es e]
   omega
theorem len_drops : ∀ (es : List En) (d : List Int), (drops es d).length + (match look es d with | some _ => 1 | none => 0) = es.length
 | [], d => rfl
 | x :: es, d => by
  unfold drops look
  by_cases h : d = x.k
  ·rw [if_pos h, if_pos h]
   rfl
  ·rw [if_neg h, if_neg h, List.length_cons, List.length_cons, ← len_drops es d]
   omega
theorem look_lays_self : ∀ (es : List En) (e : En), ∃ e', look (lays es e) e.k = some e' ∧ e'.xs = e.xs ∧ e'.st = e.st
 | [], e => ⟨e, by simp [lays, look], rfl, rfl⟩
 | x :: es, e => by
  unfold lays
  by_cases h : e.k = x.k
  ·rw [if_pos h]
   exact ⟨{ e with born := x.born }, by simp [look], rfl, rfl⟩
  ·rw [if_neg h, look, if_neg h]
   exact look_lays_self es e
theorem look_drops_self : ∀ (es : List En) (d : List Int), (es.map En.k).Nodup → look (drops es d) d = none
 | [], _, _ => rfl
 | x :: es, d, h => by
  rw [List.map_cons, List.nodup_cons] at h
  unfold drops
  by_cases hk : d = x.k
  ·rw [if_pos hk]
   cases hl : look es d with
   | none => rfl
   | some e =>
    exfalso
    have key : ∀ (es : List En) (d : List Int) (e : En), look es d = some e → d ∈ es.map En.k := by
     intro es
     induction es with
     | nil => intro d e h; cases h
     | cons y es ih =>
      intro d e h
      unfold look at h
      by_cases hy : d = y.k
      ·rw [hy]; simp
      ·rw [if_neg hy] at h
       exact List.mem_cons_of_mem _ (ih d e h)
    exact h.1 (hk ▸ key es d e hl)
  ·rw [if_neg hk, look, if_neg hk]
   exact look_drops_self es d h.2
/-- The same lies in both. -/
structure Alk (es : List En) (l : List Bl) : Prop where
 up : UpB l
 k32 : ∀ b ∈ l, b.d.length = 32
 lk : ∀ d : List Int, d.length = 32 → (look es d).map (fun e => (e.xs, e.st)) = (findB l d).map (fun b => (b.xs, b.st))
 tot : total es = totB l
 len : es.length = l.length
theorem Alk.nil : Alk [] [] := ⟨List.Pairwise.nil, fun b hb => (by cases hb), fun d _ => rfl, rfl, rfl⟩
theorem Alk.cost {es : List En} {l : List Bl} (h : Alk es l) (d : List Int) (hd : d.length = 32) : costAt es d = (match findB l d with | some b => (b.xs.length : Int) + 32 | none => 0) := by
 have := h.lk d hd
 unfold costAt
 cases h1 : look es d <;> cases h2 : findB l d <;> rw [h1, h2] at this <;> simp at this ⊢
 rw [this.1]
theorem Alk.some {es : List En} {l : List Bl} (h : Alk es l) (d : List Int) (hd : d.length = 32) : (look es d).isSome = (findB l d).isSome := by
 have := congrArg Option.isSome (h.lk d hd)
 simpa using this
theorem Alk.lay {es : List En} {l : List Bl} (h : Alk es l) (e : En) (b : Bl) (hk : e.k.length = 32) (hd : b.d = e.k) (hx : b.xs = e.xs) (hs : b.st = e.st) : Alk (lays es e) (layB l b) := by
 have hb : b.d.length = 32 := by rw [hd]; exact hk
 have hc := h.cost e.k hk
 have hsm := h.some e.k hk
 refine ⟨h.up.lay b h.k32 hb, fun c hc => ?_, fun d h32 => ?_, ?_, ?_⟩
 ·rcases layB_mem l b c hc with hc | rfl
  ·exact h.k32 c hc
  ·exact hb
 ·by_cases hde : d = e.k
  ·subst hde
   obtain ⟨e', h1, h2, h3⟩ := look_lays_self es e
   have h4 := findB_lay l b
   rw [hd] at h4
   rw [h1, h4]
   simp [h2, h3, hx, hs]
  ·rw [look_lays_ne es e d hde, findB_lay_ne l b d h.up h.k32 hb h32 (by rw [hd]; exact hde)]
   exact h.lk d h32
 ·rw [total_lays, totB_lay, h.tot, hx, hd, hc]
 ·rw [len_lays, lenB_lay, h.len, hd]
  cases h1 : look es e.k <;> cases h2 : findB l e.k <;> rw [h1, h2] at hsm <;> simp at hsm ⊢
theorem Alk.del {es : List En} {l : List Bl} (h : Alk es l) (hn : (es.map En.k).Nodup) (d : List Int) (hd : d.length = 32) : Alk (drops es d) (delB l d) := by
 have hc := h.cost d hd
 have hsm := h.some d hd
 refine ⟨h.up.sublist (delB_sub l d), fun c hc => h.k32 c ((delB_sub l d).subset hc), fun d' h32 => ?_, ?_, ?_⟩
 ·by_cases hde : d' = d
  ·subst hde
   rw [look_drops_self es d' hn, findB_del l d' h.up]
   rfl
  ·rw [look_drops es d d' hde, findB_del_ne l d d' h.up hde]
   exact h.lk d' h32
 ·rw [total_drops, totB_del, h.tot, hc]
 ·have h1 := len_drops es d
  have h2 := lenB_del l d
  have h3 := h.len
  cases h4 : look es d <;> cases h5 : findB l d <;> rw [h4, h5] at hsm <;> rw [h4] at h1 <;> rw [h5] at h2 <;> simp at hsm h1 h2 <;> omega
theorem up_unique : ∀ (a b : List (List Int)), a.Pairwise (fun x y => ltB x y = true) → b.Pairwise (fun x y => ltB x y = true) → (∀ x, x ∈ a ↔ x ∈ b) → a = b
 | [], [], _, _, _ => rfl
 | [], y :: b, _, _, h => absurd ((h y).2 (List.mem_cons_self ..)) (by simp)
 | x :: a, [], _, _, h => absurd ((h x).1 (List.mem_cons_self ..)) (by simp)
 | x :: a, y :: b, ha, hb, h => by
  have ha1 := (List.pairwise_cons.1 ha).1
  have hb1 := (List.pairwise_cons.1 hb).1
  have e : x = y := by
   rcases List.mem_cons.1 ((h x).1 (List.mem_cons_self ..)) with e | h1
   ·exact e
   ·rcases List.mem_cons.1 ((h y).2 (List.mem_cons_self ..)) with e | h2
    ·exact e.symm
    ·have h3 := ltB_asym _ _ (hb1 x h1)
     rw [ha1 y h2] at h3
     cases h3
  subst e
  rw [up_unique a b (List.pairwise_cons.1 ha).2 (List.pairwise_cons.1 hb).2 (fun z => ⟨fun hz => ?_, fun hz => ?_⟩)]
  ·rcases List.mem_cons.1 ((h z).1 (List.mem_cons_of_mem _ hz)) with rfl | h1
   ·have := ha1 z hz
    rw [ltB_irr] at this
    cases this
   ·exact h1
  ·rcases List.mem_cons.1 ((h z).2 (List.mem_cons_of_mem _ hz)) with rfl | h1
   ·have := hb1 z hz
    rw [ltB_irr] at this
    cases this
   ·exact h1
theorem look_mem' : ∀ (es : List En) (d : List Int), d ∈ es.map En.k ↔ (look es d).isSome = true
 | [], d => by simp [look]
 | e :: es, d => by
  unfold look
  by_cases h : d = e.k
  ·rw [if_pos h]
   simp [h]
  ·rw [if_neg h, ← look_mem' es d]
   simp [h]
theorem find_mem' : ∀ (l : List Bl) (d : List Int), UpB l → (d ∈ l.map Bl.d ↔ (findB l d).isSome = true)
 | [], d, _ => by simp [findB]
 | b :: l, d, hu => by
  have hb := (List.pairwise_cons.1 hu).1
  have ih := find_mem' l d (List.pairwise_cons.1 hu).2
  unfold findB
  by_cases h1 : ltB b.d d = true
  ·rw [if_pos h1, ← ih]
   have hne : d ≠ b.d := fun e => by rw [e, ltB_irr] at h1; cases h1
   simp [hne]
  ·rw [if_neg h1]
   by_cases h2 : b.d = d
   ·rw [if_pos h2]
    simp [h2]
   ·rw [if_neg h2]
    simp only [List.map_cons, List.mem_cons, Option.isSome_none, Bool.false_eq_true, iff_false, not_or]
    refine ⟨fun e => h2 e.symm, fun hm => ?_⟩
    obtain ⟨c, hc, e⟩ := List.mem_map.1 hm
    exact h1 (e ▸ hb c hc)
/-- The digests that are told in order are the document's. -/
theorem Alk.keys {es : List En} {l : List Bl} (h : Alk es l) (h32 : ∀ e ∈ es, e.k.length = 32) (ds : List (List Int)) (hp : ds.Perm (es.map En.k)) (hs : ds.Pairwise (fun x y => ltB x y = true)) : ds = l.map Bl.d := by
 refine up_unique _ _ hs (List.pairwise_map.2 h.up) (fun d => ?_)
 by_cases hd : d.length = 32
 ·rw [hp.mem_iff, look_mem', h.some d hd, find_mem' l d h.up]
 ·refine ⟨fun hm => ?_, fun hm => ?_⟩
  ·obtain ⟨e, he, rfl⟩ := List.mem_map.1 (hp.mem_iff.1 hm)
   exact absurd (h32 e he) hd
  ·obtain ⟨b, hb, rfl⟩ := List.mem_map.1 hm
   exact absurd (h.k32 b hb) hd
theorem findB_get : ∀ (l : List Bl) (i : Nat) (b : Bl), UpB l → l[i]? = some b → findB l b.d = some b
 | [], i, b, _, h => by simp at h
 | c :: l, 0, b, hu, h => by
  obtain rfl : c = b := by simpa using h
  unfold findB
  rw [if_neg (by rw [ltB_irr]; decide), if_pos rfl]
 | c :: l, i + 1, b, hu, h => by
  have hl : l[i]? = some b := by simpa using h
  have hb := (List.pairwise_cons.1 hu).1 b (List.mem_of_getElem? hl)
  unfold findB
  rw [if_pos hb]
  exact findB_get l i b (List.pairwise_cons.1 hu).2 hl
end Go.Proofs.YtjdbmjkidljhpaaGreatDoor
namespace Go.Proofs.YtjdbmjkidljhpaaGreatDoor
open Go.RowKit
set_option linter.unusedVariables false
set_option maxRecDepth 100000
set_option linter.unusedSimpArgs false
theorem drew2 (w : World) (n m : Nat) : (w.drewN n).drewN m = w.drewN (n + m) := by
 simp [World.drewN, Nat.add_assoc]
theorem take_same {xs ys : List Int} {k N : Nat} (hx : xs.length = N) (hy : ys.length = N) (hk : k < N) (h : xs.take k = ys.take k) (he : xs.getD k 0 = ys.getD k 0) : xs.take (k + 1) = ys.take (k + 1) := by
 have h1 : k < xs.length := by omega
 have h2 : k < ys.length := by omega
 rw [List.take_succ_eq_append_getElem h1, List.take_succ_eq_append_getElem h2, h]
 simp [List.getD, List.getElem?_eq_getElem h1, List.getElem?_eq_getElem h2] at he
 rw [he]
theorem take_all {xs ys : List Int} {k N : Nat} (hx : xs.length = N) (hy : ys.length = N) (hk : ¬ k < N) (h : xs.take k = ys.take k) : decide (xs = ys) = true := by
 rw [List.take_of_length_le (by omega), List.take_of_length_le (by omega)] at h
 simpa using h
set_option maxRecDepth 100000 in
set_option maxHeartbeats 1000000 in
theorem same_rows (g o c g' o' c' N : Nat) (xs ys : List Int) (w : World) (hxl : xs.length = N) (hyl : ys.length = N) (hm : N ≤ maxLen) (hx : ∀ i, i < N → w.cell? ⟨g, o + i, none⟩ = some (.int .u8 (xs.getD i 0)))
  (hy : ∀ i, i < N → w.cell? ⟨g', o' + i, none⟩ = some (.int .u8 (ys.getD i 0))) :
  Calls Tryz.prog 12 #[.slice (some ⟨g, o, none⟩) N c, .slice (some ⟨g', o', none⟩) N c'] w fun e w' => e = .returned (.bool (decide (xs = ys))) ∧ ∃ n, w' = w.drewN n := by
 unfold maxLen at hm
 have HX := hid_of hxl
 have HY := hid_of hyl
 have CX := hid_of hx
 have CY := hid_of hy
 clear hxl hyl hx hy
 go_enter Tryz.func12, Tryz.ntmps12
 go_wp2
 go_loopw [5] (fun i wr => ∃ k n : Nat, k ≤ N ∧ i = .int .i64 k ∧ xs.take k = ys.take k ∧ wr = w.drewN n) (fun i _ => N - (intOf i).toNat)
 case atStart => exact ⟨0, 0, Nat.zero_le _, rfl, rfl, rfl⟩
 case round =>
  obtain ⟨k, n, hk, rfl, ht, rfl⟩ := hrel
  have HT := hid_of ht
  clear ht
  by_cases hlt : k < N
  ·have ex := CX.out k hlt
   have ey := CY.out k hlt
   have hkI : (k : Int) < (N : Int) := by omega
   have HE := hid_of (Classical.em (xs.getD k 0 = ys.getD k 0))
   have TS := hid_of (take_same HX.out HY.out hlt HT.out)
   have NE : Hid (xs.getD k 0 ≠ ys.getD k 0 → decide (xs = ys) = false) := fun h => decide_eq_false (fun e => h (by rw [e]))
   clear CX CY HX HY HT
   generalize xs.getD k 0 = x at *
   generalize ys.getD k 0 = y at *
   rcases HE.out with he | he
   ·have hb : (x != y) = false := by simp [he]
    have T := hid_of (TS.out he)
    clear TS NE HE he
    go_wp2_with fail
    go_quiet (fail)
    go_wp2
    go_roundw
    case rel => exact ⟨k + 1, n + nq, by omega, by go_num, T.out, by first | rfl | exact drew2 _ _ _⟩
    case measure => simp [intOf]; omega
   ·have hb : (x != y) = true := by simp [he]
    have T := hid_of (NE.out he)
    clear TS NE HE he
    go_wp2_with fail
    go_quiet (fail)
    go_wp2
    go_ret
    refine ⟨?_, n + nq, by first | rfl | exact drew2 _ _ _⟩
    rw [T.out]
    rfl
  ·have T := hid_of (take_all HX.out HY.out hlt HT.out)
   clear HX HY HT CX CY
   go_wp2
   go_ret
   refine ⟨?_, n, rfl⟩
   rw [T.out]
   rfl
set_option maxRecDepth 100000 in
set_option maxHeartbeats 1000000 in
theorem same_unlike (ao ao' : Option Addr) (n m c c' : Nat) (xs ys : List Int) (w : World) (hxl : xs.length = n) (hyl : ys.length = m) (h : n ≠ m) :
  Calls Tryz.prog 12 #[.slice ao n c, .slice ao' m c'] w fun e w' => e = .returned (.bool (decide (xs = ys))) ∧ ∃ k, w' = w.drewN k := by
 have e : decide (xs = ys) = false := decide_eq_false (fun e => h (by rw [← hxl, ← hyl, e]))
 rw [e]
 have hb : ((n : Int) != (m : Int)) = true := by simp; omega
 clear hxl hyl e
 go_enter Tryz.func12, Tryz.ntmps12
 go_wp2
 go_ret
 exact ⟨rfl, 0, rfl⟩
set_option maxRecDepth 100000 in
set_option maxHeartbeats 1000000 in
theorem same_none (ao ao' : Option Addr) (c c' : Nat) (w : World) :
  Calls Tryz.prog 12 #[.slice ao 0 c, .slice ao' 0 c'] w fun e w' => e = .returned (.bool true) ∧ ∃ k, w' = w.drewN k := by
 go_enter Tryz.func12, Tryz.ntmps12
 go_wp2
 go_loop [5] (fun i => i = .int .i64 0) (fun _ => 0)
 case atStart => rfl
 case round =>
  subst hrel
  go_wp2
  go_ret
  exact ⟨rfl, 0, rfl⟩
theorem same_any (v v' : Value) (xs ys : List Int) (w : World) (hx : BIn w v xs) (hy : BIn w v' ys) (hm : xs.length ≤ maxLen) :
  Calls Tryz.prog 12 #[v, v'] w fun e w' => e = .returned (.bool (decide (xs = ys))) ∧ Kept (fun _ => False) w w' := by
 obtain ⟨ao, c, rfl, hc, h1⟩ := hx
 obtain ⟨ao', c', rfl, hc', h2⟩ := hy
 by_cases hl : xs.length = ys.length
 ·by_cases h0 : xs.length = 0
  ·have e1 : xs = [] := List.length_eq_zero_iff.1 h0
   have e2 : ys = [] := List.length_eq_zero_iff.1 (by omega)
   subst e1
   subst e2
   refine (same_none ao ao' c c' w).mono ?_
   rintro e w' ⟨rfl, n, rfl⟩
   exact ⟨rfl, kept_drewN (Kept.refl _ _) n⟩
  ·rcases h1 with h1 | ⟨b, o, rfl, h1⟩
   ·rw [h1] at h0; exact absurd rfl h0
   rcases h2 with h2 | ⟨b', o', rfl, h2⟩
   ·rw [h2] at hl; exact absurd hl h0
   rw [← hl]
   refine (same_rows b o c b' o' c' xs.length xs ys w rfl hl.symm hm h1 (fun i hi => h2 i (by omega))).mono ?_
   rintro e w' ⟨rfl, n, rfl⟩
   exact ⟨rfl, kept_drewN (Kept.refl _ _) n⟩
 ·refine (same_unlike ao ao' xs.length ys.length c c' xs ys w rfl rfl hl).mono ?_
  rintro e w' ⟨rfl, n, rfl⟩
  exact ⟨rfl, kept_drewN (Kept.refl _ _) n⟩
theorem eqNil (w : World) (a : Option Addr) (n c n' c' : Nat) : (binOp .eql 27 (.slice a n c) (.slice none n' c')).run Tryz.prog w = .ok (.bool a.isNone) w :=
 Lib.run_eql_slice_nil w _ _ a n c n' c' Tryz.underlying27
theorem infoB : (Tryz.prog.info? 5).map (fun i => (i.zero, i.size, i.bytes)) = some (some (.int .u8 0), 1, 1) := by kernel_rfl
theorem ones8 (xs : List Int) : ∀ u ∈ xs.map (Value.int .u8), u.oneCell' = true := by
 intro u hu
 obtain ⟨_, _, rfl⟩ := List.mem_map.1 hu
 rfl
set_option maxRecDepth 100000 in
theorem clone_nil (c : Nat) (w : World) : Calls Tryz.prog 30 #[.slice none 0 c] w fun e w' => e = .returned (.slice none 0 0) ∧ w' = w := by
 have q := eqNil
 go_enter Tryz.func30, Tryz.ntmps30
 go_wp2
 go_ret
 exact ⟨rfl, rfl⟩
set_option maxRecDepth 100000 in
set_option maxHeartbeats 400000 in
theorem clone_row (p : Addr) (m c : Nat) (xs : List Int) (w : World) (hx : xs.length = m) (hbig : m ≤ 140737488355328)
  (hc : ∀ j u, (xs.map (Value.int .u8))[j]? = some u → w.cell? (p.add j) = some u) :
  Calls Tryz.prog 30 #[.slice (some p) m c] w fun e w' => ∃ v', e = .returned v' ∧ w'.ownsRow w.heap.size 5 1 v' m (xs.map (Value.int .u8)) ∧ Below w.heap.size w w' := by
 obtain ⟨i0, hi, hz0, hz1, hz2⟩ := info_parts infoB
 have A : Hid (∀ j u, (xs.map (Value.int .u8))[j]? = some u → (w.alloc (.cells #[] 5)).cell? (p.add j) = some u) := fun j u h => Lib.cell?_alloc_some _ (hc j u h)
 clear hc
 have q := eqNil
 go_enter Tryz.func30, Tryz.ntmps30
 go_wp2_with (at_builtin; refine wpList_append_own _ rfl _ _ 27 rfl w.heap.size 5 i0 (.int .u8 0) 1 1 Tryz.underlying27 hi hz0 hz1 hz2 rfl (by decide) _ _ _ rfl (World.ownsRow_made w #[] 0 (Nat.le_refl _) (Nat.zero_le _) rfl) p m c (xs.map (Value.int .u8)) rfl (by simp [hx]) A.out (ones8 xs) (by unfold maxLen; omega) (by omega) (by simp) ?_)
 intro v' w1 hown hgrow hnil
 go_wp2
 go_ret
 refine ⟨v', rfl, by simpa using hown, ?_⟩
 exact ((Below.refl _ w).alloc (Nat.le_refl _) _).grown hgrow (by simp) (by intro k hk; rw [← Option.some.inj hk]; exact Nat.le_refl _)
/-- A row of one's own, as bytes to be read. -/
theorem own_bin {w : World} {B : Nat} {v : Value} {n : Nat} {xs : List Int} (h : w.ownsRow B 5 1 v n (xs.map (Value.int .u8))) : BIn w v xs ∧ ∀ g, v.ownBlock = some g → B ≤ g ∧ g < w.heap.size := by
 have hn : xs.length = n := by have := h.1; simpa using this
 refine ⟨?_, fun g hg => h.lt g hg⟩
 rcases h.2 with ⟨rfl, h0⟩ | ⟨g, cap, cur, rfl, hb, hg, hc, hm, hs, ht⟩
 ·exact ⟨none, 0, by rw [hn, h0], by omega, .inl (List.length_eq_zero_iff.1 (by omega))⟩
 ·refine ⟨some ⟨g, 0, none⟩, cap, by rw [hn], by omega, .inr ⟨g, 0, rfl, fun i hi => ?_⟩⟩
  have := h.cells (g := g) rfl i (.int .u8 (xs.getD i 0)) (by simp [List.getD, hi])
  rwa [Addr.add_mid] at this
theorem clone_any (bv : Value) (xs : List Int) (w : World) (hx : BIn w bv xs) (hn : xs.length ≤ 140737488355328) :
  Calls Tryz.prog 30 #[bv] w fun e w' => ∃ v', e = .returned v' ∧ BIn w' v' xs ∧ (∀ g, v'.ownBlock = some g → w.heap.size ≤ g ∧ g < w'.heap.size) ∧ Kept (fun _ => False) w w' := by
 obtain ⟨ao, c, rfl, hc, h1⟩ := hx
 cases ao with
 | none =>
  have h0 : xs = [] := by
   rcases h1 with h1 | ⟨b, o, h, _⟩
   ·exact h1
   ·cases h
  subst h0
  refine (clone_nil c w).mono ?_
  rintro e w' ⟨rfl, rfl⟩
  exact ⟨_, rfl, ⟨none, 0, rfl, Nat.le_refl _, .inl rfl⟩, fun g hg => (by cases hg), Kept.refl _ _⟩
 | some p =>
  have hcc : ∀ j u, (xs.map (Value.int .u8))[j]? = some u → w.cell? (p.add j) = some u := by
   intro j u hj
   have hjl : j < xs.length := by
    have := (List.getElem?_eq_some_iff.1 hj).1
    simpa using this
   rcases h1 with h1 | ⟨b, o, h, h1⟩
   ·rw [h1] at hjl; exact absurd hjl (Nat.not_lt_zero _)
   ·cases h
    rw [Addr.add_mid, h1 j hjl]
    simp [List.getElem?_map, List.getElem?_eq_getElem hjl] at hj
    simp [List.getD, List.getElem?_eq_getElem hjl, hj]
  refine (clone_row p xs.length c xs w rfl hn hcc).mono ?_
  rintro e w' ⟨v', rfl, ho, hb⟩
  obtain ⟨h2, h3⟩ := own_bin ho
  exact ⟨v', rfl, h2, h3, ⟨hb.os, hb.tape, hb.output, hb.size, fun k hk _ => hb.block k hk⟩⟩
end Go.Proofs.YtjdbmjkidljhpaaGreatDoor
namespace Go.Proofs.YtjdbmjkidljhpaaGreatDoor
open Go.RowKit
set_option linter.unusedVariables false
set_option linter.unusedSimpArgs false
set_option maxRecDepth 100000
/-- Bytes as a text. -/
def str (xs : List Int) : ByteArray := xs.foldl (fun r n => r.push (UInt8.ofNat n.toNat)) ByteArray.empty
theorem push_data (r : ByteArray) (b : UInt8) : (r.push b).data.toList = r.data.toList ++ [b] := by simp [ByteArray.push]
theorem fold_data (xs : List Int) : ∀ r : ByteArray, (xs.foldl (fun r n => r.push (UInt8.ofNat n.toNat)) r).data.toList = r.data.toList ++ xs.map fun n => UInt8.ofNat n.toNat := by
 induction xs with
 | nil => intro r; simp
 | cons x xs ih => intro r; rw [List.foldl_cons, ih, push_data]; simp
theorem str_data (xs : List Int) : (str xs).data.toList = xs.map fun n => UInt8.ofNat n.toNat := by
 unfold str
 rw [fold_data]
 rfl
theorem byte_inj : ∀ (xs ys : List Int), (∀ x ∈ xs, 0 ≤ x ∧ x < 256) → (∀ x ∈ ys, 0 ≤ x ∧ x < 256) → (xs.map fun n => UInt8.ofNat n.toNat) = (ys.map fun n => UInt8.ofNat n.toNat) → xs = ys
 | [], [], _, _, _ => rfl
 | [], y :: ys, _, _, h => by cases h
 | x :: xs, [], _, _, h => by cases h
 | x :: xs, y :: ys, hx, hy, h => by
  rw [List.map_cons, List.map_cons, List.cons.injEq] at h
  have h1 := hx x (List.mem_cons_self ..)
  have h2 := hy y (List.mem_cons_self ..)
  have h3 := congrArg UInt8.toNat h.1
  rw [UInt8.toNat_ofNat', UInt8.toNat_ofNat'] at h3
  have h4 : x = y := by omega
  rw [h4, byte_inj xs ys (fun z hz => hx z (List.mem_cons_of_mem _ hz)) (fun z hz => hy z (List.mem_cons_of_mem _ hz)) h.2]
theorem str_eq (xs ys : List Int) (hx : ∀ x ∈ xs, 0 ≤ x ∧ x < 256) (hy : ∀ x ∈ ys, 0 ≤ x ∧ x < 256) : ((str xs).toList == (str ys).toList) = decide (xs = ys) := by
 rw [Bool.eq_iff_iff, beq_iff_eq, decide_eq_true_iff, ByteArray.toList_eq, ByteArray.toList_eq, str_data, str_data]
 exact ⟨byte_inj xs ys hx hy, fun h => by rw [h]⟩
theorem conv_str (w : World) (v : Value) (xs : List Int) (h : BIn w v xs) : (convert 27 9 v).run Tryz.prog w = .ok (.string (str xs)) w := by
 obtain ⟨ao, c, rfl, hc, h1⟩ := h
 rw [run_convert_bytes_string w 27 9 5 ao xs.length c Tryz.underlying27 Tryz.underlying5 Tryz.underlying9]
 rcases h1 with rfl | ⟨b, o, rfl, h1⟩
 ·cases ao with
  | none => simp [Conv.bytesToString, str]
  | some p => exact run_bytesToString w p 0 c [] (run_loadCells_list w p [] (fun j v h => by cases h))
 ·refine run_bytesToString w _ _ c xs ?_
  have := run_loadCells_list (P := Tryz.prog) w ⟨b, o, none⟩ (xs.map (Value.int .u8)) (fun j u hj => by
   have hjl : j < xs.length := by
    have := (List.getElem?_eq_some_iff.1 hj).1
    simpa using this
   rw [Addr.add_mid, h1 j hjl]
   simp [List.getElem?_map, List.getElem?_eq_getElem hjl] at hj
   simp [List.getD, List.getElem?_eq_getElem hjl, hj])
  simpa using this
theorem equal_any (v v' : Value) (xs ys : List Int) (w : World) (hx : BIn w v xs) (hy : BIn w v' ys) (hxr : ∀ x ∈ xs, 0 ≤ x ∧ x < 256) (hyr : ∀ x ∈ ys, 0 ≤ x ∧ x < 256) :
  Calls Tryz.prog 50 #[v, v'] w fun e w' => e = .returned (.bool (decide (xs = ys))) ∧ w' = w := by
 have c1 := conv_str w v xs hx
 have c2 := conv_str w v' ys hy
 have HE := hid_of (str_eq xs ys hxr hyr)
 clear hx hy hxr hyr
 go_enter Tryz.func50, Tryz.ntmps50
 go_wp2
 go_ret
 exact ⟨by rw [← HE.out]; rfl, rfl⟩
end Go.Proofs.YtjdbmjkidljhpaaGreatDoor
