/-
  strings.Clone, Cut and Count at "/", path.Depth, by contract.
-/
import Derived.Test.YtmkfjdfpcjkmnaaUnder
import Derived.Shelf.Lay
import Derived.Shelf.LaysM
import Derived.Shelf.Strconv.Clone
import Derived.Shelf.Strings.Search2
import Derived.Shelf.Strings.Search3
import Derived.Shelf.Strings.Count
namespace Go.Proofs
open Go.Shelf
shelf_lay LaysM.n316 Nm 316 at Try as Try.laysM316
shelf_lay Lays.n219 Nm 219 at Try as Try.lays219
end Go.Proofs
namespace Go.Proofs.Ytmkfjdfpcjkmnaa
open Go.RowKit
set_option linter.unusedVariables false
set_option linter.unusedSimpArgs false

theorem kept_below {w w' : World} (h : Below w.heap.size w w') : Kept (fun _ => False) w w' := ⟨h.os, h.tape, h.output, h.size, fun k hk _ => h.block k hk⟩

set_option maxRecDepth 100000 in
set_option maxHeartbeats 1000000 in
theorem clone_any (s : ByteArray) (w : World) (hs : s.size ≤ 281474976710656) :
    Calls Try.prog 56 #[.string s] w fun e w' => e = .returned (.string s) ∧ Kept (fun _ => False) w w' := by
  have HC := hid_of (fun w => Any.stringslite_Clone Try.laysM316 s w hs)
  go_enter Try.func56, Try.ntmps56
  go_wp2_with fail
  refine (HC.out _).mono ?_
  rintro e w1 ⟨rfl, hb⟩
  have HB := hid_of (kept_below hb)
  clear hb HC
  go_wp2
  go_ret
  exact ⟨rfl, HB.out⟩

/-- A text's first part, what lies behind the first /, whether there is one. -/
def part1 (l : List UInt8) : List UInt8 := l.takeWhile (· != 47)
def rest1 (l : List UInt8) : List UInt8 := (l.dropWhile (· != 47)).drop 1
def more1 (l : List UInt8) : Bool := l.contains 47

theorem index_part : ∀ l : List UInt8, (more1 l = false ∧ Lib.indexByte l 47 = -1 ∧ part1 l = l ∧ rest1 l = []) ∨ (more1 l = true ∧ Lib.indexByte l 47 = ((part1 l).length : Int) ∧ (part1 l).length < l.length ∧ part1 l = l.take (part1 l).length ∧ rest1 l = l.drop ((part1 l).length + 1))
  | [] => .inl ⟨rfl, rfl, rfl, rfl⟩
  | b :: l => by
    by_cases hb : b = 47
    · subst hb
      right
      simp [more1, Lib.indexByte, part1, rest1]
    · have h1 : (b != 47) = true := by simpa using hb
      have h2 : (b == 47) = false := by simpa using hb
      have e1 : part1 (b :: l) = b :: part1 l := by rw [part1, List.takeWhile_cons, h1]; rfl
      have e2 : rest1 (b :: l) = rest1 l := by rw [rest1, List.dropWhile_cons, h1]; rfl
      have e3 : more1 (b :: l) = more1 l := by
        have h4 : ((47 : UInt8) == b) = false := by simpa using fun e => hb e.symm
        rw [more1, List.contains_cons, h4, Bool.false_or]
        rfl
      rw [e1, e2, e3, Lib.indexByte, h2]
      rcases index_part l with ⟨m1, m2, m3, m4⟩ | ⟨m1, m2, m3, m4, m5⟩
      · left
        rw [m2, m3, m4]
        exact ⟨m1, rfl, rfl, rfl⟩
      · right
        have hn : (((part1 l).length : Int) == -1) = false := by simp only [beq_eq_false_iff_ne, ne_eq]; omega
        rw [m2, hn]
        refine ⟨m1, ?_, ?_, ?_, ?_⟩
        · simp
        · simpa using m3
        · rw [List.length_cons, List.take_succ_cons, ← m4]
        · rw [List.length_cons, List.drop_succ_cons, m5]

theorem bytes_eq {a : ByteArray} {l : List UInt8} (h : a.data.toList = l) : a = ⟨l.toArray⟩ := by
  apply ByteArray.ext
  rw [← h]

set_option maxRecDepth 100000 in
set_option maxHeartbeats 1000000 in
theorem cut_in (s : ByteArray) (hs : s.size < 2 ^ 62) (w : World) :
    Calls Try.prog 87 #[.string s, .string ⟨#[47]⟩] w fun e w' => e = .returned (.tuple #[.string ⟨(part1 s.data.toList).toArray⟩, .string ⟨(rest1 s.data.toList).toArray⟩, .bool (more1 s.data.toList)]) ∧ ∃ q, w' = w.drewN q := by
  have hi := fun w => Any.stringslite_Index_one Try.lays219 s 47 w
  rcases index_part s.data.toList with ⟨m1, m2, m3, m4⟩ | ⟨m1, m2, m3, m4, m5⟩
  · rw [m1, m3, m4]
    rw [m2] at hi
    have HI := hid_of hi
    clear hi
    go_enter Try.func87, Try.ntmps87
    go_wp2_with fail
    refine (HI.out _).mono ?_
    rintro e w1 ⟨rfl, rfl⟩
    clear HI
    go_wp2
    exact bodyPost_ret (v := .tuple #[.string s, .string ⟨#[]⟩, .bool false]) (by simp [results, Try.results87, go_sem]) rfl ⟨rfl, 0, rfl⟩
  · have hl : s.data.toList.length = s.size := by simp
    have E1 : Hid (s.extract 0 (part1 s.data.toList).length = ⟨(part1 s.data.toList).toArray⟩) := bytes_eq (by rw [extract_list, List.drop_zero, ← m4])
    have E2 : Hid (s.extract ((part1 s.data.toList).length + 1) s.size = ⟨(rest1 s.data.toList).toArray⟩) := bytes_eq (by rw [extract_list, m5, ← hl, List.take_length])
    rw [hl] at m3
    rw [m1]
    rw [m2] at hi
    have HI := hid_of hi
    clear m1 m2 m4 m5 hl hi
    generalize (⟨(part1 s.data.toList).toArray⟩ : ByteArray) = A at *
    generalize (⟨(rest1 s.data.toList).toArray⟩ : ByteArray) = B at *
    generalize (part1 s.data.toList).length = n at *
    have h0 : (0 : Int) ≤ (n : Int) := by omega
    go_enter Try.func87, Try.ntmps87
    go_wp2_with fail
    refine (HI.out _).mono ?_
    rintro e w1 ⟨rfl, rfl⟩
    clear HI
    go_wp2
    go_quiet (fail)
    go_wp2
    exact bodyPost_ret (v := .tuple #[.string (s.extract 0 n), .string (s.extract (n + 1) s.size), .bool true]) (by simp [results, Try.results87, go_sem]) rfl ⟨by rw [E1.out, E2.out], _, rfl⟩

set_option maxRecDepth 100000 in
set_option maxHeartbeats 1000000 in
theorem cut_any (s : ByteArray) (hs : s.size < 2 ^ 62) (w : World) :
    Calls Try.prog 80 #[.string s, .string ⟨#[47]⟩] w fun e w' => e = .returned (.tuple #[.string ⟨(part1 s.data.toList).toArray⟩, .string ⟨(rest1 s.data.toList).toArray⟩, .bool (more1 s.data.toList)]) ∧ ∃ q, w' = w.drewN q := by
  have HI := hid_of (cut_in s hs)
  generalize (⟨(part1 s.data.toList).toArray⟩ : ByteArray) = A at *
  generalize (⟨(rest1 s.data.toList).toArray⟩ : ByteArray) = B at *
  generalize more1 s.data.toList = m at *
  go_enter Try.func80, Try.ntmps80
  go_wp2_with fail
  refine (HI.out _).mono ?_
  rintro e w1 ⟨rfl, q, rfl⟩
  clear HI
  go_wp2
  exact bodyPost_ret (v := .tuple #[.string A, .string B, .bool m]) (by simp [results, Try.results80, go_sem]) rfl ⟨rfl, _, rfl⟩

/-- How many parts a text has. -/
def depthOf (l : List UInt8) : Int := if l = [] then 0 else (l.count 47 : Int) + 1

end Go.Proofs.Ytmkfjdfpcjkmnaa
