/-
  path.Names: what it goes over.
-/
import Derived.Test.YtmkfjdfpcjkmnaaRparts
import Derived.RangeFuncNested
import Derived.RangeFuncBound
import Derived.RangeFuncCalls
import Derived.RangeFuncLeaves
import Derived.RangeFuncBox
import Derived.Shelf.Abstract
import Derived.Shelf.RegionOpen
import Derived.OwnWalkIn
import Derived.TacticsInMore
import Derived.LoopNIn
import Derived.LoopIn
import Derived.Sort.QuietIn
namespace Go.Proofs.Ytmkfjdfpcjkmnaa
open Go.RowKit Go.Shelf
attribute [local go_sem] Oper.semAt_some
set_option linter.unusedVariables false
set_option linter.unusedSimpArgs false

/-- A text of a kind. -/
abbrev Txt (P : List UInt8 → Prop) := { x : List UInt8 // P x }
abbrev Txt.v {P : List UInt8 → Prop} (x : Txt P) : Value := .string ⟨x.1.toArray⟩
def vals {P : List UInt8 → Prop} (xs : List (Txt P)) : List (List UInt8) := xs.map (·.1)

theorem Kept.grow {w w' : World} (h : Kept (fun _ => False) w w') : w.grownBy w' none := ⟨h.os, h.tape, h.output, h.size, fun k hk _ => h.block k hk (fun e => e)⟩

/-- A text's parts: the first, then those of the rest. -/
theorem split_more (l : List UInt8) : splitB l = part1 l :: (if more1 l = true then splitB (rest1 l) else []) := by
  induction l with
  | nil => rfl
  | cons c l ih =>
    by_cases hc : c = 47
    · subst hc
      rw [(splitB_cons 47 l).1 rfl]
      simp [part1, rest1, more1]
    · have h1 : (c != 47) = true := by simpa using hc
      have e1 : part1 (c :: l) = c :: part1 l := by rw [part1, List.takeWhile_cons, h1]; rfl
      have e2 : rest1 (c :: l) = rest1 l := by rw [rest1, List.dropWhile_cons, h1]; rfl
      have e3 : more1 (c :: l) = more1 l := by
        have h4 : ((47 : UInt8) == c) = false := by simpa using fun e => hc e.symm
        rw [more1, List.contains_cons, h4, Bool.false_or]
        rfl
      rw [(splitB_cons c l).2 hc _ _ ih, e1, e2, e3]

theorem part_len (l : List UInt8) : (part1 l).length ≤ l.length ∧ (rest1 l).length ≤ l.length ∧ (more1 l = true → (rest1 l).length < l.length) := by
  rcases index_part l with ⟨m1, m2, m3, m4⟩ | ⟨m1, m2, m3, m4, m5⟩
  · rw [m3, m4, m1]
    exact ⟨Nat.le_refl _, by simp, fun h => by simp at h⟩
  · refine ⟨by omega, ?_, fun _ => ?_⟩
    · rw [m5, List.length_drop]; omega
    · rw [m5, List.length_drop]; omega

def bitOf : Value → Nat
  | .bool true => 1
  | _ => 0
def lenOf : Value → Nat
  | .string s => s.size
  | _ => 0

theorem size_eq (l : List UInt8) : (⟨l.toArray⟩ : ByteArray).size = l.length := rfl

set_option maxRecDepth 100000 in
set_option maxHeartbeats 1000000 in
theorem names_stops {P : List UInt8 → Prop} (n : Nat) (hn : 1 ≤ n) (Bn : Nat) (s : ByteArray) (hs : s.size < 1099511627776) (hP : ∀ x ∈ partsOf s.data.toList, P x) (w : World) (hBn : Bn < w.heap.size) (hc : w.cell? ⟨Bn, 0, none⟩ = some (.string s)) :
    SeqStopsK Fence.wide n Try.prog 79 #[.pointer (some ⟨Bn, 0, none⟩)] (fun x : Txt P => #[x.v]) (fun _ _ => True) (fun ys => vals ys = partsOf s.data.toList) (fun pre => vals pre <+: partsOf s.data.toList) (partsOf s.data.toList).length w := fun l J Jx W hW hJ hJx hY h0 => by
  have hc' : W.cell? ⟨Bn, 0, none⟩ = some (.string s) := (hW.cell (p := ⟨Bn, 0, none⟩) hBn).trans hc
  have hJk : ∀ pre A B, J pre A → Kept (fun _ => False) A B → J pre B := fun pre A B h k => hJ pre A B none h k.grow (fun r e => by cases e)
  have H0 : Hid (J [] W ∧ partsOf s.data.toList = vals ([] : List (Txt P)) ++ (if (!s.toList.isEmpty) = true then splitB s.data.toList else [])) := ⟨h0, by
    rw [partsOf, ← ByteArray.toList_eq]
    cases h : s.toList <;> simp [vals]⟩
  have HP := hid_of hP
  have HY := hid_of hY
  have HJ := hid_of hJk
  clear hW hJ hJx hY h0 hP hJk hc
  refine callsIn_of_wp Try.func79 rfl trivial ?_ rfl
  simp only [Try.ntmps79, List.size_toArray, List.length_cons, List.length_nil, Nat.reduceAdd, Nat.reduceSub, Array.replicate_succ, Array.replicate_zero, List.push_toArray, List.append_toArray, List.nil_append, List.cons_append]
  gi_wp2
  gi_quiet (fail)
  gi_wp2
  gi_loopw [3, 4, 5] (fun r m _ wr => ∃ (pre : List (Txt P)) (t : ByteArray) (b : Bool), r = .string t ∧ m = .bool b ∧ t.size ≤ s.size ∧ J pre wr ∧ partsOf s.data.toList = vals pre ++ (if b = true then splitB t.data.toList else [])) (fun r m _ _ => bitOf m + lenOf r)
  case atStart => exact ⟨[], s, _, rfl, rfl, Nat.le_refl _, HJ.out _ _ _ H0.out.1 (kept_drewN (Kept.refl _ W) _), H0.out.2⟩
  case round =>
    obtain ⟨pre, t, b, rfl, rfl, ht, hj, hp⟩ := hrel
    have HJ1 := hid_of hj
    have HQ := hid_of hp
    clear hj hp H0
    cases b with
    | false =>
      gi_wp2
      go_end0
      exact ⟨⟨_, rfl⟩, .inl ⟨pre, by have h := HQ.out; simpa using h.symm, HJ1.out⟩⟩
    | true =>
      have HC := hid_of (cut_any t (by omega))
      have hl := part_len t.data.toList
      have hq : partsOf s.data.toList = vals pre ++ part1 t.data.toList :: (if more1 t.data.toList = true then splitB (rest1 t.data.toList) else []) := by
        rw [HQ.out, if_pos rfl, split_more]
      have hx : P (part1 t.data.toList) := HP.out _ (by rw [hq]; simp)
      obtain ⟨x, hxe⟩ : ∃ x : Txt P, x.1 = part1 t.data.toList := ⟨⟨_, hx⟩, rfl⟩
      rw [← hxe] at HC hl hq
      have HQ2 := hid_of hq
      have hlen : pre.length < (partsOf s.data.toList).length := by rw [hq]; simp [vals]
      have htl : t.data.toList.length = t.size := by simp
      rw [htl] at hl
      clear htl hx hxe hq HQ
      generalize rest1 t.data.toList = r at *
      generalize more1 t.data.toList = m at *
      have HK := hid_of (clone_any ⟨x.1.toArray⟩)
      have hl1 : (⟨x.1.toArray⟩ : ByteArray).size ≤ 281474976710656 := by rw [size_eq]; omega
      have HL := hid_of hl
      clear hl
      gi_wp2_with fail
      refine ⟨trivial, (callsIn_wide.2 (HC.out _)).mono ?_⟩
      rintro e w1 ⟨rfl, q, rfl⟩
      clear HC
      have HJ2 := hid_of (HJ.out _ _ _ HJ1.out (kept_drewN (Kept.refl _ wr) q))
      gi_wp2_with fail
      refine ⟨trivial, (callsIn_wide.2 (HK.out _ hl1)).mono ?_⟩
      rintro e w2 ⟨rfl, hk2⟩
      have HJ3 := hid_of (HJ.out _ _ _ HJ2.out hk2)
      clear HK HJ2 HJ1 hk2
      obtain ⟨fn, tmps, assign, body, hy, hR⟩ := HY.out pre x w2 HJ3.out hlen
      gi_wp2
      refine hR.mono ?_
      rintro e W3 (⟨rfl, hJ3, _⟩ | ⟨rfl, hJx3⟩)
      · have HJ4 := hid_of hJ3
        clear hJ3 hR hy
        gi_wp2
        go_roundw
        case rel => exact ⟨pre ++ [x], ⟨r.toArray⟩, m, rfl, rfl, by rw [size_eq]; have := HL.out.2.1; omega, HJ4.out, by rw [HQ2.out]; simp [vals]⟩
        case measure =>
          have h1 := HL.out.2.1
          have h2 := HL.out.2.2
          cases m
          · simp [bitOf, lenOf, size_eq]; omega
          · have := h2 rfl
            simp [bitOf, lenOf, size_eq]; omega
      · have HJ4 := hid_of hJx3
        clear hJx3 hR hy
        gi_wp2
        refine bodyPost_ret (results_none rfl _ _ _) rfl ?_
        exact ⟨⟨_, rfl⟩, .inr ⟨pre ++ [x], by rw [HQ2.out]; exact ⟨if m = true then splitB r else [], by simp [vals]⟩, HJ4.out⟩⟩

set_option maxRecDepth 100000 in
set_option maxHeartbeats 1000000 in
theorem names_any (s : ByteArray) (w : World) :
    Calls Try.prog 64 #[.string s] w fun e w' => e = .returned (.func (.func 79) #[] #[.pointer (some ⟨w.heap.size, 0, none⟩)]) ∧ w' = w.alloc (.cells #[.string s] 9) := by
  go_enter Try.func64, Try.ntmps64
  go_wp2
  go_ret
  exact ⟨rfl, rfl⟩
end Go.Proofs.Ytmkfjdfpcjkmnaa
