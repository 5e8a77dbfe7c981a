/-
  TAf: Af, Gm, Ag.
-/
import Derived.Test.YtgoabnehdmdikaaGreatDoorTAb
import Derived.WalkKit
import Derived.ProofKit
import Derived.MapKept
namespace Go.Proofs.YtgoabnehdmdikaaGreatDoor
open Go.RowKit
set_option linter.unusedVariables false
set_option linter.unusedSimpArgs false
set_option maxRecDepth 100000

/-- Pieces that lie somewhere. -/
def PsAt (w : World) (g o : Nat) (ps : List Pc) : Prop := ∀ i p, ps[i]? = some p → w.rangeAt g (o + i * 4) p.cells
theorem PsAt.kept {S : Nat → Prop} {w w' : World} {g o : Nat} {ps : List Pc} (h : PsAt w g o ps) (hk : Kept S w w') (hn : ¬ S g) : PsAt w' g o ps := fun i p hp j v hv => hk.cell (h i p hp j v hv) hn
theorem pcells_at (ps : List Pc) : ∀ (i : Nat) (p : Pc), ps[i]? = some p → ∀ (j : Nat), j < 4 → (pcells ps)[i * 4 + j]? = p.cells[j]? := by
  induction ps with
  | nil => intro i p h; simp at h
  | cons q qs ih =>
    intro i p h j hj
    have e : pcells (q :: qs) = q.cells ++ pcells qs := rfl
    have hl : q.cells.length = 4 := rfl
    rw [e]
    cases i with
    | zero =>
      simp at h
      subst h
      rw [List.getElem?_append_left (by rw [hl]; omega)]
      simp
    | succ i =>
      rw [List.getElem?_append_right (by rw [hl]; omega), hl, show (i + 1) * 4 + j - 4 = i * 4 + j by omega]
      exact ih i p (by simpa using h) j hj
theorem psAt_own {w : World} {B g c n : Nat} {ps : List Pc} (h : w.ownsRow B 130 4 (.slice (some ⟨g, 0, none⟩) n c) ps.length (pcells ps)) : PsAt w g 0 ps := fun i p hp j v hv => by
  have hj : j < 4 := by
    have := (List.getElem?_eq_some_iff.1 hv).1
    exact this
  have := h.cells (g := g) rfl (i * 4 + j) v (by rw [pcells_at ps i p hp j hj]; exact hv)
  rw [Addr.add_lit, Nat.zero_add] at this
  show w.cell? ⟨g, 0 + i * 4 + j, none⟩ = _
  rw [Nat.zero_add]
  exact this
theorem PsAt.drop {w : World} {g o : Nat} {ps : List Pc} (h : PsAt w g o ps) (k : Nat) : PsAt w g (o + k * 4) (ps.drop k) := fun i p hp => by
  have := h (k + i) p (by rw [List.getElem?_drop] at hp; exact hp)
  rw [show o + k * 4 + i * 4 = o + (k + i) * 4 by omega]
  exact this
set_option maxHeartbeats 4000000 in
theorem kind_is (k : Int) (s : ByteArray) (n x : Int) (w : World) : Calls Tryz.prog 115 #[.agg #[.int .i64 k, .string s, .int .i64 n, .bool false], .int .i64 x] w fun e w' => e = .returned (.bool (k == x)) ∧ Kept (fun _ => False) w w' := by
  have hk : Kept (fun _ => False) w (w.alloc (.cells #[.int .i64 k, .string s, .int .i64 n, .bool false] 130)) := (Kept.refl _ _).alloc _
  have c0 := cell_block _ _ 0 _ _ _ (heap_alloc_new w (.cells #[.int .i64 k, .string s, .int .i64 n, .bool false] 130))
  have HK := hid_of hk
  clear hk
  go_enter Tryz.func115, Tryz.ntmps115
  go_wp2
  go_ret
  exact ⟨rfl, HK.out⟩
set_option maxHeartbeats 4000000 in
theorem far_is (k : Int) (s : ByteArray) (n : Int) (w : World) : Calls Tryz.prog 119 #[.agg #[.int .i64 k, .string s, .int .i64 n, .bool false]] w fun e w' => e = .returned (.bool false) ∧ Kept (fun _ => False) w w' := by
  have hk : Kept (fun _ => False) w (w.alloc (.cells #[.int .i64 k, .string s, .int .i64 n, .bool false] 130)) := (Kept.refl _ _).alloc _
  have c0 := cell_block _ _ 3 _ _ _ (heap_alloc_new w (.cells #[.int .i64 k, .string s, .int .i64 n, .bool false] 130))
  have HK := hid_of hk
  clear hk
  go_enter Tryz.func119, Tryz.ntmps119
  go_wp2
  go_ret
  exact ⟨rfl, HK.out⟩
theorem take_snoc1 {α : Type} (l : List α) (k : Nat) (h : k < l.length) : l.take (k + 1) = l.take k ++ [l[k]] := by
  rw [List.take_add_one, List.getElem?_eq_getElem h]
  rfl
set_option maxHeartbeats 8000000 in
theorem eqf_any (g o n c gk m ck : Nat) (ps : List Pc) (ks : List Int) (w : World) (hP : PsAt w g o ps) (hK : ∀ i x, ks[i]? = some x → w.cell? ⟨gk, i, none⟩ = some (.int .i64 x)) (hn : n = ps.length) (hm : m = ks.length) (hl : n ≤ 90000) (hl2 : m ≤ 90000) :
    Calls Tryz.prog 114 #[.slice (some ⟨g, o, none⟩) n c, .slice (some ⟨gk, 0, none⟩) m ck, .func (.func 115) #[] #[]] w fun e w' => e = .returned (.bool (decide (ps.map Pc.k = ks))) ∧ Kept (fun _ => False) w w' := by
  have HP := hid_of hP
  have HKS := hid_of hK
  have HN := hid_of hn
  have HM := hid_of hm
  by_cases hnm : n = m
  · subst hnm
    clear hP hK hn hm hl2
    go_enter Tryz.func114, Tryz.ntmps114
    go_wp2_with fail
    go_loopw [17] (fun iv wr => ∃ k : Nat, k ≤ n ∧ iv = .int .i64 (k : Int) ∧ Hid (Kept (fun _ => False) w wr) ∧ Hid ((ps.take k).map Pc.k = ks.take k)) (fun iv _ => n - (intOf iv).toNat)
    case atStart => exact ⟨0, by omega, rfl, Kept.refl _ _, by simp [Hid]⟩
    case round =>
      obtain ⟨k, hk, rfl, HK, HE⟩ := hrel
      by_cases hlt : k < n
      · have hltI : (k : Int) < (n : Int) := by omega
        have hkp : k < ps.length := by rw [← HN.out]; exact hlt
        have hkk : k < ks.length := by rw [← HM.out]; exact hlt
        have hrg0 := (HP.out.kept HK.out (fun f => f)) k ps[k] (List.getElem?_eq_getElem hkp)
        have q1 := HK.out.cell (HKS.out k ks[k] (List.getElem?_eq_getElem hkk)) (fun f => f)
        have HS : Hid ((ps.take (k + 1)).map Pc.k = (ps.take k).map Pc.k ++ [ps[k].k] ∧ ks.take (k + 1) = ks.take k ++ [ks[k]]) := by
          unfold Hid
          rw [take_snoc1 ps k hkp, take_snoc1 ks k hkk, List.map_append]
          exact ⟨rfl, rfl⟩
        have HNE : Hid (ps[k].k ≠ ks[k] → ps.map Pc.k ≠ ks) := fun hne e => hne (by
          have := congrArg (fun l => l[k]?) e
          simp [List.getElem?_eq_getElem hkp, List.getElem?_eq_getElem hkk] at this
          exact this)
        generalize hpk : ps[k] = p at *
        generalize hxk : ks[k] = x at *
        clear hpk hxk hkp hkk
        obtain ⟨pk, pt, pn⟩ := p
        have hrg : wr.rangeAt g (o + k * 4) [.int .i64 pk, .string pt, .int .i64 pn, .bool false] := hrg0
        have r0 := hrg 0 _ rfl
        have r1 := hrg 1 _ rfl
        have r2 := hrg 2 _ rfl
        have r3 := hrg 3 _ rfl
        simp only [Nat.add_zero] at r0
        have hka : Kept (fun _ => False) wr (wr.alloc (.cells #[.int .i64 pk, .string pt, .int .i64 pn, .bool false] 130)) := (Kept.refl _ _).alloc _
        have HB := hid_of (heap_alloc_new wr (.cells #[.int .i64 pk, .string pt, .int .i64 pn, .bool false] 130))
        have q2 := hka.cell q1 (fun f => f)
        have HKA := hid_of (HK.out.trans hka)
        clear hrg0 hrg hka q1
        go_upto_region 6 with fail
        clear r0 r1 r2 r3
        generalize wr.alloc (.cells #[.int .i64 pk, .string pt, .int .i64 pn, .bool false] 130) = W1 at *
        generalize wr.heap.size = gx at *
        obtain ⟨c0, c1, c2, c3, _⟩ := look4 HB.out
        have HC := hid_of (kind_is pk pt pn x W1)
        go_wp2_with fail
        refine HC.out.mono ?_
        rintro e W2 ⟨rfl, hk2⟩
        have HK2 := hid_of (HKA.out.trans hk2)
        clear hk2 HC HKA HK HB c0 c1 c2 c3 q2
        by_cases hpx : pk = x
        · have hb : (pk == x) = true := by simp [hpx]
          rw [hb]
          have HE2 : Hid ((ps.take (k + 1)).map Pc.k = ks.take (k + 1)) := by
            unfold Hid
            rw [HS.out.1, HS.out.2, HE.out, hpx]
          clear hb hpx
          go_wp2
          go_roundw
          case rel => exact ⟨k + 1, by omega, by go_num, HK2, HE2⟩
          case measure => simp [intOf]; omega
        · have hb : (pk == x) = false := by simp [hpx]
          rw [hb]
          have HR : Hid (decide (ps.map Pc.k = ks) = false) := decide_eq_false (HNE.out hpx)
          clear hb hpx
          go_wp2
          go_ret
          exact ⟨by rw [HR.out]; rfl, HK2.out⟩
      · have e : k = n := by omega
        subst e
        have HR : Hid (decide (ps.map Pc.k = ks) = true) := by
          unfold Hid
          apply decide_eq_true
          have := HE.out
          rw [List.take_of_length_le (by rw [← HN.out]; omega), List.take_of_length_le (by rw [← HM.out]; omega)] at this
          exact this
        have hkI : ¬ ((k : Int) < (k : Int)) := by omega
        go_wp2
        go_ret
        exact ⟨by rw [HR.out]; rfl, HK.out⟩
  · have hbq : ((n : Int) != (m : Int)) = true := by simp; omega
    have HR : Hid (decide (ps.map Pc.k = ks) = false) := by
      unfold Hid
      apply decide_eq_false
      intro e
      have := congrArg List.length e
      rw [List.length_map] at this
      omega
    clear hP hK hn hm hnm
    go_enter Tryz.func114, Tryz.ntmps114
    go_wp2
    go_ret
    exact ⟨by rw [HR.out]; rfl, Kept.refl _ _⟩
set_option maxHeartbeats 4000000 in
theorem fits_any (g o n c gk m ck : Nat) (ps : List Pc) (ks : List Int) (w : World) (hP : PsAt w g o ps) (hK : ∀ i x, ks[i]? = some x → w.cell? ⟨gk, i, none⟩ = some (.int .i64 x)) (hn : n = ps.length) (hm : m = ks.length) (hl : n ≤ 90000) (hl2 : m ≤ 90000) :
    Calls Tryz.prog 82 #[.slice (some ⟨g, o, none⟩) n c, .slice (some ⟨gk, 0, none⟩) m ck] w fun e w' => e = .returned (.bool (decide (ps.map Pc.k = ks))) ∧ Kept (fun _ => False) w w' := by
  have HC := hid_of (eqf_any g o n c gk m ck ps ks w hP hK hn hm hl hl2)
  generalize decide (ps.map Pc.k = ks) = q at *
  clear hP hK hn hm hl hl2
  go_enter Tryz.func82, Tryz.ntmps82
  go_wp2_with fail
  refine HC.out.mono ?_
  rintro e W2 ⟨rfl, hk2⟩
  have HK2 := hid_of hk2
  clear hk2 HC
  go_wp2
  go_ret
  exact ⟨rfl, HK2.out⟩
set_option maxHeartbeats 8000000 in
theorem index_far (g o n c : Nat) (ps : List Pc) (w : World) (hP : PsAt w g o ps) (hn : n = ps.length) (hl : n ≤ 90000) :
    Calls Tryz.prog 144 #[.slice (some ⟨g, o, none⟩) n c, .func (.func 119) #[] #[]] w fun e w' => e = .returned (.int .i64 (-1)) ∧ Kept (fun _ => False) w w' := by
  have HP := hid_of hP
  have HN := hid_of hn
  clear hP hn
  go_enter Tryz.func144, Tryz.ntmps144
  go_wp2_with fail
  go_loopw [8] (fun iv wr => ∃ k : Nat, k ≤ n ∧ iv = .int .i64 (k : Int) ∧ Hid (Kept (fun _ => False) w wr)) (fun iv _ => n - (intOf iv).toNat)
  case atStart => exact ⟨0, by omega, rfl, Kept.refl _ _⟩
  case round =>
    obtain ⟨k, hk, rfl, HK⟩ := hrel
    by_cases hlt : k < n
    · have hltI : (k : Int) < (n : Int) := by omega
      have hkp : k < ps.length := by rw [← HN.out]; exact hlt
      have hrg0 := (HP.out.kept HK.out (fun f => f)) k ps[k] (List.getElem?_eq_getElem hkp)
      generalize hpk : ps[k] = p at *
      clear hpk hkp
      obtain ⟨pk, pt, pn⟩ := p
      have hrg : wr.rangeAt g (o + k * 4) [.int .i64 pk, .string pt, .int .i64 pn, .bool false] := hrg0
      have r0 := hrg 0 _ rfl
      have r1 := hrg 1 _ rfl
      have r2 := hrg 2 _ rfl
      have r3 := hrg 3 _ rfl
      simp only [Nat.add_zero] at r0
      have HC := hid_of (far_is pk pt pn wr)
      clear hrg0 hrg
      go_wp2_with fail
      refine HC.out.mono ?_
      rintro e W2 ⟨rfl, hk2⟩
      have HK2 := hid_of (HK.out.trans hk2)
      clear hk2 HC HK r0 r1 r2 r3
      go_wp2
      go_roundw
      case rel => exact ⟨k + 1, by omega, by go_num, HK2⟩
      case measure => simp [intOf]; omega
    · have e : k = n := by omega
      subst e
      have hkI : ¬ ((k : Int) < (k : Int)) := by omega
      go_wp2
      go_ret
      exact ⟨rfl, HK.out⟩
set_option maxHeartbeats 4000000 in
theorem far_any (g o n c : Nat) (ps : List Pc) (w : World) (hP : PsAt w g o ps) (hn : n = ps.length) (hl : n ≤ 90000) :
    Calls Tryz.prog 85 #[.slice (some ⟨g, o, none⟩) n c] w fun e w' => e = .returned (.bool false) ∧ Kept (fun _ => False) w w' := by
  have HC := hid_of (index_far g o n c ps w hP hn hl)
  clear hP hn hl
  go_enter Tryz.func85, Tryz.ntmps85
  go_wp2_with fail
  go_enter Tryz.func118, Tryz.ntmps118
  go_wp2_with fail
  refine HC.out.mono ?_
  rintro e W2 ⟨rfl, hk2⟩
  have HK2 := hid_of hk2
  clear hk2 HC
  go_wp2
  go_ret
  exact ⟨rfl, HK2.out⟩
set_option maxHeartbeats 8000000 in
theorem labelled_none (g o n c : Nat) (ps : List Pc) (w : World) (hP : PsAt w g o ps) (hn : n = ps.length) (hl : n ≤ 90000) (hc : n ≤ c) (hno : (ps.take 2).map Pc.k ≠ [0, 3]) :
    Calls Tryz.prog 53 #[.slice (some ⟨g, o, none⟩) n c] w fun e w' => e = .returned (.tuple #[.slice none 0 0, .slice (some ⟨g, o, none⟩) n c]) ∧ Kept (fun _ => False) w w' := by
  have HP := hid_of hP
  have HN := hid_of hn
  have HNO := hid_of hno
  clear hP hn hno
  go_enter Tryz.func53, Tryz.ntmps53
  go_wp2_with fail
  go_loopw [0, 4] (fun lv bv wr => lv = .slice (some ⟨g, o, none⟩) n c ∧ bv = .slice none 0 0 ∧ wr = w) (fun _ _ _ => 0)
  case atStart => exact ⟨rfl, rfl, rfl⟩
  case round =>
    obtain ⟨rfl, rfl, hw⟩ := hrel
    have hw := hw.symm
    subst hw
    by_cases h1 : 1 < n
    · have h1I : (1 : Int) < (n : Int) := by omega
      have hka : Kept (fun _ => False) w (w.alloc (.cells #[.int .i64 0, .int .i64 3] 3)) := (Kept.refl _ _).alloc _
      have hba := heap_alloc_new w (.cells #[.int .i64 0, .int .i64 3] 3)
      have HF := hid_of (fits_any g o 2 c w.heap.size 2 2 (ps.take 2) [0, 3] (w.alloc (.cells #[.int .i64 0, .int .i64 3] 3)) (fun i p hp => (HP.out.kept hka (fun f => f)) i p (by
        rw [List.getElem?_take] at hp
        split at hp
        · exact hp
        · cases hp)) (fun i x hx => by
        rw [cell_block _ _ i _ _ _ hba]
        rcases i with _ | _ | i <;> simp at hx ⊢ <;> exact hx) (by rw [List.length_take]; have := HN.out; omega) rfl (by omega) (by omega))
      rw [decide_eq_false HNO.out] at HF
      have HKA := hid_of hka
      have h2c : (2 : Int) ≤ (c : Int) := by omega
      clear hba hka
      go_wp2_with fail
      refine HF.out.mono ?_
      rintro e W2 ⟨rfl, hk2⟩
      have HK2 := hid_of (HKA.out.trans hk2)
      clear hk2 HF HKA
      go_wp2
      refine bodyPost_ret (results_tmp2 rfl _ _ _) rfl ?_
      exact ⟨rfl, HK2.out⟩
    · have h1I : ¬ ((1 : Int) < (n : Int)) := by omega
      go_wp2
      refine bodyPost_ret (results_tmp2 rfl _ _ _) rfl ?_
      exact ⟨rfl, Kept.refl _ _⟩
end Go.Proofs.YtgoabnehdmdikaaGreatDoor

namespace Go.Proofs.YtgoabnehdmdikaaGreatDoor
open Go.RowKit
set_option linter.unusedVariables false
set_option linter.unusedSimpArgs false

/-- An entry: its key, what it holds, its stamp. -/
structure Me (κ α : Type) where
  k : κ
  a : α
  born : Nat
/-- How keys and elements are written as values. -/
structure Cod (κ α : Type) where
  enc : κ → Value
  val : α → Value
variable {κ α : Type} [DecidableEq κ]
def Cod.ent (c : Cod κ α) (e : Me κ α) : MapEntry := { key := c.enc e.k, val := c.val e.a, born := e.born }
/-- A map's type: its key's, its element's, its element's zero. -/
structure Cod.Fits (c : Cod κ α) (P : Program) (t : TypeId) (z : Value) : Prop where
  ty : ∃ kt et d, P.underlying t = some (.map kt et) ∧ P.underlying kt = some d ∧ (∀ a b, Instr.sameNow d (c.enc a) (c.enc b) = some (decide (a = b))) ∧ (∀ a b n w, (Instr.checkKey b (n + 1) kt (c.enc a)).run P w = .ok () w) ∧ ∀ w, (zeroValue et).run P w = .ok z w
  bits : ∀ a, Instr.sameBits 10000 (c.enc a) (c.enc a) = true

def lookI (c : Cod κ α) : List (Me κ α) → κ → Nat → Option (Nat × Value)
  | [], _, _ => none
  | e :: es, d, i => if d = e.k then some (i, c.val e.a) else lookI c es d (i + 1)
/-- What lies under a key. -/
def look : List (Me κ α) → κ → Option α
  | [], _ => none
  | e :: es, d => if d = e.k then some e.a else look es d
/-- Something lies under a key, in the place of what lay there. -/
def lays : List (Me κ α) → κ → α → Nat → List (Me κ α)
  | [], d, a, b => [⟨d, a, b⟩]
  | x :: es, d, a, b => if d = x.k then ⟨d, a, x.born⟩ :: es else x :: lays es d a b
/-- Nothing lies under a key any more. -/
def drops : List (Me κ α) → κ → List (Me κ α)
  | [], _ => []
  | e :: es, d => if d = e.k then es else e :: drops es d

theorem gotm {P : Program} {w : World} {r : Nat} {es : Array MapEntry} {c : Nat} (hb : w.heap[r]? = some (.map es c)) : (getObj r).run P w = .ok (.map es c) w := by simp [getObj, Sem.run, hb]
theorem set_gotm {P : Program} {w : World} {r : Nat} {es : Array MapEntry} {c : Nat} (o' : Obj) (hb : w.heap[r]? = some (.map es c)) : (setObj r o').run P w = .ok () { w with heap := w.heap.setIfInBounds r o' } := by simp [setObj, Sem.run, hb]

theorem find_now (c : Cod κ α) (d : TypeDesc) (h : ∀ a b, Instr.sameNow d (c.enc a) (c.enc b) = some (decide (a = b))) (k : κ) : ∀ (es : List (Me κ α)) (i : Nat), Instr.findNow d (c.enc k) (es.map c.ent) i = some (lookI c es k i)
  | [], i => rfl
  | e :: es, i => by
    rw [List.map_cons]
    unfold Instr.findNow
    rw [show (c.ent e).key = c.enc e.k from rfl, h]
    by_cases hk : k = e.k
    · simp only [hk, decide_true, lookI, if_true]
      rfl
    · simp only [hk, decide_false, lookI, if_false]
      exact find_now c d h k es (i + 1)
theorem run_find {P : Program} (c : Cod κ α) (kt : TypeId) (d : TypeDesc) (hd : P.underlying kt = some d) (h : ∀ a b, Instr.sameNow d (c.enc a) (c.enc b) = some (decide (a = b))) (k : κ) (es : List (Me κ α)) (w : World) :
    (Instr.findKey kt (c.enc k) (es.map c.ent)).run P w = .ok (lookI c es k 0) w := by
  unfold Instr.findKey
  rw [Sem.run_bind, run_underlying hd, Result.andThen_ok, find_now c d h k es 0]
  rfl
theorem look_some (c : Cod κ α) : ∀ (es : List (Me κ α)) (d : κ) (i : Nat), (lookI c es d i).map (·.2) = (look es d).map c.val
  | [], _, _ => rfl
  | e :: es, d, i => by
    unfold lookI look
    split
    · rfl
    · exact look_some c es d (i + 1)

/-- What a look-up tells. -/
def lookV (c : Cod κ α) (z : Value) (es : List (Me κ α)) (d : κ) : Value := match look es d with | some a => c.val a | none => z

theorem run_look {P : Program} {c : Cod κ α} {t : TypeId} {z : Value} (H : c.Fits P t z) (w : World) (r clock : Nat) (es : List (Me κ α)) (hb : w.heap[r]? = some (.map (es.map c.ent).toArray clock)) (d : κ) (b : Bool) :
    (Instr.lookup t (.map (some r)) (c.enc d) b).run P w = .ok (if b then .tuple #[lookV c z es d, .bool (look es d).isSome] else lookV c z es d) w := by
  obtain ⟨kt, et, td, h1, h2, h3, h4, h5⟩ := H.ty
  unfold Instr.lookup
  simp only [Sem.run_bind, run_underlying h1, Result.andThen_ok, Sem.run_pure, gotm hb, h4 d _ 9999 w]
  rw [run_find c kt td h2 h3 d es w]
  have hl := look_some c es d 0
  unfold lookV
  cases e1 : lookI c es d 0 with
  | none =>
    rw [e1] at hl
    cases e2 : look es d with
    | none => simp only [Result.andThen_ok, Sem.run_bind, h5, Sem.run_pure, Option.isSome_none]
    | some e => rw [e2] at hl; cases hl
  | some p =>
    rw [e1] at hl
    cases e2 : look es d with
    | none => rw [e2] at hl; cases hl
    | some e =>
      rw [e2] at hl
      obtain ⟨i, v⟩ := p
      have hv : v = c.val e := by simpa using hl
      subst hv
      simp only [Result.andThen_ok, Sem.run_bind, Sem.run_pure, Option.isSome_some]

theorem ents_modify (c : Cod κ α) (d : κ) (a : α) (b : Nat) : ∀ (es : List (Me κ α)) (i : Nat) (p : Nat × Value), lookI c es d i = some p → ∃ j, p.1 = i + j ∧ j < es.length ∧ (es.map c.ent).toArray.modify j (fun x => { x with key := c.enc d, val := c.val a }) = ((lays es d a b).map c.ent).toArray ∧ ((es.map c.ent).toArray[j]?).map (·.key) = some (c.enc d)
  | [], i, p, h => by cases h
  | x :: es, i, p, h => by
    unfold lookI at h
    by_cases hk : d = x.k
    · rw [if_pos hk] at h
      cases h
      refine ⟨0, rfl, by simp, ?_, by simp [Cod.ent, hk]⟩
      rw [lays, if_pos hk]
      apply Array.ext'
      simp [Cod.ent]
    · rw [if_neg hk] at h
      obtain ⟨j, h1, h2, h3, h4⟩ := ents_modify c d a b es (i + 1) p h
      refine ⟨j + 1, by omega, by simp; omega, ?_, by simpa using h4⟩
      rw [lays, if_neg hk]
      apply Array.ext'
      have := congrArg Array.toList h3
      simp at this ⊢
      exact this
theorem ents_push (c : Cod κ α) (d : κ) (a : α) (b : Nat) : ∀ (es : List (Me κ α)) (i : Nat), lookI c es d i = none → (es.map c.ent).toArray.push { key := c.enc d, val := c.val a, born := b } = ((lays es d a b).map c.ent).toArray
  | [], i, _ => by simp [lays, Cod.ent]
  | x :: es, i, h => by
    unfold lookI at h
    by_cases hk : d = x.k
    · rw [if_pos hk] at h; cases h
    · rw [if_neg hk] at h
      have := congrArg Array.toList (ents_push c d a b es (i + 1) h)
      rw [lays, if_neg hk]
      apply Array.ext'
      simp at this ⊢
      exact this

/-- A block's object, written over. -/
def World.over (w : World) (r : Nat) (o : Obj) : World := { w with heap := w.heap.setIfInBounds r o }
theorem over_same (w : World) (r : Nat) (o : Obj) (h : r < w.heap.size) : (World.over w r o).heap[r]? = some o := by
  simp [World.over, h]

theorem run_lay {P : Program} {c : Cod κ α} {t : TypeId} {z : Value} (H : c.Fits P t z) (w : World) (r clock : Nat) (es : List (Me κ α)) (hb : w.heap[r]? = some (.map (es.map c.ent).toArray clock)) (d : κ) (a : α) :
    ∃ clock', (Instr.mapUpdate t (.map (some r)) (c.enc d) (c.val a)).run P w = .ok () (World.over w r (.map ((lays es d a clock).map c.ent).toArray clock')) := by
  obtain ⟨kt, et, td, h1, h2, h3, h4, h5⟩ := H.ty
  unfold Instr.mapUpdate
  simp only [Sem.run_bind, run_underlying h1, Result.andThen_ok, gotm hb, h4 d _ 9999 w]
  rw [run_find c kt td h2 h3 d es w]
  cases e1 : lookI c es d 0 with
  | none =>
    refine ⟨clock + 1, ?_⟩
    simp only [Result.andThen_ok]
    rw [set_gotm _ hb, ents_push c d a clock es 0 e1]
    rfl
  | some p =>
    obtain ⟨j, i1, i2, i3, i4⟩ := ents_modify c d a clock es 0 p e1
    refine ⟨clock, ?_⟩
    obtain ⟨i, v⟩ := p
    have hi : i = j := by simpa using i1
    subst hi
    simp only [Result.andThen_ok, Sem.run_bind]
    rw [i4]
    unfold Instr.keyThatStays
    simp only [Option.getD_some, H.bits, if_true, Sem.run_pure, Result.andThen_ok]
    rw [set_gotm _ hb, i3]
    rfl

theorem look_lays : ∀ (es : List (Me κ α)) (d : κ) (a : α) (b : Nat) (d' : κ), look (lays es d a b) d' = if d' = d then some a else look es d'
  | [], d, a, b, d' => rfl
  | x :: es, d, a, b, d' => by
    rw [lays]
    by_cases hk : d = x.k
    · rw [if_pos hk, look, look]
      by_cases h : d' = d
      · rw [if_pos h, if_pos h]
      · rw [if_neg h, if_neg h, if_neg (fun e => h (e.trans hk.symm))]
    · rw [if_neg hk, look, look, look_lays es d a b d']
      by_cases h : d' = x.k
      · rw [if_pos h, if_pos h, if_neg (fun e => hk (e.symm.trans h))]
      · rw [if_neg h, if_neg h]
theorem lays_mem : ∀ (es : List (Me κ α)) (d : κ) (a : α) (b : Nat) (e : Me κ α), e ∈ lays es d a b → e.k = d ∧ e.a = a ∨ e ∈ es
  | [], d, a, b, e, h => by
    rw [lays, List.mem_singleton] at h
    subst h
    exact .inl ⟨rfl, rfl⟩
  | x :: es, d, a, b, e, h => by
    rw [lays] at h
    by_cases hk : d = x.k
    · rw [if_pos hk] at h
      rcases List.mem_cons.1 h with h | h
      · subst h
        exact .inl ⟨rfl, rfl⟩
      · exact .inr (List.mem_cons_of_mem _ h)
    · rw [if_neg hk] at h
      rcases List.mem_cons.1 h with h | h
      · subst h
        exact .inr (List.mem_cons_self ..)
      · exact (lays_mem es d a b e h).imp_right (List.mem_cons_of_mem _)
theorem lays_keys : ∀ (es : List (Me κ α)) (d : κ) (a : α) (b : Nat), (lays es d a b).map Me.k = if d ∈ es.map Me.k then es.map Me.k else es.map Me.k ++ [d]
  | [], d, a, b => by simp [lays]
  | x :: es, d, a, b => by
    rw [lays]
    by_cases hk : d = x.k
    · rw [if_pos hk, if_pos (by simp [hk])]
      simp [hk]
    · rw [if_neg hk, List.map_cons, lays_keys es d a b]
      by_cases h : d ∈ es.map Me.k
      · rw [if_pos h, if_pos (by rw [List.map_cons]; exact List.mem_cons_of_mem _ h), List.map_cons]
      · rw [if_neg h, if_neg (by rw [List.map_cons, List.mem_cons]; exact fun e => e.elim hk h), List.map_cons]
        rfl
theorem look_mem : ∀ (es : List (Me κ α)) (d : κ), (look es d).isSome = decide (d ∈ es.map Me.k)
  | [], d => rfl
  | x :: es, d => by
    rw [look]
    by_cases h : d = x.k
    · rw [if_pos h]; simp [h]
    · rw [if_neg h, look_mem es d]; simp [h]
theorem look_there : ∀ {es : List (Me κ α)} {d : κ} {a : α}, look es d = some a → ∃ e ∈ es, e.k = d ∧ e.a = a
  | x :: es, d, a, h => by
    rw [look] at h
    by_cases hk : d = x.k
    · rw [if_pos hk] at h
      cases h
      exact ⟨x, List.mem_cons_self .., hk.symm, rfl⟩
    · rw [if_neg hk] at h
      obtain ⟨e, he, h1⟩ := look_there h
      exact ⟨e, List.mem_cons_of_mem _ he, h1⟩
theorem drops_mem : ∀ (es : List (Me κ α)) (d : κ) (e : Me κ α), e ∈ drops es d → e ∈ es
  | [], _, _, h => h
  | x :: es, d, e, h => by
    rw [drops] at h
    by_cases hk : d = x.k
    · rw [if_pos hk] at h
      exact List.mem_cons_of_mem _ h
    · rw [if_neg hk] at h
      rcases List.mem_cons.1 h with h | h
      · rw [h]; exact List.mem_cons_self ..
      · exact List.mem_cons_of_mem _ (drops_mem es d e h)
theorem ents_erase (c : Cod κ α) (d : κ) : ∀ (es : List (Me κ α)) (i : Nat) (p : Nat × Value), lookI c es d i = some p → ∃ j, p.1 = i + j ∧ (es.map c.ent).toArray.eraseIdxIfInBounds j = ((drops es d).map c.ent).toArray
  | [], i, p, h => by cases h
  | x :: es, i, p, h => by
    unfold lookI at h
    by_cases hk : d = x.k
    · rw [if_pos hk] at h
      cases h
      refine ⟨0, rfl, ?_⟩
      rw [drops, if_pos hk]
      apply Array.ext'
      simp
    · rw [if_neg hk] at h
      obtain ⟨j, h1, h2⟩ := ents_erase c d es (i + 1) p h
      refine ⟨j + 1, by omega, ?_⟩
      rw [drops, if_neg hk]
      apply Array.ext'
      have := congrArg Array.toList h2
      simp at this ⊢
      exact this
theorem run_drop {P : Program} {c : Cod κ α} {t : TypeId} {z : Value} (H : c.Fits P t z) (w : World) (r clock : Nat) (es : List (Me κ α)) (hb : w.heap[r]? = some (.map (es.map c.ent).toArray clock)) (d : κ) (hl : (look es d).isSome = true) (kt ty : TypeId) :
    (Builtin.delete_ #[t, kt] ty #[.map (some r), c.enc d]).run P w = .ok (.tuple #[]) (World.over w r (.map ((drops es d).map c.ent).toArray clock)) := by
  obtain ⟨kt', et, td, h1, h2, h3, h4, h5⟩ := H.ty
  have hs := look_some c es d 0
  unfold Builtin.delete_
  simp only [Sem.run_bind, run_underlying h1, Result.andThen_ok, gotm hb, h4 d _ 9999 w, List.getElem?_toArray, List.getElem?_cons_zero, List.getElem?_cons_succ]
  rw [run_find c kt' td h2 h3 d es w]
  cases e1 : lookI c es d 0 with
  | none =>
    rw [e1] at hs
    cases e2 : look es d with
    | none => rw [e2] at hl; cases hl
    | some e => rw [e2] at hs; cases hs
  | some p =>
    obtain ⟨j, i1, i3⟩ := ents_erase c d es 0 p e1
    obtain ⟨i, v⟩ := p
    have hi : i = j := by simpa using i1
    subst hi
    simp only [Result.andThen_ok]
    rw [Sem.run_bind, set_gotm _ hb, ← i3]
    rfl
theorem look_drops : ∀ (es : List (Me κ α)) (d d' : κ), (es.map Me.k).Nodup → look (drops es d) d' = if d' = d then none else look es d'
  | [], d, d', _ => by simp [drops, look]
  | x :: es, d, d', hn => by
    rw [List.map_cons, List.nodup_cons] at hn
    rw [drops]
    by_cases hk : d = x.k
    · rw [if_pos hk, look]
      by_cases h : d' = d
      · rw [if_pos h]
        have h2 := look_mem es d'
        rw [h, hk] at h2
        rw [decide_eq_false hn.1] at h2
        rw [h, hk]
        cases h3 : look es x.k with
        | none => rfl
        | some a => rw [h3] at h2; cases h2
      · rw [if_neg h, if_neg (fun e => h (e.trans hk.symm))]
    · rw [if_neg hk, look, look, look_drops es d d' hn.2]
      by_cases h : d' = d
      · rw [if_pos h, if_pos h, if_neg (fun e => hk (h.symm.trans e))]
      · rw [if_neg h, if_neg h]
theorem drops_keys : ∀ (es : List (Me κ α)) (d : κ), ((drops es d).map Me.k).Sublist (es.map Me.k)
  | [], _ => List.Sublist.slnil
  | x :: es, d => by
    rw [drops]
    by_cases hk : d = x.k
    · rw [if_pos hk, List.map_cons]
      exact List.sublist_cons_self _ _
    · rw [if_neg hk, List.map_cons, List.map_cons]
      exact (drops_keys es d).cons_cons _
end Go.Proofs.YtgoabnehdmdikaaGreatDoor

namespace Go.Proofs.YtgoabnehdmdikaaGreatDoor
open Go.RowKit
set_option linter.unusedVariables false
set_option linter.unusedSimpArgs false
set_option maxRecDepth 100000

theorem obj_kept2 {S : Nat → Prop} {w w' : World} {g : Nat} {o : Obj} (hk : Kept S w w') (h : w.heap[g]? = some o) (hn : ¬ S g) : w'.heap[g]? = some o := obj_kept hk h hn
theorem strB_eq (a b : List UInt8) : ((⟨a.toArray⟩ : ByteArray) == ⟨b.toArray⟩) = decide (a = b) := by
  have h := Go.MapKept.bytes_beq (⟨a.toArray⟩ : ByteArray) ⟨b.toArray⟩
  by_cases e : a = b
  · rw [decide_eq_true e, h, e]
  · rw [decide_eq_false e]
    cases hb : ((⟨a.toArray⟩ : ByteArray) == ⟨b.toArray⟩) with
    | false => rfl
    | true =>
      rw [h] at hb
      injection hb with hb
      exact absurd (List.toArray_inj hb) e
theorem check9 (w : World) (b : Bool) (n : Nat) (x : ByteArray) : (Instr.checkKey b (n + 1) 9 (.string x)).run Tryz.prog w = .ok () w := by
  unfold Instr.checkKey
  simp [run_underlying Tryz.underlying9, Sem.run_pure]
theorem bits9 (x : ByteArray) : Instr.sameBits 10000 (.string x) (.string x) = true := by
  have h := Go.MapKept.bytes_beq x x
  unfold Instr.sameBits
  first | exact h.2 rfl | simp [h]
def cN : Cod (List UInt8) Int := ⟨fun l => .string ⟨l.toArray⟩, .int .i64⟩
theorem fitsN : cN.Fits Tryz.prog 95 (.int .i64 0) :=
  ⟨⟨9, 3, _, Tryz.underlying95, Tryz.underlying9, fun a b => by show some (_ == _) = _; rw [strB_eq], fun a b n w => check9 w b n _, fun w => by kernel_rfl⟩, fun a => bits9 _⟩
theorem kept_over (w : World) (r : Nat) (o : Obj) : Kept (fun k => k = r) w (World.over w r o) :=
  ⟨rfl, rfl, rfl, by simp [World.over], fun k _ hn => by
    show (w.heap.setIfInBounds r o)[k]? = _
    rw [Array.getElem?_setIfInBounds, if_neg (fun h => hn h.symm)]⟩
set_option maxHeartbeats 4000000 in
/-- A word that stood for nothing is given a number. -/
theorem name_new (r clk : Nat) (s : ByteArray) (n : Int) (w : World) (h : w.heap[r]? = some (.map #[] clk)) :
    Calls Tryz.prog 88 #[.map (some r), .string s, .int .i64 n] w fun e w' => e = .returned (.bool true) ∧ Kept (fun q => q = r) w w' := by
  have hs : s = ⟨s.data.toList.toArray⟩ := by cases s; simp
  have hL := run_look fitsN w r clk [] h s.data.toList true
  obtain ⟨clk', hU⟩ := run_lay fitsN w r clk [] h s.data.toList n
  have hk := kept_over w r (.map ((lays [] s.data.toList n clk).map cN.ent).toArray clk')
  have HK := hid_of hk
  rw [show cN.enc s.data.toList = .string s by show Value.string _ = _; rw [← hs]] at hL hU
  rw [show cN.val n = .int .i64 n from rfl] at hU
  simp only [lookV, look, Option.isSome_none, if_true] at hL
  generalize World.over w r (.map ((lays [] s.data.toList n clk).map cN.ent).toArray clk') = w' at *
  clear hs h hk
  go_enter Tryz.func88, Tryz.ntmps88
  go_wp2
  go_ret
  exact ⟨rfl, HK.out⟩
theorem aeInfo54 : (Tryz.prog.info? 78).map (fun i => (i.zero, i.size, i.bytes)) = some (some (.agg #[.int .i64 0, .int .i64 0, .int .i64 0, .slice none 0 0]), 4, 48) := by kernel_rfl
theorem push_func {w0 W : World} {v : Value} {k : Nat} {xs : List Value} (h : W.ownsRow w0.heap.size 78 4 v k xs) (x0 x1 x2 x3 : Value) (h0 : x0.oneCell' = true) (h1 : x1.oneCell' = true) (h2 : x2.oneCell' = true) (h3 : x3.oneCell' = true) (hk : Kept (fun _ => False) w0 W) (hl : k ≤ 90000) :
    ∃ v' w', (Builtin.append_ #[24, 24] 24 #[v, .slice (some ⟨W.heap.size, 0, none⟩) 1 1]).run Tryz.prog (W.alloc (.cells #[x0, x1, x2, x3] 78)) = .ok v' w' ∧ w'.ownsRow w0.heap.size 78 4 v' (k + 1) (xs ++ [x0, x1, x2, x3]) ∧ Kept (fun _ => False) w0 w' ∧ Kept (fun q => v.ownBlock = some q) W w' ∧ NewB W v v' := by
  obtain ⟨i0, hi, hz0, hz1, hz2⟩ := info_parts aeInfo54
  obtain ⟨v', w', hr, h2', h3', h4, _⟩ := append_old (P := Tryz.prog) (W.alloc (.cells #[x0, x1, x2, x3] 78)) w0.heap.size 24 24 78 i0 _ 4 48 Tryz.underlying24 hi hz0 hz1 hz2 rfl (by decide) v k xs (h.alloc _) ⟨W.heap.size, 0, none⟩ 1 1 [x0, x1, x2, x3] (by simp) (fun j u hj => by
    have hjl := (List.getElem?_eq_some_iff.1 hj).1
    rw [Addr.add_lit, Nat.zero_add, cell_block _ _ _ _ _ _ (heap_alloc_new W _)]
    simpa using hj) (fun u hu => by
      simp at hu
      rcases hu with rfl | rfl | rfl | rfl <;> assumption) (by unfold maxLen; omega) (by omega) (by have := hk.size; simp; omega)
  have hk1 : Kept (fun k => v.ownBlock = some k) W w' := ((Kept.refl _ W).alloc _).grown h3' (fun k hk => .inr hk)
  exact ⟨v', w', hr, h2', hk.step hk1 (fun i hi e => by have := (h.lt i e).1; omega), hk1, by simpa [NewB] using h4⟩
theorem aeInfo57 : (Tryz.prog.info? 95).map (fun i => (i.zero, i.size, i.bytes)) = some (some (.map none), 1, 8) := by kernel_rfl
theorem push_map {w0 W : World} {v : Value} {k : Nat} {xs : List Value} (h : W.ownsRow w0.heap.size 95 1 v k xs) (x0 : Value) (h0 : x0.oneCell' = true) (hk : Kept (fun _ => False) w0 W) (hl : k ≤ 90000) :
    ∃ v' w', (Builtin.append_ #[96, 96] 96 #[v, .slice (some ⟨W.heap.size, 0, none⟩) 1 1]).run Tryz.prog (W.alloc (.cells #[x0] 95)) = .ok v' w' ∧ w'.ownsRow w0.heap.size 95 1 v' (k + 1) (xs ++ [x0]) ∧ Kept (fun _ => False) w0 w' ∧ Kept (fun q => v.ownBlock = some q) W w' ∧ NewB W v v' := by
  obtain ⟨i0, hi, hz0, hz1, hz2⟩ := info_parts aeInfo57
  obtain ⟨v', w', hr, h2', h3', h4, _⟩ := append_old (P := Tryz.prog) (W.alloc (.cells #[x0] 95)) w0.heap.size 96 96 95 i0 _ 1 8 Tryz.underlying96 hi hz0 hz1 hz2 rfl (by decide) v k xs (h.alloc _) ⟨W.heap.size, 0, none⟩ 1 1 [x0] (by simp) (fun j u hj => by
    have hjl := (List.getElem?_eq_some_iff.1 hj).1
    rw [Addr.add_lit, Nat.zero_add, cell_block _ _ _ _ _ _ (heap_alloc_new W _)]
    simpa using hj) (fun u hu => by
      simp at hu
      subst hu; exact h0) (by unfold maxLen; omega) (by omega) (by have := hk.size; simp; omega)
  have hk1 : Kept (fun k => v.ownBlock = some k) W w' := ((Kept.refl _ W).alloc _).grown h3' (fun k hk => .inr hk)
  exact ⟨v', w', hr, h2', hk.step hk1 (fun i hi e => by have := (h.lt i e).1; omega), hk1, by simpa [NewB] using h4⟩
theorem aeInfo51 : (Tryz.prog.info? 75).map (fun i => (i.zero, i.size, i.bytes)) = some (some (.agg #[.int .i64 0, .int .i64 0]), 2, 16) := by kernel_rfl
theorem push_ins {w0 W : World} {v : Value} {k : Nat} {xs : List Value} (h : W.ownsRow w0.heap.size 75 2 v k xs) (x0 x1 : Value) (h0 : x0.oneCell' = true) (h1 : x1.oneCell' = true) (hk : Kept (fun _ => False) w0 W) (hl : k ≤ 90000) :
    ∃ v' w', (Builtin.append_ #[76, 76] 76 #[v, .slice (some ⟨W.heap.size, 0, none⟩) 1 1]).run Tryz.prog (W.alloc (.cells #[x0, x1] 75)) = .ok v' w' ∧ w'.ownsRow w0.heap.size 75 2 v' (k + 1) (xs ++ [x0, x1]) ∧ Kept (fun _ => False) w0 w' ∧ Kept (fun q => v.ownBlock = some q) W w' ∧ NewB W v v' := by
  obtain ⟨i0, hi, hz0, hz1, hz2⟩ := info_parts aeInfo51
  obtain ⟨v', w', hr, h2', h3', h4, _⟩ := append_old (P := Tryz.prog) (W.alloc (.cells #[x0, x1] 75)) w0.heap.size 76 76 75 i0 _ 2 16 Tryz.underlying76 hi hz0 hz1 hz2 rfl (by decide) v k xs (h.alloc _) ⟨W.heap.size, 0, none⟩ 1 1 [x0, x1] (by simp) (fun j u hj => by
    have hjl := (List.getElem?_eq_some_iff.1 hj).1
    rw [Addr.add_lit, Nat.zero_add, cell_block _ _ _ _ _ _ (heap_alloc_new W _)]
    simpa using hj) (fun u hu => by
      simp at hu
      rcases hu with rfl | rfl <;> assumption) (by unfold maxLen; omega) (by omega) (by have := hk.size; simp; omega)
  have hk1 : Kept (fun k => v.ownBlock = some k) W w' := ((Kept.refl _ W).alloc _).grown h3' (fun k hk => .inr hk)
  exact ⟨v', w', hr, h2', hk.step hk1 (fun i hi e => by have := (h.lt i e).1; omega), hk1, by simpa [NewB] using h4⟩
/-- A reader of which nothing is read yet. -/
structure RdA (w : World) (r gm : Nat) : Prop where
  box : w.heap[r]? = some (.cells #[.int .i64 0, .slice none 0 0, .slice none 0 0, .bool false, .map (some gm), .slice none 0 0, .slice none 0 0] 99 (0, 0))
  mp : ∃ clk, w.heap[gm]? = some (.map #[] clk)
theorem RdA.kept {S : Nat → Prop} {w w' : World} {r gm : Nat} (h : RdA w r gm) (hk : Kept S w w') (h1 : ¬ S r) (h2 : ¬ S gm) : RdA w' r gm := by
  obtain ⟨clk, hm⟩ := h.mp
  exact ⟨box_kept hk h.box h1, clk, box_kept hk hm h2⟩
theorem look7 {w : World} {g : Nat} {t : TypeId} {a0 a1 a2 a3 a4 a5 a6 : Value} (h : w.heap[g]? = some (.cells #[a0, a1, a2, a3, a4, a5, a6] t (0, 0))) : w.cell? ⟨g, 0, none⟩ = some a0 ∧ w.cell? ⟨g, 1, none⟩ = some a1 ∧ w.cell? ⟨g, 2, none⟩ = some a2 ∧ w.cell? ⟨g, 3, none⟩ = some a3 ∧ w.cell? ⟨g, 4, none⟩ = some a4 ∧ w.cell? ⟨g, 5, none⟩ = some a5 ∧ w.cell? ⟨g, 6, none⟩ = some a6 ∧ w.frozen? ⟨g, 2, none⟩ = false ∧ w.frozen? ⟨g, 5, none⟩ = false :=
  ⟨cell_block _ _ 0 _ _ _ h, cell_block _ _ 1 _ _ _ h, cell_block _ _ 2 _ _ _ h, cell_block _ _ 3 _ _ _ h, cell_block _ _ 4 _ _ _ h, cell_block _ _ 5 _ _ _ h, cell_block _ _ 6 _ _ _ h, frozen_block _ _ 2 _ _ h, frozen_block _ _ 5 _ _ h⟩
/-- All else that lies there stays. -/
def Oth (w w' : World) : Prop := ∀ (q : Nat) (cs : Array Value) (t : TypeId), w.heap[q]? = some (.cells cs t (0, 0)) → t ≠ 99 → t ≠ 78 → w'.heap[q]? = some (.cells cs t (0, 0))
theorem Oth.trans {a b c : World} (h : Oth a b) (k : Oth b c) : Oth a c := fun q cs t hq h1 h2 => k q cs t (h q cs t hq h1 h2) h1 h2
theorem Kept.oth {w w' : World} (h : Kept (fun _ => False) w w') : Oth w w' := fun q cs t hq _ _ => box_kept h hq (fun f => f)
theorem Kept.othS {S : Nat → Prop} {w w' : World} (h : Kept S w w') (hS : ∀ q, S q → ∀ (cs : Array Value) (t : TypeId), w.heap[q]? = some (.cells cs t (0, 0)) → t = 99 ∨ t = 78) : Oth w w' := fun q cs t hq h1 h2 => box_kept h hq (fun e => by rcases hS q e cs t hq with h | h; exact h1 h; exact h2 h)
/-- A reader with one function in it, its code cv. -/
structure RdB (w0 w : World) (r : Nat) (a b d : Int) (cv : Value) : Prop where
  ex : ∃ fv lv mv, w.heap[r]? = some (.cells #[.int .i64 0, .slice none 0 0, fv, .bool false, mv, lv, .slice none 0 0] 99 (0, 0)) ∧ w.ownsRow w0.heap.size 78 4 fv 1 [.int .i64 a, .int .i64 b, .int .i64 d, cv]
  kept : Kept (fun _ => False) w0 w
  lo : w0.heap.size ≤ r
set_option maxHeartbeats 16000000 in
theorem function_new (r gm g o c : Nat) (tx t1 t2 t3 : ByteArray) (n0 a b d : Int) (w0 w : World) (hR : RdA w r gm) (hP : PsAt w g o [⟨0, tx, n0⟩, ⟨1, t1, a⟩, ⟨1, t2, b⟩, ⟨1, t3, d⟩]) (hk0 : Kept (fun _ => False) w0 w) (hr : w0.heap.size ≤ r) (hm : w0.heap.size ≤ gm) (hgr : g ≠ r) (hgm : g ≠ gm) :
    Calls Tryz.prog 57 #[.pointer (some ⟨r, 0, none⟩), .slice (some ⟨g, o, none⟩) 4 c] w fun e w' => e = .returned (.int .i64 0) ∧ RdB w0 w' r a b d (.slice none 0 0) ∧ Oth w w' := by
  have hka : Kept (fun _ => False) w (w.alloc (.cells #[.int .i64 0, .int .i64 1, .int .i64 1, .int .i64 1] 3)) := (Kept.refl _ _).alloc _
  have hba := heap_alloc_new w (.cells #[.int .i64 0, .int .i64 1, .int .i64 1, .int .i64 1] 3)
  have HF := hid_of (fits_any g o 4 c w.heap.size 4 4 _ [0, 1, 1, 1] (w.alloc (.cells #[.int .i64 0, .int .i64 1, .int .i64 1, .int .i64 1] 3)) (hP.kept hka (fun f => f)) (fun i x hx => by
    rw [cell_block _ _ i _ _ _ hba]
    rcases i with _ | _ | _ | _ | i <;> simp at hx ⊢ <;> exact hx) rfl rfl (by omega) (by omega))
  rw [show decide (([⟨0, tx, n0⟩, ⟨1, t1, a⟩, ⟨1, t2, b⟩, ⟨1, t3, d⟩] : List Pc).map Pc.k = [0, 1, 1, 1]) = true from rfl] at HF
  have HKA := hid_of (hk0.trans hka)
  have HOA := hid_of hka
  have HRA := hid_of (hR.kept hka (fun f => f) (fun f => f))
  have HPA := hid_of (hP.kept hka (fun f => f))
  have HLO : Hid (w0.heap.size ≤ r ∧ w0.heap.size ≤ gm ∧ g ≠ r ∧ g ≠ gm) := ⟨hr, hm, hgr, hgm⟩
  clear hka hba hR hP hk0 hr hm hgr hgm
  go_enter Tryz.func57, Tryz.ntmps57
  go_wp2_with fail
  refine HF.out.mono ?_
  rintro e w2 ⟨rfl, hk2⟩
  have HK2 := hid_of (HKA.out.trans hk2)
  have HO2 := hid_of (HOA.out.trans hk2)
  have HR2 := hid_of (HRA.out.kept hk2 (fun f => f) (fun f => f))
  have HP2 := hid_of (HPA.out.kept hk2 (fun f => f))
  have HFA := hid_of (far_any g o 4 c _ w2 HP2.out rfl (by omega))
  clear hk2 HF HKA HRA HPA
  go_wp2_with fail
  refine HFA.out.mono ?_
  rintro e w3 ⟨rfl, hk3⟩
  have HK3 := hid_of (HK2.out.trans hk3)
  have HO3 := hid_of (HO2.out.trans hk3)
  have HR3 := hid_of (HR2.out.kept hk3 (fun f => f) (fun f => f))
  have HP3 := hid_of (HP2.out.kept hk3 (fun f => f))
  clear hk3 HFA HK2 HR2 HP2
  go_upto_region 5 with fail
  have hKwd : Kept (fun _ => False) w3 w3.drew := (Kept.refl _ _).drew
  have HNM : Hid (r ≠ gm) := fun e => by
    obtain ⟨clk, h1⟩ := HR3.out.mp
    rw [← e, HR3.out.box] at h1
    cases h1
  have HSM : Hid (∀ w', Kept (fun q => q = gm) w3 w' → w'.cell? ⟨r, 4, none⟩ = some (.map (some gm)) ∧ w'.cell? ⟨g, o + 1, none⟩ = some (.string tx) ∧ w'.cell? ⟨r, 2, none⟩ = some (.slice none 0 0)) := fun w' hw =>
    ⟨hw.cell (cell_block _ _ 4 _ _ _ HR3.out.box) HNM.out, hw.cell (HP3.out 0 _ rfl 1 _ rfl) HLO.out.2.2.2, hw.cell (cell_block _ _ 2 _ _ _ HR3.out.box) HNM.out⟩
  refine wp_region_held_drew (S := fun w' => Kept (fun q => q = gm) w3 w') (by kernel_rfl) ((Kept.refl _ _).drew) (fun hHeld => ?_)
  generalize w3.drew = wd at *
  have HN : Hid (Calls Tryz.prog 88 #[.map (some gm), .string tx, .int .i64 0] wd fun e w' => e = .returned (.bool true) ∧ Kept (fun q => q = gm) wd w') := by
    obtain ⟨clk, h1⟩ := HR3.out.mp
    exact name_new gm clk tx 0 wd (box_kept hKwd h1 (fun f => f))
  iterate 14
    refine tkn (v := ?_) 0 rfl ?_ ?_; rotate_left 1
    · intro w hSw; obtain ⟨s0, s1, s2⟩ := HSM.out w hSw; go_simp; try with_reducible rfl
    try simp only [Act.put, tdy]
  refine wpAnyH_ready (rs := [14]) (by kernel_rfl) (by simp) ?_
  refine AllReadyH.cons rfl (fun K hK => ?_) AllReadyH.nil
  go_simp
  refine HN.out.mono ?_
  rintro e w4 ⟨rfl, hk4⟩
  refine hK.out _ _ ((hKwd.mono (T := fun q => q = gm) (fun _ _ f => f.elim)).trans hk4) (fun hHeld => ?_)
  clear hK K
  try simp only [Act.put, tdy]
  iterate 1
    refine tkn (v := ?_) 15 rfl ?_ ?_; rotate_left 1
    · intro w hSw; go_simp; try with_reducible rfl
    try simp only [Act.put, tdy]
  refine wpAnyH_ready (rs := [16]) (by kernel_rfl) (by simp) ?_
  refine AllReadyH.cons rfl (fun K hK => ?_) AllReadyH.nil
  go_simp
  refine hK.out _ _ hHeld (fun hHeld => ?_)
  clear hK K
  try simp only [Act.put, tdy]
  refine wpAnyH_done (by kernel_rfl) ?_ _
  have HK4 : Hid (Kept (fun _ => False) w0 w4) := (HK3.out.trans hKwd).step hk4 (fun i hi e => by have := HLO.out.2.1; omega)
  have HO4 := hid_of ((HO3.out.trans hKwd).oth.trans (hk4.othS (fun q e cs t hq => by
    obtain ⟨clk, h1⟩ := HR3.out.mp
    have h2 := box_kept hKwd h1 (fun f => f)
    rw [e, h2] at hq
    cases hq)))
  have HB4 := hid_of (box_kept hk4 (box_kept hKwd HR3.out.box (fun f => f)) HNM.out)
  have HP4 := hid_of ((HP3.out.kept hKwd (fun f => f)).kept hk4 HLO.out.2.2.2)
  have HGR := hid_of HLO.out.2.2.1
  have HRL := hid_of HLO.out.1
  clear hHeld hKwd hk4 HN HSM HNM HR3 HP3 HK3 HLO
  go_upto_region 7 with fail
  have hKwd : Kept (fun _ => False) w4 w4.drew := (Kept.refl _ _).drew
  have HSM : Hid (∀ w', Kept (fun q => q = r) w4 w' → w'.cell? ⟨g, o + 6, none⟩ = some (.int .i64 a) ∧ w'.cell? ⟨g, o + 10, none⟩ = some (.int .i64 b) ∧ w'.cell? ⟨g, o + 14, none⟩ = some (.int .i64 d)) := fun w' hw =>
    ⟨hw.cell (HP4.out 1 _ rfl 2 _ rfl) HGR.out, hw.cell (HP4.out 2 _ rfl 2 _ rfl) HGR.out, hw.cell (HP4.out 3 _ rfl 2 _ rfl) HGR.out⟩
  refine wp_region_held_drew (S := fun w' => Kept (fun q => q = r) w4 w') (by kernel_rfl) ((Kept.refl _ _).drew) (fun hHeld => ?_)
  generalize w4.drew = wd at *
  obtain ⟨v', w5, hr5, ho, hk0, hk1, hn⟩ := push_func (World.ownsRow_nil wd w0.heap.size 78 4) (.int .i64 a) (.int .i64 b) (.int .i64 d) (.slice none 0 0) rfl rfl rfl rfl (HK4.out.trans hKwd) (by omega)
  have hk1' : Kept (fun _ => False) wd w5 := hk1.mono (fun q _ e => by cases e)
  have hbd := box_kept hKwd HB4.out (fun f => f)
  have l0 := cell_block _ _ 2 _ _ _ hbd
  have hb5 := box_kept hk1' hbd (fun f => f)
  have HKS5 := hid_of ((hKwd.trans hk1').mono (T := fun q => q = r) (fun _ _ f => f.elim))
  have hs := kept_set w5 r 2 v'
  have HKS6 := hid_of (HKS5.out.setCell (p := ⟨r, 2, none⟩) (.inr rfl) v')
  have HG1 := hid_of (And.intro (cell_block _ _ 2 _ _ _ hb5) (frozen_block _ _ 2 _ _ hb5))
  have HB6 := hid_of (set_block _ _ 2 _ _ _ hb5 v')
  have HP6 := hid_of (hs.ownsRow ho (fun q hq e => own_box2 ho hb5 (by decide) (by rw [hq, e])))
  have HK6 := hid_of (hk0.setCell (p := ⟨r, 2, none⟩) (.inl HRL.out) v')
  have HO6 := hid_of (HO4.out.trans ((hKwd.trans hk1').oth.trans (hs.othS (fun q e cs t hq => by rw [e, hb5] at hq; cases hq; exact .inl rfl))))
  obtain ⟨a2, c2, hv2⟩ := ownsRow_shape ho
  obtain ⟨n2, hn2⟩ : ∃ n, n = 0 + 1 := ⟨_, rfl⟩
  rw [← hn2] at hv2
  subst hv2
  have HR := hid_of hr5
  clear hr5 ho hk0 hk1 hk1' hn hbd hb5 hs hn2
  iterate 5
    refine tkn (v := ?_) 0 rfl ?_ ?_; rotate_left 1
    · intro w hSw; go_simp; try with_reducible rfl
    try simp only [Act.put, tdy]
  iterate 13
    refine tkn (v := ?_) 6 rfl ?_ ?_; rotate_left 1
    · intro w hSw; obtain ⟨s0, s1, s2⟩ := HSM.out w hSw; go_simp; try with_reducible rfl
    try simp only [Act.put, tdy]
  refine (fun (hfin : ?G) => ?main) ?fin
  case main =>
    refine wpAnyH_ready (rs := [5, 19]) (by kernel_rfl) (by simp) ?_
    refine AllReadyH.cons rfl (fun K hK => ?_) (AllReadyH.cons rfl (fun K hK => ?_) AllReadyH.nil)
    · have l1 := l0
      go_simp
      refine hK.out _ _ hHeld (fun hHeld => ?_)
      clear hK K
      try simp only [Act.put, tdy]
      clear l1
      refine wpAnyH_ready (rs := [19]) (by kernel_rfl) (by simp) ?_
      refine AllReadyH.cons rfl (fun K hK => ?_) AllReadyH.nil
      go_simp
      refine hK.out _ _ (hHeld.alloc _) (fun hHeld => ?_)
      clear hK K
      try simp only [Act.put, tdy]
      refine wpAnyH_ready (rs := [20]) (by kernel_rfl) (by simp) ?_
      refine AllReadyH.cons rfl (fun K hK => ?_) AllReadyH.nil
      refine step_app rfl (.tmp 35) (.tmp 49) 24 24 rfl _ _ rfl rfl (.slice a2 n2 c2) w5 HR.out ?_
      refine hK.out _ _ HKS5.out (fun hHeld => ?_)
      clear hK K
      try simp only [Act.put, tdy]
      iterate 3
        refine tkn (v := ?_) 21 rfl ?_ ?_; rotate_left 1
        · intro w hSw; go_simp; try with_reducible rfl
        try simp only [Act.put, tdy]
      obtain ⟨g1, gf1⟩ := HG1.out
      refine wpAnyH_ready (rs := [24]) (by kernel_rfl) (by simp) ?_
      refine AllReadyH.cons rfl (fun K hK => ?_) AllReadyH.nil
      go_simp
      refine hK.out _ _ HKS6.out (fun hHeld => ?_)
      clear hK K
      try simp only [Act.put, tdy]
      refine wpAnyH_done (by kernel_rfl) ?_ _
      exact hfin
    · go_simp
      refine hK.out _ _ (hHeld.alloc _) (fun hHeld => ?_)
      clear hK K
      try simp only [Act.put, tdy]
      have l1 : (wd.alloc (.cells #[.int .i64 a, .int .i64 b, .int .i64 d, .slice none 0 0] 78)).cell? ⟨r, 2, none⟩ = some (.slice none 0 0) := ((Kept.refl (fun _ => False) wd).alloc _).cell l0 (fun f => f)
      refine wpAnyH_ready (rs := [5]) (by kernel_rfl) (by simp) ?_
      refine AllReadyH.cons rfl (fun K hK => ?_) AllReadyH.nil
      go_simp
      refine hK.out _ _ hHeld (fun hHeld => ?_)
      clear hK K
      try simp only [Act.put, tdy]
      clear l1
      refine wpAnyH_ready (rs := [20]) (by kernel_rfl) (by simp) ?_
      refine AllReadyH.cons rfl (fun K hK => ?_) AllReadyH.nil
      refine step_app rfl (.tmp 35) (.tmp 49) 24 24 rfl _ _ rfl rfl (.slice a2 n2 c2) w5 HR.out ?_
      refine hK.out _ _ HKS5.out (fun hHeld => ?_)
      clear hK K
      try simp only [Act.put, tdy]
      iterate 3
        refine tkn (v := ?_) 21 rfl ?_ ?_; rotate_left 1
        · intro w hSw; go_simp; try with_reducible rfl
        try simp only [Act.put, tdy]
      obtain ⟨g1, gf1⟩ := HG1.out
      refine wpAnyH_ready (rs := [24]) (by kernel_rfl) (by simp) ?_
      refine AllReadyH.cons rfl (fun K hK => ?_) AllReadyH.nil
      go_simp
      refine hK.out _ _ HKS6.out (fun hHeld => ?_)
      clear hK K
      try simp only [Act.put, tdy]
      refine wpAnyH_done (by kernel_rfl) ?_ _
      exact hfin
  clear l0 HSM HKS5 HKS6 HG1 HR hKwd hHeld HB4 HK4 HP4
  generalize w5.setCell ⟨r, 2, none⟩ (.slice a2 n2 c2) = w6 at *
  have hmm := @run_makeMap Tryz.prog
  have hka : Kept (fun _ => False) w6 (w6.alloc (.map #[] 0)) := (Kept.refl _ _).alloc _
  obtain ⟨v', w7, hr7, ho7, hk07, hk17, hn7⟩ := push_map (World.ownsRow_nil (w6.alloc (.map #[] 0)) w0.heap.size 95 1) (.map (some w6.heap.size)) rfl (HK6.out.trans hka) (by omega)
  have hk17' : Kept (fun _ => False) (w6.alloc (.map #[] 0)) w7 := hk17.mono (fun q _ e => by cases e)
  have hb7 := box_kept (hka.trans hk17') HB6.out (fun f => f)
  have hp7 := (hka.trans hk17').ownsRow HP6.out (fun _ _ f => f)
  have hs := kept_set w7 r 5 v'
  have H : Hid (RdB w0 (w7.setCell ⟨r, 5, none⟩ v') r a b d (.slice none 0 0)) :=
    ⟨⟨_, _, _, set_block _ _ 5 _ _ _ hb7 v', hs.ownsRow hp7 (fun q hq e => own_box2 hp7 hb7 (by decide) (by rw [hq, e]))⟩, hk07.setCell (.inl HRL.out) _, HRL.out⟩
  have HO8 := hid_of (HO6.out.trans ((hka.trans hk17').oth.trans (hs.othS (fun q e cs t hq => by rw [e, hb7] at hq; cases hq; exact .inl rfl))))
  have q0 := cell_block _ _ 5 _ _ _ HB6.out
  have q1 := cell_block _ _ 5 _ _ _ hb7
  have q2 := frozen_block _ _ 5 _ _ hb7
  obtain ⟨a3, c3, hv3⟩ := ownsRow_shape ho7
  obtain ⟨n3, hn3⟩ : ∃ n, n = 0 + 1 := ⟨_, rfl⟩
  rw [← hn3] at hv3
  subst hv3
  rw [show (w6.alloc (.map #[] 0)).heap.size = w6.heap.size + 1 by simp] at hr7
  have HR7 := hid_of hr7
  clear hka hr7 ho7 hk07 hk17 hk17' hn7 hb7 hp7 hs hn3 HB6 HP6 HK6
  go_wp2_with (at_builtin; refine wp_app2 rfl (.tmp 58) (.tmp 60) 96 96 rfl _ _ rfl rfl _ w7 HR7.out ?_)
  go_ret
  exact ⟨rfl, H.out, HO8.out⟩
end Go.Proofs.YtgoabnehdmdikaaGreatDoor
