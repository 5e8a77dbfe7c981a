/-
  Files of no tree.
-/
import Derived.Test.YtmkfjdfpcjkmnaaVr
namespace Go.Proofs.Ytmkfjdfpcjkmnaa
open Go.RowKit
set_option linter.unusedVariables false
set_option linter.unusedSimpArgs false
set_option maxRecDepth 100000

def cI : Cod By Int := ⟨strB, .int .i64⟩
theorem fitsI : cI.Fits Try.prog 110 (.int .i64 0) :=
  ⟨⟨9, 3, _, Try.underlying110, Try.underlying9, fun a b => by show some (_ == _) = _; rw [strB_eq], fun a b n w => check9 w b n _, fun w => by kernel_rfl⟩, fun a => bits9 _⟩
theorem kept_new {w w' : World} {r : Nat} {o : Obj} (h : Kept (fun _ => False) w w') (hr : w.heap.size ≤ r) : Kept (fun _ => False) w (World.over w' r o) := h.step (kept_over w' r o) (fun i hi e => by omega)
set_option maxHeartbeats 2000000 in
theorem check_nil (w : World) : Calls Try.prog 27 #[.slice none 0 0] w fun e w' => e = .returned (.int .i64 0) ∧ Kept (fun _ => False) w w' := by
  have hb : (w.alloc (.map #[] 0)).heap[w.heap.size]? = some (.map (([] : List (Me By Int)).map cI.ent).toArray 0) := alloc_new _ _ rfl
  obtain ⟨c', hup⟩ := run_lay fitsI (w.alloc (.map #[] 0)) w.heap.size 0 [] hb [] 0
  have hk0 : Kept (fun _ => False) w (w.alloc (.map #[] 0)) := (Kept.refl _ w).alloc _
  obtain ⟨w1, hw1⟩ : ∃ W, W = World.over (w.alloc (.map #[] 0)) w.heap.size (.map ((lays ([] : List (Me By Int)) [] 0 0).map cI.ent).toArray c') := ⟨_, rfl⟩
  rw [← hw1, show cI.enc [] = .string ⟨#[]⟩ from rfl, show cI.val 0 = .int .i64 0 from rfl] at hup
  have HK1 : Hid (Kept (fun _ => False) w w1) := by
    show Kept _ _ _
    rw [hw1]
    exact kept_new hk0 (Nat.le_refl _)
  have hmm := @run_makeMap Try.prog
  clear hb hk0 hw1
  go_enter Try.func27, Try.ntmps27
  go_wp2
  go_loopw [21] (fun i wr => i = .int .i64 0 ∧ wr = w1) (fun _ _ => 0)
  case atStart => exact ⟨rfl, rfl⟩
  case round =>
    obtain ⟨rfl, rfl⟩ := hrel
    clear hup hmm
    go_wp2
    exact bodyPost_ret (v := .int .i64 0) (by simp [results, Try.results27, go_sem]) rfl ⟨rfl, HK1.out⟩
def NewR (w : World) (qb qf qo : Int) (e : Ending) (w' : World) : Prop :=
  ∃ s fm dm hm, e = .returned (.tuple #[.pointer (some ⟨s, 0, none⟩), .int .i64 0]) ∧ Fs w' s ⟨qb, qf, qo, 0, 0, 0, fm, dm, hm, [], [], []⟩ ∧ w.heap.size ≤ s ∧ w.heap.size ≤ fm ∧ w.heap.size ≤ dm ∧ w.heap.size ≤ hm ∧ Kept (fun _ => False) w w'
set_option maxHeartbeats 4000000 in
theorem new_nil (qb qf qo : Int) (h1 : 0 ≤ qb) (h2 : qb ≤ 67108864) (h3 : 0 ≤ qf) (h4 : qf ≤ 65535) (h5 : qo ≤ 64) (w : World) :
    Calls Try.prog 8 #[.slice none 0 0, .agg #[.int .i64 qb, .int .i64 qf, .int .i64 qo]] w fun e w' => NewR w qb qf qo e w' := by
  have HC := hid_of check_nil
  have HK0 : Hid (Kept (fun _ => False) w (w.alloc (.cells #[.int .i64 qb, .int .i64 qf, .int .i64 qo] 24))) := (Kept.refl _ w).alloc _
  have HB0 : Hid ((w.alloc (.cells #[.int .i64 qb, .int .i64 qf, .int .i64 qo] 24)).heap[w.heap.size]? = some (.cells #[.int .i64 qb, .int .i64 qf, .int .i64 qo] 24 (0, 0))) := alloc_new _ _ rfl
  have hmm := @run_makeMap Try.prog
  have n1 : ¬ qb < 0 := by omega
  have n2 : ¬ qf < 0 := by omega
  have n3 : ¬ 67108864 < qb := by omega
  have n4 : ¬ 65535 < qf := by omega
  have n5 : ¬ 64 < qo := by omega
  have m1 : min qb 67108864 = qb := by omega
  have m2 : min qf 65535 = qf := by omega
  have m3 : min qo 64 = qo := by omega
  go_enter Try.func8, Try.ntmps8
  go_wp2_with fail
  refine (HC.out _).mono ?_
  rintro e w1 ⟨rfl, hk1⟩
  have HK1 := hid_of (HK0.out.trans hk1)
  have hb1 : w1.heap[w.heap.size]? = some (.cells #[.int .i64 qb, .int .i64 qf, .int .i64 qo] 24 (0, 0)) := (hk1.block _ (heap_lt HB0.out) (fun f => f)).trans HB0.out
  have c0 : w1.cell? ⟨w.heap.size, 0, none⟩ = some (.int .i64 qb) := (cell_block _ _ 0 _ _ _ hb1).trans rfl
  have c1 : w1.cell? ⟨w.heap.size, 1, none⟩ = some (.int .i64 qf) := (cell_block _ _ 1 _ _ _ hb1).trans rfl
  have c2 : w1.cell? ⟨w.heap.size, 2, none⟩ = some (.int .i64 qo) := (cell_block _ _ 2 _ _ _ hb1).trans rfl
  clear hk1 hb1 HC
  go_wp2
  go_loopw [7, 20] (fun z i wr => z = .int .i64 0 ∧ i = .int .i64 0 ∧ wr = w1) (fun _ _ _ => 0)
  case atStart => exact ⟨rfl, rfl, rfl⟩
  case round =>
    obtain ⟨rfl, rfl, hwr⟩ := hrel
    have hwr' := hwr.symm
    subst hwr'
    have HW2 : Hid (NewR w qb qf qo (.returned (.tuple #[.pointer (some ⟨w1.heap.size + 1 + 1 + 1, 0, none⟩), .int .i64 0])) ((((w1.alloc (.map #[] 0)).alloc (.map #[] 0)).alloc (.map #[] 0)).alloc (.cells #[.int .i64 qb, .int .i64 qf, .int .i64 qo, .int .i64 0, .int .i64 0, .int .i64 0, .map (some w1.heap.size), .map (some (w1.heap.size + 1)), .map (some (w1.heap.size + 1 + 1))] 76))) := by
      have hs := HK1.out.size
      refine ⟨_, w1.heap.size, w1.heap.size + 1, w1.heap.size + 1 + 1, rfl, ⟨alloc_new _ _ (by simp), ⟨0, alloc_old (alloc_old (alloc_old (alloc_new _ _ rfl)))⟩, ⟨0, alloc_old (alloc_old (alloc_new _ _ (by simp)))⟩, ⟨0, alloc_old (alloc_new _ _ (by simp))⟩, ⟨show w1.heap.size ≠ w1.heap.size + 1 by omega, show w1.heap.size ≠ w1.heap.size + 1 + 1 by omega, show w1.heap.size + 1 ≠ w1.heap.size + 1 + 1 by omega⟩, fun e he => (by cases he), fun e he => (by cases he), List.nodup_nil, List.nodup_nil, List.nodup_nil, List.nodup_nil, List.nodup_nil⟩, by omega, by omega, by omega, by omega, ?_⟩
      exact HK1.out.trans (((((Kept.refl _ w1).alloc _).alloc _).alloc _).alloc _)
    clear hwr
    go_wp2
    generalize (((w1.alloc (.map #[] 0)).alloc (.map #[] 0)).alloc (.map #[] 0)).alloc (.cells #[.int .i64 qb, .int .i64 qf, .int .i64 qo, .int .i64 0, .int .i64 0, .int .i64 0, .map (some w1.heap.size), .map (some (w1.heap.size + 1)), .map (some (w1.heap.size + 1 + 1))] 76) = w2 at *
    go_loopw [56] (fun i wr => i = .int .i64 0 ∧ wr = w2) (fun _ _ => 0)
    case atStart => exact ⟨rfl, rfl⟩
    case round =>
      obtain ⟨rfl, hwr⟩ := hrel
      have hwr' := hwr.symm
      subst hwr'
      clear hwr
      go_wp2
      exact bodyPost_ret (v := .tuple #[.pointer (some ⟨w1.heap.size + 1 + 1 + 1, 0, none⟩), .int .i64 0]) (by simp [results, Try.results8, go_sem]) rfl HW2.out
end Go.Proofs.Ytmkfjdfpcjkmnaa
