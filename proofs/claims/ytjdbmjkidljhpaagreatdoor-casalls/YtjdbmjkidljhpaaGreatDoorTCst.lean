/-
 A Store in memory; its small calls.
-/
import Derived.Test.YtjdbmjkidljhpaaGreatDoorTMa
import Derived.Test.YtjdbmjkidljhpaaGreatDoorTMd
namespace Go.Proofs.YtjdbmjkidljhpaaGreatDoor
open Go.RowKit
set_option linter.unusedVariables false
set_option linter.unusedSimpArgs false
set_option maxRecDepth 100000
/-- What a Store holds. -/
structure Sg where
 wd : Int
 cp : Int
 us : Int
 sp : Int
 gt : Int
 pt : Int
 es : List En
def Sg.cells (σ : Sg) (mv : Value) : Array Value := #[.int .i64 σ.wd, .int .i64 σ.cp, mv, .int .i64 σ.us, .int .i64 σ.sp, .int .i64 σ.gt, .int .i64 σ.pt]
/-- A Store in memory: its block, its map. -/
structure Stor (w : World) (s : Nat) (mv : Value) (σ : Sg) : Prop where
 blk : w.heap[s]? = some (.cells (σ.cells mv) 65 (0, 0))
 map : (mv = .map none ∧ σ.es = []) ∨ ∃ r clock, mv = .map (some r) ∧ w.heap[r]? = some (.map (σ.es.map En.ent).toArray clock) ∧ r ≠ s ∧ Stampd clock σ.es
 key : ∀ e ∈ σ.es, e.k.length = 32 ∧ ∀ x ∈ e.k, 0 ≤ x ∧ x < 256
 blob : ∀ e ∈ σ.es, BIn w e.bv e.xs ∧ (∀ x ∈ e.xs, 0 ≤ x ∧ x < 256) ∧ e.xs.length ≤ 1048576 ∧ (e.xs ≠ [] → ∀ g, e.bv.ownBlock = some g → g ≠ s)
/-- The blocks that a call of a Store may turn. -/
def Own (s : Nat) (mv : Value) (k : Nat) : Prop := k = s ∨ mv = .map (some k)
theorem BIn.kept2 {S : Nat → Prop} {w w' : World} {v : Value} {xs : List Int} (h : BIn w v xs) (hk : Kept S w w') (hs : xs ≠ [] → ∀ g, v.ownBlock = some g → ¬ S g) : BIn w' v xs := by
 obtain ⟨ao, c, rfl, hc, h1⟩ := h
 refine ⟨ao, c, rfl, hc, ?_⟩
 rcases h1 with h1 | ⟨b, o, rfl, h1⟩
 ·exact .inl h1
 ·by_cases h0 : xs = []
  ·exact .inl h0
  ·exact .inr ⟨b, o, rfl, fun i hi => hk.cell (h1 i hi) (hs h0 b rfl)⟩
theorem BIn.lt {w : World} {v : Value} {xs : List Int} (h : BIn w v xs) (hx : xs ≠ []) : ∀ g, v.ownBlock = some g → ∃ i u, w.cell? ⟨g, i, none⟩ = some u := by
 obtain ⟨ao, c, rfl, hc, h1⟩ := h
 rcases h1 with h1 | ⟨b, o, rfl, h1⟩
 ·exact absurd h1 hx
 ·intro g hg
  cases hg
  have h0 : 0 < xs.length := List.length_pos_iff.2 hx
  exact ⟨o, _, h1 0 h0⟩
theorem cell_cells {w : World} {g i : Nat} {u : Value} (h : w.cell? ⟨g, i, none⟩ = some u) : ∃ c t f, w.heap[g]? = some (.cells c t f) := by
 unfold World.cell? at h
 cases hg : w.heap[g]? with
 | none => simp [hg] at h
 | some o =>
  cases o with
  | cells c t f => exact ⟨c, t, f, rfl⟩
  | _ => simp [hg] at h
theorem not_map {w : World} {v : Value} {xs : List Int} (h : BIn w v xs) (hx : xs ≠ []) {r : Nat} {es : Array MapEntry} {c : Nat} (hr : w.heap[r]? = some (.map es c)) : v.ownBlock ≠ some r := by
 intro hg
 obtain ⟨i, u, hu⟩ := h.lt hx r hg
 obtain ⟨c', t, f, h2⟩ := cell_cells hu
 rw [hr] at h2
 cases h2
theorem Stor.lt {w : World} {s : Nat} {mv : Value} {σ : Sg} (h : Stor w s mv σ) : s < w.heap.size := heap_lt h.blk
theorem Stor.kept {S : Nat → Prop} {w w' : World} {s : Nat} {mv : Value} {σ : Sg} (h : Stor w s mv σ) (hk : Kept S w w') (hs : ∀ k, k < w.heap.size → ¬ S k) : Stor w' s mv σ := by
 refine ⟨(hk.block s h.lt (hs s h.lt)).trans h.blk, ?_, h.key, fun e he => ?_⟩
 ·rcases h.map with h1 | ⟨r, c, h1, h2, h3⟩
  ·exact .inl h1
  ·exact .inr ⟨r, c, h1, (hk.block r (heap_lt h2) (hs r (heap_lt h2))).trans h2, h3⟩
 ·obtain ⟨a, b⟩ := h.blob e he
  refine ⟨a.kept2 hk (fun hx g hg => ?_), b⟩
  obtain ⟨i, u, hu⟩ := a.lt hx g hg
  obtain ⟨c, t, f, h2⟩ := cell_cells hu
  exact hs g (heap_lt h2)
theorem Stor.cell {w : World} {s : Nat} {mv : Value} {σ : Sg} (h : Stor w s mv σ) (i : Nat) : w.cell? ⟨s, i, none⟩ = (σ.cells mv)[i]? := cell_block _ _ _ _ _ _ h.blk
theorem Stor.fz {w : World} {s : Nat} {mv : Value} {σ : Sg} (h : Stor w s mv σ) (i : Nat) : w.frozen? ⟨s, i, none⟩ = false := frozen_block _ _ _ _ _ h.blk
/-- A number of the Store is written over. -/
theorem Stor.set {w : World} {s : Nat} {mv : Value} {σ σ' : Sg} (h : Stor w s mv σ) (i : Nat) (u : Value) (hc : (σ.cells mv).setIfInBounds i u = σ'.cells mv) (he : σ'.es = σ.es) : Stor (w.setCell ⟨s, i, none⟩ u) s mv σ' ∧ Kept (fun k => k = s) w (w.setCell ⟨s, i, none⟩ u) := by
 have hk := kept_set w ⟨s, i, none⟩ u
 refine ⟨⟨by rw [set_block _ _ _ _ _ _ h.blk, hc], ?_, by rw [he]; exact h.key, fun e hee => ?_⟩, hk⟩
 ·rw [he]
  rcases h.map with h1 | ⟨r, c, h1, h2, h3⟩
  ·exact .inl h1
  ·exact .inr ⟨r, c, h1, (hk.block r (heap_lt h2) h3.1).trans h2, h3⟩
 ·rw [he] at hee
  obtain ⟨a, b, c, d⟩ := h.blob e hee
  exact ⟨a.kept2 hk (fun hx g hg => d hx g hg), b, c, d⟩
/-- What is looked up. -/
theorem Stor.found {w : World} {s : Nat} {mv : Value} {σ : Sg} (h : Stor w s mv σ) (d : List Int) (hd : d.length = 32) (c : Bool) :
  (Instr.lookup 63 mv (dv d) c).run Tryz.prog w = .ok (if c then .tuple #[lookV σ.es d, .bool (look σ.es d).isSome] else lookV σ.es d) w := by
 rcases h.map with ⟨rfl, h1⟩ | ⟨r, clock, rfl, h1, _⟩
 ·rw [run_look_none w d hd c, h1]
  rfl
 ·exact run_look w r clock σ.es h1 (fun e he => (h.key e he).1) d hd c
theorem look_mem : ∀ (es : List En) (d : List Int) (e : En), look es d = some e → e ∈ es ∧ e.k = d
 | [], _, _, h => by cases h
 | x :: es, d, e, h => by
  unfold look at h
  by_cases hk : d = x.k
  ·rw [if_pos hk] at h
   cases h
   exact ⟨List.mem_cons_self .., hk.symm⟩
  ·rw [if_neg hk] at h
   obtain ⟨a, b⟩ := look_mem es d e h
   exact ⟨List.mem_cons_of_mem _ a, b⟩
theorem may_any (n : Int) (w : World) : Calls Tryz.prog 31 #[.int .i64 n] w fun e w' => e = .returned (.bool (decide (0 ≤ n ∧ n ≤ 67108864))) ∧ w' = w := by
 by_cases h0 : 0 ≤ n
 ·by_cases h1 : n ≤ 67108864
  ·go_enter Tryz.func31, Tryz.ntmps31
   go_wp2
   go_ret
   exact ⟨by simp [h0, h1], rfl⟩
  ·go_enter Tryz.func31, Tryz.ntmps31
   go_wp2
   go_ret
   exact ⟨by simp [h0, h1], rfl⟩
 ·go_enter Tryz.func31, Tryz.ntmps31
  go_wp2
  go_ret
  exact ⟨by rw [decide_eq_false (by omega)]; rfl, rfl⟩
/-- An empty Store. -/
def Sg.new (wd cp : Int) : Sg := ⟨wd, cp, 0, 0, 0, 0, []⟩
theorem stor_new (w : World) (wd cp : Int) : Stor (w.alloc (.cells ((Sg.new wd cp).cells (.map none)) 65)) w.heap.size (.map none) (Sg.new wd cp) :=
 ⟨alloc_new w _ rfl, .inl ⟨rfl, rfl⟩, fun e he => (by cases he), fun e he => (by cases he)⟩
theorem new_store (wd cp : Int) (w : World) (h1 : 1 ≤ wd) (h2 : wd ≤ 32) (h3 : 0 ≤ cp) (h4 : cp ≤ 67108864) :
  Calls Tryz.prog 13 #[.int .i64 wd, .int .i64 cp] w fun e w' => e = .returned (.tuple #[.pointer (some ⟨w.heap.size, 0, none⟩), .int .i64 0]) ∧ w' = w.alloc (.cells ((Sg.new wd cp).cells (.map none)) 65) := by
 have HM := hid_of (may_any cp)
 have e0 : decide (0 ≤ cp ∧ cp ≤ 67108864) = true := by simp [h3, h4]
 rw [e0] at HM
 have l1 : ¬ wd < 1 := by omega
 have l2 : ¬ 32 < wd := by omega
 clear h3 h4 e0
 go_enter Tryz.func13, Tryz.ntmps13
 go_wp2_with fail
 refine (HM.out _).mono ?_
 rintro e w1 ⟨rfl, rfl⟩
 go_wp2
 exact bodyPost_ret (v := .tuple #[.pointer (some ⟨w1.heap.size, 0, none⟩), .int .i64 0]) (by simp [results, Tryz.results13, go_sem]) rfl ⟨rfl, rfl⟩
theorem width_any {w : World} {s : Nat} {mv : Value} {σ : Sg} (h : Stor w s mv σ) : Calls Tryz.prog 23 #[.pointer (some ⟨s, 0, none⟩)] w fun e w' => e = .returned (.int .i64 σ.wd) ∧ w' = w := by
 have c := h.cell 0
 have c' : w.cell? ⟨s, 0, none⟩ = some (.int .i64 σ.wd) := c
 clear c h
 go_enter Tryz.func23, Tryz.ntmps23
 go_wp2
 go_ret
 exact ⟨rfl, rfl⟩
theorem used_any {w : World} {s : Nat} {mv : Value} {σ : Sg} (h : Stor w s mv σ) : Calls Tryz.prog 20 #[.pointer (some ⟨s, 0, none⟩)] w fun e w' => e = .returned (.int .i64 σ.us) ∧ w' = w := by
 have c' : w.cell? ⟨s, 3, none⟩ = some (.int .i64 σ.us) := h.cell 3
 clear h
 go_enter Tryz.func20, Tryz.ntmps20
 go_wp2
 go_ret
 exact ⟨rfl, rfl⟩
theorem cap_any {w : World} {s : Nat} {mv : Value} {σ : Sg} (h : Stor w s mv σ) : Calls Tryz.prog 22 #[.pointer (some ⟨s, 0, none⟩)] w fun e w' => e = .returned (.int .i64 σ.cp) ∧ w' = w := by
 have c' : w.cell? ⟨s, 1, none⟩ = some (.int .i64 σ.cp) := h.cell 1
 clear h
 go_enter Tryz.func22, Tryz.ntmps22
 go_wp2
 go_ret
 exact ⟨rfl, rfl⟩
theorem cost_any (ao : Option Addr) (n c : Nat) (w : World) (hn : n ≤ 140737488355328) : Calls Tryz.prog 65 #[.slice ao n c] w fun e w' => e = .returned (.int .i64 ((n : Int) + 32)) ∧ w' = w := by
 have hw : IntKind.i64.wrap ((n : Int) + 32) = (n : Int) + 32 := by rw [IntKind.wrap_i64]; omega
 go_enter Tryz.func65, Tryz.ntmps65
 go_wp2
 go_ret
 exact ⟨rfl, rfl⟩
end Go.Proofs.YtjdbmjkidljhpaaGreatDoor
