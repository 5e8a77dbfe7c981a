/-
  What a laying does to a Store, step by step.
-/
import Derived.Test.YtjdbmjkidljhpaaDoorCwhole
import Derived.WalkSpells
namespace Go.Proofs.YtjdbmjkidljhpaaDoor
open Go.RowKit
set_option linter.unusedVariables false
set_option linter.unusedSimpArgs false
set_option maxRecDepth 100000

theorem lays_mem : ∀ (es : List En) (e x : En), x ∈ lays es e → x ∈ es ∨ ∃ b, x = { e with born := b }
  | [], e, x, h => by
    rw [lays, List.mem_singleton] at h
    exact .inr ⟨e.born, by rw [h]⟩
  | y :: es, e, x, h => by
    rw [lays] at h
    split at h
    · rcases List.mem_cons.1 h with h | h
      · exact .inr ⟨y.born, h⟩
      · exact .inl (List.mem_cons_of_mem _ h)
    · rcases List.mem_cons.1 h with h | h
      · exact .inl (by rw [h]; exact List.mem_cons_self ..)
      · rcases lays_mem es e x h with h | h
        · exact .inl (List.mem_cons_of_mem _ h)
        · exact .inr h

/-- The Store's first map. -/
theorem Stor.newmap {W : World} {s : Nat} {σ : Sg} (h : Stor W s (.map none) σ) :
    Stor ((W.setCell ⟨s, 2, none⟩ (.map (some W.heap.size))).alloc (.map #[] 0)) s (.map (some W.heap.size)) σ ∧ Kept (fun k => k = s) W ((W.setCell ⟨s, 2, none⟩ (.map (some W.heap.size))).alloc (.map #[] 0)) := by
  have he : σ.es = [] := by
    rcases h.map with ⟨_, h1⟩ | ⟨r, c, h1, _⟩
    · exact h1
    · cases h1
  have hk : Kept (fun k => k = s) W ((W.setCell ⟨s, 2, none⟩ (.map (some W.heap.size))).alloc (.map #[] 0)) := (kept_set W ⟨s, 2, none⟩ _).alloc _
  have hlt := h.lt
  have hsz : (W.setCell ⟨s, 2, none⟩ (.map (some W.heap.size))).heap.size = W.heap.size := by simp [World.setCell]
  refine ⟨⟨alloc_old (by rw [set_block _ _ _ _ _ _ h.blk]; rfl), .inr ⟨W.heap.size, 0, rfl, ?_, by omega, by rw [he]; exact ⟨fun b hb => (by cases hb), List.nodup_nil, List.nodup_nil⟩⟩, fun e hh => (by rw [he] at hh; cases hh), fun e hh => (by rw [he] at hh; cases hh)⟩, hk⟩
  rw [he]
  exact alloc_new _ _ hsz.symm

/-- An entry more. -/
theorem Stor.entry {W : World} {s r clock clock' : Nat} {σ : Sg} {e : En} (h : Stor W s (.map (some r)) σ) (hb : W.heap[r]? = some (.map (σ.es.map En.ent).toArray clock)) (hrs : r ≠ s ∧ Stampd clock σ.es) (hk : e.k.length = 32 ∧ ∀ x ∈ e.k, 0 ≤ x ∧ x < 256)
    (hx : BIn W e.bv e.xs) (hxr : ∀ x ∈ e.xs, 0 ≤ x ∧ x < 256) (hxl : e.xs.length ≤ 1048576) (hxs : ∀ g, e.bv.ownBlock = some g → g ≠ s) (hcl : Ticks clock clock' σ.es e.k) (hbn : e.born = clock) :
    Stor (World.over W r (.map ((lays σ.es e).map En.ent).toArray clock')) s (.map (some r)) { σ with es := lays σ.es e } := by
  have hkp := kept_over W r (.map ((lays σ.es e).map En.ent).toArray clock')
  refine ⟨(hkp.block s h.lt (fun e => hrs.1 e.symm)).trans h.blk, .inr ⟨r, clock', rfl, over_same W r _ (heap_lt hb), hrs.1, lays_stampd hrs.2 hcl hbn⟩, fun x hxm => ?_, fun x hxm => ?_⟩
  · rcases lays_mem _ _ _ hxm with h1 | ⟨b, rfl⟩
    · exact h.key x h1
    · exact hk
  · rcases lays_mem _ _ _ hxm with h1 | ⟨b, rfl⟩
    · obtain ⟨a1, a2, a3, a4⟩ := h.blob x h1
      exact ⟨a1.kept2 hkp (fun hx g hg e => by subst e; exact not_map a1 hx hb hg), a2, a3, a4⟩
    · exact ⟨hx.kept2 hkp (fun hx0 g hg e => by subst e; exact not_map hx hx0 hb hg), hxr, hxl, fun _ => hxs⟩

theorem eqMap (w : World) (r : Option Nat) : (binOp .eql 59 (.map r) (.map none)).run Tryd.prog w = .ok (.bool r.isNone) w := run_eql_map_nil w 59 28 65 r Tryd.underlying59

/-- What is used behind a laying. -/
def usedOf (σ : Sg) (d xs : List Int) : Int := σ.us + ((xs.length : Int) + 32) - (match look σ.es d with | some e => (e.xs.length : Int) + 32 | none => 0)
/-- The Store behind a laying. -/
def LayOk (B : Nat) (σ σ' : Sg) (d xs : List Int) : Prop := ∃ bv born, (∀ g, bv.ownBlock = some g → B ≤ g) ∧ σ' = { σ with us := usedOf σ d xs, sp := σ.sp + 1, es := lays σ.es ⟨d, bv, xs, σ.sp + 1, born⟩ }
end Go.Proofs.YtjdbmjkidljhpaaDoor
