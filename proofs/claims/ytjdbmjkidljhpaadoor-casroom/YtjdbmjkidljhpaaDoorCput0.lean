/-
  Store.Put, by contract.
-/
import Derived.Test.YtjdbmjkidljhpaaDoorClaym
namespace Go.Proofs.YtjdbmjkidljhpaaDoor
open Go.RowKit
set_option linter.unusedVariables false
set_option linter.unusedSimpArgs false
set_option maxRecDepth 100000

theorem lay_ok {w : World} {s : Nat} {mv : Value} {σ : Sg} (h : Stor w s mv σ) (d : List Int) (hd : d.length = 32) (hdr : ∀ x ∈ d, 0 ≤ x ∧ x < 256) (bv : Value) (xs : List Int) (hx : BIn w bv xs) (hxr : ∀ x ∈ xs, 0 ≤ x ∧ x < 256) (hn : xs.length ≤ 1048576) (hu : 0 ≤ σ.us) (hu2 : σ.us ≤ 1099511627776) (hsp : 0 ≤ σ.sp) (hsp2 : σ.sp ≤ 1099511627776) (hov : usedOf σ d xs ≤ σ.cp) (hxs : xs ≠ [] → ∀ g, bv.ownBlock = some g → g ≠ s) :
    Calls Tryd.prog 30 #[.pointer (some ⟨s, 0, none⟩), dv d, bv] w fun e w' => e = .returned (.int .i64 0) ∧ ∃ mv' σ', LayOk w.heap.size σ σ' d xs ∧ Stor w' s mv' σ' ∧ Kept (Own s mv) w w' ∧ (mv' = mv ∨ ∃ r, mv' = .map (some r) ∧ w.heap.size ≤ r) := by
  rcases h.map with ⟨h1, _⟩ | ⟨r, c, h1, _⟩
  · subst h1
    exact lay_first h d hd hdr bv xs hx hxr hn hu hu2 hsp hsp2 hov hxs
  · subst h1
    exact lay_more h d hd hdr bv xs hx hxr hn hu hu2 hsp hsp2 hov hxs

/-- A Put is counted. -/
def Sg.put1 (σ : Sg) : Sg := { σ with pt := σ.pt + 1 }
theorem zer32 : (zeros32.map (Value.int .u8)).toArray = #[.int .u8 0, .int .u8 0, .int .u8 0, .int .u8 0, .int .u8 0, .int .u8 0, .int .u8 0, .int .u8 0, .int .u8 0, .int .u8 0, .int .u8 0, .int .u8 0, .int .u8 0, .int .u8 0, .int .u8 0, .int .u8 0, .int .u8 0, .int .u8 0, .int .u8 0, .int .u8 0, .int .u8 0, .int .u8 0, .int .u8 0, .int .u8 0, .int .u8 0, .int .u8 0, .int .u8 0, .int .u8 0, .int .u8 0, .int .u8 0, .int .u8 0, .int .u8 0] := rfl
theorem sha_range (xs : List Int) : ∀ x ∈ sha xs, 0 ≤ x ∧ x < 256 := by
  intro x hx
  unfold sha dig at hx
  obtain ⟨i, _, rfl⟩ := List.mem_map.1 hx
  unfold dbyte
  omega
theorem front_range (k : Nat) (xs : List Int) (h2 : k ≤ 32) : ∀ x ∈ frontOf k xs, 0 ≤ x ∧ x < 256 := by
  intro x hx
  unfold frontOf cutL at hx
  rcases List.mem_append.1 hx with h | h
  · exact sha_range xs x (List.mem_of_mem_take h)
  · have := List.eq_of_mem_replicate h
    omega
/-- A row elsewhere is written over. -/
theorem Stor.setRow {w : World} {s : Nat} {mv : Value} {σ : Sg} (h : Stor w s mv σ) (g : Nat) (cs : Array Value) {old : Array Value} {t : TypeId} {f : Nat × Nat} (hg : w.heap[g]? = some (.cells old t f)) (hgs : g ≠ s ∧ ∀ e ∈ σ.es, e.xs ≠ [] → e.bv.ownBlock ≠ some g) : Stor (w.setRow g cs) s mv σ := by
  have hk : Kept (fun k => k = g) w (w.setRow g cs) := kept_row w g cs
  refine ⟨(hk.block s h.lt (fun e => hgs.1 e.symm)).trans h.blk, ?_, h.key, fun e he => ?_⟩
  · rcases h.map with h1 | ⟨r, c, h1, h2, h3⟩
    · exact .inl h1
    · exact .inr ⟨r, c, h1, (hk.block r (heap_lt h2) (fun e => by rw [e, hg] at h2; cases h2)).trans h2, h3⟩
  · obtain ⟨a, b⟩ := h.blob e he
    exact ⟨a.kept2 hk (fun hx g' hg' e' => hgs.2 e he hx (by rw [hg', e'])), b⟩

end Go.Proofs.YtjdbmjkidljhpaaDoor
