import Derived.Test.YtcaadgcfceommaaGreatTLc
namespace Go.Proofs.YtcaadgcfceommaaGreat
open Go.RowKit
set_option linter.unusedVariables false
set_option linter.unusedSimpArgs false
set_option maxRecDepth 100000
theorem set2 (w : World) (g : Nat) (t : TypeId) (a b x y : Value) (h : w.heap[g]? = some (.cells #[a, b] t (0, 0))) :
  ((w.setCell ⟨g, 0, none⟩ x).setCell ⟨g, 1, none⟩ y).heap[g]? = some (.cells #[x, y] t (0, 0)) ∧ Kept (fun k => k = g) w ((w.setCell ⟨g, 0, none⟩ x).setCell ⟨g, 1, none⟩ y) := by
 have h1 := set_block _ _ 0 _ _ _ h x
 have h2 := set_block _ _ 1 _ _ _ h1 y
 exact ⟨h2, (kept_set w g 0 x).trans (kept_set _ g 1 y)⟩
theorem look2 {w : World} {g : Nat} {t : TypeId} {a b : Value} (h : w.heap[g]? = some (.cells #[a, b] t (0, 0))) : w.cell? ⟨g, 0, none⟩ = some a ∧ w.cell? ⟨g, 1, none⟩ = some b ∧ w.frozen? ⟨g, 0, none⟩ = false ∧ w.frozen? ⟨g, 1, none⟩ = false :=
 ⟨cell_block _ _ 0 _ _ _ h, cell_block _ _ 1 _ _ _ h, frozen_block _ _ 0 _ _ h, frozen_block _ _ 1 _ _ h⟩
theorem size64 : (Tryz.prog.info? 64).map (·.size) = some 2 := by kernel_rfl
def instrD (p : PG) (sf sa : Int) : Option (IN × FN) :=
 if 0 ≤ sf ∧ sf < p.fns.length then (p.fns[sf.toNat]?).bind (fun f => if 0 ≤ sa ∧ sa < f.code.length then (f.code[sa.toNat]?).map (fun x => (x, f)) else none) else none
def takesD (p : PG) (sf sa : Int) : Int × Int := match instrD p sf sa with
 | none => (0, 0)
 | some (x, f) => tkgv p f x
theorem instrD_mem {p : PG} {sf sa : Int} {x : IN} {f : FN} (h : instrD p sf sa = some (x, f)) : f ∈ p.fns ∧ x ∈ f.code ∧ 0 ≤ sf ∧ sf < p.fns.length ∧ p.fns[sf.toNat]? = some f ∧ 0 ≤ sa ∧ sa < f.code.length ∧ f.code[sa.toNat]? = some x := by
 unfold instrD at h
 split at h
 ·rename_i h1
  cases hf : p.fns[sf.toNat]? with
  | none => rw [hf] at h; cases h
  | some g =>
   rw [hf] at h
   simp only [Option.bind_some] at h
   split at h
   ·rename_i h2
    cases hx : g.code[sa.toNat]? with
    | none => rw [hx] at h; cases h
    | some y =>
     rw [hx] at h
     cases h
     exact ⟨List.mem_of_getElem? hf, List.mem_of_getElem? hx, h1.1, h1.2, rfl, h2.1, h2.2, hx⟩
   ·cases h
 ·cases h
def nextD (p : PG) (sf sa : Int) : List Int := match instrD p sf sa with
 | none => []
 | some (x, f) => (wayL x sa).filter (fun y => amg y f.code.length)
theorem way_len (x : IN) (a : Int) : (wayL x a).length ≤ 2 := by
 unfold wayL
 split
 ·simp
 ·split
  ·simp
  ·split
   ·split
    ·simp
    ·split <;> simp
   ·simp
end Go.Proofs.YtcaadgcfceommaaGreat
