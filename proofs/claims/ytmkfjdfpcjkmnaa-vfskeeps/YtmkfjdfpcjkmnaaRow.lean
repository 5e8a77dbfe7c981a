/-
  A row of texts of one's own: append of one text; the parts, one after the other.
-/
import Derived.Test.YtmkfjdfpcjkmnaaParts
import Derived.Deep.AppendSrc
namespace Go.Proofs.Ytmkfjdfpcjkmnaa
open Go.RowKit
set_option linter.unusedVariables false
set_option linter.unusedSimpArgs false

/-- An append whose outcome is known, for the walk. -/
theorem wp_app {w : World} {ops : Array Oper} {rest : List Oper} {o : Oper} {a : Act} {Q : Exit → Act → World → Prop} (hgd : o.guard = none) (s x : Operand) (t u : TypeId)
    (ho : o.op = .call { callee := .builtin .append, args := #[s, x], argTypes := #[t, u] }) (v bv : Value) (hs : a.eval s = v) (hx : a.eval x = bv) (v' : Value) (w' : World)
    (hr : (Builtin.append_ #[t, u] o.type #[v, bv]).run Try.prog w = .ok v' w') (h : wpList Try.prog ops Q rest (a.put o.dst v') w') : wpList Try.prog ops Q (o :: rest) a w := by
  refine wpList_plain hgd fun K hK => ?_
  unfold Oper.wp execOp
  simp only [ho, resolve, invoke, builtin, Sem.run_bind, Sem.run_pure, Result.andThen_ok, List.map_toArray, List.map_cons, List.map_nil, hs, hx, hr]
  exact hK _ _ h

theorem info9 : (Try.prog.info? 9).map (fun i => (i.zero, i.size, i.bytes)) = some (some (.string ⟨#[]⟩), 1, 16) := by kernel_rfl

/-- Texts as values. -/
def texts (ps : List (List UInt8)) : List Value := ps.map fun p => .string ⟨p.toArray⟩

/-- One text more onto a row of one's own. -/
theorem app_text (W : World) (v : Value) (n base : Nat) (l : List (List UInt8)) (ty : TypeId) (x : List UInt8) (hown : W.ownsRow base 9 1 v n (texts l)) (hb : base ≤ W.heap.size) (hsz : n + 1 ≤ 8796093022208) :
    ∃ v' w', (Builtin.append_ #[61, 61] ty #[v, .slice (some ⟨W.heap.size, 0, none⟩) 1 1]).run Try.prog (W.alloc (.cells #[.string ⟨x.toArray⟩] 9)) = .ok v' w' ∧ w'.ownsRow base 9 1 v' (n + 1) (texts (l ++ [x])) ∧ (∃ g cap, v' = .slice (some ⟨g, 0, none⟩) (n + 1) cap) ∧ Kept (fun k => base ≤ k) W w' := by
  obtain ⟨i0, hi, hz0, hz1, hz2⟩ := info_parts info9
  have hc : ∀ j u, [Value.string ⟨x.toArray⟩][j]? = some u → (W.alloc (.cells #[.string ⟨x.toArray⟩] 9)).cell? ((⟨W.heap.size, 0, none⟩ : Addr).add j) = some u := by
    intro j u hj
    rw [Addr.add_mid, cell_block _ _ _ _ _ _ (alloc_new W _ rfl)]
    simpa using hj
  obtain ⟨v', w', hr, h2, h3, h4⟩ := run_append_own (P := Try.prog) (W.alloc (.cells #[.string ⟨x.toArray⟩] 9)) base 61 ty 9 i0 (.string ⟨#[]⟩) 1 16 Try.underlying61 hi hz0 hz1 hz2 rfl (by decide) v n _ (hown.alloc _) ⟨W.heap.size, 0, none⟩ 1 1 [.string ⟨x.toArray⟩] (by simp) hc (by simp [Value.oneCell']) (by unfold maxLen; omega) (by omega) (by simp; omega)
  refine ⟨v', w', hr, by rw [texts, List.map_append]; exact h2, ?_, ?_⟩
  · rcases h2.2 with ⟨_, h⟩ | ⟨g, cap, cur, h, _⟩
    · simp at h
    · exact ⟨g, cap, h⟩
  · exact ((Kept.refl (fun k => base ≤ k) W).alloc _).grown h3 (fun k hk => .inr (hown.lt k hk).1)

/-- The parts of a text that begins with a part of m bytes. -/
theorem split_end : ∀ l : List UInt8, l.all (· != 47) = true → splitB l = [l]
  | [], _ => rfl
  | c :: l, h => by
    rw [List.all_cons, Bool.and_eq_true] at h
    have hc : c ≠ 47 := by simpa using h.1
    rw [(splitB_cons c l).2 hc _ _ (split_end l h.2)]
theorem split_mid (m : List UInt8) : ∀ l : List UInt8, l.all (· != 47) = true → splitB (l ++ 47 :: m) = l :: splitB m
  | [], _ => (splitB_cons 47 m).1 rfl
  | c :: l, h => by
    rw [List.all_cons, Bool.and_eq_true] at h
    have hc : c ≠ 47 := by simpa using h.1
    rw [List.cons_append, (splitB_cons c _).2 hc _ _ (split_mid m l h.2)]
end Go.Proofs.Ytmkfjdfpcjkmnaa
