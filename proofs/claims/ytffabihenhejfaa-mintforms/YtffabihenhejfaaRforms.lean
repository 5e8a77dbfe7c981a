/-
  Read with a sheet, over any bytes.
-/
import Derived.Test.YtffabihenhejfaaWgd
namespace Go.Proofs.Ytffabihenhejfaa
open Go.RowKit
set_option linter.unusedVariables false

theorem read_forms (allv : Value) (B s g : Nat) (bao : Option Addr) (bn bc : Nat) (its : List ItV) (bs : List Int) (w4 : World) (hsh : Sh w4 s allv (.slice none 0 0) (.slice none 0 0) (.pointer none)) (hrow : w4.ownsRow B 27 3 allv its.length (its.flatMap ItV.cells)) (hnil : its = [] → allv = .slice none 0 0)
    (hkd : ∀ i, i < its.length → (1 ≤ (its.getD i ItV.default).k ∧ (its.getD i ItV.default).k ≤ 6 ∧ (its.getD i ItV.default).xs.length ≤ 1000000) ∧ ∃ ao c, (its.getD i ItV.default).bv = .slice ao (its.getD i ItV.default).xs.length c) (hm : its.length ≤ 1000)
    (hx : IsR w4 g (.slice bao bn bc) bs) (hbb : ∀ x ∈ bs, 0 ≤ x ∧ x ≤ 255) (hbs : bs.length ≤ 4194304) (hg : g < w4.heap.size) (hgs : g ≠ s) (hav : allv.ownBlock ≠ some s) :
    Calls Try.prog 14 #[.slice bao bn bc, .func (.func 23) #[.pointer (some ⟨s, 0, none⟩)] #[]] w4 fun e w' => Kept (fun q => q = s) w4 w' ∧ ((e = .returned (.int .i64 0) ∧ ∃ tv told, FDone w' s allv tv its told bs) ∨ ∃ flt : Int, flt ≠ 0 ∧ e = .returned (.int .i64 flt)) := by
  have hsl := hsh.lt
  have hkA : Kept (fun _ => False) w4 ((w4.alloc (.cells #[.slice bao bn bc, .bool true, .int .i64 0] 82)).alloc (.cells #[.pointer (some ⟨w4.heap.size, 0, none⟩)] 56)) := ((Kept.refl _ _).alloc _).alloc _
  have hrdA : Rd ((w4.alloc (.cells #[.slice bao bn bc, .bool true, .int .i64 0] 82)).alloc (.cells #[.pointer (some ⟨w4.heap.size, 0, none⟩)] 56)) w4.heap.size (.slice bao bn bc) true 0 := by
    unfold Rd
    rw [Below.heap_alloc _ _ _ (by simp)]
    exact heap_alloc_new w4 _
  have hboxA : ((w4.alloc (.cells #[.slice bao bn bc, .bool true, .int .i64 0] 82)).alloc (.cells #[.pointer (some ⟨w4.heap.size, 0, none⟩)] 56)).cell? ⟨w4.heap.size + 1, 0, none⟩ = some (.pointer (some ⟨w4.heap.size, 0, none⟩)) := by
    have h := heap_alloc_new (w4.alloc (.cells #[.slice bao bn bc, .bool true, .int .i64 0] 82)) (.cells #[.pointer (some ⟨w4.heap.size, 0, none⟩)] 56)
    rw [show (w4.alloc (.cells #[.slice bao bn bc, .bool true, .int .i64 0] 82)).heap.size = w4.heap.size + 1 from by simp] at h
    rw [cell_block _ _ _ _ _ _ h]; rfl
  have hszA : ((w4.alloc (.cells #[.slice bao bn bc, .bool true, .int .i64 0] 82)).alloc (.cells #[.pointer (some ⟨w4.heap.size, 0, none⟩)] 56)).heap.size = w4.heap.size + 2 := by simp
  have hrun : Calls Try.prog 23 #[.pointer (some ⟨s, 0, none⟩), .pointer (some ⟨w4.heap.size, 0, none⟩)] ((w4.alloc (.cells #[.slice bao bn bc, .bool true, .int .i64 0] 82)).alloc (.cells #[.pointer (some ⟨w4.heap.size, 0, none⟩)] 56))
      (LedAny w4.heap.size (w4.heap.size + 1) (fun n w' => Kept (fun q => q = s ∨ q = w4.heap.size) w4 w' ∧ (n = 0 → ∃ tv told, FDone w' s allv tv its told bs ∧ (∀ q, tv.ownBlock = some q → q ≠ w4.heap.size) ∧ ∀ i, i < told.length → ∀ q, (told.getD i ItV.default).bv.ownBlock = some q → q ≠ w4.heap.size)) (fun w' => Kept (fun q => q = s ∨ q = w4.heap.size) w4 w')) := by
    generalize ((w4.alloc (.cells #[.slice bao bn bc, .bool true, .int .i64 0] 82)).alloc (.cells #[.pointer (some ⟨w4.heap.size, 0, none⟩)] 56)) = w6 at *
    have hsh6 := hsh.kept hkA (fun f => f)
    have hx6 := hx.kept hkA (fun f => f)
    by_cases h0 : its = []
    · subst h0
      have hallv := hnil rfl
      subst hallv
      obtain ⟨ao0, c0, hsl0⟩ := hx.shape
      refine (run_none s w4.heap.size w6 _ _ _ hsh6).mono ?_
      rintro e w' ⟨rfl, rfl⟩
      have hks := kept_set w6 s 3 (.pointer (some ⟨w4.heap.size, 0, none⟩))
      refine .inl ⟨rfl, bn, ⟨hks.cell hboxA (by intro e; simp at e; omega), _, _, _, hrdA.kept hks (by omega)⟩, (hkA.mono (fun _ _ f => f.elim)).trans (hks.mono (fun _ _ e => .inl e)), fun hn => ⟨_, [], ⟨⟨_, _, hsh6.set3 _⟩, World.ownsRow_nil _ _ _ _, rfl, ?_, fun i hi => absurd hi (by simp), fun _ => rfl⟩, fun q hq => (by cases hq), fun i hi => absurd hi (by simp)⟩⟩
      injection hsl0 with e1 e2 e3
      exact List.length_eq_zero_iff.1 (by omega)
    · obtain ⟨gw, c, rfl⟩ : ∃ gw c, allv = .slice (some ⟨gw, 0, none⟩) its.length c := by
        rcases World.ownsRow.mk' hrow with ⟨_, hn⟩ | ⟨gw, c, e⟩
        · exact absurd (List.length_eq_zero_iff.1 hn) h0
        · exact ⟨gw, c, e⟩
      have hr6 : Row w6 (.slice (some ⟨gw, 0, none⟩) its.length c) its := by
        refine hkA.ownsRow ⟨hrow.1, ?_⟩ (fun _ _ f => f)
        rcases hrow.2 with h | ⟨g, cap, cur, e, hb, r⟩
        · exact .inl h
        · exact .inr ⟨g, cap, cur, e, Nat.zero_le _, r⟩
      have hgwl : gw < w4.heap.size := (World.ownsRow.lt hrow gw rfl).2
      refine (run_any s w4.heap.size g gw c its its.length bs w6 _ rfl hm hsh6 (Row.items hr6) (fun i hi => (hkd i hi).2) (fun i hi => (hkd i hi).1) ⟨_, hrdA, hx6⟩ hbb hbs (by omega) (by omega) hgs (by omega) (fun e => hav (by rw [← e]; rfl)) (by omega)).mono ?_
      rintro e w' (⟨rfl, tv, lv, told, lefts, rest, hri, htl, hll, hbe, hgd⟩ | ⟨flt, f0, rfl, f2, f3⟩)
      · obtain ⟨v, hv1, hv2⟩ := hri.rd
        obtain ⟨va, vc, rfl⟩ := hv2.shape
        refine .inl ⟨rfl, rest.length, ⟨hri.kept.cell hboxA (by simp; omega), _, _, _, hv1⟩, (hkA.mono (fun _ _ f => f.elim)).trans hri.kept, fun hn => ⟨tv, told, ⟨⟨_, _, hri.sh⟩, hri.row, htl, ?_, fun i hi => ⟨hgd _ ?_, (hri.all i hi).2.2.2.1⟩, fun h => absurd htl (by rw [h]; intro e; exact h0 (List.length_eq_zero_iff.1 e.symm))⟩, fun q hq => by have := (hri.ht q hq).1; omega, fun i hi q hq => by have := ((hri.all i hi).2.2.2.2 q hq).1; omega⟩⟩
        · rw [hbe, List.length_eq_zero_iff.1 hn, List.append_nil]
        · rw [List.getD, List.getElem?_eq_getElem hi]
          exact List.getElem_mem hi
      · exact .inr ⟨flt, f0, rfl, f2, f3.cell hboxA (by simp; omega), (hkA.mono (fun _ _ f => f.elim)).trans f3⟩
  refine (read_any (.pointer (some ⟨s, 0, none⟩)) bao bn bc w4 _ _ hrun).mono ?_
  rintro e w' (⟨n, w1, rfl, ⟨hk1, hq⟩, hk⟩ | ⟨w1, flt, f0, rfl, hk1, hk⟩)
  · have hkk : Kept (fun q => q = s) w4 w' := by
      refine (hk1.mono (fun q hq e => ?_)).step hk (fun q hq e => ?_)
      · rcases e with e | e
        · exact e
        · omega
      · omega
    refine ⟨hkk, ?_⟩
    by_cases h0 : n = 0
    · obtain ⟨tv, told, hfd, htv, htb⟩ := hq h0
      obtain ⟨lv, rp, hs⟩ := hfd.sh
      refine .inl ⟨by rw [h0]; rfl, tv, told, ⟨⟨lv, rp, hs.kept hk (by omega)⟩, hk.ownsRow hfd.row (fun q hq e => htv q hq e), hfd.len, hfd.enc, fun i hi => ⟨(hfd.good i hi).1, (hfd.good i hi).2.kept hk (fun q hq e => htb i hi q hq e)⟩, hfd.nil⟩⟩
    · refine .inr ⟨tailOf n 0, ?_, rfl⟩
      unfold tailOf
      rw [if_pos (by omega)]
      decide
  · refine ⟨?_, .inr ⟨flt, f0, rfl⟩⟩
    refine (hk1.mono (fun q hq e => ?_)).step hk (fun q hq e => ?_)
    · rcases e with e | e
      · exact e
      · omega
    · omega
end Go.Proofs.Ytffabihenhejfaa
