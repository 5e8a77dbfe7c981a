/-
  The laws' 'names' and 'same' by contract.
-/
import Derived.Test.YthloacakomahaabClean
namespace Go.Proofs.Ythloacakomahaab
open Go.RowKit Go.Shelf
attribute [local go_sem] Oper.semAt_some
set_option linter.unusedVariables false
set_option linter.unusedSimpArgs false

theorem own_base' {w : World} {B B' : Nat} {e : TypeId} {size : Nat} {v : Value} {n : Nat} {xs : List Value} (h : w.ownsRow B e size v n xs) (hb : B' ≤ B) : w.ownsRow B' e size v n xs := by
  refine ⟨h.1, ?_⟩
  rcases h.2 with hh | ⟨g, cap, cur, rfl, hg, rest⟩
  · exact .inl hh
  · exact .inr ⟨g, cap, cur, rfl, by omega, rest⟩

set_option maxRecDepth 100000 in
set_option maxHeartbeats 2000000 in
theorem lists_any (s : ByteArray) (hs : s.size ≤ 16777216) (w : World) :
    Calls Try.prog 8 #[.string s] w fun e w' => ∃ v, e = .returned (.tuple #[v, .bool true]) ∧ w'.ownsRow w.heap.size 9 1 v (partsOf s.data.toList).length (texts (partsOf s.data.toList)) ∧ Kept (fun _ => False) w w' := by
  have hl : s.data.toList.length = s.size := by simp
  obtain ⟨i0, hi, hy0, hy1, hy2⟩ := info_parts info9
  have HL := hid_of hl
  have HA := hid_of (names_any s)
  have hq : ∀ (w : World) (a : Addr), (binOp .eql 34 (.func (.func 21) #[] #[.pointer (some a)]) Value.nilFunc).run Try.prog w = .ok (.bool false) w := fun w a => rfl
  clear hl
  refine (callsIn_wide (n := 3)).1 ?_
  refine callsIn_of_wp_marks Try.func8 rfl trivial ?_ rfl
  simp only [Try.ntmps8, List.size_toArray, List.length_cons, List.length_nil, Nat.reduceAdd, Nat.reduceSub, Array.replicate_succ, Array.replicate_zero, List.push_toArray, List.append_toArray, List.nil_append, List.cons_append]
  gi_wp2_with fail
  refine ⟨trivial, (callsIn_wide.2 (HA.out _)).mono ?_⟩
  rintro e w1 ⟨rfl, rfl⟩
  clear HA
  gi_wp2
  have b0 := (Boxed.new w 9 (.string s)).alloc (.cells #[.slice none 0 0] 28)
  have b1 := Boxed.new (w.alloc (.cells #[.string s] 9)) 28 (.slice none 0 0)
  simp only [World.size_alloc] at b1
  have hB0 := ((Below.refl w.heap.size w).alloc (Nat.le_refl _) (.cells #[.string s] 9)).alloc (by simp) (.cells #[.slice none 0 0] 28)
  obtain ⟨W0, hW0⟩ : ∃ W0, ((w.alloc (.cells #[.string s] 9)).alloc (.cells #[.slice none 0 0] 28)) = W0 := ⟨_, rfl⟩
  have hsz : W0.heap.size = w.heap.size + 2 := by rw [← hW0]; simp
  rw [hW0] at b0 b1 hB0 ⊢
  clear hW0
  refine wpIn_rangeFunc_ownG rfl (by omega) (gf := 21) (lb := #[.pointer (some ⟨w.heap.size, 0, none⟩)]) rfl trivial (enters_of Try.func21 (by kernel_rfl) rfl)
    (names_stops (P := fun _ => True) 2 (by omega) w.heap.size s (by omega) (fun _ _ => trivial) W0 (by omega) b0.cell) (fun _ _ => trivial) (fun _ _ _ _ _ _ _ _ => trivial) (Below.refl _ _) (fun _ => rfl)
    (fun pre W => (w.heap.size + 2 ≤ W.heap.size ∧ ∃ v, Boxed W (w.heap.size + 1) 28 v ∧ W.ownsRow (w.heap.size + 2) 9 1 v pre.length (texts (vals pre))) ∧ Below w.heap.size w W)
    (fun _ _ _ => False) ?hI ?hIx ?h0
    (fun x => { tmps := #[.string s, undef, .slice none 0 0, .bool false, .func (.func 21) #[] #[.pointer (some ⟨w.heap.size, 0, none⟩)], .pointer (some ⟨w.heap.size + 1, 0, none⟩), x.v, .string s, .func (.func 21) #[] #[.pointer (some ⟨w.heap.size, 0, none⟩)], .func (.func 21) #[] #[.pointer (some ⟨w.heap.size, 0, none⟩)], .bool false, .func (.func 21) #[] #[.pointer (some ⟨w.heap.size, 0, none⟩)], x.v, undef, undef, undef, undef, undef], defers := [] }) ?assign ?body ?done ?stop
  case hI =>
    rintro pre A C rw ⟨⟨hbs, v, hv, hrow⟩, hB⟩ hg hr
    exact ⟨⟨Nat.le_trans hbs hg.size, v, box_stay hv hg hr, owns_stay hrow hg hr⟩, hB.grown hg hB.size (fun k e => by have := (hr k e).1; omega)⟩
  case hIx => exact fun _ _ _ _ _ h _ _ => h
  case h0 => exact ⟨⟨by omega, _, b1, World.ownsRow_nil _ _ _ _⟩, hB0⟩
  case assign =>
    intro l x W K hK
    gi_wp2
    exact hK
  case body =>
    rintro l pre x W ⟨⟨hbs, v, hv, hrow⟩, hB⟩ hlt
    have hpl : pre.length < 1099511627776 := by
      have h3 := parts_len s.data.toList
      rw [HL.out] at h3
      omega
    have HB := hid_of hB
    have HV := hid_of hv
    have HR := hid_of hrow
    have hc := hv.cell
    have hz := hv.frozen
    clear hB hv hrow
    gi_wp2_with (gi_at_builtin; refine wpListIn_append_own _ rfl _ _ 28 rfl (w.heap.size + 2) 9 i0 (.string ⟨#[]⟩) 1 16 Try.underlying28 hi hy0 hy1 hy2 rfl (by decide) _ _ _ rfl (HR.out.alloc _) ⟨W.heap.size, 0, none⟩ 1 1 [.string ⟨x.1.toArray⟩] rfl rfl (cell_one_new _ _ _) (by simp [Value.oneCell']) (by unfold maxLen; omega) (by omega) (by simp; omega) ?_; intro v' w1 hown' hgrow _; obtain ⟨g', cap', rfl⟩ := ownsRow_succ hown'; obtain ⟨hv1, hv2, hr2, hk2, hb2⟩ := box_appended HV.out HR.out hbs (by omega) hown' hgrow; have hc9 := hv1.cell; have hf9 := hv1.frozen)
    refine ⟨hk2.from _, trivial, ⟨Nat.le_trans hbs hb2.size, _, hv2, ?_⟩, HB.out.trans (hb2.below HB.out.size (fun k h => by omega))⟩
    rw [List.length_append, show vals (pre ++ [x]) = vals pre ++ [x.1] by simp [vals], texts, List.map_append]
    exact hr2
  case done =>
    rintro D ys W hD hS ⟨⟨hbs, v, hv, hrow⟩, hB⟩ hK
    have hc := hv.cell
    have hlen : ys.length = (partsOf s.data.toList).length := by rw [← hS]; simp [vals]
    rw [hS, hlen] at hrow
    obtain ⟨a, cap, rfl, _, _, _⟩ := own_slice hrow
    have HR := hid_of hrow
    have HB := hid_of hB
    have HK := hid_of hK
    clear hrow hB hK
    gi_wp2
    refine ⟨by simp, .inl ⟨_, _, rfl, run_takeDeferred HK.out, ?_⟩⟩
    refine ⟨.tuple #[.slice a (partsOf s.data.toList).length cap, .bool true], by simp [results, Try.f8, go_sem], _, rfl, own_base' (ownsRow_putObj HR.out _ HK.out rfl) (by omega), kept_below (HB.out.trans (belowK_b (w := w) (Nat.le_refl _) W D _ _ (by omega) HK.out rfl rfl))⟩
  case stop =>
    rintro D c pre W _ _ h _
    exact h.elim

end Go.Proofs.Ythloacakomahaab
