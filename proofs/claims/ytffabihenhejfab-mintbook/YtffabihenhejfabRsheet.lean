/-
  Read with a sheet, of bytes that the same puts made.
-/
import Derived.Test.YtffabihenhejfabNone
import Derived.Test.YtffabihenhejfabRun
namespace Go.Proofs.Ytffabihenhejfab
open Go.RowKit
set_option linter.unusedVariables false

/-- A sheet behind Read: all things were told, and nothing is left. -/
def SDone (w4 w' : World) (s : Nat) (allv : Value) (its : List ItV) (tv lv : Value) (told : List ItV) : Prop :=
  (∃ rp, Sh w' s allv tv lv rp) ∧ ((its = [] ∧ tv = .slice none 0 0) ∨ (its ≠ [] ∧ ∃ gt tc gl lc, tv = .slice (some ⟨gt, 0, none⟩) its.length tc ∧ w4.heap.size < gt ∧ ItemsAt w' gt told ∧ told.length = its.length ∧
    lv = .slice (some ⟨gl, 0, none⟩) its.length lc ∧ w4.heap.size < gl ∧ w'.cell? ⟨gl, its.length - 1, none⟩ = some (.int .i64 0) ∧
    ∀ i, i < its.length → (told.getD i ItV.default).k = (its.getD i ItV.default).k ∧ ((its.getD i ItV.default).k ≤ 3 → (told.getD i ItV.default).n = (its.getD i ItV.default).n) ∧ (3 < (its.getD i ItV.default).k → (told.getD i ItV.default).xs = (its.getD i ItV.default).xs) ∧ IsB w' (told.getD i ItV.default).bv (told.getD i ItV.default).xs ∧ ∀ q, (told.getD i ItV.default).bv.ownBlock = some q → w4.heap.size < q))

/-- What was told besides: each list of bytes is a row of its own (but for texts), and they lie apart. -/
structure SOwn (w4 w' : World) (its told : List ItV) : Prop where
  len : told.length = its.length
  own : ∀ i, i < its.length → (its.getD i ItV.default).k ≠ 5 → w'.ownsRow 0 5 1 (told.getD i ItV.default).bv (told.getD i ItV.default).xs.length ((told.getD i ItV.default).xs.map (Value.int .u8))
  low : ∀ i, i < its.length → (its.getD i ItV.default).k ≤ 3 → (told.getD i ItV.default).xs = []
  lt : ∀ i, i < its.length → ∀ q, (told.getD i ItV.default).bv.ownBlock = some q → w4.heap.size < q ∧ q < w'.heap.size
  apart : ∀ i j, i < j → j < its.length → ∀ q, (told.getD i ItV.default).bv.ownBlock = some q → (told.getD j ItV.default).bv.ownBlock ≠ some q

theorem ItemsAt.kept {w w' : World} {g : Nat} {its : List ItV} {S : Nat → Prop} (h : ItemsAt w g its) (hk : Kept S w w') (hS : ¬ S g) : ItemsAt w' g its := fun i hi =>
  ⟨hk.cell (h i hi).1 hS, hk.cell (h i hi).2.1 hS, hk.cell (h i hi).2.2 hS⟩

theorem SDone.kept {w4 w' w'' : World} {s : Nat} {allv tv lv : Value} {its told : List ItV} {S : Nat → Prop} (h : SDone w4 w' s allv its tv lv told) (hk : Kept S w' w'') (hs : ¬ S s) (hS : ∀ q, w4.heap.size < q → ¬ S q) : SDone w4 w'' s allv its tv lv told := by
  obtain ⟨⟨rp, h1⟩, h2⟩ := h
  refine ⟨⟨rp, h1.kept hk hs⟩, ?_⟩
  rcases h2 with h2 | ⟨h0, gt, tc, gl, lc, e1, e2, e3, e4, e5, e6, e7, e8⟩
  · exact .inl h2
  · exact .inr ⟨h0, gt, tc, gl, lc, e1, e2, e3.kept hk (hS gt e2), e4, e5, e6, hk.cell e7 (hS gl e6), fun i hi => ⟨(e8 i hi).1, (e8 i hi).2.1, (e8 i hi).2.2.1, (e8 i hi).2.2.2.1.kept hk (fun q hq => hS q ((e8 i hi).2.2.2.2 q hq)), (e8 i hi).2.2.2.2⟩⟩

theorem read_sheet_own (allv : Value) (B s g : Nat) (bao : Option Addr) (bn bc : Nat) (its : List ItV) (w4 : World) (hsh : Sh w4 s allv (.slice none 0 0) (.slice none 0 0) (.pointer none)) (hrow : w4.ownsRow B 33 3 allv its.length (its.flatMap ItV.cells)) (hnil : its = [] → allv = .slice none 0 0)
    (hgood : ∀ i, i < its.length → Goodr (its.getD i ItV.default) ∧ ∃ ao c, (its.getD i ItV.default).bv = .slice ao (its.getD i ItV.default).xs.length c) (hm : its.length ≤ 1000) (hx : IsR w4 g (.slice bao bn bc) (encs its)) (hg : g < w4.heap.size) (hgs : g ≠ s) (hav : allv.ownBlock ≠ some s) :
    Calls Try.prog 10 #[.slice bao bn bc, .func (.func 11) #[.pointer (some ⟨s, 0, none⟩)] #[]] w4 fun e w' => e = .returned (.int .i64 0) ∧ Kept (fun q => q = s) w4 w' ∧ ∃ tv lv told, SDone w4 w' s allv its tv lv told ∧ SOwn w4 w' its told ∧ (∀ q, tv.ownBlock = some q → ∀ i, i < its.length → (told.getD i ItV.default).bv.ownBlock ≠ some q) := by
  have hsl := hsh.lt
  have hkA : Kept (fun _ => False) w4 ((w4.alloc (.cells #[.slice bao bn bc, .bool true, .int .i64 0] 62)).alloc (.cells #[.pointer (some ⟨w4.heap.size, 0, none⟩)] 38)) := ((Kept.refl _ _).alloc _).alloc _
  have hrdA : Rd ((w4.alloc (.cells #[.slice bao bn bc, .bool true, .int .i64 0] 62)).alloc (.cells #[.pointer (some ⟨w4.heap.size, 0, none⟩)] 38)) w4.heap.size (.slice bao bn bc) true 0 := by
    unfold Rd
    rw [Below.heap_alloc _ _ _ (by simp)]
    exact heap_alloc_new w4 _
  have hboxA : ((w4.alloc (.cells #[.slice bao bn bc, .bool true, .int .i64 0] 62)).alloc (.cells #[.pointer (some ⟨w4.heap.size, 0, none⟩)] 38)).cell? ⟨w4.heap.size + 1, 0, none⟩ = some (.pointer (some ⟨w4.heap.size, 0, none⟩)) := by
    have h := heap_alloc_new (w4.alloc (.cells #[.slice bao bn bc, .bool true, .int .i64 0] 62)) (.cells #[.pointer (some ⟨w4.heap.size, 0, none⟩)] 38)
    rw [show (w4.alloc (.cells #[.slice bao bn bc, .bool true, .int .i64 0] 62)).heap.size = w4.heap.size + 1 from by simp] at h
    rw [cell_block _ _ _ _ _ _ h]; rfl
  have hszA : ((w4.alloc (.cells #[.slice bao bn bc, .bool true, .int .i64 0] 62)).alloc (.cells #[.pointer (some ⟨w4.heap.size, 0, none⟩)] 38)).heap.size = w4.heap.size + 2 := by simp
  have hrun : Calls Try.prog 11 #[.pointer (some ⟨s, 0, none⟩), .pointer (some ⟨w4.heap.size, 0, none⟩)] ((w4.alloc (.cells #[.slice bao bn bc, .bool true, .int .i64 0] 62)).alloc (.cells #[.pointer (some ⟨w4.heap.size, 0, none⟩)] 38)) fun e w' => e = .returned (.tuple #[]) ∧ Led w4.heap.size (w4.heap.size + 1) 0 0 w' ∧ (Kept (fun q => q = s ∨ q = w4.heap.size) w4 w' ∧ ∃ tv lv told, SDone w4 w' s allv its tv lv told ∧ SOwn w4 w' its told ∧ (∀ q, tv.ownBlock = some q → ∀ i, i < its.length → (told.getD i ItV.default).bv.ownBlock ≠ some q)) := by
    generalize ((w4.alloc (.cells #[.slice bao bn bc, .bool true, .int .i64 0] 62)).alloc (.cells #[.pointer (some ⟨w4.heap.size, 0, none⟩)] 38)) = w6 at *
    have hsh6 := hsh.kept hkA (fun f => f)
    have hx6 := hx.kept hkA (fun f => f)
    by_cases h0 : its = []
    · subst h0
      have hallv := hnil rfl
      subst hallv
      obtain ⟨ao0, c0, hsl0⟩ := hx.shape
      have hbn : bn = 0 := by
        have : encs [] = [] := rfl
        rw [this] at hsl0
        cases hsl0
        rfl
      subst hbn
      refine (run_none s w4.heap.size w6 _ _ _ hsh6).mono ?_
      rintro e w' ⟨rfl, rfl⟩
      have hks := kept_set w6 s 3 (.pointer (some ⟨w4.heap.size, 0, none⟩))
      exact ⟨rfl, ⟨hks.cell hboxA (by intro e; simp at e; omega), _, _, _, hrdA.kept hks (by omega)⟩, (hkA.mono (fun _ _ f => f.elim)).trans (hks.mono (fun _ _ e => .inl e)), _, _, [], ⟨⟨_, hsh6.set3 _⟩, .inl ⟨rfl, rfl⟩⟩, ⟨rfl, fun i hi => absurd hi (by simp), fun i hi => absurd hi (by simp), fun i hi => absurd hi (by simp), fun i j _ hj => absurd hj (by simp)⟩, fun q hq => by cases hq⟩
    · obtain ⟨gw, c, rfl⟩ : ∃ gw c, allv = .slice (some ⟨gw, 0, none⟩) its.length c := by
        rcases World.ownsRow.mk' hrow with ⟨_, hn⟩ | ⟨gw, c, e⟩
        · exact absurd (List.length_eq_zero_iff.1 hn) h0
        · exact ⟨gw, c, e⟩
      have hr6 : Row w6 (.slice (some ⟨gw, 0, none⟩) its.length c) its := by
        refine hkA.ownsRow ⟨hrow.1, ?_⟩ (fun _ _ f => f)
        rcases hrow.2 with h | ⟨g, cap, cur, e, hb, r⟩
        · exact .inl h
        · exact .inr ⟨g, cap, cur, e, Nat.zero_le _, r⟩
      have hgwl : gw < w4.heap.size := (World.ownsRow.lt hrow gw rfl).2
      refine (run_ok s w4.heap.size g gw c its its.length w6 _ rfl hm hsh6 (Row.items hr6) (fun i hi => (hgood i hi).2) (fun i hi => (hgood i hi).1) ⟨_, hrdA, hx6⟩ (by omega) (by omega) hgs (by omega) (fun e => hav (by rw [← e]; rfl)) (by omega)).mono ?_
      rintro e w' ⟨rfl, tv, lv, told, lefts, hri, htl, hll, hlast⟩
      have hdr : encs (its.drop its.length) = [] := by rw [List.drop_of_length_le (Nat.le_refl _)]; rfl
      rw [hdr] at hri hlast
      obtain ⟨v, hv1, hv2⟩ := hri.rd
      obtain ⟨va, vc, rfl⟩ := hv2.shape
      have hpos : 0 < its.length := List.length_pos_iff.2 h0
      obtain ⟨gt, tc, rfl⟩ : ∃ gt tc, tv = .slice (some ⟨gt, 0, none⟩) its.length tc := by
        rcases World.ownsRow.mk' hri.row with ⟨_, hn⟩ | ⟨gt, tc, e⟩
        · omega
        · rw [htl] at e; exact ⟨gt, tc, e⟩
      obtain ⟨gl, lc, rfl⟩ : ∃ gl lc, lv = .slice (some ⟨gl, 0, none⟩) its.length lc := by
        rcases World.ownsRow.mk' hri.left with ⟨_, hn⟩ | ⟨gl, lc, e⟩
        · omega
        · rw [hll] at e; exact ⟨gl, lc, e⟩
      refine ⟨rfl, ⟨hri.kept.cell hboxA (by simp; omega), _, _, _, hv1⟩, (hkA.mono (fun _ _ f => f.elim)).trans hri.kept, _, _, told, ⟨⟨_, hri.sh⟩, .inr ⟨h0, gt, tc, gl, lc, rfl, by have := (hri.ht gt rfl).1; omega, Row.items hri.row, htl, rfl, by have := hri.hl gl rfl; omega, ?_, fun i hi => ?_⟩⟩, ⟨htl, fun i hi hn => ?_, fun i hi hn => ?_, fun i hi q hq => ?_, fun i j hij hj => hri.apart i j hij (by omega)⟩, fun q hq i hi e => ?_⟩
      · have h1 := World.ownsRow.cells hri.left (g := gl) rfl (its.length - 1) (.int .i64 0) (by
          have h2 := hlast hpos
          rw [List.getElem?_map, List.getElem?_eq_getElem (show its.length - 1 < lefts.length by omega)]
          simp [List.getD, List.getElem?_eq_getElem (show its.length - 1 < lefts.length by omega)] at h2
          simp [h2])
        rw [Addr.add_lit, Nat.zero_add] at h1
        exact h1
      · obtain ⟨t1, t2, t3, t4, t5, _⟩ := hri.all i (by omega)
        exact ⟨t1, t2, t3, t4, fun q hq => by have := (t5 q hq).1; omega⟩
      · obtain ⟨t1, t2, t3, t4, t5, t6⟩ := hri.all i (by omega)
        exact t6.1 (by rw [t1]; exact hn)
      · exact (hri.all i (by omega)).2.2.2.2.2.2 hn
      · obtain ⟨t1, t2, t3, t4, t5, t6⟩ := hri.all i (by omega)
        have := t5 q hq
        omega
      · obtain ⟨t1, t2, t3, t4, t5, t6⟩ := hri.all i (by omega)
        exact (t5 q e).2.2.1 hq
  refine (read_ret (.pointer (some ⟨s, 0, none⟩)) bao bn bc w4 0 0 _ hrun).mono ?_
  rintro e w' ⟨rfl, w1, ⟨hk1, tv, lv, told, hsd, hso, htv⟩, hr, hk⟩
  refine ⟨rfl, ?_, tv, lv, told, ?_, ⟨hso.len, fun i hi hn => hk.ownsRow (hso.own i hi hn) (fun q hq e => ?_), hso.low, fun i hi q hq => ⟨(hso.lt i hi q hq).1, Nat.lt_of_lt_of_le (hso.lt i hi q hq).2 hk.size⟩, hso.apart⟩, htv⟩
  · refine (hk1.mono (fun q hq e => ?_)).step hk (fun q hq e => ?_)
    · rcases e with e | e
      · exact e
      · omega
    · omega
  · exact hsd.kept hk (by omega) (fun q hq e => by omega)
  · have := (hso.lt i hi q hq).1
    omega

theorem read_sheet (allv : Value) (B s g : Nat) (bao : Option Addr) (bn bc : Nat) (its : List ItV) (w4 : World) (hsh : Sh w4 s allv (.slice none 0 0) (.slice none 0 0) (.pointer none)) (hrow : w4.ownsRow B 33 3 allv its.length (its.flatMap ItV.cells)) (hnil : its = [] → allv = .slice none 0 0)
    (hgood : ∀ i, i < its.length → Good (its.getD i ItV.default) ∧ IsB w4 (its.getD i ItV.default).bv (its.getD i ItV.default).xs) (hm : its.length ≤ 1000) (hx : IsR w4 g (.slice bao bn bc) (encs its)) (hg : g < w4.heap.size) (hgs : g ≠ s) (hav : allv.ownBlock ≠ some s) :
    Calls Try.prog 10 #[.slice bao bn bc, .func (.func 11) #[.pointer (some ⟨s, 0, none⟩)] #[]] w4 fun e w' => e = .returned (.int .i64 0) ∧ Kept (fun q => q = s) w4 w' ∧ ∃ tv lv told, SDone w4 w' s allv its tv lv told := by
  refine (read_sheet_own allv B s g bao bn bc its w4 hsh hrow hnil (fun i hi => ⟨(hgood i hi).1.r, (hgood i hi).2.shape⟩) hm hx hg hgs hav).mono ?_
  rintro e w' ⟨h1, h2, tv, lv, told, h3, _⟩
  exact ⟨h1, h2, tv, lv, told, h3⟩
end Go.Proofs.Ytffabihenhejfab
