/-
  done (the statements' own) by contract; MintWrites: the walk.
-/
import Derived.Test.YtffabihenhejfabRdone
namespace Go.Proofs.Ytffabihenhejfab
open Go.RowKit
set_option linter.unusedVariables false

set_option maxRecDepth 100000 in
set_option maxHeartbeats 1000000 in
theorem rdone_nil (w : World) : Calls Try.prog 14 #[.slice none 0 0] w fun e w' => e = .returned (.tuple #[.slice none 0 0, .int .i64 0]) ∧ w' = w := by
  go_enter Try.func14, Try.ntmps14
  go_wp2
  go_loop [4, 5] (fun v i => v = .slice none 0 0 ∧ i = .int .i64 0) (fun _ _ => 0)
  case atStart => exact ⟨rfl, rfl⟩
  case round =>
    obtain ⟨rfl, rfl⟩ := hrel
    go_wp2
    go_ret2
    exact ⟨rfl, rfl⟩

theorem cell_three_new (w : World) (x y z : Value) (t : TypeId) : ∀ j u, [x, y, z][j]? = some u → (w.alloc (.cells #[x, y, z] t)).cell? ((⟨w.heap.size, 0, none⟩ : Addr).add j) = some u := by
  intro j u hj
  rw [Addr.add_lit, cell_block _ _ _ _ _ _ (heap_alloc_new w _), Nat.zero_add]
  simpa using hj

/-- The row of items that were put. -/
def Row (w : World) (v : Value) (its : List ItV) : Prop := w.ownsRow 0 33 3 v its.length (its.flatMap ItV.cells)

theorem flat_at (its : List ItV) (i j : Nat) (hi : i < its.length) (hj : j < 3) : (its.flatMap ItV.cells)[i * 3 + j]? = (its.getD i ItV.default).cells[j]? := by
  induction its generalizing i with
  | nil => simp at hi
  | cons x its ih =>
    have hc : x.cells.length = 3 := rfl
    rw [List.flatMap_cons]
    cases i with
    | zero =>
      rw [List.getElem?_append_left (by rw [hc]; omega)]
      simp
    | succ i =>
      rw [List.getElem?_append_right (by rw [hc]; omega), hc, show (i + 1) * 3 + j - 3 = i * 3 + j by omega, ih i (by simpa using hi)]
      simp

theorem Row.items {w : World} {g n cap : Nat} {its : List ItV} (h : Row w (.slice (some ⟨g, 0, none⟩) n cap) its) : ItemsAt w g its := by
  intro i hi
  have key : ∀ j, j < 3 → w.cell? ⟨g, i * 3 + j, none⟩ = (its.getD i ItV.default).cells[j]? := by
    intro j hj
    have h1 := flat_at its i j hi hj
    have hc : (its.getD i ItV.default).cells.length = 3 := rfl
    rw [List.getElem?_eq_getElem (show j < (its.getD i ItV.default).cells.length by rw [hc]; exact hj)] at h1 ⊢
    have h2 := World.ownsRow.cells h (g := g) rfl _ _ h1
    rw [Addr.add_lit, Nat.zero_add] at h2
    exact h2
  exact ⟨key 0 (by omega), key 1 (by omega), key 2 (by omega)⟩

theorem row_len (its : List ItV) : (its.flatMap ItV.cells).length = its.length * 3 := by
  induction its with
  | nil => rfl
  | cons x its ih => rw [List.flatMap_cons, List.length_append, ih, List.length_cons]; show 3 + _ = _; omega

theorem World.ownsRow.mk' {w : World} {base : Nat} {e : TypeId} {size : Nat} {v : Value} {n : Nat} {xs : List Value} (h : w.ownsRow base e size v n xs) : (v = .slice none 0 0 ∧ n = 0) ∨ ∃ g cap, v = .slice (some ⟨g, 0, none⟩) n cap := by
  rcases h.2 with h | ⟨g, cap, _, e, _⟩
  · exact .inl h
  · exact .inr ⟨g, cap, e⟩

/-- The document's Done, over a row of items (or none yet). -/
theorem rdone_row (v : Value) (its : List ItV) (w : World) (hm : its.length ≤ 1000000) (hr : Row w v its) (hok : ∀ i, i < its.length → ItOk w (its.getD i ItV.default)) :
    Calls Try.prog 14 #[v] w fun e w' => ∃ v', e = .returned (.tuple #[v', .int .i64 (run its).err]) ∧ w'.ownsRow w.heap.size 5 1 v' (run its).bytes.length ((run its).bytes.map (Value.int .u8)) ∧ Kept (fun _ => False) w w' := by
  have hr0 := hr
  rcases World.ownsRow.mk' hr0 with ⟨rfl, hn⟩ | ⟨g, cap, rfl⟩
  · obtain rfl : its = [] := List.length_eq_zero_iff.1 hn
    refine (rdone_nil w).mono ?_
    rintro e w' ⟨rfl, rfl⟩
    exact ⟨_, rfl, World.ownsRow_nil _ _ _ _, Kept.refl _ _⟩
  · exact rdone_any g cap its its.length w rfl hm (Row.items hr) hok

/-- An item as it was handed in. -/
def ArgOk (w : World) (x : ItV) : Prop :=
  -9223372036854775808 ≤ x.k ∧ x.k ≤ 9223372036854775807 ∧ -9223372036854775808 ≤ x.n ∧ x.n ≤ 9223372036854775807 ∧ IsB w x.bv x.xs ∧ (∀ y ∈ x.xs, 0 ≤ y ∧ y ≤ 255) ∧ x.xs.length ≤ maxLen

/-- The items of the argument, each at its three cells. -/
def ArgItems (w : World) (b o : Nat) (its : List ItV) : Prop :=
  ∀ i, i < its.length → w.cell? ⟨b, o + i * 3, none⟩ = some (.int .i64 (its.getD i ItV.default).k) ∧ w.cell? ⟨b, o + i * 3 + 1, none⟩ = some (.int .i64 (its.getD i ItV.default).n) ∧ w.cell? ⟨b, o + i * 3 + 2, none⟩ = some (its.getD i ItV.default).bv

/-- The Writer and the items that were put, while more are put. -/
structure Inv (W wr : World) (a : Nat) (its : List ItV) (v nv : Value) : Prop where
  ws : WS wr a v (run its)
  row : Row wr nv its
  ok : ∀ i, i < its.length → ItOk W (its.getD i ItV.default)
  below : Below W.heap.size W wr
  ha : W.heap.size ≤ a
  hv : ∀ g, v.ownBlock = some g → W.heap.size ≤ g
  hnv : ∀ g, nv.ownBlock = some g → W.heap.size ≤ g ∧ g ≠ a ∧ v.ownBlock ≠ some g

theorem IsB.below {W wr : World} {v : Value} {xs : List Int} (h : IsB W v xs) (hb : Below W.heap.size W wr) : IsB wr v xs :=
  h.kept2 (kept_of_below hb) (fun hne g hg h' => by have := h.lt hne g hg; omega)

theorem Inv.items {W wr : World} {a : Nat} {its : List ItV} {v nv : Value} (h : Inv W wr a its v nv) : ∀ i, i < its.length → ItOk wr (its.getD i ItV.default) := fun i hi => by
  obtain ⟨q1, q2, q3, q4, q5, q6, q7⟩ := h.ok i hi
  exact ⟨q1, q2, q3, q4, q5.below h.below, q6, q7⟩

/-- New memory changes nothing. -/
theorem Inv.new {W wr w' : World} {a : Nat} {its : List ItV} {v nv : Value} (h : Inv W wr a its v nv) (hk : Kept (fun _ => False) wr w') : Inv W w' a its v nv :=
  ⟨h.ws.new hk, hk.ownsRow h.row (fun _ _ f => f), h.ok, h.below.trans (hk.below h.below.size (fun _ f => f.elim)), h.ha, h.hv, h.hnv⟩

theorem Inv.row4 {W w3 w4 : World} {a : Nat} {its : List ItV} {v nv : Value} (h : Inv W w3 a its v nv) (hk : Kept (fun k => k = a ∨ v.ownBlock = some k) w3 w4) : Row w4 nv its :=
  hk.ownsRow h.row (fun g hg h' => by
    obtain ⟨_, h1, h2⟩ := h.hnv g hg
    rcases h' with h' | h'
    · exact h1 h'
    · exact h2 h')

theorem Inv.push {W w3 w4 w6 : World} {a : Nat} {its : List ItV} {v v' nv nv' : Value} {x : ItV} {o : Obj} (h : Inv W w3 a its v nv) (hp : WS w4 a v' ((run its).item x.k x.n x.xs)) (hk : Kept (fun k => k = a ∨ v.ownBlock = some k) w3 w4)
    (hfr : ∀ g, v'.ownBlock = some g → v.ownBlock = some g ∨ w3.heap.size ≤ g) (hown' : w6.ownsRow 0 33 3 nv' (its.length + 1) (its.flatMap ItV.cells ++ x.cells)) (hgrow : (w4.alloc o).grownBy w6 nv.ownBlock)
    (hat : nv'.ownBlock = nv.ownBlock ∨ nv'.ownBlock = some (w4.alloc o).heap.size) (hx : ItOk W x) : Inv W w6 a (its ++ [x]) v' nv' := by
  have hws := h.ws.size
  have hs34 := hk.size
  have ha := h.ha
  have hbs := h.below.size
  have hnlt : ∀ g, nv.ownBlock = some g → g < w3.heap.size := fun g hg => (World.ownsRow.lt h.row g hg).2
  have hk46 : Kept (fun k => nv.ownBlock = some k) w4 w6 := ((Kept.refl _ w4).alloc o).grown hgrow (fun k e => .inr e)
  have hnv' : ∀ g, nv.ownBlock = some g → v'.ownBlock ≠ some g := by
    intro g hg e
    rcases hfr g e with e' | e'
    · exact (h.hnv g hg).2.2 e'
    · have := hnlt g hg; omega
  refine ⟨?_, ?_, ?_, ?_, h.ha, ?_, ?_⟩
  · rw [run_snoc]
    exact hp.kept hk46 (fun e => (h.hnv a e).2.1 rfl) (fun g hg e => hnv' g e hg)
  · show w6.ownsRow 0 33 3 nv' (its ++ [x]).length ((its ++ [x]).flatMap ItV.cells)
    rw [List.length_append, List.flatMap_append]
    simpa using hown'
  · intro i hi
    rw [List.length_append] at hi
    by_cases e : i < its.length
    · rw [List.getD, List.getElem?_append_left e]
      exact h.ok i e
    · obtain rfl : i = its.length := by simp at hi; omega
      simpa [List.getD] using hx
  · refine (h.below.trans (hk.below h.below.size (fun k e => ?_))).trans (hk46.below (by omega) (fun k e => (h.hnv k e).1))
    rcases e with e | e
    · omega
    · exact h.hv k e
  · intro g hg
    rcases hfr g hg with e | e
    · exact h.hv g e
    · omega
  · intro g hg
    rcases hat with e | e
    · rw [e] at hg
      exact ⟨(h.hnv g hg).1, (h.hnv g hg).2.1, hnv' g hg⟩
    · rw [e] at hg
      have hg' := Option.some.inj hg
      simp at hg'
      refine ⟨by omega, by omega, fun e' => ?_⟩
      have := (hp.lt g e').1
      omega

theorem Try.info33 : (Try.prog.info? 33).map (fun i => (i.zero, i.size, i.bytes)) = some (some (.agg #[.int .i64 0, .int .i64 0, .slice none 0 0]), 3, 40) := by kernel_rfl

end Go.Proofs.Ytffabihenhejfab
