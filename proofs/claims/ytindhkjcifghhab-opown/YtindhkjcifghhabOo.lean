/-
  Instructions: rows of them in memory; what Encode tells, as pure functions.
-/
import Derived.Test.YtindhkjcifghhabOn
namespace Go.Proofs.Ytindhkjcifghhab
open Go.RowKit
set_option linter.unusedVariables false
set_option linter.unusedSimpArgs false
set_option maxRecDepth 100000

/-- An instruction. -/
structure IN where
  op : Int
  a : Int
def IN.cells (x : IN) : List Value := [.int .i64 x.op, .int .i64 x.a]
def IN.Ok (x : IN) : Prop := (-9223372036854775808 ≤ x.op ∧ x.op < 9223372036854775808) ∧ -9223372036854775808 ≤ x.a ∧ x.a < 9223372036854775808
def icells (ys : List IN) : List Value := ys.flatMap IN.cells
theorem icells_length (ys : List IN) : (icells ys).length = 2 * ys.length := by
  induction ys with
  | nil => rfl
  | cons y ys ih => simp only [icells, List.flatMap_cons, List.length_append] at ih ⊢; simp only [IN.cells, List.length_cons, List.length_nil, ih]; omega
theorem icells_at : ∀ (ys : List IN) (i : Nat) (y : IN), ys[i]? = some y → ∀ j, j < 2 → (icells ys)[i * 2 + j]? = y.cells[j]?
  | [], i, y, h, _, _ => by simp at h
  | z :: zs, 0, y, h, j, hj => by
    simp at h
    subst h
    have e : icells (z :: zs) = z.cells ++ icells zs := rfl
    rw [e, List.getElem?_append_left (by simp [IN.cells]; omega)]
    simp
  | z :: zs, i + 1, y, h, j, hj => by
    have e : icells (z :: zs) = z.cells ++ icells zs := rfl
    rw [e, List.getElem?_append_right (by simp [IN.cells]; omega)]
    have := icells_at zs i y (by simpa using h) j hj
    rw [← this]
    congr 1
    simp only [IN.cells, List.length_cons, List.length_nil]
    omega
theorem icells_append (xs ys : List IN) : icells (xs ++ ys) = icells xs ++ icells ys := by simp [icells]

/-- v is a slice of these instructions. -/
def RowI (w : World) (v : Value) (ys : List IN) : Prop :=
  (ys = [] ∧ ∃ ao c, v = .slice ao 0 c) ∨ ∃ g o c, v = .slice (some ⟨g, o, none⟩) ys.length c ∧ ∀ i y, ys[i]? = some y → w.rangeAt g (o + i * 2) y.cells
theorem RowI.shape {w : World} {v : Value} {ys : List IN} (h : RowI w v ys) : ∃ ao c, v = .slice ao ys.length c := by
  rcases h with ⟨rfl, ao, c, rfl⟩ | ⟨g, o, c, rfl, _⟩
  · exact ⟨ao, c, rfl⟩
  · exact ⟨_, c, rfl⟩
theorem RowI.kept {S : Nat → Prop} {w w' : World} {v : Value} {ys : List IN} (h : RowI w v ys) (hk : Kept S w w') (hS : ∀ g, v.ownBlock = some g → ¬ S g) : RowI w' v ys := by
  rcases h with h | ⟨g, o, c, rfl, hc⟩
  · exact .inl h
  · exact .inr ⟨g, o, c, rfl, fun i y hy j u hj => hk.cell (hc i y hy j u hj) (hS g rfl)⟩
theorem rowI_own {w : World} {base : Nat} {v : Value} {ys : List IN} (h : w.ownsRow base 42 2 v ys.length (icells ys)) : RowI w v ys := by
  rcases h.2 with ⟨rfl, h0⟩ | ⟨g, cap, cur, rfl, hrest⟩
  · exact .inl ⟨List.length_eq_zero_iff.1 h0, _, _, by rw [h0] at *⟩
  · refine .inr ⟨g, 0, cap, rfl, fun i y hi j u hj => ?_⟩
    have hj2 : j < 2 := by
      have := (List.getElem?_eq_some_iff.1 hj).1
      simpa [IN.cells] using this
    have hil : i < ys.length := (List.getElem?_eq_some_iff.1 hi).1
    have h1 := icells_at ys i y hi j hj2
    rw [hj] at h1
    have hb : i * 2 + j < ys.length * 2 := by omega
    rw [show 0 + i * 2 + j = i * 2 + j by omega, h.cellAt _ hb, h1]

/-- The kind of an instruction's operand, by its number. -/
def kOf (op : Int) : Nat := kix op.toNat
/-- An instruction's fault. -/
def errI (x : IN) : Int := if isRow insL x.op = true then (if mayP (kOf x.op) x.a = true then 0 else 112) else 111
/-- An instruction's bytes. -/
def putI (x : IN) : List Int := Mth.form x.op ++ opB (kOf x.op) x.a
def firstBad : List IN → Int
  | [] => 0
  | x :: xs => if errI x = 0 then firstBad xs else errI x
/-- What Encode answers: its error. -/
def encE (ys : List IN) : Int := if 4096 < ys.length then 2 else firstBad ys
/-- What Encode answers: the bytes. -/
def encB (ys : List IN) : List Int := ys.flatMap putI

theorem firstBad_zero : ∀ ys : List IN, firstBad ys = 0 ↔ ∀ y ∈ ys, errI y = 0
  | [] => by simp [firstBad]
  | x :: xs => by
    have ih := firstBad_zero xs
    by_cases h : errI x = 0
    · simp [firstBad, h, ih]
    · simp [firstBad, h]
theorem firstBad_at : ∀ (ys : List IN) (i : Nat) (y : IN), ys[i]? = some y → (∀ z ∈ ys.take i, errI z = 0) → errI y ≠ 0 → firstBad ys = errI y
  | [], i, y, h, _, _ => by simp at h
  | z :: zs, 0, y, h, _, hy => by
    simp at h
    subst h
    simp [firstBad, hy]
  | z :: zs, i + 1, y, h, ha, hy => by
    have h0 := ha z (by simp)
    simp only [firstBad, h0, if_pos]
    exact firstBad_at zs i y (by simpa using h) (fun q hq => ha q (by simp [hq])) hy
theorem opB_len (k : Nat) (a : Int) (h0 : -9223372036854775808 ≤ a) (h1 : a < 9223372036854775808) : (opB k a).length ≤ 9 := by
  unfold opB
  split
  · simp
  · exact (Mth.form_length _ (fold_le a h0 h1).2).2
  · exact (Mth.form_length _ (by omega)).2
theorem putI_len (x : IN) (h : x.Ok) : (putI x).length ≤ 18 := by
  have h1 := (Mth.form_length x.op (by have := h.1.2; omega)).2
  have h2 := opB_len (kOf x.op) x.a h.2.1 h.2.2
  simp only [putI, List.length_append]
  omega
theorem encB_len : ∀ (ys : List IN), (∀ y ∈ ys, y.Ok) → (encB ys).length ≤ 18 * ys.length
  | [], _ => by simp [encB]
  | y :: ys, h => by
    have h1 := putI_len y (h y (by simp))
    have h2 := encB_len ys (fun z hz => h z (by simp [hz]))
    simp only [encB, List.flatMap_cons, List.length_append, List.length_cons] at h2 ⊢
    omega
theorem encB_snoc (ys : List IN) (y : IN) : encB (ys ++ [y]) = encB ys ++ putI y := by simp [encB]

/-- What holds while a Writer of its own is written. -/
structure EnI (w wr : World) (a : Nat) (wv : Value) (s : St) : Prop where
  ws : WS wr a wv s
  kept : Kept (fun _ => False) w wr
  new : w.heap.size ≤ a ∧ ∀ g, wv.ownBlock = some g → w.heap.size ≤ g
theorem EnI.put {w wr w' : World} {a : Nat} {wv : Value} {s s' : St} {e : Ending} (h : EnI w wr a wv s) (hp : PutS a wv s' wr e w') : e = .returned (.tuple #[]) ∧ ∃ wv', EnI w w' a wv' s' ∧ Kept (fun k => k = a ∨ wv.ownBlock = some k) wr w' ∧ (∀ g, wv'.ownBlock = some g → wv.ownBlock = some g ∨ wr.heap.size ≤ g) := by
  obtain ⟨he, wv', h1, h2, h3⟩ := hp
  refine ⟨he, wv', ⟨h1, h.kept.step h2 (fun i hi e => ?_), h.new.1, fun g hg => ?_⟩, h2, h3⟩
  · rcases e with rfl | e
    · exact absurd h.new.1 (by omega)
    · exact absurd (h.new.2 i e) (by omega)
  · rcases h3 g hg with h4 | h4
    · exact h.new.2 g h4
    · have := h.kept.size
      omega
theorem EnI.step {w wr w' : World} {a : Nat} {wv : Value} {s : St} {S : Nat → Prop} (h : EnI w wr a wv s) (hk : Kept S wr w') (hS : ∀ i, i < wr.heap.size → ¬ S i) : EnI w w' a wv s :=
  ⟨h.ws.kept hk (hS a h.ws.size) (fun g hg => hS g (h.ws.lt g hg).1), h.kept.step hk (fun i hi e => absurd e (hS i (Nat.lt_of_lt_of_le hi h.kept.size))), h.new⟩
theorem ws_new (w : World) : EnI w (w.alloc (.cells #[.slice none 0 0, .int .i64 0] 85)) w.heap.size (.slice none 0 0) (.ok []) :=
  ⟨⟨⟨heap_alloc_new _ _, World.ownsRow_nil _ _ _ _, by simp [Value.ownBlock]⟩, by simp⟩, (Kept.refl _ _).alloc _, Nat.le_refl _, fun g hg => by simp [Value.ownBlock] at hg⟩
theorem num_ok (l : List Int) (n : Int) (h0 : 0 ≤ n) (h1 : n < 9223372036854775808) (hl : l.length ≤ 4194000) : St.num (.ok l) n = .ok (l ++ Mth.form n) := by
  have := (Mth.form_length n (by omega)).2
  unfold St.num
  rw [if_neg (by omega), put_ok _ _ (by omega)]
theorem fold_ok (l : List Int) (n : Int) (h0 : -9223372036854775808 ≤ n) (h1 : n < 9223372036854775808) (hl : l.length ≤ 4194000) : St.put (.ok l) (Mth.form (fold n)) = .ok (l ++ Mth.form (fold n)) := by
  have := (Mth.form_length (fold n) (fold_le n h0 h1).2).2
  rw [put_ok _ _ (by omega)]

/-- What Encode leaves. -/
def EncR (ys : List IN) (w : World) (e : Ending) (w' : World) : Prop :=
  Kept (fun _ => False) w w' ∧
  if encE ys = 0 then ∃ v', e = .returned (.tuple #[v', .int .i64 0]) ∧ w'.ownsRow w.heap.size 5 1 v' (encB ys).length ((encB ys).map (Value.int .u8))
  else e = .returned (.tuple #[.slice none 0 0, .int .i64 (encE ys)])
end Go.Proofs.Ytindhkjcifghhab
