/-
  TMb: Mb.
-/
import Derived.Test.YtcaadgcfceommaaGreatTMa
import Derived.Laws.BytesString
import Derived.Deep.AppendSrc
import Derived.Deep.Strs
import Derived.OpenShut
import Derived.ChangeOld
import Derived.Defers
import Derived.Recover
import Derived.Laws.BitsAllLaws
import Derived.Laws.Bits64
namespace Go.Proofs.YtcaadgcfceommaaGreat
open Go.RowKit
set_option linter.unusedVariables false

theorem IsB.shape {w : World} {v : Value} {xs : List Int} (h : IsB w v xs) : ∃ ao c, v = .slice ao xs.length c := by
  rcases h with ⟨rfl, ao, c, rfl⟩ | ⟨g, o, c, rfl, hc⟩
  · exact ⟨_, _, rfl⟩
  · exact ⟨_, _, rfl⟩

theorem IsB.kept {w w' : World} {v : Value} {xs : List Int} {S : Nat → Prop} (h : IsB w v xs) (hk : Kept S w w') (hS : ∀ g, v.ownBlock = some g → ¬ S g) : IsB w' v xs := by
  rcases h with ⟨rfl, ao, c, rfl⟩ | ⟨g, o, c, rfl, hc⟩
  · exact .inl ⟨rfl, _, _, rfl⟩
  · exact .inr ⟨g, o, c, rfl, fun i hi => hk.cell (hc i hi) (hS g rfl)⟩

theorem IsB.kept2 {w w' : World} {v : Value} {xs : List Int} {S : Nat → Prop} (h : IsB w v xs) (hk : Kept S w w') (hS : xs ≠ [] → ∀ g, v.ownBlock = some g → ¬ S g) : IsB w' v xs := by
  rcases h with ⟨rfl, ao, c, rfl⟩ | ⟨g, o, c, rfl, hc⟩
  · exact .inl ⟨rfl, _, _, rfl⟩
  · exact .inr ⟨g, o, c, rfl, fun i hi => hk.cell (hc i hi) (hS (by intro e; rw [e] at hi; simp at hi) g rfl)⟩

/-- Bytes that are there lie in a block that is there. -/
theorem IsB.lt {w : World} {v : Value} {xs : List Int} (h : IsB w v xs) (hx : xs ≠ []) : ∀ g, v.ownBlock = some g → g < w.heap.size := by
  intro q hq
  rcases h with ⟨rfl, _⟩ | ⟨g, o, c, rfl, hc⟩
  · exact absurd rfl hx
  · have := World.block_lt_of_cell? _ _ (hc 0 (List.length_pos_iff.2 hx))
    rw [← Option.some.inj hq]
    exact this

theorem Lent.kept {w w' : World} {g : Nat} {xs : List Int} {j : Nat} {S : Nat → Prop} (h : Lent w g xs j) (hk : Kept S w w') (hS : ¬ S g) : Lent w' g xs j := by
  obtain ⟨cur, h0, r⟩ := h
  exact ⟨cur, (hk.block g (Array.getElem?_eq_some_iff.1 h0).1 hS).trans h0, r⟩

/-- Bytes as a string. -/
def str (xs : List Int) : ByteArray := xs.foldl (fun r n => r.push (UInt8.ofNat n.toNat)) ByteArray.empty

/-- What a put of an item makes of a Writer's state. -/
def St.item (s : St) (k n : Int) (xs : List Int) : St :=
  if k = 1 then s.num n else if k = 2 then s.put (Mth.form (fold n)) else if k = 3 then s.put [if (n == 1) = true then 1 else 0]
  else if k = 4 then s.put (Mth.form xs.length ++ xs) else if k = 5 then s.put (Mth.form xs.length ++ xs) else s.put xs

end Go.Proofs.YtcaadgcfceommaaGreat

namespace Go.Proofs.YtcaadgcfceommaaGreat
open Go.RowKit
set_option linter.unusedVariables false

end Go.Proofs.YtcaadgcfceommaaGreat

namespace Go.Proofs.YtcaadgcfceommaaGreat
open Go.RowKit
set_option linter.unusedVariables false

/-- The bytes of an item. -/
def itemBytes (k n : Int) (xs : List Int) : List Int :=
  if k = 1 then Mth.form n else if k = 2 then Mth.form (fold n) else if k = 3 then [if (n == 1) = true then 1 else 0]
  else if k = 4 then Mth.form xs.length ++ xs else if k = 5 then Mth.form xs.length ++ xs else xs

theorem own_less {w : World} {B B' : Nat} {v : Value} {m : Nat} {l : List Value} (h : w.ownsRow B' 5 1 v m l) (hB : B ≤ B') : w.ownsRow B 5 1 v m l := by
  refine ⟨h.1, ?_⟩
  rcases h.2 with h | ⟨g, cap, cur, e, hb, r⟩
  · exact .inl h
  · exact .inr ⟨g, cap, cur, e, by omega, r⟩
end Go.Proofs.YtcaadgcfceommaaGreat

namespace Go.Proofs.YtcaadgcfceommaaGreat
open Go.RowKit
set_option linter.unusedVariables false

/-- An item as it lies in memory, and what its bytes read as. -/
structure ItV where
  k : Int
  n : Int
  bv : Value
  xs : List Int

def ItV.cells (x : ItV) : List Value := [.int .i64 x.k, .int .i64 x.n, x.bv]

/-- An item that may be put. -/
def ItOk (w : World) (x : ItV) : Prop :=
  1 ≤ x.k ∧ x.k ≤ 6 ∧ -9223372036854775808 ≤ x.n ∧ x.n < 9223372036854775808 ∧ IsB w x.bv x.xs ∧ (∀ y ∈ x.xs, 0 ≤ y ∧ y ≤ 255) ∧ x.xs.length ≤ 65536

def ItV.default : ItV := ⟨0, 0, .slice none 0 0, []⟩

/-- Items at a block: each has its three cells. -/
def ItemsAt (w : World) (g : Nat) (its : List ItV) : Prop :=
  ∀ i, i < its.length → w.cell? ⟨g, i * 3, none⟩ = some (.int .i64 (its.getD i ItV.default).k) ∧ w.cell? ⟨g, i * 3 + 1, none⟩ = some (.int .i64 (its.getD i ItV.default).n) ∧ w.cell? ⟨g, i * 3 + 2, none⟩ = some (its.getD i ItV.default).bv

/-- What all that was put makes. -/
def run (its : List ItV) : St := its.foldl (fun s x => s.item x.k x.n x.xs) (.ok [])

theorem run_snoc (its : List ItV) (x : ItV) : run (its ++ [x]) = (run its).item x.k x.n x.xs := by
  simp [run, List.foldl_append]

end Go.Proofs.YtcaadgcfceommaaGreat

namespace Go.Proofs.YtcaadgcfceommaaGreat
open Go.RowKit
set_option linter.unusedVariables false

/-- The row of items that were put. -/
def Row (w : World) (v : Value) (its : List ItV) : Prop := w.ownsRow 0 131 3 v its.length (its.flatMap ItV.cells)

theorem flat_at (its : List ItV) (i j : Nat) (hi : i < its.length) (hj : j < 3) : (its.flatMap ItV.cells)[i * 3 + j]? = (its.getD i ItV.default).cells[j]? := by
  induction its generalizing i with
  | nil => simp at hi
  | cons x its ih =>
    have hc : x.cells.length = 3 := rfl
    rw [List.flatMap_cons]
    cases i with
    | zero =>
      rw [List.getElem?_append_left (by rw [hc]; omega)]
      simp
    | succ i =>
      rw [List.getElem?_append_right (by rw [hc]; omega), hc, show (i + 1) * 3 + j - 3 = i * 3 + j by omega, ih i (by simpa using hi)]
      simp

theorem Row.items {w : World} {g n cap : Nat} {its : List ItV} (h : Row w (.slice (some ⟨g, 0, none⟩) n cap) its) : ItemsAt w g its := by
  intro i hi
  have key : ∀ j, j < 3 → w.cell? ⟨g, i * 3 + j, none⟩ = (its.getD i ItV.default).cells[j]? := by
    intro j hj
    have h1 := flat_at its i j hi hj
    have hc : (its.getD i ItV.default).cells.length = 3 := rfl
    rw [List.getElem?_eq_getElem (show j < (its.getD i ItV.default).cells.length by rw [hc]; exact hj)] at h1 ⊢
    have h2 := World.ownsRow.cells h (g := g) rfl _ _ h1
    rw [Addr.add_lit, Nat.zero_add] at h2
    exact h2
  exact ⟨key 0 (by omega), key 1 (by omega), key 2 (by omega)⟩

theorem World.ownsRow.mk' {w : World} {base : Nat} {e : TypeId} {size : Nat} {v : Value} {n : Nat} {xs : List Value} (h : w.ownsRow base e size v n xs) : (v = .slice none 0 0 ∧ n = 0) ∨ ∃ g cap, v = .slice (some ⟨g, 0, none⟩) n cap := by
  rcases h.2 with h | ⟨g, cap, _, e, _⟩
  · exact .inl h
  · exact .inr ⟨g, cap, e⟩

/-- The Writer and the items that were put, while more are put. -/
structure Inv (W wr : World) (a : Nat) (its : List ItV) (v nv : Value) : Prop where
  ws : WS wr a v (run its)
  row : Row wr nv its
  ok : ∀ i, i < its.length → ItOk W (its.getD i ItV.default)
  below : Below W.heap.size W wr
  ha : W.heap.size ≤ a
  hv : ∀ g, v.ownBlock = some g → W.heap.size ≤ g
  hnv : ∀ g, nv.ownBlock = some g → W.heap.size ≤ g ∧ g ≠ a ∧ v.ownBlock ≠ some g

theorem IsB.below {W wr : World} {v : Value} {xs : List Int} (h : IsB W v xs) (hb : Below W.heap.size W wr) : IsB wr v xs :=
  h.kept2 (kept_of_below hb) (fun hne g hg h' => by have := h.lt hne g hg; omega)

theorem Inv.items {W wr : World} {a : Nat} {its : List ItV} {v nv : Value} (h : Inv W wr a its v nv) : ∀ i, i < its.length → ItOk wr (its.getD i ItV.default) := fun i hi => by
  obtain ⟨q1, q2, q3, q4, q5, q6, q7⟩ := h.ok i hi
  exact ⟨q1, q2, q3, q4, q5.below h.below, q6, q7⟩

/-- New memory changes nothing. -/
theorem Inv.new {W wr w' : World} {a : Nat} {its : List ItV} {v nv : Value} (h : Inv W wr a its v nv) (hk : Kept (fun _ => False) wr w') : Inv W w' a its v nv :=
  ⟨h.ws.new hk, hk.ownsRow h.row (fun _ _ f => f), h.ok, h.below.trans (hk.below h.below.size (fun _ f => f.elim)), h.ha, h.hv, h.hnv⟩

theorem Inv.push {W w3 w4 w6 : World} {a : Nat} {its : List ItV} {v v' nv nv' : Value} {x : ItV} {o : Obj} (h : Inv W w3 a its v nv) (hp : WS w4 a v' ((run its).item x.k x.n x.xs)) (hk : Kept (fun k => k = a ∨ v.ownBlock = some k) w3 w4)
    (hfr : ∀ g, v'.ownBlock = some g → v.ownBlock = some g ∨ w3.heap.size ≤ g) (hown' : w6.ownsRow 0 131 3 nv' (its.length + 1) (its.flatMap ItV.cells ++ x.cells)) (hgrow : (w4.alloc o).grownBy w6 nv.ownBlock)
    (hat : nv'.ownBlock = nv.ownBlock ∨ nv'.ownBlock = some (w4.alloc o).heap.size) (hx : ItOk W x) : Inv W w6 a (its ++ [x]) v' nv' := by
  have hws := h.ws.size
  have hs34 := hk.size
  have ha := h.ha
  have hbs := h.below.size
  have hnlt : ∀ g, nv.ownBlock = some g → g < w3.heap.size := fun g hg => (World.ownsRow.lt h.row g hg).2
  have hk46 : Kept (fun k => nv.ownBlock = some k) w4 w6 := ((Kept.refl _ w4).alloc o).grown hgrow (fun k e => .inr e)
  have hnv' : ∀ g, nv.ownBlock = some g → v'.ownBlock ≠ some g := by
    intro g hg e
    rcases hfr g e with e' | e'
    · exact (h.hnv g hg).2.2 e'
    · have := hnlt g hg; omega
  refine ⟨?_, ?_, ?_, ?_, h.ha, ?_, ?_⟩
  · rw [run_snoc]
    exact hp.kept hk46 (fun e => (h.hnv a e).2.1 rfl) (fun g hg e => hnv' g e hg)
  · show w6.ownsRow 0 131 3 nv' (its ++ [x]).length ((its ++ [x]).flatMap ItV.cells)
    rw [List.length_append, List.flatMap_append]
    simpa using hown'
  · intro i hi
    rw [List.length_append] at hi
    by_cases e : i < its.length
    · rw [List.getD, List.getElem?_append_left e]
      exact h.ok i e
    · obtain rfl : i = its.length := by simp at hi; omega
      simpa [List.getD] using hx
  · refine (h.below.trans (hk.below h.below.size (fun k e => ?_))).trans (hk46.below (by omega) (fun k e => (h.hnv k e).1))
    rcases e with e | e
    · omega
    · exact h.hv k e
  · intro g hg
    rcases hfr g hg with e | e
    · exact h.hv g e
    · omega
  · intro g hg
    rcases hat with e | e
    · rw [e] at hg
      exact ⟨(h.hnv g hg).1, (h.hnv g hg).2.1, hnv' g hg⟩
    · rw [e] at hg
      have hg' := Option.some.inj hg
      simp at hg'
      refine ⟨by omega, by omega, fun e' => ?_⟩
      have := (hp.lt g e').1
      omega

end Go.Proofs.YtcaadgcfceommaaGreat

namespace Go.Proofs.YtcaadgcfceommaaGreat
open Go.ChangeShapes Go.WideShapes Go.ChangeAt Go.RowKit Go.Deep
set_option linter.unusedVariables false

section
variable {H : Type} {enc : TypeId × Value → H} {W : World} {base : Nat} {spare : Nat → Bool} {held : Bool}

end

namespace mintWrites
theorem own : ownKnob Tryz.prog.godebug = none := by kernel_rfl
theorem laidOut : laidOutB Tryz.prog = true := by kernel_rfl

end mintWrites

end Go.Proofs.YtcaadgcfceommaaGreat

namespace Go.Proofs.YtcaadgcfceommaaGreat
open Go.RowKit
set_option linter.unusedVariables false

/-- A Reader: its three fields. -/
def Rd (w : World) (r : Nat) (v : Value) (live : Bool) (f : Int) : Prop := w.heap[r]? = some (.cells #[v, .bool live, .int .i64 f] 210 (0, 0))

theorem Rd.cells {w : World} {r : Nat} {v : Value} {live : Bool} {f : Int} (h : Rd w r v live f) :
    w.cell? ⟨r, 0, none⟩ = some v ∧ w.cell? ⟨r, 1, none⟩ = some (.bool live) ∧ w.cell? ⟨r, 2, none⟩ = some (.int .i64 f) ∧ w.frozen? ⟨r, 0, none⟩ = false ∧ w.frozen? ⟨r, 1, none⟩ = false ∧ w.frozen? ⟨r, 2, none⟩ = false ∧ r < w.heap.size :=
  ⟨by rw [cell_block _ _ _ _ _ _ h]; rfl, by rw [cell_block _ _ _ _ _ _ h]; rfl, by rw [cell_block _ _ _ _ _ _ h]; rfl, frozen_block _ _ _ _ _ h, frozen_block _ _ _ _ _ h, frozen_block _ _ _ _ _ h, (Array.getElem?_eq_some_iff.1 h).1⟩

theorem Rd.kept {w w' : World} {r : Nat} {v : Value} {live : Bool} {f : Int} {S : Nat → Prop} (h : Rd w r v live f) (hk : Kept S w w') (hS : ¬ S r) : Rd w' r v live f :=
  (hk.block r (Array.getElem?_eq_some_iff.1 h).1 hS).trans h

/-- What a Reader has left: a slice into block g. -/
def IsR (w : World) (g : Nat) (v : Value) (xs : List Int) : Prop :=
  (xs = [] ∧ ∃ ao : Option Addr, (ao = none ∨ ∃ o, ao = some ⟨g, o, none⟩) ∧ v = .slice ao 0 0) ∨
  ∃ o c, v = .slice (some ⟨g, o, none⟩) xs.length c ∧ xs.length ≤ c ∧ 0 < c ∧ c ≤ maxLen ∧ ∀ i, i < xs.length → w.cell? ⟨g, o + i, none⟩ = some (.int .u8 (xs.getD i 0))

theorem IsR.kept {w w' : World} {g : Nat} {v : Value} {xs : List Int} {S : Nat → Prop} (h : IsR w g v xs) (hk : Kept S w w') (hS : ¬ S g) : IsR w' g v xs := by
  rcases h with h | ⟨o, c, h1, h2, h3, h4, hc⟩
  · exact .inl h
  · exact .inr ⟨o, c, h1, h2, h3, h4, fun i hi => hk.cell (hc i hi) hS⟩

theorem IsR.shape {w : World} {g : Nat} {v : Value} {xs : List Int} (h : IsR w g v xs) : ∃ ao c, v = .slice ao xs.length c := by
  rcases h with ⟨rfl, ao, _, rfl⟩ | ⟨o, c, rfl, _⟩
  · exact ⟨_, _, rfl⟩
  · exact ⟨_, _, rfl⟩

theorem IsR.len {w : World} {g : Nat} {v : Value} {xs : List Int} (h : IsR w g v xs) : xs.length ≤ maxLen := by
  rcases h with ⟨rfl, _⟩ | ⟨o, c, _, h1, _, h2, _⟩
  · exact Nat.zero_le _
  · omega

/-- Behind a call that met no fault: what is left. -/
def After (w w' : World) (r g : Nat) (f : Int) (rest : List Int) : Prop := ∃ v', Rd w' r v' true f ∧ IsR w' g v' rest ∧ Kept (fun k => k = r) w w'

end Go.Proofs.YtcaadgcfceommaaGreat

namespace Go.Proofs.YtcaadgcfceommaaGreat
open Go.RowKit
set_option linter.unusedVariables false

end Go.Proofs.YtcaadgcfceommaaGreat

namespace Go.Proofs.YtcaadgcfceommaaGreat
open Go.RowKit
set_option linter.unusedVariables false

theorem After.trans {w w1 w2 : World} {r g : Nat} {f f' : Int} {a b : List Int} (h : After w w1 r g f a) (h2 : After w1 w2 r g f' b) : After w w2 r g f' b := by
  obtain ⟨v1, _, _, k1⟩ := h
  obtain ⟨v2, q1, q2, k2⟩ := h2
  exact ⟨v2, q1, q2, k1.trans k2⟩

theorem After.new {w w1 w2 : World} {r g : Nat} {f : Int} {a : List Int} (h : After w w1 r g f a) (hr : r < w.heap.size) (hg : g < w.heap.size) (hb : Below w1.heap.size w1 w2) : After w w2 r g f a := by
  obtain ⟨v1, q1, q2, k1⟩ := h
  have hs := k1.size
  have hk := kept_of_below hb
  exact ⟨v1, q1.kept hk (by omega), q2.kept hk (by omega), k1.trans (hk.mono (fun k hk h => absurd h (by omega)))⟩

end Go.Proofs.YtcaadgcfceommaaGreat

namespace Go.Proofs.YtcaadgcfceommaaGreat
open Go.RowKit
set_option linter.unusedVariables false

end Go.Proofs.YtcaadgcfceommaaGreat
