/-
  Two Worlds in turns: what holds between the rounds.
-/
import Derived.Test.YtjdbmjkidljhpabGreatDoorWm
import Derived.Test.YtjdbmjkidljhpabGreatDoorWy
namespace Go.Proofs.YtjdbmjkidljhpabGreatDoor
open Go.RowKit
set_option linter.unusedVariables false
set_option linter.unusedSimpArgs false
set_option maxRecDepth 100000

theorem Two.down {w : World} {lo lo' k n s : Nat} {mv : Value} {σ : Sg} {r : Nat} {lv : Value} {ρ : Rg} (h : Two w lo k n s mv σ r lv ρ) (h1 : lo' ≤ lo) (h0 : 0 < lo') : Two w lo' k n s mv σ r lv ρ :=
  ⟨h.st, h.sane, h.rs, h.alk, h.num, h.laid, h.k1, h.ap, fun q hq => Nat.le_trans h1 (h.base q hq), h0, h.cnt⟩
theorem Wd.down {w : World} {lo k n g s : Nat} {mv : Value} {σ : Sg} {r : Nat} {lv : Value} {ρ : Rg} {iv : Value} {m : Nat} (h : Wd w lo k n g s mv σ r lv ρ iv m) {lo' : Nat} (h1 : lo' ≤ lo) (h0 : 0 < lo') : Wd w lo' k n g s mv σ r lv ρ iv m :=
  ⟨h.two.down h1 h0, h.blk, h.inn, h.mm, ⟨Nat.le_trans h1 h.gl.1, fun q hq => Nat.le_trans h1 (h.gl.2 q hq)⟩, h.api⟩
/-- A World whose own blocks, and whose blobs' blocks, are all new is apart from what was there. -/
theorem FarW.new {OA BA OB BB : Nat → Prop} {z : Nat} (h1 : ∀ q, OA q → q < z) (h2 : ∀ q, BA q → q < z) (h3 : ∀ q, OB q → z ≤ q) (h4 : ∀ q, BB q → z ≤ q) : FarW OA BA OB BB :=
  ⟨fun q a b => by have := h1 q a; have := h3 q b; omega, fun q a b => by have := h2 q a; have := h3 q b; omega, fun q a b => by have := h4 q a; have := h1 q b; omega⟩
/-- Both Worlds: apart, and nothing that was there ahead of them is turned. -/
def PlT (W wr : World) (ka na ga ra kb nb gb rb : Nat) : Prop :=
  ∃ sa mva σa lva ρa iva ma sb mvb σb lvb ρb ivb mb, Wd wr W.heap.size ka na ga sa mva σa ra lva ρa iva ma ∧ Wd wr W.heap.size kb nb gb sb mvb σb rb lvb ρb ivb mb ∧ FarW (OwnW ga sa mva ra lva iva) (Blo σa ρa) (OwnW gb sb mvb rb lvb ivb) (Blo σb ρb) ∧ Kept (fun _ => False) W wr
theorem PlT.kept {W wr : World} {ka na ga ra kb nb gb rb : Nat} (h : PlT W wr ka na ga ra kb nb gb rb) : Kept (fun _ => False) W wr := by
  obtain ⟨_, _, _, _, _, _, _, _, _, _, _, _, _, _, _, _, _, hk⟩ := h
  exact hk
theorem PlT.swap {W wr : World} {ka na ga ra kb nb gb rb : Nat} (h : PlT W wr ka na ga ra kb nb gb rb) : PlT W wr kb nb gb rb ka na ga ra := by
  obtain ⟨_, _, _, _, _, _, _, _, _, _, _, _, _, _, h1, h2, h3, hk⟩ := h
  exact ⟨_, _, _, _, _, _, _, _, _, _, _, _, _, _, h2, h1, h3.swap, hk⟩
theorem PlT.same {W wr w' : World} {ka na ga ra kb nb gb rb : Nat} (h : PlT W wr ka na ga ra kb nb gb rb) (hk' : Kept (fun _ => False) wr w') : PlT W w' ka na ga ra kb nb gb rb := by
  obtain ⟨_, _, _, _, _, _, _, _, _, _, _, _, _, _, h1, h2, h3, hk⟩ := h
  exact ⟨_, _, _, _, _, _, _, _, _, _, _, _, _, _, h1.same hk', h2.same hk', h3, hk.trans hk'⟩
theorem PlT.step {W wr : World} {ka na ga ra kb nb gb rb : Nat} (h : PlT W wr ka na ga ra kb nb gb rb) (hn : na ≤ 900000) (t : Stp) (ht : t.Ok W) :
    Calls Tryz.prog 5 #[.pointer (some ⟨ga, 0, none⟩), .agg t.cells.toArray] wr fun e w' => e = .returned (.bool true) ∧ PlT W w' ka (na + 2) ga ra kb nb gb rb := by
  obtain ⟨_, _, _, _, _, _, _, _, _, _, _, _, _, _, h1, h2, h3, hk⟩ := h
  have hl := Stp.low ht
  refine (wstep_any h1 hn t (ht.kept hl hk (fun _ _ f => f)) hl).mono ?_
  rintro e w' ⟨rfl, hto⟩
  obtain ⟨h4, _, _, _, _, _, _, _, h5, h6, hk2⟩ := Wd.far h1 h2 h3 hto
  exact ⟨rfl, _, _, _, _, _, _, _, _, _, _, _, _, _, _, h5, h4, h6, hk.step hk2 (fun i hi e => by have := h1.base i e; omega)⟩
/-- Two new Worlds. -/
theorem plt_new {W : World} (k : Nat) (h1 : 1 ≤ k) (h2 : k ≤ 32) (k' : Nat) (h1' : 1 ≤ k') (h2' : k' ≤ 32) (cp : Int) (h4 : cp ≤ 67108864) (hL : Laid W) {w1 : World} (hw : w1 = ((W.alloc (.cells ((Sg.new k cp).cells (.map none)) 58)).alloc (.cells ((Rg.new k cp).cells (.slice none 0 0)) 45)).alloc (.cells (wcells W.heap.size (W.heap.size + 1) (.slice none 0 0)) 36)) :
    PlT W (((w1.alloc (.cells ((Sg.new k' cp).cells (.map none)) 58)).alloc (.cells ((Rg.new k' cp).cells (.slice none 0 0)) 45)).alloc (.cells (wcells w1.heap.size (w1.heap.size + 1) (.slice none 0 0)) 36)) k 0 (W.heap.size + 1 + 1) (W.heap.size + 1) k' 0 (w1.heap.size + 1 + 1) (w1.heap.size + 1) := by
  have ha := wd_new k h1 h2 cp h4 W hL
  rw [← hw] at ha
  have hk1 : Kept (fun _ => False) W w1 := by rw [hw]; exact (((Kept.refl _ W).alloc _).alloc _).alloc _
  have hk2 : Kept (fun _ => False) w1 (((w1.alloc (.cells ((Sg.new k' cp).cells (.map none)) 58)).alloc (.cells ((Rg.new k' cp).cells (.slice none 0 0)) 45)).alloc (.cells (wcells w1.heap.size (w1.heap.size + 1) (.slice none 0 0)) 36)) := (((Kept.refl _ w1).alloc _).alloc _).alloc _
  have hb := wd_new k' h1' h2' cp h4 w1 (laid_kept hL hk1 (fun f => f))
  have hs := hk1.size
  refine ⟨_, _, _, _, _, _, _, _, _, _, _, _, _, _, ha.same hk2, hb.down hs (Nat.pos_of_ne_zero hL.size), FarW.new (z := w1.heap.size) ha.olt ha.two.blt hb.base (fun q hq => ?_), hk1.trans hk2⟩
  rcases hq with ⟨e, he, _⟩ | ⟨e, he, _⟩
  · cases he
  · cases he
/-- What the first World holds, as the walk reads it. -/
def See (wr : World) (n g s r : Nat) (a b : Int) : Prop :=
  (∀ W', Kept (fun _ => False) wr W' → W'.cell? ⟨g, 0, none⟩ = some (.pointer (some ⟨s, 0, none⟩)) ∧ W'.cell? ⟨g, 1, none⟩ = some (.pointer (some ⟨r, 0, none⟩)))
  ∧ (∀ W', Kept (fun _ => False) wr W' → Calls Tryz.prog 8 #[.pointer (some ⟨s, 0, none⟩), .pointer (some ⟨r, 0, none⟩)] W' fun e w' => e = .returned (.bool true) ∧ Kept (fun _ => False) W' w')
  ∧ (∀ W', Kept (fun _ => False) wr W' → Calls Tryz.prog 9 #[.pointer (some ⟨s, 0, none⟩)] W' fun e w' => e = .returned (.agg #[.int .i64 a, .int .i64 b]) ∧ Kept (fun _ => False) W' w')
  ∧ (∀ W', Kept (fun _ => False) wr W' → W'.rangeAt r 4 [.int .i64 a, .int .i64 b])
theorem see_of {w : World} {lo k n g s : Nat} {mv : Value} {σ : Sg} {r : Nat} {lv : Value} {ρ : Rg} {iv : Value} {m : Nat} (h : Wd w lo k n g s mv σ r lv ρ iv m) (hn : n ≤ 900000) : See w n g s r σ.gt σ.pt :=
  ⟨fun W' hW' => ⟨hW'.cell (cell_block _ g 0 _ _ _ h.blk) (fun f => f), hW'.cell (cell_block _ g 1 _ _ _ h.blk) (fun f => f)⟩,
   fun W' hW' => alike_any (h.two.same hW') hn, fun W' hW' => counts_any (h.two.same hW').st, fun W' hW' j u hj => by
    have h2 := h.two.same hW'
    rw [cell_block _ _ _ _ _ _ h2.rs.blk]
    have hg := h2.num.2.2.2.1
    have hp := h2.num.2.2.2.2
    match j with
    | 0 => rw [← hj, ← hg]; rfl
    | 1 => rw [← hj, ← hp]; rfl
    | j + 2 => simp at hj⟩
theorem PlT.see {W wr : World} {ka na ga ra kb nb gb rb : Nat} (h : PlT W wr ka na ga ra kb nb gb rb) (hna : na ≤ 900000) (hnb : nb ≤ 900000) :
    (∃ sa a b, See wr na ga sa ra a b) ∧ (∃ sb a b, See wr nb gb sb rb a b) ∧ Laid wr := by
  obtain ⟨_, _, _, _, _, _, _, _, _, _, _, _, _, _, h1, h2, _, _⟩ := h
  exact ⟨⟨_, _, _, see_of h1 hna⟩, ⟨_, _, _, see_of h2 hnb⟩, h1.two.laid⟩
theorem TwR.more {w wr w' : World} {j : Nat} {v : Value} {ρ : Rg} {cp : List Bl} (h : TwR w wr j v ρ cp) (hk : Kept (fun _ => False) wr w') : TwR w w' j v ρ cp := by
  have key : ∀ q o, wr.heap[q]? = some o → w'.heap[q]? = some o := fun q o hq => by
    have hl := heap_lt hq
    rw [hk.block q hl (fun f => f)]
    exact hq
  refine ⟨key _ _ h.blk, hk.ownsRow h.row (fun _ _ f => f), fun b hb => (h.ok b hb).kept hk (fun _ _ _ f => f), fun b hb h0 q hq => ?_, h.same, h.kp.trans hk⟩
  obtain ⟨h1, cs, h2⟩ := h.by_ b hb h0 q hq
  exact ⟨h1, cs, key _ _ h2⟩
/-- The first World's twin in the second one's place. -/
theorem PlT.twins {W wr : World} {ka na ga ra kb nb gb rb : Nat} (h : PlT W wr ka na ga ra kb nb gb rb) :
    ∃ sa, (∀ W', Kept (fun _ => False) wr W' → W'.cell? ⟨ga, 0, none⟩ = some (.pointer (some ⟨sa, 0, none⟩)) ∧ W'.cell? ⟨ga, 1, none⟩ = some (.pointer (some ⟨ra, 0, none⟩)))
      ∧ ∀ W1, Kept (fun _ => False) wr W1 → Calls Tryz.prog 6 #[.pointer (some ⟨sa, 0, none⟩)] W1 fun e w2 => e = .returned (.pointer (some ⟨W1.heap.size, 0, none⟩)) ∧ Kept (fun _ => False) W1 w2
        ∧ ∀ W2, Kept (fun _ => False) w2 W2 → Calls Tryz.prog 7 #[.pointer (some ⟨ra, 0, none⟩)] W2 fun e w3 => e = .returned (.pointer (some ⟨W2.heap.size, 0, none⟩)) ∧ Kept (fun _ => False) W2 w3
          ∧ ∀ W3, Kept (fun _ => False) w3 W3 → PlT W (W3.alloc (.cells (wcells W1.heap.size W2.heap.size (.slice none 0 0)) 36)) ka na ga ra ka na W3.heap.size W2.heap.size := by
  obtain ⟨sa, mva, σa, lva, ρa, iva, ma, _, _, _, _, _, _, _, h1, _, _, hk⟩ := h
  refine ⟨sa, fun W' hW' => ⟨hW'.cell (cell_block _ ga 0 _ _ _ h1.blk) (fun f => f), hW'.cell (cell_block _ ga 1 _ _ _ h1.blk) (fun f => f)⟩, fun W1 hW1 => ?_⟩
  have h1' := h1.same hW1
  refine (twin_any h1'.two.st).mono ?_
  rintro e w2 ⟨mv', rfl, hst, hk2, hmv⟩
  refine ⟨rfl, hk2, fun W2 hW2 => ?_⟩
  have h2' := (h1'.same hk2).same hW2
  refine (twin_ref h2'.two.rs).mono ?_
  rintro e w3 ⟨rfl, lv', l', hT⟩
  refine ⟨rfl, hT.kp, fun W3 hW3 => ?_⟩
  have hT' : TwR W2 W3 ρa.l.length lv' ρa l' := hT.more hW3
  obtain ⟨h5, h6⟩ := h1'.pair (hk2.trans hW2) (hst.keptx hW2 (fun _ _ f => f) (fun _ _ _ _ _ f => f)) (Nat.le_refl _) hmv (hT.kp.trans hW3) hT'
  have hkA : Kept (fun _ => False) W1 (W3.alloc (.cells (wcells W1.heap.size W2.heap.size (.slice none 0 0)) 36)) := ((((hk2.trans hW2).trans hT.kp).trans hW3).alloc _)
  exact ⟨_, _, _, _, _, _, _, _, _, _, _, _, _, _, h1'.same hkA, h5, h6, (hk.trans hW1).trans hkA⟩
end Go.Proofs.YtjdbmjkidljhpabGreatDoor
