/-
  MintBook: what its loops hold.
-/
import Derived.Test.YtffabihenhejfabMoved
import Derived.Test.YtffabihenhejfabGrow2
namespace Go.Proofs.Ytffabihenhejfab
open Go.RowKit
set_option linter.unusedVariables false

/-- Lists that were told since w6. -/
structure Lst (w6 wr : World) (lv : Value) (ls : List BL) (m : Nat) : Prop where
  bls : BLs wr lv ls
  new : ∀ i, i < ls.length → ∀ q, (ls.getD i BL.default).v.ownBlock = some q → w6.heap.size ≤ q
  lnew : ∀ q, lv.ownBlock = some q → w6.heap.size ≤ q
  long : ∀ i, i < ls.length → (ls.getD i BL.default).xs.length ≤ 4194304
  many : ls.length ≤ m
  kept : Kept (fun _ => False) w6 wr

theorem Lst.start (w6 : World) : Lst w6 w6 (.slice none 0 0) [] 0 :=
  ⟨BLs.nil _, fun i hi => absurd hi (by simp), fun q hq => (by cases hq), fun i hi => absurd hi (by simp), Nat.zero_le _, Kept.refl _ _⟩

theorem Lst.after {w6 wr w' : World} {lv : Value} {ls : List BL} {m : Nat} (h : Lst w6 wr lv ls m) (hk : Kept (fun _ => False) wr w') : Lst w6 w' lv ls m :=
  ⟨h.bls.kept hk (fun _ _ f => f) (fun _ _ _ _ f => f), h.new, h.lnew, h.long, h.many, h.kept.trans hk⟩

/-- Under steps that turn one block that is newer than all of it. -/
theorem Lst.after1 {w6 wr w' : World} {lv : Value} {ls : List BL} {m s : Nat} (h : Lst w6 wr lv ls m) (hk : Kept (fun q => q = s) wr w') (h6 : w6.heap.size ≤ s) (hlv : ∀ q, lv.ownBlock = some q → q < s) (hls : ∀ i, i < ls.length → ∀ q, (ls.getD i BL.default).v.ownBlock = some q → q < s) : Lst w6 w' lv ls m :=
  ⟨h.bls.kept hk (fun q hq e => by have := hlv q hq; omega) (fun i hi q hq e => by have := hls i hi q hq; omega), h.new, h.lnew, h.long, h.many, h.kept.step hk (fun q hq e => by omega)⟩

theorem Lst.push {w6 wr w' : World} {lv lv' : Value} {ls : List BL} {m : Nat} {b : BL} {o : Obj} (h : Lst w6 wr lv ls m) (hb : Own8 wr b.v b.xs) (hbl : b.xs.length ≤ 4194304) (hbn : ∀ q, b.v.ownBlock = some q → w6.heap.size ≤ q)
    (hba : ∀ i, i < ls.length → ∀ q, (ls.getD i BL.default).v.ownBlock = some q → b.v.ownBlock ≠ some q) (hbv : ∀ q, b.v.ownBlock = some q → lv.ownBlock ≠ some q)
    (hown : w'.ownsRow 0 31 1 lv' (ls.length + 1) (ls.map BL.v ++ [b.v])) (hgrow : (wr.alloc o).grownBy w' lv.ownBlock) (hat0 : lv'.ownBlock = lv.ownBlock ∨ lv'.ownBlock = some (wr.heap.size + 1)) :
    Lst w6 w' lv' (ls ++ [b]) (m + 1) ∧ Kept (fun q => lv.ownBlock = some q) wr w' ∧ (lv'.ownBlock = lv.ownBlock ∨ ∀ q, lv'.ownBlock = some q → wr.heap.size ≤ q) := by
  have hkp : Kept (fun q => lv.ownBlock = some q) wr w' := kept_app hgrow ((Kept.refl _ wr).alloc o)
  have hsz : (wr.alloc o).heap.size = wr.heap.size + 1 := by simp
  have hat := hat_of (w3 := wr) (W := wr.alloc o) (by rw [hsz]; exact hat0) (by omega)
  have hs := h.kept.size
  refine ⟨⟨h.bls.push hb hba hbv hown hkp hat, fun i hi q hq => ?_, fun q hq => ?_, fun i hi => ?_, by rw [List.length_append]; have := h.many; simp; omega, h.kept.step hkp (fun q hq e => by have := h.lnew q e; omega)⟩, hkp, hat⟩
  · rw [bl_snoc ls b i (by simpa using hi)] at hq
    by_cases e : i = ls.length
    · rw [if_pos e] at hq; exact hbn q hq
    · rw [if_neg e] at hq; exact h.new i (by simp at hi; omega) q hq
  · rcases hat with e | e
    · rw [e] at hq; exact h.lnew q hq
    · have := e q hq; omega
  · rw [bl_snoc ls b i (by simpa using hi)]
    by_cases e : i = ls.length
    · rw [if_pos e]; exact hbl
    · rw [if_neg e]; exact h.long i (by simp at hi; omega)

theorem SOwn.kept {w4 w' w'' : World} {its told : List ItV} (h : SOwn w4 w' its told) (hk : Kept (fun _ => False) w' w'') : SOwn w4 w'' its told :=
  ⟨h.len, fun i hi hn => hk.ownsRow (h.own i hi hn) (fun _ _ f => f), h.low, fun i hi q hq => ⟨(h.lt i hi q hq).1, Nat.lt_of_lt_of_le (h.lt i hi q hq).2 hk.size⟩, h.apart⟩

/-- While what a sheet was told is put behind the lists. -/
structure Tin (w6 w5 wr : World) (s : Nat) (lv0 lv : Value) (ls : List BL) (told : List ItV) (j m : Nat) : Prop where
  lst : Lst w6 wr lv ls (m + j)
  k5 : Kept (fun q => lv0.ownBlock = some q) w5 wr
  lat : lv.ownBlock = lv0.ownBlock ∨ ∀ q, lv.ownBlock = some q → w5.heap.size ≤ q
  old : ∀ i, i < ls.length → ∀ q, (ls.getD i BL.default).v.ownBlock = some q → q ≤ s ∨ ∃ i', i' < j ∧ (told.getD i' ItV.default).bv.ownBlock = some q

theorem Tin.start {w6 w5 : World} {s : Nat} {lv : Value} {ls : List BL} {told : List ItV} {m : Nat} (h : Lst w6 w5 lv ls m) (hls : ∀ i, i < ls.length → ∀ q, (ls.getD i BL.default).v.ownBlock = some q → q < s) : Tin w6 w5 w5 s lv lv ls told 0 m :=
  ⟨h, Kept.refl _ _, .inl rfl, fun i hi q hq => .inl (Nat.le_of_lt (hls i hi q hq))⟩

theorem Tin.skip {w6 w5 wr : World} {s : Nat} {lv0 lv : Value} {ls : List BL} {told : List ItV} {j m : Nat} (h : Tin w6 w5 wr s lv0 lv ls told j m) : Tin w6 w5 wr s lv0 lv ls told (j + 1) m :=
  ⟨⟨h.lst.bls, h.lst.new, h.lst.lnew, h.lst.long, by have := h.lst.many; omega, h.lst.kept⟩, h.k5, h.lat, fun i hi q hq => by
    rcases h.old i hi q hq with e | ⟨i', h1, h2⟩
    · exact .inl e
    · exact .inr ⟨i', by omega, h2⟩⟩

theorem Tin.push {w4 w6 w5 wr w' : World} {s : Nat} {lv0 lv lv' : Value} {ls : List BL} {its told : List ItV} {j m : Nat} {o : Obj} (h : Tin w6 w5 wr s lv0 lv ls told j m) (hso : SOwn w4 w5 its told) (hj : j < its.length) (hk : (its.getD j ItV.default).k ≠ 5) (hlong : (told.getD j ItV.default).xs.length ≤ 4194304)
    (hs4 : s ≤ w4.heap.size) (hs6 : w6.heap.size ≤ s) (hl0 : ∀ q, lv0.ownBlock = some q → q < s)
    (hown : w'.ownsRow 0 31 1 lv' (ls.length + 1) (ls.map BL.v ++ [(told.getD j ItV.default).bv])) (hgrow : (wr.alloc o).grownBy w' lv.ownBlock) (hat0 : lv'.ownBlock = lv.ownBlock ∨ lv'.ownBlock = some (wr.heap.size + 1)) :
    Tin w6 w5 w' s lv0 lv' (ls ++ [⟨(told.getD j ItV.default).bv, (told.getD j ItV.default).xs⟩]) told (j + 1) m := by
  have hlt := hso.lt j hj
  have hs5 := h.k5.size
  obtain ⟨h1, h2, h3⟩ := h.lst.push (b := ⟨(told.getD j ItV.default).bv, (told.getD j ItV.default).xs⟩) (Own8.kept (hso.own j hj hk) h.k5 (fun q hq e => by have := (hlt q hq).1; have := hl0 q e; omega)) hlong (fun q hq => by have := (hlt q hq).1; omega)
    (fun i hi q hq e => by
      rcases h.old i hi q hq with e' | ⟨i', e1, e2⟩
      · have := (hlt q e).1; omega
      · exact hso.apart i' j e1 hj q e2 e)
    (fun q hq e => by
      rcases h.lat with e' | e'
      · rw [e'] at e; have := hl0 q e; have := (hlt q hq).1; omega
      · have := e' q e; have := (hlt q hq).2; omega) hown hgrow hat0
  refine ⟨h1, h.k5.step h2 (fun q hq e => ?_), ?_, fun i hi q hq => ?_⟩
  · rcases h.lat with e' | e'
    · rw [← e']; exact e
    · have := e' q e; omega
  · rcases h3 with e | e
    · rw [e]; exact h.lat
    · exact .inr (fun q hq => by have := e q hq; omega)
  · rw [bl_snoc ls _ i (by simpa using hi)] at hq
    by_cases e : i = ls.length
    · rw [if_pos e] at hq; exact .inr ⟨j, by omega, hq⟩
    · rw [if_neg e] at hq
      rcases h.old i (by simp at hi; omega) q hq with e' | ⟨i', e1, e2⟩
      · exact .inl e'
      · exact .inr ⟨i', by omega, e2⟩
end Go.Proofs.Ytffabihenhejfab
