import Derived.Test.YtcahibbfejomcaaGreatDoorTTx45
import Derived.Test.YtcahibbfejomcaaGreatDoorTTx46
import Derived.Test.YtcahibbfejomcaaGreatDoorTTx50
namespace Go.Proofs.YtcahibbfejomcaaGreatDoor
open Go.RowKit
set_option linter.unusedVariables false
set_option linter.unusedSimpArgs false
set_option maxRecDepth 100000
theorem sha_len (xs : List Int) : (sha xs).length = 32 := by simp [sha, dig]
def encV (p : PG) : List Int := if encPE p = 0 then bytesP p else []
theorem encV_ok {p : PG} (ho : p.Ok) : (∀ x ∈ encV p, 0 ≤ x ∧ x ≤ 255) ∧ (encV p).length ≤ 1048576 := by
 unfold encV
 split
 ·rename_i h
  have k := encPE_zero h
  exact ⟨(bytesP_ok ho k.1 (by omega)).1, k.2⟩
 ·exact ⟨by simp, by simp⟩
theorem encV_str {p q : PG} (hp : p.Ok) (hq : q.Ok) : ((str (encV p)).toList == (str (encV q)).toList) = decide (encV p = encV q) := str_eq _ _ (encV_ok hp).1 (encV_ok hq).1
theorem encV_same {p q : PG} (hp : p.Ok) (hq : q.Ok) (h : encPE p = 0) (h' : encPE q = 0) : ((str (encV p)).toList == (str (encV q)).toList) = sameP p q := by
 unfold encV
 rw [if_pos h, if_pos h']
 exact right_sameP hp hq h h'
theorem bin_isB {w : World} {v : Value} {xs : List Int} (h : BIn w v xs) : IsB w v xs := by
 obtain ⟨ao, c, rfl, hc, rfl | ⟨b, o, rfl, hx⟩⟩ := h
 ·exact .inl ⟨rfl, _, _, rfl⟩
 ·exact .inr ⟨b, o, c, rfl, hx⟩
theorem bin_own {w : World} {base : Nat} {v : Value} {n : Nat} {xs : List Int} (h : w.ownsRow base 5 1 v n (xs.map (Value.int .u8))) : BIn w v xs := by
 have hl := h.1
 simp at hl
 rcases h.2 with ⟨rfl, rfl⟩ | ⟨g, cap, cur, rfl, _, _, hcap, _⟩
 ·obtain rfl := List.length_eq_zero_iff.1 hl
  exact ⟨_, _, rfl, Nat.le_refl _, .inl rfl⟩
 ·subst hl
  exact ⟨_, cap, rfl, (by omega), .inr ⟨g, 0, rfl, fun i hi => by simpa [Addr.add_lit] using own_cells h i hi⟩⟩
def EncA (p : PG) (w : World) (e : Ending) (w' : World) : Prop := Kept (fun _ => False) w w' ∧ ∃ ao n c, e = .returned (.tuple #[.slice ao n c, .int .i64 (encPE p)]) ∧ BIn w' (.slice ao n c) (encV p)
theorem encode_a (v : Value) (p : PG) (w : World) (B : Nat) (h : PgIs w B v p) (hB : B ≤ w.heap.size) (ho : p.Ok) : Calls Tryz.prog 5 #[v] w (EncA p w) := by
 refine (encode_p v p w B h hB ho).mono ?_
 rintro e w' ⟨hk, he⟩
 refine ⟨hk, ?_⟩
 unfold encV
 split at he
 ·rename_i h0
  obtain ⟨v', rfl, ho⟩ := he
  have hb := bin_own ho
  obtain ⟨ao, c, rfl, hr⟩ := id hb
  rw [if_pos h0, h0]
  exact ⟨_, _, _, rfl, hb⟩
 ·rename_i h0
  rw [if_neg h0]
  exact ⟨none, 0, 0, he, none, 0, rfl, Nat.le_refl _, .inl rfl⟩
theorem laid_same {w w' : World} (h : Laid w) (hk : Kept (fun _ => False) w w') : Laid w' := fun t ht => hk.cell (h t ht) id
theorem of_one (W : World) (v : Value) (p : PG) (ho : p.Ok) (hb : BIn W v (encV p)) (hL : Laid W) :
  Calls Tryz.prog 7 #[.slice (some ⟨W.heap.size, 0, none⟩) 1 1] (W.alloc (.cells #[v] 22)) fun e w' => e = .returned (.agg ((sha (encV p)).map (Value.int .u8)).toArray) ∧ Kept (fun _ => False) W w' := by
 have hk : Kept (fun _ => False) W (W.alloc (.cells #[v] 22)) := (Kept.refl _ _).alloc _
 have h1 := s_of_any (.slice (some ⟨W.heap.size, 0, none⟩) 1 1) [encV p] (W.alloc (.cells #[v] 22)) ⟨_, 1, rfl, fun i hi => by
  obtain rfl : i = 0 := by simp at hi; omega
  exact ⟨_, 0, v, rfl, cell_block _ _ 0 _ _ _ (heap_alloc_new W _), hb.kept hk (fun _ _ f => f)⟩⟩ (fun l hl x hx => by
   simp at hl
   subst hl
   have := (encV_ok ho).1 x hx
   omega) (laid_same hL hk) (by have := (encV_ok ho).2; simp; omega) (by simp)
 have e : [encV p].flatten = encV p := by simp
 rw [e] at h1
 exact h1.mono (fun e w' ⟨h1, h2⟩ => ⟨h1, hk.trans h2⟩)
theorem of_row (W : World) (g : Nat) (v : Value) (p : PG) (ho : p.Ok) (hr : W.heap[g]? = some (.cells #[v] 22 (0, 0))) (hb : BIn W v (encV p)) (hL : Laid W) :
  Calls Tryz.prog 7 #[.slice (some ⟨g, 0, none⟩) 1 1] W fun e w' => e = .returned (.agg ((sha (encV p)).map (Value.int .u8)).toArray) ∧ Kept (fun _ => False) W w' := by
 have h1 := s_of_any (.slice (some ⟨g, 0, none⟩) 1 1) [encV p] W ⟨_, 1, rfl, fun i hi => by
  obtain rfl : i = 0 := by simp at hi; omega
  exact ⟨_, 0, v, rfl, cell_block _ _ 0 _ _ _ hr, hb⟩⟩ (fun l hl x hx => by
   simp at hl
   subst hl
   have := (encV_ok ho).1 x hx
   omega) hL (by have := (encV_ok ho).2; simp; omega) (by simp)
 have e : [encV p].flatten = encV p := by simp
 rw [e] at h1
 exact h1
theorem eqIn_sha (W : World) (xs : List Int) : (Op.equalIn 10000 32 (.agg ((sha xs).map (Value.int .u8)).toArray) (.agg ((sha xs).map (Value.int .u8)).toArray)).run Tryz.prog W = .ok true W := by
 rw [run_eq_arr W 9998 32 32 (sha xs) (sha xs) Tryz.underlying32 (sha_len _) (sha_len _)]
 simp
theorem printS_zero {p : PG} (h : printE p ≠ 0) : printS p = ⟨#[]⟩ := by
 unfold printS
 rw [if_neg h]
theorem print_same {p q : PG} (hp : printE p = 0) (hq : printE q = 0) (op : p.Ok) (oq : q.Ok) : ((printS p).toList == (printS q).toList) = sameP p q := by
 have h := @toL_eq (printS p) (printS q)
 cases hs : sameP p q
 ·cases hb : ((printS p).toList == (printS q).toList)
  ·rfl
  ·have := print_inj hp hq op oq (h.1 hb)
   subst this
   rw [sameP_refl] at hs
   cases hs
 ·have := sameP_eq op oq hs
  subst this
  simp
structure TtI (w0 w : World) (gp gq : Nat) (c1 c2 : Array Value) (p q : PG) : Prop where
 x1 : w.heap[gp]? = some (.cells c1 25 (0, 0))
 x2 : w.heap[gq]? = some (.cells c2 25 (0, 0))
 p1 : PgIs w gp (.agg c1) p
 p2 : PgIs w gp (.agg c2) q
 k : Kept (fun _ => False) w0 w
 lo : gp ≤ w.heap.size
theorem TtI.step {w0 w w' : World} {gp gq : Nat} {c1 c2 : Array Value} {p q : PG} (h : TtI w0 w gp gq c1 c2 p q) (hk : Kept (fun _ => False) w w') : TtI w0 w' gp gq c1 c2 p q :=
 ⟨box_kept hk h.x1 id, box_kept hk h.x2 id, h.p1.kept hk (fun _ _ f => f), h.p2.kept hk (fun _ _ f => f), h.k.trans hk, Nat.le_trans h.lo hk.size⟩
end Go.Proofs.YtcahibbfejomcaaGreatDoor
