/-
 Mq: Wl, Csteps2, Wb, Ww.
-/
import Derived.Test.YtjdbmjkidljhpaaGreatDoorTMp
import Derived.Laws.CopyRow
import Derived.Test.YtjdbmjkidljhpaaGreatDoorTMo
import Derived.Deep.Strs
import Derived.OpenShut
import Derived.ChangeOld
namespace Go.Proofs.YtjdbmjkidljhpaaGreatDoor
open Go.RowKit
set_option linter.unusedVariables false
set_option linter.unusedSimpArgs false
set_option maxRecDepth 100000
/-- The memory in which bytes are handed in. -/
def InM (w : World) (iv : Value) (m : Nat) : Prop := (iv = .slice none 0 0 ∧ m = 0) ∨ ∃ gi cs, iv = .slice (some ⟨gi, 0, none⟩) m m ∧ w.heap[gi]? = some (.cells cs 5 (0, 0)) ∧ cs.size = m
structure LentI (w : World) (gi m : Nat) (xs : List Int) (j : Nat) : Prop where
 hold : ∃ cs, w.heap[gi]? = some (.cells cs 5 (0, 0)) ∧ cs.size = m ∧ (∀ i, i < xs.length → cs[i]? = some (.int .u8 (xs.getD i 0))) ∧ ∀ i, i < j → cs[xs.length + i]? = some (.int .u8 169)
 fit : xs.length + 5 ≤ m
theorem LentI.at {w : World} {gi m : Nat} {xs : List Int} {j : Nat} (h : LentI w gi m xs j) {i : Nat} (hi : i < xs.length) : w.cell? ⟨gi, i, none⟩ = some (.int .u8 (xs.getD i 0)) := by
 obtain ⟨cs, h1, _, h3, _⟩ := h.hold
 rw [cell_block _ _ _ _ _ _ h1]
 exact h3 i hi
theorem LentI.mark {w : World} {gi m : Nat} {xs : List Int} {j : Nat} (h : LentI w gi m xs j) {i : Nat} (hi : i < j) : w.cell? ⟨gi, xs.length + i, none⟩ = some (.int .u8 169) := by
 obtain ⟨cs, h1, _, _, h4⟩ := h.hold
 rw [cell_block _ _ _ _ _ _ h1]
 exact h4 i hi
theorem LentI.cells {w : World} {gi m : Nat} {xs : List Int} {j i : Nat} (h : LentI w gi m xs j) (hi : i < xs.length + 5) : (∃ u, w.cell? ⟨gi, i, none⟩ = some u) ∧ w.frozen? ⟨gi, i, none⟩ = false := by
 obtain ⟨cs, h1, h2, _, _⟩ := h.hold
 have := h.fit
 refine ⟨⟨cs[i]'(by omega), ?_⟩, frozen_block _ _ _ _ _ h1⟩
 rw [cell_block _ _ _ _ _ _ h1]
 exact Array.getElem?_eq_getElem (by omega)
theorem LentI.step {w : World} {gi m : Nat} {xs : List Int} {j : Nat} (h : LentI w gi m xs j) (hj : j < 5) : LentI (w.setCell ⟨gi, xs.length + j, none⟩ (.int .u8 169)) gi m xs (j + 1) := by
 obtain ⟨cs, h1, h2, h3, h4⟩ := h.hold
 have hf := h.fit
 refine ⟨⟨_, set_block _ _ _ _ _ _ h1 _, by rw [Array.size_setIfInBounds]; exact h2, fun i hi => ?_, fun i hi => ?_⟩, hf⟩
 ·rw [Array.getElem?_setIfInBounds, if_neg (by omega)]
  exact h3 i hi
 ·rw [Array.getElem?_setIfInBounds]
  by_cases e : i = j
  ·subst e
   rw [if_pos rfl, if_pos (by omega)]
  ·rw [if_neg (by omega)]
   exact h4 i (by omega)
theorem LentI.bin {w : World} {gi m : Nat} {xs : List Int} {j : Nat} (h : LentI w gi m xs j) : BIn w (.slice (some ⟨gi, 0, none⟩) xs.length m) xs :=
 ⟨some ⟨gi, 0, none⟩, m, rfl, by have := h.fit; omega, .inr ⟨gi, 0, rfl, fun i hi => by rw [Nat.zero_add]; exact h.at hi⟩⟩
theorem LentI.kept {S : Nat → Prop} {w w' : World} {gi m : Nat} {xs : List Int} {j : Nat} (h : LentI w gi m xs j) (hk : Kept S w w') (hs : ¬ S gi) : LentI w' gi m xs j := by
 obtain ⟨cs, h1, h2, h3, h4⟩ := h.hold
 exact ⟨⟨cs, (hk.block gi (heap_lt h1) hs).trans h1, h2, h3, h4⟩, h.fit⟩
theorem LentI.inm {w : World} {gi m : Nat} {xs : List Int} {j : Nat} (h : LentI w gi m xs j) : InM w (.slice (some ⟨gi, 0, none⟩) m m) m := by
 obtain ⟨cs, h1, h2, _, _⟩ := h.hold
 exact .inr ⟨gi, cs, rfl, h1, h2⟩
theorem info5s : (Tryz.prog.info? 5).map (·.size) = some 1 := by kernel_rfl
/-- Bytes copied to the front of the memory. -/
theorem lend_copy {w : World} {gi m : Nat} {cs : Array Value} (hg : w.heap[gi]? = some (.cells cs 5 (0, 0))) (hs : cs.size = m) {v : Value} {xs : List Int} (hx : BIn w v xs) (hf : xs.length + 5 ≤ m) (ty : TypeId) :
  ∃ W', (Builtin.copy_ #[27, 27] ty #[.slice (some ⟨gi, 0, none⟩) (xs.length + 5) m, v]).run Tryz.prog w = .ok (goInt xs.length) W' ∧ LentI W' gi m xs 0 ∧ Kept (fun q => q = gi) w W' := by
 obtain ⟨ao, c, rfl, hc, h1⟩ := hx
 cases ao with
 | none =>
  have h0 : xs = [] := by
   rcases h1 with h1 | ⟨b, o, h, _⟩
   ·exact h1
   ·cases h
  subst h0
  refine ⟨_, run_copy_none (P := Tryz.prog) _ 27 27 ty 5 _ _ _ _ _ _ Tryz.underlying27 info5s (by simp), ⟨⟨cs, hg, hs, fun i hi => absurd hi (by simp), fun i hi => absurd hi (by omega)⟩, hf⟩, Kept.refl _ _⟩
 | some p =>
  have hcc : ∀ j u, (xs.map (Value.int .u8))[j]? = some u → w.cell? (p.add j) = some u := by
   intro j u hj
   have hjl : j < xs.length := by
    have := (List.getElem?_eq_some_iff.1 hj).1
    simpa using this
   rcases h1 with h1 | ⟨b, o, h, h1⟩
   ·rw [h1] at hjl; exact absurd hjl (Nat.not_lt_zero _)
   ·cases h
    rw [Addr.add_mid, h1 j hjl, ← hj]
    simp [List.getD, hjl]
  have hr := run_copy_row (P := Tryz.prog) w 27 27 ty 5 gi 0 (xs.length + 5) m p xs.length c cs 5 (xs.map (Value.int .u8)) Tryz.underlying27 info5s hg (by simp) hcc (by simp; omega) (ones8 xs)
  rw [List.length_map] at hr
  refine ⟨_, hr, ⟨⟨_, setRow_heap _ _ _ _ _ _ hg, ?_, fun i hi => ?_, fun i hi => absurd hi (by omega)⟩, hf⟩, kept_rowx _ _ _⟩
  ·simp
   omega
  ·simp [List.getElem?_append, hi, List.getD]
/-- What lend leaves. -/
def LendW (w : World) (g : Nat) (ps pr iv : Value) (xs : List Int) (e : Ending) (w' : World) : Prop :=
 ∃ gi m', e = .returned (.slice (some ⟨gi, 0, none⟩) xs.length m') ∧ LentI w' gi m' xs 5 ∧ w'.heap[g]? = some (.cells #[ps, pr, .slice (some ⟨gi, 0, none⟩) m' m'] 36 (0, 0)) ∧ m' ≤ 100000 ∧ Kept (fun q => q = g ∨ iv.ownBlock = some q) w w' ∧ (iv.ownBlock = some gi ∨ w.heap.size ≤ gi)
set_option maxHeartbeats 8000000 in
theorem lend_any (s r : Nat) {w : World} {g : Nat} {iv : Value} {m : Nat} (hg : w.heap[g]? = some (.cells #[.pointer (some ⟨s, 0, none⟩), .pointer (some ⟨r, 0, none⟩), iv] 36 (0, 0))) (hi : InM w iv m) (hm : m ≤ 100000) (bv : Value) (xs : List Int) (hx : BIn w bv xs) (hn : xs.length ≤ 8192) (hne : xs ≠ [] → ∀ q, bv.ownBlock = some q → q ≠ g) :
  Calls Tryz.prog 33 #[.pointer (some ⟨g, 0, none⟩), bv] w (LendW w g (.pointer (some ⟨s, 0, none⟩)) (.pointer (some ⟨r, 0, none⟩)) iv xs) := by
 obtain ⟨bo, bc, rfl⟩ := hx.form
 obtain ⟨ps, hps⟩ : ∃ v, v = Value.pointer (some ⟨s, 0, none⟩) := ⟨_, rfl⟩
 obtain ⟨pr, hpr⟩ : ∃ v, v = Value.pointer (some ⟨r, 0, none⟩) := ⟨_, rfl⟩
 rw [← hps, ← hpr] at hg ⊢
 clear hps hpr
 obtain ⟨n, hN⟩ : ∃ n, n = xs.length := ⟨_, rfl⟩
 have HN := hid_of hN
 have hnI : (n : Int) ≤ 8192 := by omega
 have hn8 : n ≤ 8192 := by omega
 have hmI : (m : Int) ≤ 100000 := by omega
 have hgl : g < w.heap.size := heap_lt hg
 have hfg := frozen_block w g 2 _ _ hg
 unfold LendW
 by_cases hlt : m < n + 5
 ·have hltI : (m : Int) < (n : Int) + 5 := by omega
  have mk := make_any w (2 * n + 64) (by omega)
  rw [show ((2 * n + 64 : Nat) : Int) = 2 * (n : Int) + 64 from by omega] at mk
  have hw1 : IntKind.i64.wrap (2 * (n : Int)) = 2 * (n : Int) := by rw [IntKind.wrap_i64]; omega
  have hw2 : IntKind.i64.wrap (2 * (n : Int) + 64) = 2 * (n : Int) + 64 := by rw [IntKind.wrap_i64]; omega
  have hw3 : IntKind.i64.wrap ((n : Int) + 5) = (n : Int) + 5 := by rw [IntKind.wrap_i64]; omega
  obtain ⟨M, hM⟩ : ∃ q, q = 2 * n + 64 := ⟨_, rfl⟩
  rw [← hM] at mk
  have hMb : n + 5 ≤ M ∧ M ≤ 20000 := by omega
  have HBNDM := hid_of hMb
  clear hM hMb
  have HMK := hid_of mk
  have hX1 : ((w.setCell ⟨g, 2, none⟩ (.slice (some ⟨w.heap.size, 0, none⟩) M M)).alloc (.cells (zer M) 5)).heap[w.heap.size]? = some (.cells (zer M) 5 (0, 0)) := by
   have := alloc_new (w.setCell ⟨g, 2, none⟩ (.slice (some ⟨w.heap.size, 0, none⟩) M M)) (.cells (zer M) 5) rfl
   rw [show (w.setCell ⟨g, 2, none⟩ (.slice (some ⟨w.heap.size, 0, none⟩) M M)).heap.size = w.heap.size by simp [World.setCell]] at this
   exact this
  have hX2 : ((w.setCell ⟨g, 2, none⟩ (.slice (some ⟨w.heap.size, 0, none⟩) M M)).alloc (.cells (zer M) 5)).heap[g]? = some (.cells #[ps, pr, .slice (some ⟨w.heap.size, 0, none⟩) M M] 36 (0, 0)) := alloc_old (by rw [set_block _ _ _ _ _ _ hg]; rfl)
  have hX3 : Kept (fun q => q = g ∨ iv.ownBlock = some q) w ((w.setCell ⟨g, 2, none⟩ (.slice (some ⟨w.heap.size, 0, none⟩) M M)).alloc (.cells (zer M) 5)) := ((kept_set w ⟨g, 2, none⟩ _).mono (fun q _ e => .inl e)).alloc _
  have hX4 : BIn ((w.setCell ⟨g, 2, none⟩ (.slice (some ⟨w.heap.size, 0, none⟩) M M)).alloc (.cells (zer M) 5)) (.slice bo xs.length bc) xs := hx.kept2 ((kept_set w ⟨g, 2, none⟩ _).alloc _) (fun h0 q hq e => hne h0 q hq e)
  have HX1 := hid_of hX1
  have HX2 := hid_of hX2
  have HX3 := hid_of hX3
  have HX4 := hid_of hX4
  have HNE : Hid (g ≠ w.heap.size) := by show g ≠ w.heap.size; omega
  have c2 : w.cell? ⟨g, 2, none⟩ = some iv := cell_block _ _ _ _ _ _ hg
  have hiv : ∃ ao, iv = .slice ao m m := by
   rcases hi with ⟨e, e2⟩ | ⟨gi, cs, e, _⟩
   ·exact ⟨none, by rw [e, e2]⟩
   ·exact ⟨_, e⟩
  obtain ⟨ao, rfl⟩ := hiv
  rw [← hN]
  clear hX1 hX2 hX3 hX4 hi hx hne hN
  go_enter Tryz.func33, Tryz.ntmps33
  go_upto_region 3 with fail
  generalize (w.setCell ⟨g, 2, none⟩ (.slice (some ⟨w.heap.size, 0, none⟩) M M)).alloc (.cells (zer M) 5) = wX at *
  have cX := cell_block _ g 2 _ _ _ HX2.out
  have hnM : (n : Int) + 5 ≤ (M : Int) := by have := HBNDM.out; omega
  obtain ⟨gi, hgi⟩ : ∃ q, q = w.heap.size := ⟨_, rfl⟩
  rw [← hgi] at HX1 HX2 HNE cX ⊢
  have HGI := hid_of hgi
  clear hgi
  obtain ⟨W', hcp, hl, hkc⟩ := lend_copy HX1.out (zer_size M) HX4.out (by rw [← HN.out]; exact HBNDM.out.1) 3
  rw [← HN.out] at hcp
  have HRC := hid_of hcp
  have HL0 := hid_of hl
  have HK0 : Hid (Kept (fun q => q = g ∨ (Value.slice ao m m).ownBlock = some q) w W') := HX3.out.step hkc (fun i hi e => by have e' : i = gi := e; have := HGI.out; omega)
  have HG0 : Hid (W'.heap[g]? = some (.cells #[ps, pr, .slice (some ⟨gi, 0, none⟩) M M] 36 (0, 0))) := (hkc.block g (heap_lt HX2.out) (fun e => HNE.out e)).trans HX2.out
  have hcp2 := HRC.out
  clear hcp hl hkc HX1 HX2 HX3 HX4 c2 hfg mk HMK
  go_wp2
  clear hcp2 cX
  clear HRC
  go_loopw [6] (fun i wr => ∃ j : Nat, j ≤ 5 ∧ i = .int .i64 ((n : Int) + (j : Int)) ∧ Hid (LentI wr gi M xs j) ∧ Hid (Kept (fun q => q = g ∨ (Value.slice ao m m).ownBlock = some q) w wr) ∧ Hid (wr.heap[g]? = some (.cells #[ps, pr, .slice (some ⟨gi, 0, none⟩) M M] 36 (0, 0)))) (fun i _ => (n + 5) - (intOf i).toNat)
  case atStart => exact ⟨0, by omega, by simp, HL0, HK0, HG0⟩
  case round =>
   clear HL0 HK0 HG0
   obtain ⟨j, hj, rfl, HL, HK, HG⟩ := hrel
   by_cases hlt : j < 5
   ·obtain ⟨⟨u, hu⟩, hfz⟩ := HL.out.cells (i := n + j) (by rw [HN.out]; omega)
    have hls := HL.out.step hlt
    rw [← HN.out] at hls
    have HLS := hid_of hls
    have HKS : Hid (Kept (fun q => q = g ∨ (Value.slice ao m m).ownBlock = some q) w (wr.setCell ⟨gi, n + j, none⟩ (.int .u8 169))) := HK.out.setCell (p := ⟨gi, n + j, none⟩) (.inl (by show w.heap.size ≤ gi; have := HGI.out; omega)) _
    have HGS : Hid ((wr.setCell ⟨gi, n + j, none⟩ (.int .u8 169)).heap[g]? = some (.cells #[ps, pr, .slice (some ⟨gi, 0, none⟩) M M] 36 (0, 0))) := ((kept_set wr ⟨gi, n + j, none⟩ (.int .u8 169)).block g (heap_lt HG.out) (fun e => HNE.out e)).trans HG.out
    have hjI : (n : Int) + (j : Int) < (n : Int) + 5 := by omega
    have hbi : ((n : Int) + (j : Int)).toNat = n + j := by omega
    clear hls HL HK HG
    go_wp2
    go_roundw
    case rel => exact ⟨j + 1, by omega, by go_num, HLS, HKS, HGS⟩
    case measure => simp [intOf]; omega
   ·obtain rfl : j = 5 := by omega
    have hjI : ¬ ((n : Int) + ((5 : Nat) : Int) < (n : Int) + 5) := by omega
    go_wp2
    go_ret
    exact ⟨gi, M, rfl, HL.out, HG.out, (by have := HBNDM.out; omega), HK.out, .inr (by have := HGI.out; omega)⟩
 ·have hltI : ¬ ((m : Int) < (n : Int) + 5) := by omega
  have hw3 : IntKind.i64.wrap ((n : Int) + 5) = (n : Int) + 5 := by rw [IntKind.wrap_i64]; omega
  obtain ⟨gi, cs, rfl, hgi, hcs⟩ : ∃ gi cs, iv = .slice (some ⟨gi, 0, none⟩) m m ∧ w.heap[gi]? = some (.cells cs 5 (0, 0)) ∧ cs.size = m := by
   rcases hi with ⟨e, e2⟩ | h
   ·omega
   ·exact h
  obtain ⟨W', hcp, hl, hkc⟩ := lend_copy hgi hcs hx (by rw [← hN]; omega) 3
  rw [← hN] at hcp
  have HNE : Hid (g ≠ gi) := fun e => by
   subst e
   rw [hg] at hgi
   injection hgi with h9
   injection h9 with _ h9 _
   exact absurd h9 (by decide)
  have HRC := hid_of hcp
  have HL0 := hid_of hl
  have HK0 : Hid (Kept (fun q => q = g ∨ (Value.slice (some ⟨gi, 0, none⟩) m m).ownBlock = some q) w W') := hkc.mono (fun i _ e => .inr (by rw [e]; rfl))
  have HG0 : Hid (W'.heap[g]? = some (.cells #[ps, pr, .slice (some ⟨gi, 0, none⟩) m m] 36 (0, 0))) := (hkc.block g hgl (fun e => HNE.out e)).trans hg
  have cX : w.cell? ⟨g, 2, none⟩ = some (.slice (some ⟨gi, 0, none⟩) m m) := cell_block _ _ _ _ _ _ hg
  have hnM : (n : Int) + 5 ≤ (m : Int) := by omega
  have hcp2 := HRC.out
  rw [← hN]
  clear hcp hl hkc hfg hi hx hne hN hg hgi hcs
  go_enter Tryz.func33, Tryz.ntmps33
  go_wp2
  clear hcp2 cX
  clear HRC
  go_loopw [6] (fun i wr => ∃ j : Nat, j ≤ 5 ∧ i = .int .i64 ((n : Int) + (j : Int)) ∧ Hid (LentI wr gi m xs j) ∧ Hid (Kept (fun q => q = g ∨ (Value.slice (some ⟨gi, 0, none⟩) m m).ownBlock = some q) w wr) ∧ Hid (wr.heap[g]? = some (.cells #[ps, pr, .slice (some ⟨gi, 0, none⟩) m m] 36 (0, 0)))) (fun i _ => (n + 5) - (intOf i).toNat)
  case atStart => exact ⟨0, by omega, by simp, HL0, HK0, HG0⟩
  case round =>
   clear HL0 HK0 HG0
   obtain ⟨j, hj, rfl, HL, HK, HG⟩ := hrel
   by_cases hlt : j < 5
   ·obtain ⟨⟨u, hu⟩, hfz⟩ := HL.out.cells (i := n + j) (by rw [HN.out]; omega)
    have hls := HL.out.step hlt
    rw [← HN.out] at hls
    have HLS := hid_of hls
    have HKS : Hid (Kept (fun q => q = g ∨ (Value.slice (some ⟨gi, 0, none⟩) m m).ownBlock = some q) w (wr.setCell ⟨gi, n + j, none⟩ (.int .u8 169))) := HK.out.setCell (p := ⟨gi, n + j, none⟩) (.inr (.inr rfl)) _
    have HGS : Hid ((wr.setCell ⟨gi, n + j, none⟩ (.int .u8 169)).heap[g]? = some (.cells #[ps, pr, .slice (some ⟨gi, 0, none⟩) m m] 36 (0, 0))) := ((kept_set wr ⟨gi, n + j, none⟩ (.int .u8 169)).block g (heap_lt HG.out) (fun e => HNE.out e)).trans HG.out
    have hjI : (n : Int) + (j : Int) < (n : Int) + 5 := by omega
    have hbi : ((n : Int) + (j : Int)).toNat = n + j := by omega
    clear hls HL HK HG
    go_wp2
    go_roundw
    case rel => exact ⟨j + 1, by omega, by go_num, HLS, HKS, HGS⟩
    case measure => simp [intOf]; omega
   ·obtain rfl : j = 5 := by omega
    have hjI : ¬ ((n : Int) + ((5 : Nat) : Int) < (n : Int) + 5) := by omega
    go_wp2
    go_ret
    exact ⟨gi, m, rfl, HL.out, HG.out, hm, HK.out, .inl rfl⟩
end Go.Proofs.YtjdbmjkidljhpaaGreatDoor
namespace Go.Proofs.YtjdbmjkidljhpaaGreatDoor
open Go.ChangeShapes Go.WideShapes Go.ChangeAt Go.RowKit Go.Deep
set_option linter.unusedVariables false
set_option linter.unusedSimpArgs false
set_option maxRecDepth 100000
/-- One step of a script. -/
structure Stp where
 kd : Int
 bv : Value
 xs : List Int
 cv : Value
 ys : List Int
 d : List Int
 own : Bool
 n : Int
def Stp.cells (t : Stp) : List Value := .int .i64 t.kd :: t.bv :: t.cv :: (t.d.map (Value.int .u8) ++ [.bool t.own, .int .i64 t.n])
structure Stp.Ok (w : World) (t : Stp) : Prop where
 bb : BIn w t.bv t.xs
 br : ∀ x ∈ t.xs, 0 ≤ x ∧ x < 256
 cb : BIn w t.cv t.ys
 cr : ∀ x ∈ t.ys, 0 ≤ x ∧ x < 256
 dl : t.d.length = 32
 dr : ∀ x ∈ t.d, 0 ≤ x ∧ x < 256
 bl : t.xs.length ≤ maxLen
 cl : t.ys.length ≤ maxLen
/-- A value is a slice of steps. -/
def TIs (w : World) (v : Value) (ts : List Stp) : Prop :=
 ∃ ao cap, v = .slice ao ts.length cap ∧ ts.length ≤ maxLen ∧ ∀ i t, ts[i]? = some t → t.Ok w ∧ ∃ g o, ao = some ⟨g, o, none⟩ ∧ w.rangeAt g (o + i * 37) t.cells
theorem cells30 : Tryz.prog.cellsOf 31 = 37 := by kernel_rfl
theorem cells26 : Tryz.prog.cellsOf 27 = 1 := by kernel_rfl
theorem cells28 : Tryz.prog.cellsOf 29 = 32 := by kernel_rfl
theorem cells3 : Tryz.prog.cellsOf 3 = 1 := by kernel_rfl
theorem cells4 : Tryz.prog.cellsOf 4 = 1 := by kernel_rfl
theorem cells5' : Tryz.prog.cellsOf 5 = 1 := by kernel_rfl
section
variable {H : Type} {enc : TypeId × Value → H} {W : World} {base : Nat} {spare : Nat → Bool} {held : Bool}
theorem open_by {fuel : Nat} {v : Value} {x : DataW H × List MemPlace} (h : DataW.trod enc Tryz.prog W base spare held fuel 27 [v] = some x) :
  ∃ xs : List Int, BIn W v xs ∧ (∀ y ∈ xs, 0 ≤ y ∧ y < 256) ∧ xs.length ≤ maxLen := by
 rcases open_ints Tryz.underlying27 Tryz.underlying5 cells5' h with ⟨hcs, _⟩ | ⟨a, len, cap, zs, hcs, hb, hl, hm, hz, _, hcell, hwz⟩
 ·cases hcs
  exact ⟨[], ⟨none, 0, rfl, Nat.le_refl _, .inl rfl⟩, fun y hy => (by cases hy), Nat.zero_le _⟩
 ·cases hcs
  have hle : len ≤ zs.length := by rw [hz]; split <;> omega
  have hlen : (zs.take len).length = len := by rw [List.length_take]; omega
  refine ⟨zs.take len, ?_, fun y hy => ?_, by rw [hlen]; omega⟩
  ·by_cases h0 : len = 0
   ·exact ⟨some a, cap, by rw [hlen], by omega, .inl (by rw [h0]; rfl)⟩
   ·obtain ⟨b, off, spot⟩ := a
    have hc := hcell 0 (by omega)
    have hspot : spot = none := by simpa [Addr.add] using World.cell?_spot hc
    subst hspot
    refine ⟨_, cap, by rw [hlen], by omega, .inr ⟨b, off, rfl, fun i hi => ?_⟩⟩
    rw [hlen] at hi
    have := hcell i (by omega)
    rw [Addr.add_mid] at this
    rw [this]
    simp [List.getD, List.getElem?_take, hi]
  ·have b := bounds_u8 (hwz y (List.mem_of_mem_take hy))
   omega
theorem open_d {fuel : Nat} {cs : List Value} {x : DataW H × List MemPlace} (h : DataW.trod enc Tryz.prog W base spare held fuel 29 cs = some x) : ∃ d : List Int, d.length = 32 ∧ cs = d.map (Value.int .u8) ∧ ∀ y ∈ d, 0 ≤ y ∧ y < 256 := by
 obtain ⟨ys, m, _, _, hlen, hl, hel⟩ := DataW.trod_array Tryz.underlying29 h
 rw [cells28] at hlen
 have key : ∀ i, i < 32 → ∃ n : Int, cs[i]? = some (.int .u8 n) ∧ 0 ≤ n ∧ n < 256 := by
  intro i hi
  have h0 := hel i hi
  rw [cells5', Nat.mul_one, List.getElem?_eq_getElem (by omega)] at h0
  obtain ⟨n, e1, _, hw⟩ := DataW.trod_int Tryz.underlying5 h0
  have := congrArg (fun l => l[0]?) e1
  have b := bounds_u8 hw
  exact ⟨n, by simpa [List.getElem?_take, List.getElem?_drop] using this, b.1, by omega⟩
 refine ⟨cs.map intOf, by simp [hlen], ?_, fun y hy => ?_⟩
 ·apply List.ext_getElem?
  intro i
  by_cases hi : i < 32
  ·obtain ⟨n, hn, _⟩ := key i hi
   rw [hn]
   simp [hn, intOf]
  ·rw [List.getElem?_eq_none (by omega), List.getElem?_eq_none (by simp; omega)]
 ·obtain ⟨u, hu, rfl⟩ := List.mem_map.1 hy
  obtain ⟨i, hi, rfl⟩ := List.getElem_of_mem hu
  obtain ⟨n, hn, hn2⟩ := key i (by omega)
  rw [List.getElem?_eq_getElem hi] at hn
  rw [Option.some.inj hn]
  exact hn2
set_option maxRecDepth 100000 in
theorem open_step {fuel : Nat} {cs : List Value} {x : DataW H × List MemPlace} (h : DataW.trod enc Tryz.prog W base spare held fuel 31 cs = some x) : ∃ t : Stp, cs = t.cells ∧ t.Ok W := by
 obtain ⟨ys, n, _, _, hl, hlen, hf⟩ := DataW.trod_struct Tryz.underlying31 h
 rw [cells30] at hl
 match ys, hlen with
 | [y0, y1, y2, y3, y4, y5], _ =>
  have g0 : DataW.trod enc Tryz.prog W base spare held n 3 ((cs.drop 0).take 1) = some y0 := by simpa [cells3] using hf 0 _ rfl
  have g1 : DataW.trod enc Tryz.prog W base spare held n 27 ((cs.drop 1).take 1) = some y1 := by simpa [cells26] using hf 1 _ rfl
  have g2 : DataW.trod enc Tryz.prog W base spare held n 27 ((cs.drop 2).take 1) = some y2 := by simpa [cells26] using hf 2 _ rfl
  have g3 : DataW.trod enc Tryz.prog W base spare held n 29 ((cs.drop 3).take 32) = some y3 := by simpa [cells28] using hf 3 _ rfl
  have g4 : DataW.trod enc Tryz.prog W base spare held n 4 ((cs.drop 35).take 1) = some y4 := by simpa [cells4] using hf 4 _ rfl
  have g5 : DataW.trod enc Tryz.prog W base spare held n 3 ((cs.drop 36).take 1) = some y5 := by simpa [cells3] using hf 5 _ rfl
  have e1 : (cs.drop 1).take 1 = [cs[1]'(by omega)] := by rw [List.drop_eq_getElem_cons (by omega)]; rfl
  have e2 : (cs.drop 2).take 1 = [cs[2]'(by omega)] := by rw [List.drop_eq_getElem_cons (by omega)]; rfl
  obtain ⟨kd, e0, _, wk⟩ := DataW.trod_int Tryz.underlying3 g0
  rw [e1] at g1
  rw [e2] at g2
  obtain ⟨xs, b1, b2, b3⟩ := open_by g1
  obtain ⟨zs, c1, c2, c3⟩ := open_by g2
  obtain ⟨d, d1, d2, d3⟩ := open_d g3
  obtain ⟨own, e4, _⟩ := DataW.trod_bool Tryz.underlying4 g4
  obtain ⟨nn, e5, _, wn⟩ := DataW.trod_int Tryz.underlying3 g5
  refine ⟨⟨kd, cs[1]'(by omega), xs, cs[2]'(by omega), zs, d, own, nn⟩, ?_, ⟨b1, b2, c1, c2, d1, d3, b3, c3⟩⟩
  have q : cs = (cs.drop 0).take 1 ++ ((cs.drop 1).take 1 ++ ((cs.drop 2).take 1 ++ ((cs.drop 3).take 32 ++ ((cs.drop 35).take 1 ++ (cs.drop 36).take 1)))) := by
   apply List.ext_getElem?
   intro i
   simp only [List.getElem?_append, List.length_take, List.length_drop, List.getElem?_take, List.getElem?_drop, hl]
   repeat' split
   all_goals (first | (congr 1; omega) | (rw [List.getElem?_eq_none (by omega)]) | omega)
  rw [e0, e1, e2, d2, e4, e5] at q
  exact q
theorem open_steps {fuel : Nat} {v : Value} {x : DataW H × List MemPlace} (h : DataW.trod enc Tryz.prog W base spare held fuel 22 [v] = some x) : ∃ ts : List Stp, TIs W v ts := by
 rcases open_slice Tryz.underlying22 h with ⟨hcs, _⟩ | ⟨a, len, cap, m, n, D, Pl, hcs, hb, hl, hm, hm', _, hel⟩
 ·cases hcs
  exact ⟨[], none, 0, rfl, Nat.zero_le _, fun i t ht => by cases ht⟩
 ·cases hcs
  by_cases h0 : len = 0
  ·exact ⟨[], some a, cap, by rw [h0]; rfl, Nat.zero_le _, fun i t ht => by cases ht⟩
  ·have hlm : len ≤ m := by rw [hm']; split <;> omega
   rw [cells30] at hel
   have hin : Inhabited Stp := ⟨⟨0, .slice none 0 0, [], .slice none 0 0, [], [], false, 0⟩⟩
   obtain ⟨f, hf⟩ := choose_lt (n := len) (p := fun i (y : Stp) => W.cells? base (a.add (i * 37)) 37 = some y.cells ∧ y.Ok W) (fun i hi => by
    obtain ⟨cs', h1, h2⟩ := hel i (by omega)
    obtain ⟨y, rfl, h3⟩ := open_step h2
    exact ⟨y, h1, h3⟩)
   have hcell : ∀ i, i < len → ∀ j, j < 37 → W.cell? ((a.add (i * 37)).add j) = (f i).cells[j]? := fun i hi => (World.cells?_some (hf i hi).1).2.2
   have hlc : ∀ i, i < len → (f i).cells.length = 37 := fun i hi => (World.cells?_some (hf i hi).1).2.1
   obtain ⟨b, off, spot⟩ := a
   have hc0 : W.cell? (((⟨b, off, spot⟩ : Addr).add (0 * 37)).add 0) = some (.int .i64 (f 0).kd) := hcell 0 (by omega) 0 (by omega)
   have hspot : spot = none := by simpa [Addr.add] using World.cell?_spot hc0
   subst hspot
   refine ⟨(List.range len).map f, some ⟨b, off, none⟩, cap, by simp, by simp; omega, fun i t ht => ?_⟩
   have hi : i < len := by
    have := (List.getElem?_eq_some_iff.1 ht).1
    simpa using this
   obtain rfl : f i = t := by simpa [hi] using ht
   refine ⟨(hf i hi).2, b, off, rfl, fun j u hj => ?_⟩
   have hj37 : j < 37 := by
    have := (List.getElem?_eq_some_iff.1 hj).1
    rw [hlc i hi] at this
    exact this
   have := hcell i hi j hj37
   rw [Addr.add_mid, Addr.add_mid, hj] at this
   exact this
end
end Go.Proofs.YtjdbmjkidljhpaaGreatDoor
namespace Go.Proofs.YtjdbmjkidljhpaaGreatDoor
open Go.RowKit
set_option linter.unusedVariables false
set_option linter.unusedSimpArgs false
set_option maxRecDepth 100000
set_option maxHeartbeats 8000000 in
theorem back_any {w : World} {gi m : Nat} {xs : List Int} (h : LentI w gi m xs 5) (hm : m ≤ 100000) (bv : Value) (hx : BIn w bv xs) :
  Calls Tryz.prog 39 #[.slice (some ⟨gi, 0, none⟩) xs.length m, bv] w fun e w' => e = .returned (.bool true) ∧ InM w' (.slice (some ⟨gi, 0, none⟩) m m) m ∧ Kept (fun q => q = gi) w w' := by
 obtain ⟨bo, bc, rfl⟩ := hx.form
 have hf := h.fit
 have hsm := same_any _ _ xs xs w h.bin hx (by unfold maxLen; omega)
 rw [decide_eq_true rfl] at hsm
 have HSM := hid_of hsm
 have HL0 := hid_of h
 obtain ⟨n, hN⟩ : ∃ n, n = xs.length := ⟨_, rfl⟩
 have HN := hid_of hN
 rw [← hN] at HSM hf ⊢
 have hnI : (n : Int) + 5 ≤ (m : Int) := by omega
 have hmI : (m : Int) ≤ 100000 := by omega
 have hw3 : IntKind.i64.wrap ((n : Int) + 5) = (n : Int) + 5 := by rw [IntKind.wrap_i64]; omega
 clear h hx hsm hN
 go_enter Tryz.func39, Tryz.ntmps39
 go_wp2_with fail
 refine HSM.out.mono ?_
 rintro e w1 ⟨rfl, hk1⟩
 have HL1 := hid_of (HL0.out.kept hk1 (fun f => f))
 have HK1 := hid_of hk1
 clear hk1 HSM HL0
 go_wp2_with fail
 go_loop [5, 7] (fun a i => ∃ j : Nat, j ≤ 5 ∧ i = .int .i64 ((n : Int) + (j : Int)) ∧ a = .bool true) (fun _ i => (n + 5) - (intOf i).toNat)
 case atStart => exact ⟨0, by omega, by simp, rfl⟩
 case round =>
  obtain ⟨j, hj, rfl, rfl⟩ := hrel
  by_cases hlt : j < 5
  ·have hmk := HL1.out.mark hlt
   rw [← HN.out] at hmk
   have hjI : (n : Int) + (j : Int) < (n : Int) + 5 := by omega
   have hbi : ((n : Int) + (j : Int)).toNat = n + j := by omega
   go_wp2
   go_round
   case rel => exact ⟨j + 1, by omega, by go_num, rfl⟩
   case measure => simp [intOf]; omega
  ·have hjI : ¬ ((n : Int) + (j : Int) < (n : Int) + 5) := by omega
   go_wp2_with fail
   go_loopw [8] (fun i wr => ∃ (p : Nat) (cs : Array Value), p ≤ n + 5 ∧ i = .int .i64 (p : Int) ∧ Hid (wr.heap[gi]? = some (.cells cs 5 (0, 0)) ∧ cs.size = m) ∧ Hid (Kept (fun q => q = gi) w wr)) (fun i _ => (n + 5) - (intOf i).toNat)
   case atStart =>
    obtain ⟨cs, h1, h2, _⟩ := HL1.out.hold
    exact ⟨0, cs, by omega, rfl, ⟨h1, h2⟩, HK1.out.mono (fun _ _ f => f.elim)⟩
   case round =>
    obtain ⟨p, cs, hp, rfl, HC, HK⟩ := hrel
    by_cases hpl : p < n + 5
    ·have hpI : (p : Int) < (n : Int) + 5 := by omega
     obtain ⟨u, hu⟩ : ∃ u, wr.cell? ⟨gi, p, none⟩ = some u := ⟨cs[p]'(by have := HC.out.2; omega), by rw [cell_block _ _ _ _ _ _ HC.out.1]; exact Array.getElem?_eq_getElem (by have := HC.out.2; omega)⟩
     have hfz := frozen_block wr gi p _ _ HC.out.1
     have HC2 : Hid ((wr.setCell ⟨gi, p, none⟩ (.int .u8 94)).heap[gi]? = some (.cells (cs.setIfInBounds p (.int .u8 94)) 5 (0, 0)) ∧ (cs.setIfInBounds p (.int .u8 94)).size = m) := ⟨set_block _ _ _ _ _ _ HC.out.1 _, by rw [Array.size_setIfInBounds]; exact HC.out.2⟩
     have HK2 : Hid (Kept (fun q => q = gi) w (wr.setCell ⟨gi, p, none⟩ (.int .u8 94))) := HK.out.setCell (p := ⟨gi, p, none⟩) (.inr rfl) _
     clear HC HK
     go_wp2
     go_roundw
     case rel => exact ⟨p + 1, _, by omega, by go_num, HC2, HK2⟩
     case measure => simp [intOf]; omega
    ·have hpI : ¬ ((p : Int) < (n : Int) + 5) := by omega
     go_wp2
     go_ret
     exact ⟨rfl, .inr ⟨gi, cs, rfl, HC.out.1, HC.out.2⟩, HK.out⟩
/-- The step's digest. -/
def Stp.dig (k : Nat) (t : Stp) : List Int := if t.own then frontOf k t.xs else t.d
theorem Stp.dig_len {k : Nat} {t : Stp} (h2 : k ≤ 32) (hd : t.d.length = 32) : (t.dig k).length = 32 := by
 unfold Stp.dig
 split
 ·exact frontOf_len k _ h2
 ·exact hd
theorem Stp.dig_rng {k : Nat} {t : Stp} (h2 : k ≤ 32) (hd : ∀ x ∈ t.d, 0 ≤ x ∧ x < 256) : ∀ x ∈ t.dig k, 0 ≤ x ∧ x < 256 := by
 unfold Stp.dig
 split
 ·exact front_range k _ h2
 ·exact hd
/-- A step's cells, as they lie in a variable. -/
structure StC (cs : Array Value) (t : Stp) (bo : Option Addr) (bc : Nat) (co : Option Addr) (cc : Nat) : Prop where
 size : (Tryz.prog.info? 31).map (·.size) = some cs.size
 kd : cs[0]? = some (.int .i64 t.kd)
 bv : cs[1]? = some (.slice bo t.xs.length bc)
 cv : cs[2]? = some (.slice co t.ys.length cc)
 dg : ∀ j u, (t.d.map (Value.int .u8))[j]? = some u → cs[3 + j]? = some u
 own : cs[35]? = some (.bool t.own)
 n : cs[36]? = some (.int .i64 t.n)
theorem size31s : (Tryz.prog.info? 31).map (·.size) = some 37 := by kernel_rfl
theorem Stp.st {w : World} {t : Stp} (h : t.Ok w) : ∃ bo bc co cc, t.bv = .slice bo t.xs.length bc ∧ t.cv = .slice co t.ys.length cc ∧ StC t.cells.toArray t bo bc co cc := by
 obtain ⟨bo, bc, hb⟩ := h.bb.form
 obtain ⟨co, cc, hc⟩ := h.cb.form
 have hl : (t.d.map (Value.int .u8)).length = 32 := by rw [List.length_map, h.dl]
 refine ⟨bo, bc, co, cc, hb, hc, ?_, rfl, ?_, ?_, fun j u hj => ?_, ?_, ?_⟩
 ·rw [size31s]
  simp [Stp.cells, h.dl]
 ·simp [Stp.cells, hb]
 ·simp [Stp.cells, hc]
 ·have hj' := (List.getElem?_eq_some_iff.1 hj).1
  rw [List.getElem?_toArray]
  show (Value.int .i64 t.kd :: t.bv :: t.cv :: (t.d.map (Value.int .u8) ++ [.bool t.own, .int .i64 t.n]))[3 + j]? = some u
  rw [show 3 + j = j + 1 + 1 + 1 by omega, List.getElem?_cons_succ, List.getElem?_cons_succ, List.getElem?_cons_succ, List.getElem?_append_left hj']
  exact hj
 ·rw [List.getElem?_toArray]
  show (Value.int .i64 t.kd :: t.bv :: t.cv :: (t.d.map (Value.int .u8) ++ [.bool t.own, .int .i64 t.n]))[32 + 1 + 1 + 1]? = _
  rw [List.getElem?_cons_succ, List.getElem?_cons_succ, List.getElem?_cons_succ, List.getElem?_append_right (by omega), hl]
  rfl
 ·rw [List.getElem?_toArray]
  show (Value.int .i64 t.kd :: t.bv :: t.cv :: (t.d.map (Value.int .u8) ++ [.bool t.own, .int .i64 t.n]))[33 + 1 + 1 + 1]? = _
  rw [List.getElem?_cons_succ, List.getElem?_cons_succ, List.getElem?_cons_succ, List.getElem?_append_right (by omega), hl]
  rfl
theorem StC.range {w : World} {g : Nat} {cs : Array Value} {t : Stp} {bo co : Option Addr} {bc cc : Nat} (h : StC cs t bo bc co cc) (hg : w.heap[g]? = some (.cells cs 31 (0, 0))) : w.rangeAt g 3 (t.d.map (Value.int .u8)) := fun j u hj => by
 rw [cell_block _ _ _ _ _ _ hg]
 exact h.dg j u hj
set_option maxHeartbeats 8000000 in
theorem wdig_any {w : World} {g r : Nat} {sv iv : Value} {k : Nat} (hg : w.heap[g]? = some (.cells #[sv, .pointer (some ⟨r, 0, none⟩), iv] 36 (0, 0))) (hw : w.cell? ⟨r, 0, none⟩ = some (.int .i64 (k : Int))) (h1 : 1 ≤ k) (h2 : k ≤ 32) (t : Stp) (ht : t.Ok w) (hl : t.xs.length ≤ 1048576) (cs : Array Value) {bo co : Option Addr} {bc cc : Nat} (hc : StC cs t bo bc co cc) (hbv : t.bv = .slice bo t.xs.length bc) :
  Calls Tryz.prog 32 #[.pointer (some ⟨g, 0, none⟩), .agg cs] w fun e w' => e = .returned (dv (t.dig k)) ∧ Kept (fun _ => False) w w' := by
 have HOF : Hid (∀ W, Kept (fun _ => False) w W → Calls Tryz.prog 38 #[.int .i64 (k : Int), .slice bo t.xs.length bc] W fun e w' => e = .returned (dv (frontOf k t.xs)) ∧ Kept (fun _ => False) W w') := fun W hW => by
  rw [← hbv]
  exact rof4_any k h1 h2 _ _ W (ht.bb.kept2 hW (fun _ _ _ f => f)) ht.br (by omega)
 have HBB : Hid (((w.alloc (.cells cs 31)).alloc (.cells z32 29)).heap[w.heap.size]? = some (.cells cs 31 (0, 0))) := alloc_old (alloc_new _ _ rfl)
 have HZR : Hid (((w.alloc (.cells cs 31)).alloc (.cells z32 29)).heap[w.heap.size + 1]? = some (.cells z32 29 (0, 0))) := alloc_new _ _ (by simp)
 have HKA : Hid (Kept (fun _ => False) w ((w.alloc (.cells cs 31)).alloc (.cells z32 29))) := ((Kept.refl _ w).alloc _).alloc _
 have HG := hid_of hg
 have HW := hid_of hw
 have HC := hid_of hc
 have HD := hid_of ht.dl
 have HXS : Hid (cs.size = 37) := by
  have := hc.size
  rw [size31s] at this
  exact (Option.some.inj this).symm
 clear hg hw hc ht
 cases ho : t.own with
 | true =>
  have HDG : Hid (t.dig k = frontOf k t.xs) := by unfold Hid Stp.dig; rw [ho]; rfl
  rw [HDG.out]
  have hds := size29_arr (frontOf k t.xs) (frontOf_len k t.xs h2)
  have hone := oneCells .u8 (frontOf k t.xs)
  have HOS : Hid (32 = ((frontOf k t.xs).map (Value.int .u8)).toArray.size) := by show 32 = _; simp [frontOf_len k t.xs h2]
  have HDSI := hid_of hds
  unfold dv at *
  clear hds
  generalize ((frontOf k t.xs).map (Value.int .u8)).toArray = ds at *
  go_enter Tryz.func32, Tryz.ntmps32
  go_upto_region 1 with fail
  generalize (w.alloc (.cells cs 31)).alloc (.cells z32 29) = wA at *
  have hown := HC.out.own
  rw [ho] at hown
  have c35 : wA.cell? ⟨w.heap.size, 35, none⟩ = some (.bool true) := (cell_block _ _ _ _ _ _ HBB.out).trans hown
  have HS : Hid (∀ W, Kept (fun _ => False) wA W → W.cell? ⟨g, 1, none⟩ = some (.pointer (some ⟨r, 0, none⟩)) ∧ W.cell? ⟨r, 0, none⟩ = some (.int .i64 (k : Int)) ∧ W.cell? ⟨w.heap.size, 1, none⟩ = some (.slice bo t.xs.length bc)) := fun W hW =>
   ⟨(HKA.out.trans hW).cell (cell_block _ g 1 _ _ _ HG.out) (fun f => f), (HKA.out.trans hW).cell HW.out (fun f => f), hW.cell ((cell_block _ _ _ _ _ _ HBB.out).trans HC.out.bv) (fun f => f)⟩
  clear hown
  go_upto_region 2 with fail
  have HS2 : Hid (∀ W, Kept (fun q => q = w.heap.size + 1) wA W → W.cell? ⟨g, 1, none⟩ = some (.pointer (some ⟨r, 0, none⟩)) ∧ W.cell? ⟨r, 0, none⟩ = some (.int .i64 (k : Int)) ∧ W.cell? ⟨w.heap.size, 1, none⟩ = some (.slice bo t.xs.length bc)) := fun W hW => by
   obtain ⟨s1, s2, s3⟩ := HS.out wA (Kept.refl _ _)
   have hgl := heap_lt HG.out
   have hrl := World.block_lt_of_cell? _ _ HW.out
   exact ⟨hW.cell s1 (fun e => by have e' : g = w.heap.size + 1 := e; omega), hW.cell s2 (fun e => by have e' : r = w.heap.size + 1 := e; have h9 : r < w.heap.size := hrl; omega), hW.cell s3 (fun e => by have e' : w.heap.size = w.heap.size + 1 := e; omega)⟩
  refine wp_region_held_drew (S := fun w' => Kept (fun q => q = w.heap.size + 1) wA w') (by kernel_rfl) ((Kept.refl _ _).drew) (fun hHeld => ?_)
  iterate 9
   refine tkn (v := ?_) 0 rfl ?_ ?_; rotate_left 1
   ·intro w hSw; obtain ⟨s1, s2, s3⟩ := HS2.out w hSw; go_simp; try with_reducible rfl
   try simp only [Act.put, tdy]
  refine wpAnyH_ready (rs := [9]) (by kernel_rfl) (by simp) ?_
  refine AllReadyH.cons rfl (fun K hK => ?_) .nil
  go_simp
  refine (HOF.out _ (HKA.out.trans ((Kept.refl _ _).drew))).mono ?_
  rintro e w5 ⟨rfl, hk5⟩
  have HK5 := hid_of (((Kept.refl (fun _ => False) wA).drew).trans hk5)
  have HZ5 : Hid (w5.heap[w.heap.size + 1]? = some (.cells z32 29 (0, 0))) := (HK5.out.block _ (heap_lt HZR.out) (fun f => f)).trans HZR.out
  have HRR := hid_of (setRow_heap w5 (w.heap.size + 1) _ ds 29 (0, 0) HZ5.out)
  have HKF : Hid (Kept (fun _ => False) w (w5.setRow (w.heap.size + 1) ds)) := (HKA.out.trans HK5.out).setRow (.inl (by omega)) _
  refine hK.out _ _ (HK5.out.mono (fun _ _ f => f.elim)) (fun hHeld => ?_)
  clear hK K hk5
  try simp only [Act.put, tdy]
  refine wpAnyH_ready (rs := [10]) (by kernel_rfl) (by simp) ?_
  refine AllReadyH.cons rfl (fun K hK => ?_) .nil
  refine stp_store_row rfl 29 _ _ rfl (w.heap.size + 1) ds rfl rfl 29 _ HZ5.out HDSI.out HOS.out hone ?_
  have HKS : Hid (Kept (fun q => q = w.heap.size + 1) wA (w5.setRow (w.heap.size + 1) ds)) := Kept.setRow (S := fun q => q = w.heap.size + 1) (HK5.out.mono (fun _ _ f => f.elim)) (.inr rfl) _
  refine hK.out _ _ HKS.out (fun hHeld => ?_)
  clear hK K
  try simp only [Act.put, tdy]
  refine wpAnyH_done (by kernel_rfl) ?_ _
  clear hHeld HK5 HZ5
  go_wp2
  try simp only [Act.put]
  refine bodyPost_ret (v := .agg ds) ?_ rfl ⟨rfl, HKF.out⟩
  exact results_cell_row (by rfl) _ _ (w.heap.size + 1) 29 ds (0, 0) _ (by rfl) HRR.out Tryz.underlying29 rfl HDSI.out
 | false =>
  have HDG : Hid (t.dig k = t.d) := by unfold Hid Stp.dig; rw [ho]; rfl
  rw [HDG.out]
  have hone := oneCells .u8 t.d
  have HOS : Hid (32 = (t.d.map (Value.int .u8)).toArray.size) := by show 32 = _; simp [HD.out]
  have HDSI := hid_of (size29_arr t.d HD.out)
  have HDSL := hid_of (size29_lst t.d HD.out)
  unfold dv
  go_enter Tryz.func32, Tryz.ntmps32
  go_upto_region 1 with fail
  have HMID := hid_of (HC.out.range HBB.out)
  have HKF : Hid (Kept (fun _ => False) w (((w.alloc (.cells cs 31)).alloc (.cells z32 29)).setRow (w.heap.size + 1) (t.d.map (Value.int .u8)).toArray)) := HKA.out.setRow (.inl (by omega)) _
  have HRR := hid_of (setRow_heap ((w.alloc (.cells cs 31)).alloc (.cells z32 29)) (w.heap.size + 1) _ (t.d.map (Value.int .u8)).toArray 29 (0, 0) HZR.out)
  have hown := HC.out.own
  rw [ho] at hown
  have c35 := (cell_block _ _ 35 _ _ _ HBB.out).trans hown
  generalize (w.alloc (.cells cs 31)).alloc (.cells z32 29) = wA at *
  clear hown
  go_wp2_with (first | refine wpList_load_mid rfl 29 _ rfl w.heap.size 3 rfl (t.d.map (Value.int .u8)) _ HMID.out Tryz.underlying29 rfl HDSL.out ?_ | refine wpList_store_row rfl 29 _ _ rfl (w.heap.size + 1) (t.d.map (Value.int .u8)).toArray rfl rfl 29 _ HZR.out HDSI.out HOS.out hone ?_)
  try simp only [Act.put]
  refine bodyPost_ret (v := .agg (t.d.map (Value.int .u8)).toArray) ?_ rfl ⟨rfl, HKF.out⟩
  exact results_cell_row (by rfl) _ _ (w.heap.size + 1) 29 (t.d.map (Value.int .u8)).toArray (0, 0) _ (by rfl) HRR.out Tryz.underlying29 rfl HDSI.out
end Go.Proofs.YtjdbmjkidljhpaaGreatDoor
namespace Go.Proofs.YtjdbmjkidljhpaaGreatDoor
open Go.RowKit
set_option linter.unusedVariables false
set_option linter.unusedSimpArgs false
set_option maxRecDepth 100000
def wcells (s r : Nat) (iv : Value) : Array Value := #[.pointer (some ⟨s, 0, none⟩), .pointer (some ⟨r, 0, none⟩), iv]
structure Wd (w : World) (lo k n g s : Nat) (mv : Value) (σ : Sg) (r : Nat) (lv : Value) (ρ : Rg) (iv : Value) (m : Nat) : Prop where
 two : Two w lo k n s mv σ r lv ρ
 blk : w.heap[g]? = some (.cells (wcells s r iv) 36 (0, 0))
 inn : InM w iv m
 mm : m ≤ 100000
 gl : lo ≤ g ∧ ∀ q, iv.ownBlock = some q → lo ≤ q
 api : ∀ q, Blo σ ρ q → iv.ownBlock ≠ some q
def OwnW (g s : Nat) (mv : Value) (r : Nat) (lv iv : Value) (q : Nat) : Prop := q = g ∨ OwnT s mv r lv q ∨ iv.ownBlock = some q
def WdTo (w w' : World) (lo k n g s : Nat) (mv : Value) (σ : Sg) (r : Nat) (lv : Value) (ρ : Rg) (iv : Value) : Prop :=
 ∃ s' mv' σ' lv' ρ' iv' m', Wd w' lo k n g s' mv' σ' r lv' ρ' iv' m' ∧ Kept (OwnW g s mv r lv iv) w w' ∧ (∀ q, OwnW g s' mv' r lv' iv' q → OwnW g s mv r lv iv q ∨ w.heap.size ≤ q) ∧ ∀ q, Blo σ' ρ' q → Blo σ ρ q ∨ w.heap.size ≤ q
/-- No block of the Stores' own is one of cells of another type. -/
theorem Two.typ {w : World} {lo k n s : Nat} {mv : Value} {σ : Sg} {r : Nat} {lv : Value} {ρ : Rg} (h : Two w lo k n s mv σ r lv ρ) {q t : Nat} {c : Array Value} {f : Nat × Nat} (hq : w.heap[q]? = some (.cells c t f)) (h1 : t ≠ 65) (h2 : t ≠ 42) (h3 : t ≠ 50) : ¬ OwnT s mv r lv q := fun ho => by
 rcases ho with (rfl | hm) | rfl | hl
 ·rw [h.st.blk] at hq
  injection hq with hq
  injection hq with _ hq _
  exact h1 hq.symm
 ·rcases h.st.map with ⟨e, _⟩ | ⟨r', c, e, hb, _⟩
  ·rw [e] at hm; cases hm
  ·rw [e] at hm
   cases hm
   rw [hb] at hq
   cases hq
 ·rw [h.rs.blk] at hq
  injection hq with hq
  injection hq with _ hq _
  exact h2 hq.symm
 ·rcases h.rs.row.2 with ⟨e, _⟩ | ⟨g, cap, cur, e, _, hg, _⟩
  ·rw [e] at hl; cases hl
  ·rw [e] at hl
   have eg : g = q := Option.some.inj hl
   subst eg
   rw [hg] at hq
   injection hq with hq
   injection hq with _ hq _
   exact h3 hq.symm
theorem InM.typ {w : World} {iv : Value} {m : Nat} (h : InM w iv m) {q : Nat} (hq : iv.ownBlock = some q) : ∃ c, w.heap[q]? = some (.cells c 5 (0, 0)) := by
 rcases h with ⟨rfl, _⟩ | ⟨gi, cs, rfl, h1, _⟩
 ·cases hq
 ·have e : gi = q := Option.some.inj hq
  subst e
  exact ⟨cs, h1⟩
theorem Wd.goff {w : World} {lo k n g s : Nat} {mv : Value} {σ : Sg} {r : Nat} {lv : Value} {ρ : Rg} {iv : Value} {m : Nat} (h : Wd w lo k n g s mv σ r lv ρ iv m) : ¬ OwnT s mv r lv g := h.two.typ h.blk (by decide) (by decide) (by decide)
theorem Wd.ioff {w : World} {lo k n g s : Nat} {mv : Value} {σ : Sg} {r : Nat} {lv : Value} {ρ : Rg} {iv : Value} {m : Nat} (h : Wd w lo k n g s mv σ r lv ρ iv m) : ∀ q, iv.ownBlock = some q → ¬ OwnT s mv r lv q ∧ q ≠ g := fun q hq => by
 obtain ⟨c, hc⟩ := h.inn.typ hq
 refine ⟨h.two.typ hc (by decide) (by decide) (by decide), fun e => ?_⟩
 subst e
 rw [h.blk] at hc
 injection hc with hc
 injection hc with _ hc _
 exact absurd hc (by decide)
theorem InM.form {w : World} {iv : Value} {m : Nat} (h : InM w iv m) : ∃ ao, iv = .slice ao m m := by
 rcases h with ⟨e, e2⟩ | ⟨gi, cs, e, _⟩
 ·exact ⟨none, by rw [e, e2]⟩
 ·exact ⟨_, e⟩
theorem Wd.no8 {w : World} {lo k n g s : Nat} {mv : Value} {σ : Sg} {r : Nat} {lv : Value} {ρ : Rg} {iv : Value} {m : Nat} (h : Wd w lo k n g s mv σ r lv ρ iv m) {o : Nat} {x : Int} (hc : w.cell? ⟨g, o, none⟩ = some (.int .u8 x)) : False := by
 obtain ⟨ao, rfl⟩ := h.inn.form
 rw [cell_block _ _ _ _ _ _ h.blk] at hc
 obtain ⟨hlt, hv⟩ := Array.getElem?_eq_some_iff.1 hc
 have hm := Array.getElem_mem hlt
 rw [hv] at hm
 simp [wcells] at hm
theorem Wd.bg {w : World} {lo k n g s : Nat} {mv : Value} {σ : Sg} {r : Nat} {lv : Value} {ρ : Rg} {iv : Value} {m : Nat} (h : Wd w lo k n g s mv σ r lv ρ iv m) : ∀ q, Blo σ ρ q → q ≠ g := fun q hb e => by
 subst e
 rcases hb with ⟨e, he, h0, hq⟩ | ⟨b, hb, h0, hq⟩
 ·obtain ⟨o, x, hc⟩ := (h.two.st.blob e he).1.u8 h0 q hq
  exact h.no8 hc
 ·obtain ⟨o, x, hc⟩ := (h.two.rs.ok b hb).bin.u8 h0 q hq
  exact h.no8 hc
theorem Wd.olt {w : World} {lo k n g s : Nat} {mv : Value} {σ : Sg} {r : Nat} {lv : Value} {ρ : Rg} {iv : Value} {m : Nat} (h : Wd w lo k n g s mv σ r lv ρ iv m) : ∀ q, OwnW g s mv r lv iv q → q < w.heap.size := fun q ho => by
 rcases ho with rfl | ho | ho
 ·exact heap_lt h.blk
 ·exact h.two.olt q ho
 ·obtain ⟨c, hc⟩ := h.inn.typ ho
  exact heap_lt hc
theorem Wd.base {w : World} {lo k n g s : Nat} {mv : Value} {σ : Sg} {r : Nat} {lv : Value} {ρ : Rg} {iv : Value} {m : Nat} (h : Wd w lo k n g s mv σ r lv ρ iv m) : ∀ q, OwnW g s mv r lv iv q → lo ≤ q := fun q ho => by
 rcases ho with rfl | ho | ho
 ·exact h.gl.1
 ·exact h.two.base q ho
 ·exact h.gl.2 q ho
theorem InM.kept {S : Nat → Prop} {w w' : World} {iv : Value} {m : Nat} (h : InM w iv m) (hk : Kept S w w') (hs : ∀ q, iv.ownBlock = some q → ¬ S q) : InM w' iv m := by
 rcases h with h | ⟨gi, cs, rfl, h1, h2⟩
 ·exact .inl h
 ·exact .inr ⟨gi, cs, rfl, (hk.block gi (heap_lt h1) (hs gi rfl)).trans h1, h2⟩
theorem Wd.kept {S : Nat → Prop} {w' : World} {w : World} {lo k n g s : Nat} {mv : Value} {σ : Sg} {r : Nat} {lv : Value} {ρ : Rg} {iv : Value} {m : Nat} (h : Wd w lo k n g s mv σ r lv ρ iv m) (hk : Kept S w w') (h1 : ∀ q, OwnW g s mv r lv iv q → ¬ S q) (h2 : ∀ q, Blo σ ρ q → ¬ S q) (h3 : ¬ S 0) : Wd w' lo k n g s mv σ r lv ρ iv m :=
 ⟨h.two.kept hk (fun q hq => h1 q (.inr (.inl hq))) h2 h3, (hk.block g (heap_lt h.blk) (h1 g (.inl rfl))).trans h.blk, h.inn.kept hk (fun q hq => h1 q (.inr (.inr hq))), h.mm, h.gl, h.api⟩
theorem Wd.same {w' : World} {w : World} {lo k n g s : Nat} {mv : Value} {σ : Sg} {r : Nat} {lv : Value} {ρ : Rg} {iv : Value} {m : Nat} (h : Wd w lo k n g s mv σ r lv ρ iv m) (hk : Kept (fun _ => False) w w') : Wd w' lo k n g s mv σ r lv ρ iv m := h.kept hk (fun _ _ f => f) (fun _ _ f => f) (fun f => f)
theorem Wd.more {w : World} {lo k n g s : Nat} {mv : Value} {σ : Sg} {r : Nat} {lv : Value} {ρ : Rg} {iv : Value} {m : Nat} (h : Wd w lo k n g s mv σ r lv ρ iv m) {n' : Nat} (hn : n ≤ n') : Wd w lo k n' g s mv σ r lv ρ iv m := ⟨h.two.more hn, h.blk, h.inn, h.mm, h.gl, h.api⟩
/-- Behind lend. -/
structure Lent2 (w2 : World) (lo k n g s : Nat) (mv : Value) (σ : Sg) (r : Nat) (lv : Value) (ρ : Rg) (gi m' : Nat) : Prop where
 two : Two w2 lo k n s mv σ r lv ρ
 blk : w2.heap[g]? = some (.cells (wcells s r (.slice (some ⟨gi, 0, none⟩) m' m')) 36 (0, 0))
 mm : m' ≤ 100000
 lo : lo ≤ g ∧ lo ≤ gi
 off : ¬ OwnT s mv r lv gi ∧ gi ≠ g ∧ gi < w2.heap.size
 boff : ∀ q, Blo σ ρ q → q ≠ gi
 goff : ¬ OwnT s mv r lv g
theorem Wd.lent {w1 w2 : World} {w : World} {lo k n g s : Nat} {mv : Value} {σ : Sg} {r : Nat} {lv : Value} {ρ : Rg} {iv : Value} {m : Nat} (h : Wd w lo k n g s mv σ r lv ρ iv m) (hk1 : Kept (fun _ => False) w w1) {gi m' : Nat} {xs : List Int} (hl : LentI w2 gi m' xs 5) (hb : w2.heap[g]? = some (.cells (wcells s r (.slice (some ⟨gi, 0, none⟩) m' m')) 36 (0, 0))) (hm : m' ≤ 100000) (hk2 : Kept (fun q => q = g ∨ iv.ownBlock = some q) w1 w2) (hgi : iv.ownBlock = some gi ∨ w1.heap.size ≤ gi) :
  Lent2 w2 lo k n g s mv σ r lv ρ gi m' := by
 have h1 := h.same hk1
 have hlo : lo ≤ w.heap.size := by have := h.gl.1; have := heap_lt h.blk; omega
 obtain ⟨cs, hc, _⟩ := hl.hold
 have t2 : Two w2 lo k n s mv σ r lv ρ := h1.two.kept hk2 (fun q hq e => by
  rcases e with rfl | e
  ·exact h1.goff hq
  ·exact (h1.ioff q e).1 hq) (fun q hq e => by
  rcases e with e | e
  ·exact h1.bg q hq e
  ·exact h1.api q hq e) (fun e => by
  have := h.two.lo0
  rcases e with e | e
  ·have := h.gl.1; omega
  ·have := h.gl.2 0 e; omega)
 refine ⟨t2, hb, hm, ⟨h.gl.1, ?_⟩, ⟨t2.typ hc (by decide) (by decide) (by decide), fun e => ?_, heap_lt hc⟩, fun q hq e => ?_, t2.typ hb (by decide) (by decide) (by decide)⟩
 ·rcases hgi with e | e
  ·exact h.gl.2 gi e
  ·have := hk1.size; omega
 ·subst e
  rw [hb] at hc
  injection hc with hc
  injection hc with _ hc _
  exact absurd hc (by decide)
 ·subst e
  rcases hgi with e | e
  ·exact h1.api q hq e
  ·have := h1.two.blt q hq; omega
theorem Wd.ended {w1 w2 w5 w6 : World} {w : World} {lo k n g s : Nat} {mv : Value} {σ : Sg} {r : Nat} {lv : Value} {ρ : Rg} {iv : Value} {m : Nat} (h : Wd w lo k n g s mv σ r lv ρ iv m) (hk1 : Kept (fun _ => False) w w1) {gi m' n' : Nat} (hL : Lent2 w2 lo k n g s mv σ r lv ρ gi m') (hk2 : Kept (fun q => q = g ∨ iv.ownBlock = some q) w1 w2) (hgi : iv.ownBlock = some gi ∨ w1.heap.size ≤ gi) (ht : TwoTo w2 w5 lo k n' s mv σ r lv ρ) (hi : InM w6 (.slice (some ⟨gi, 0, none⟩) m' m') m') (hk6 : Kept (fun q => q = gi) w5 w6) :
  WdTo w w6 lo k n' g s mv σ r lv ρ iv := by
 obtain ⟨mv', σ', lv', ρ', t5, hk5, ho5, hb5⟩ := ht
 have hs1 := hk1.size
 have hs2 := hk2.size
 have hg2 := heap_lt hL.blk
 have hgi2 := hL.off.2.2
 have ho : ∀ q, OwnT s mv' r lv' q → q ≠ gi ∧ q ≠ g := fun q hq => by
  rcases ho5 q hq with hq | hq
  ·exact ⟨fun e => hL.off.1 (by rw [← e]; exact hq), fun e => hL.goff (by rw [← e]; exact hq)⟩
  ·exact ⟨by omega, by omega⟩
 have hb : ∀ q, Blo σ' ρ' q → q ≠ gi := fun q hq => by
  rcases hb5 q hq with hq | hq
  ·exact hL.boff q hq
  ·omega
 have t6 := t5.kept hk6 (fun q hq e => (ho q hq).1 e) (fun q hq e => hb q hq e) (fun e => by
  have e' : 0 = gi := e
  have := h.two.lo0
  have := hL.lo.2
  omega)
 have hblk5 := (hk5.block g hg2 hL.goff).trans hL.blk
 have hblk6 := (hk6.block g (heap_lt hblk5) (fun e => hL.off.2.1 e.symm)).trans hblk5
 refine ⟨s, mv', σ', lv', ρ', .slice (some ⟨gi, 0, none⟩) m' m', m', ⟨t6, hblk6, hi, hL.mm, ⟨hL.lo.1, fun q hq => by have e : gi = q := Option.some.inj hq; rw [← e]; exact hL.lo.2⟩, fun q hq e => hb q hq (Option.some.inj e).symm⟩, ?_, fun q hq => ?_, fun q hq => ?_⟩
 ·have a : Kept (OwnW g s mv r lv iv) w w2 := (hk1.mono (fun _ _ f => f.elim)).trans (hk2.mono (fun q _ e => by rcases e with e | e; exact .inl e; exact .inr (.inr e)))
  have b : Kept (OwnW g s mv r lv iv) w w5 := a.trans (hk5.mono (fun q _ e => .inr (.inl e)))
  exact b.step hk6 (fun i hi e => by
   have e' : i = gi := e
   rcases hgi with e2 | e2
   ·exact .inr (.inr (by rw [e']; exact e2))
   ·omega)
 ·rcases hq with rfl | hq | hq
  ·exact .inl (.inl rfl)
  ·rcases ho5 q hq with hq | hq
   ·exact .inl (.inr (.inl hq))
   ·exact .inr (by omega)
  ·have e : gi = q := Option.some.inj hq
   subst e
   rcases hgi with e2 | e2
   ·exact .inl (.inr (.inr e2))
   ·exact .inr (by omega)
 ·rcases hb5 q hq with hq | hq
  ·exact .inl hq
  ·exact .inr (by omega)
/-- Both Stores were called, the memory for bytes not. -/
theorem Wd.called {w1 w5 : World} {w : World} {lo k n g s : Nat} {mv : Value} {σ : Sg} {r : Nat} {lv : Value} {ρ : Rg} {iv : Value} {m : Nat} (h : Wd w lo k n g s mv σ r lv ρ iv m) {n' : Nat} (hk1 : Kept (fun _ => False) w w1) (ht : TwoTo w1 w5 lo k n' s mv σ r lv ρ) : WdTo w w5 lo k n' g s mv σ r lv ρ iv := by
 obtain ⟨mv', σ', lv', ρ', t5, hk5, ho5, hb5⟩ := ht
 have h1 := h.same hk1
 have hs1 := hk1.size
 refine ⟨s, mv', σ', lv', ρ', iv, m, ⟨t5, (hk5.block g (heap_lt h1.blk) h1.goff).trans h1.blk, h1.inn.kept hk5 (fun q hq => (h1.ioff q hq).1), h.mm, h.gl, fun q hq e => ?_⟩, ?_, fun q hq => ?_, fun q hq => ?_⟩
 ·rcases hb5 q hq with hq | hq
  ·exact h1.api q hq e
  ·have := h1.olt q (.inr (.inr e)); omega
 ·exact (hk1.mono (fun _ _ f => f.elim)).trans (hk5.mono (fun q _ e => .inr (.inl e)))
 ·rcases hq with rfl | hq | hq
  ·exact .inl (.inl rfl)
  ·rcases ho5 q hq with hq | hq
   ·exact .inl (.inr (.inl hq))
   ·exact .inr (by omega)
  ·exact .inl (.inr (.inr hq))
 ·rcases hb5 q hq with hq | hq
  ·exact .inl hq
  ·exact .inr (by omega)
theorem Wd.stay {w' : World} {w : World} {lo k n g s : Nat} {mv : Value} {σ : Sg} {r : Nat} {lv : Value} {ρ : Rg} {iv : Value} {m : Nat} (h : Wd w lo k n g s mv σ r lv ρ iv m) (hk : Kept (fun _ => False) w w') {n' : Nat} (hn : n ≤ n') : WdTo w w' lo k n' g s mv σ r lv ρ iv := ⟨s, mv, σ, lv, ρ, iv, m, (h.same hk).more hn, hk.mono (fun _ _ f => f.elim), fun q hq => .inl hq, fun q hq => .inl hq⟩
/-- A step's bytes lie below. -/
def Low (lo : Nat) (t : Stp) : Prop := (t.xs ≠ [] → ∀ q, t.bv.ownBlock = some q → q < lo) ∧ (t.ys ≠ [] → ∀ q, t.cv.ownBlock = some q → q < lo)
theorem Stp.Ok.kept {S : Nat → Prop} {w w' : World} {t : Stp} {lo : Nat} (h : t.Ok w) (hl : Low lo t) (hk : Kept S w w') (hs : ∀ q, q < lo → ¬ S q) : t.Ok w' :=
 ⟨h.bb.kept2 hk (fun h0 q hq => hs q (hl.1 h0 q hq)), h.br, h.cb.kept2 hk (fun h0 q hq => hs q (hl.2 h0 q hq)), h.cr, h.dl, h.dr, h.bl, h.cl⟩
end Go.Proofs.YtjdbmjkidljhpaaGreatDoor
