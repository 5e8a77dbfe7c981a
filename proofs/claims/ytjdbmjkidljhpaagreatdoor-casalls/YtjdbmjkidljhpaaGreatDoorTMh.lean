/-
 Mh: Block, Text, Fill, Rof, Cref.
-/
import Derived.Test.YtjdbmjkidljhpaaGreatDoorTMc
import Derived.Test.YtjdbmjkidljhpaaGreatDoorTMg
import Derived.Laws.BytesString
import Derived.Deep.RegionLaw
import Derived.Deep.AppendSrc
import Derived.Test.YtjdbmjkidljhpaaGreatDoorTMe
namespace Go.Proofs.YtjdbmjkidljhpaaGreatDoor
open Go.RowKit
set_option linter.unusedVariables false
set_option maxRecDepth 100000
set_option linter.unusedSimpArgs false
theorem size47 : (Tryz.prog.info? 124).map (·.size) = some 8 := by kernel_rfl
theorem grown_get (ws : List Int) (hw : ws.length = 16) (k : Nat) : ∀ m j, j < 16 + k → (grown ws (k + m)).getD j 0 = (grown ws k).getD j 0
 | 0, j, hj => rfl
 | m + 1, j, hj => by
  rw [← grown_get ws hw k m j hj, show k + (m + 1) = (k + m) + 1 by omega, grown, List.getD, List.getD, List.getElem?_append_left (by rw [grown_length, hw]; omega)]
theorem wide_first (bs : List Int) (t : Nat) (ht : t < 16) : (wide bs).getD t 0 = word bs t := by
 have := grown_get (first bs) (first_length bs) 0 48 t (by omega)
 rw [Nat.zero_add] at this
 rw [wide, this]
 simp [grown, first, List.getD, ht]
theorem wide_next (bs : List Int) (k : Nat) (hk : k < 48) : (wide bs).getD (k + 16) 0 = add (add (add ((wide bs).getD k 0) (sg0 ((wide bs).getD (k + 1) 0))) ((wide bs).getD (k + 9) 0)) (sg1 ((wide bs).getD (k + 14) 0)) := by
 have g : ∀ j, j < 16 + k → (wide bs).getD j 0 = (grown (first bs) k).getD j 0 := fun j hj => by
  have := grown_get (first bs) (first_length bs) k (48 - k) j hj
  rw [show k + (48 - k) = 48 by omega] at this
  exact this
 have h := grown_get (first bs) (first_length bs) (k + 1) (48 - (k + 1)) (k + 16) (by omega)
 rw [show k + 1 + (48 - (k + 1)) = 48 by omega, next_at] at h
 rw [wide, h, nextw, ← g k (by omega), ← g (k + 1) (by omega), ← g (k + 9) (by omega), ← g (k + 14) (by omega)]
 rfl
theorem wval_is (bs : List Int) (hr : ∀ x ∈ bs, 0 ≤ x ∧ x < 256) (hl : bs.length = 64) (t : Nat) (ht : t < 16) (b0 b1 b2 b3 : Int) (h0 : bs.getD (4 * t) 0 = b0) (h1 : bs.getD (4 * t + 1) 0 = b1) (h2 : bs.getD (4 * t + 2) 0 = b2) (h3 : bs.getD (4 * t + 3) 0 = b3) :
  bits .or .u32 (bits .or .u32 (bits .or .u32 (IntKind.u32.wrap (IntKind.u32.wrap b0 * 16777216)) (IntKind.u32.wrap (IntKind.u32.wrap b1 * 65536))) (IntKind.u32.wrap (IntKind.u32.wrap b2 * 256))) (IntKind.u32.wrap b3) = (wide bs).getD t 0 := by
 have key : ∀ j, j < 64 → 0 ≤ bs.getD j 0 ∧ bs.getD j 0 < 256 := fun j hj => hr (bs.getD j 0) (by rw [List.getD, List.getElem?_eq_getElem (by omega)]; simp)
 have k0 := key (4 * t) (by omega)
 have k1 := key (4 * t + 1) (by omega)
 have k2 := key (4 * t + 2) (by omega)
 rw [h0] at k0
 rw [h1] at k1
 rw [h2] at k2
 simp only [IntKind.wrap_u32']
 rw [Int.emod_eq_of_lt (a := b0) k0.1 (by omega), Int.emod_eq_of_lt (a := b1) k1.1 (by omega), Int.emod_eq_of_lt (a := b2) k2.1 (by omega), word_is bs hr hl t ht b0 b1 b2 b3 h0 h1 h2 h3, wide_first bs t ht]
theorem wide_later (bs : List Int) (k : Nat) (h : 16 ≤ k) (hk : k < 64) : (wide bs).getD k 0 = add (add (add ((wide bs).getD (k - 16) 0) (sg0 ((wide bs).getD (k - 15) 0))) ((wide bs).getD (k - 7) 0)) (sg1 ((wide bs).getD (k - 2) 0)) := by
 obtain ⟨m, rfl⟩ : ∃ m, k = m + 16 := ⟨k - 16, by omega⟩
 rw [wide_next bs m (by omega), show m + 16 - 16 = m by omega, show m + 16 - 15 = m + 1 by omega, show m + 16 - 7 = m + 9 by omega, show m + 16 - 2 = m + 14 by omega]
def mixf (sf vf : Nat → Int) (k j : Nat) : Int := if j < k then add (sf j) (vf j) else sf j
theorem mix_lt (sf vf : Nat → Int) (k j : Nat) (h : j < k) : mixf sf vf k j = add (sf j) (vf j) := if_pos h
theorem mix_ge (sf vf : Nat → Int) (k j : Nat) (h : ¬ j < k) : mixf sf vf k j = sf j := if_neg h
theorem list_at (s : S8) (j : Nat) (hj : j < 8) : #[Value.int .u32 s.a, .int .u32 s.b, .int .u32 s.c, .int .u32 s.d, .int .u32 s.e, .int .u32 s.f, .int .u32 s.g, .int .u32 s.h][j]? = some (.int .u32 (s.list.getD j 0)) := by
 match j, hj with
 | 0, _ => rfl
 | 1, _ => rfl
 | 2, _ => rfl
 | 3, _ => rfl
 | 4, _ => rfl
 | 5, _ => rfl
 | 6, _ => rfl
 | 7, _ => rfl
theorem add_at (s v : S8) (j : Nat) (hj : j < 8) : (s.add v).list.getD j 0 = add (s.list.getD j 0) (v.list.getD j 0) := by
 match j, hj with
 | 0, _ => rfl
 | 1, _ => rfl
 | 2, _ => rfl
 | 3, _ => rfl
 | 4, _ => rfl
 | 5, _ => rfl
 | 6, _ => rfl
 | 7, _ => rfl
theorem frz {S : Nat → Prop} {w w' : World} (h : Kept S w w') {p : Addr} {v : Value} (hc : w.cell? p = some v) (hf : w.frozen? p = false) (hp : ¬ S p.block := by exact fun f => f) : w'.frozen? p = false := by
 have hb := h.block p.block (World.block_lt_of_cell? w p hc) hp
 unfold World.frozen? at hf ⊢
 rw [hb]
 exact hf
set_option maxRecDepth 100000 in
set_option maxHeartbeats 20000000 in
theorem rblock_any (s : S8) (bs : List Int) (b o c : Nat) (hl : bs.length = 64) (hr : ∀ x ∈ bs, 0 ≤ x ∧ x < 256) (w : World) (hx : ∀ i, i < 64 → w.cell? ⟨b, o + i, none⟩ = some (.int .u8 (bs.getD i 0))) (hc64 : 64 ≤ c) :
  Calls Tryz.prog 86 #[.agg #[.int .u32 s.a, .int .u32 s.b, .int .u32 s.c, .int .u32 s.d, .int .u32 s.e, .int .u32 s.f, .int .u32 s.g, .int .u32 s.h], .slice (some ⟨b, o, none⟩) 64 c] w fun e w' => e = .returned (turn s bs).val ∧ Kept (fun _ => False) w w' := by
 have HX := hid_of hx
 obtain ⟨f, HF, HFIRST, HNEXT⟩ : ∃ f : Nat → Int, Hid (∀ j, f j = (wide bs).getD j 0) ∧ Hid (∀ t b0 b1 b2 b3, t < 16 → bs.getD (4 * t) 0 = b0 → bs.getD (4 * t + 1) 0 = b1 → bs.getD (4 * t + 2) 0 = b2 → bs.getD (4 * t + 3) 0 = b3 → bits .or .u32 (bits .or .u32 (bits .or .u32 (IntKind.u32.wrap (IntKind.u32.wrap b0 * 16777216)) (IntKind.u32.wrap (IntKind.u32.wrap b1 * 65536))) (IntKind.u32.wrap (IntKind.u32.wrap b2 * 256))) (IntKind.u32.wrap b3) = f t) ∧ Hid (∀ m, m < 48 → f (m + 16) = add (add (add (f m) (sg0 (f (m + 1)))) (f (m + 9))) (sg1 (f (m + 14)))) :=
  ⟨fun j => (wide bs).getD j 0, fun _ => rfl, fun t b0 b1 b2 b3 ht h0 h1 h2 h3 => wval_is bs hr hl t ht b0 b1 b2 b3 h0 h1 h2 h3, fun m hm => wide_next bs m hm⟩
 have hbl : b < w.heap.size := by simpa using World.block_lt_of_cell? w _ (hx 0 (by omega))
 clear hx hr hl
 obtain ⟨r, HR0, HRN, HTURN⟩ : ∃ r : Nat → S8, Hid (r 0 = s) ∧ Hid (∀ k, r (k + 1) = rnd (r k) (kw.getD k 0) (f k)) ∧ Hid (turn s bs = s.add (r 64)) :=
  ⟨rnds s (wide bs), rfl, fun k => by show rnd _ _ _ = _; rw [HF.out], rfl⟩
 have hs47 : ∀ a b c d e f g h : Value, (Tryz.prog.info? 124).map (·.size) = some #[a, b, c, d, e, f, g, h].size := fun _ _ _ _ _ _ _ _ => size47
 have HS47 := hid_of hs47
 clear hs47 HF
 go_enter Tryz.func86, Tryz.ntmps86
 go_wp2_with fail
 go_loopw [6] (fun i wr => ∃ k : Nat, k ≤ 64 ∧ i = .int .i64 k ∧ Words wr (w.heap.size + 1 + 1) k f ∧ wr.heap[w.heap.size]? = some (.cells #[.int .u32 s.a, .int .u32 s.b, .int .u32 s.c, .int .u32 s.d, .int .u32 s.e, .int .u32 s.f, .int .u32 s.g, .int .u32 s.h] 124 (0, 0)) ∧ Row wr (w.heap.size + 1) 124 .u32 8 0 (fun _ => 0) ∧ Kept (fun _ => False) w wr) (fun i _ => 64 - (intOf i).toNat)
 case atStart =>
  exact ⟨0, by omega, rfl, ⟨_, alloc_new _ _ (by simp), rfl, fun j hj => absurd hj (by omega)⟩, alloc_old (alloc_old (alloc_new _ _ rfl)), ⟨_, alloc_old (alloc_new _ _ (by simp)), rfl, fun j hj => absurd hj (by omega)⟩, (((Kept.refl _ _).alloc _).alloc _).alloc _⟩
 case round =>
  obtain ⟨k, hk, rfl, hW, hS, hO, hK⟩ := hrel
  by_cases hlt : k < 64
  ·have hkI : (k : Int) < 64 := by omega
   by_cases h16 : k < 16
   ·have h16I : (k : Int) < 16 := by omega
    have m0 : IntKind.i64.wrap (4 * (k : Int)) = 4 * (k : Int) := by rw [IntKind.wrap_i64]; omega
    have m1 : IntKind.i64.wrap (4 * (k : Int) + 1) = 4 * (k : Int) + 1 := by rw [IntKind.wrap_i64]; omega
    have m2 : IntKind.i64.wrap (4 * (k : Int) + 2) = 4 * (k : Int) + 2 := by rw [IntKind.wrap_i64]; omega
    have m3 : IntKind.i64.wrap (4 * (k : Int) + 3) = 4 * (k : Int) + 3 := by rw [IntKind.wrap_i64]; omega
    have l0 : (0 : Int) ≤ 4 * (k : Int) := by omega
    have u0 : 4 * (k : Int) < 64 := by omega
    have l1 : (0 : Int) ≤ 4 * (k : Int) + 1 := by omega
    have u1 : 4 * (k : Int) + 1 < 64 := by omega
    have l2 : (0 : Int) ≤ 4 * (k : Int) + 2 := by omega
    have u2 : 4 * (k : Int) + 2 < 64 := by omega
    have l3 : (0 : Int) ≤ 4 * (k : Int) + 3 := by omega
    have u3 : 4 * (k : Int) + 3 < 64 := by omega
    have n0 : (4 * (k : Int)).toNat = 4 * k := by omega
    have n1 : (4 * (k : Int) + 1).toNat = 4 * k + 1 := by omega
    have n2 : (4 * (k : Int) + 2).toNat = 4 * k + 2 := by omega
    have n3 : (4 * (k : Int) + 3).toNat = 4 * k + 3 := by omega
    have HWN := hid_of hW
    have HSN := hid_of hS
    have HON := hid_of hO
    have HKN := hid_of hK
    clear hW hS hO hK
    go_wp2
    obtain ⟨b0, hb0⟩ : ∃ x, bs.getD (4 * k) 0 = x := ⟨_, rfl⟩
    obtain ⟨b1, hb1⟩ : ∃ x, bs.getD (4 * k + 1) 0 = x := ⟨_, rfl⟩
    obtain ⟨b2, hb2⟩ : ∃ x, bs.getD (4 * k + 2) 0 = x := ⟨_, rfl⟩
    obtain ⟨b3, hb3⟩ : ∃ x, bs.getD (4 * k + 3) 0 = x := ⟨_, rfl⟩
    have HKB : Hid (Kept (fun _ => False) w wr.drew) := HKN.out.drew
    obtain ⟨⟨uo, huo⟩, hfo⟩ := HWN.out.there (k := k) (by omega)
    have hud : wr.drew.cell? ⟨w.heap.size + 1 + 1, k, none⟩ = some uo := huo
    have hfd : wr.drew.frozen? ⟨w.heap.size + 1 + 1, k, none⟩ = false := hfo
    have H2 : Hid (∀ x, x = f k → Words (wr.drew.setCell ⟨w.heap.size + 1 + 1, k, none⟩ (.int .u32 x)) (w.heap.size + 1 + 1) (k + 1) f) := fun x hx => (show Words wr.drew _ _ _ from HWN.out).set (by omega) _ hx.symm (fun j hj hne => ⟨by omega, rfl⟩)
    have H1 : Hid (∀ x, (wr.drew.setCell ⟨w.heap.size + 1 + 1, k, none⟩ x).heap[w.heap.size]? = some (.cells #[.int .u32 s.a, .int .u32 s.b, .int .u32 s.c, .int .u32 s.d, .int .u32 s.e, .int .u32 s.f, .int .u32 s.g, .int .u32 s.h] 124 (0, 0))) := fun x => ((kept_set wr.drew ⟨w.heap.size + 1 + 1, k, none⟩ x).block w.heap.size (by have := heap_lt HSN.out; exact this) (by show _ ≠ w.heap.size + 1 + 1; omega)).trans HSN.out
    have H3 : Hid (∀ x, Row (wr.drew.setCell ⟨w.heap.size + 1 + 1, k, none⟩ x) (w.heap.size + 1) 124 .u32 8 0 (fun _ => 0)) := fun x => (show Row wr.drew _ _ _ _ _ _ from HON.out).other _ _ (by show _ ≠ w.heap.size + 1 + 1; omega)
    have HKS : Hid (∀ x, Kept (fun _ => False) w (wr.drew.setCell ⟨w.heap.size + 1 + 1, k, none⟩ x)) := fun x => HKN.out.drew.setCell (.inl (by show _ ≤ w.heap.size + 1 + 1; omega)) _
    clear huo hfo HWN HSN HON
    refine wp_region_held_drew (S := fun w' => w'.cell? ⟨b, o + 4 * k, none⟩ = some (.int .u8 b0) ∧ w'.cell? ⟨b, o + (4 * k + 1), none⟩ = some (.int .u8 b1) ∧ w'.cell? ⟨b, o + (4 * k + 2), none⟩ = some (.int .u8 b2) ∧ w'.cell? ⟨b, o + (4 * k + 3), none⟩ = some (.int .u8 b3)) (by kernel_rfl) ⟨(HKB.out.cell (HX.out (4 * k) (by omega)) (fun f => f)).trans (by rw [hb0]), (HKB.out.cell (HX.out (4 * k + 1) (by omega)) (fun f => f)).trans (by rw [hb1]), (HKB.out.cell (HX.out (4 * k + 2) (by omega)) (fun f => f)).trans (by rw [hb2]), (HKB.out.cell (HX.out (4 * k + 3) (by omega)) (fun f => f)).trans (by rw [hb3])⟩ (fun hHeld => ?_)
    iterate 5
     refine tkn (v := ?_) 0 rfl ?_ ?_; rotate_left 1
     ·intro w hSw; go_simp; try with_reducible rfl
     try simp only [Act.put, tdy]
    refine tkp (v := ?_) 5 rfl ?_ ?_; rotate_left 1
    ·intro w hSw; obtain ⟨c0, c1, c2, c3⟩ := hSw; go_simp; try with_reducible rfl
    try simp only [Act.put, tdy]
    iterate 7
     refine tkn (v := ?_) 6 rfl ?_ ?_; rotate_left 1
     ·intro w hSw; go_simp; try with_reducible rfl
     try simp only [Act.put, tdy]
    refine tkp (v := ?_) 13 rfl ?_ ?_; rotate_left 1
    ·intro w hSw; obtain ⟨c0, c1, c2, c3⟩ := hSw; go_simp; try with_reducible rfl
    try simp only [Act.put, tdy]
    iterate 8
     refine tkn (v := ?_) 14 rfl ?_ ?_; rotate_left 1
     ·intro w hSw; go_simp; try with_reducible rfl
     try simp only [Act.put, tdy]
    refine tkp (v := ?_) 22 rfl ?_ ?_; rotate_left 1
    ·intro w hSw; obtain ⟨c0, c1, c2, c3⟩ := hSw; go_simp; try with_reducible rfl
    try simp only [Act.put, tdy]
    iterate 8
     refine tkn (v := ?_) 23 rfl ?_ ?_; rotate_left 1
     ·intro w hSw; go_simp; try with_reducible rfl
     try simp only [Act.put, tdy]
    refine tkp (v := ?_) 31 rfl ?_ ?_; rotate_left 1
    ·intro w hSw; obtain ⟨c0, c1, c2, c3⟩ := hSw; go_simp; try with_reducible rfl
    try simp only [Act.put, tdy]
    iterate 3
     refine tkn (v := ?_) 32 rfl ?_ ?_; rotate_left 1
     ·intro w hSw; go_simp; try with_reducible rfl
     try simp only [Act.put, tdy]
    refine wpAnyH_ready (rs := [35]) (by kernel_rfl) (by simp) ?_
    refine AllReadyH.cons rfl (fun K hK => ?_) .nil
    go_simp
    replace HKB := hid_of (HKS.out (.int .u32 (bits .or .u32 (bits .or .u32 (bits .or .u32 (IntKind.u32.wrap (IntKind.u32.wrap b0 * 16777216)) (IntKind.u32.wrap (IntKind.u32.wrap b1 * 65536))) (IntKind.u32.wrap (IntKind.u32.wrap b2 * 256))) (IntKind.u32.wrap b3))))
    refine hK.out _ _ ⟨(HKB.out.cell (HX.out (4 * k) (by omega)) (fun f => f)).trans (by rw [hb0]), (HKB.out.cell (HX.out (4 * k + 1) (by omega)) (fun f => f)).trans (by rw [hb1]), (HKB.out.cell (HX.out (4 * k + 2) (by omega)) (fun f => f)).trans (by rw [hb2]), (HKB.out.cell (HX.out (4 * k + 3) (by omega)) (fun f => f)).trans (by rw [hb3])⟩ (fun hHeld => ?_)
    clear hK K
    try simp only [Act.put, tdy]
    refine wpAnyH_done (by kernel_rfl) ?_ _
    have hval := HFIRST.out k b0 b1 b2 b3 h16 hb0 hb1 hb2 hb3
    have HVAL := hid_of hval
    clear hval hHeld hb0 hb1 hb2 hb3 hud hfd m0 m1 m2 m3 l0 l1 l2 l3 u0 u1 u2 u3 n0 n1 n2 n3
    go_wp2
    go_roundw
    case rel => exact ⟨k + 1, by omega, by go_num, H2.out _ HVAL.out, H1.out _, H3.out _, HKS.out _⟩
    case measure => simp [intOf]; omega
   ·obtain ⟨m, rfl⟩ : ∃ m, k = m + 16 := ⟨k - 16, by omega⟩
    have c16 := hW.cell (k := m) (by omega)
    have c15 := hW.cell (k := m + 1) (by omega)
    have c7 := hW.cell (k := m + 9) (by omega)
    have c2 := hW.cell (k := m + 14) (by omega)
    have hnx := HNEXT.out m (by omega)
    obtain ⟨⟨uo, huo⟩, hfo⟩ := hW.there (k := m + 16) (by omega)
    have HUO : Hid (wr.cell? ⟨w.heap.size + 1 + 1, m + 16, none⟩ = some uo) := huo
    have HFO : Hid (wr.frozen? ⟨w.heap.size + 1 + 1, m + 16, none⟩ = false) := hfo
    have H2 : Hid (∀ W x, Kept (fun _ => False) wr W → x = f (m + 16) → Words (W.setCell ⟨w.heap.size + 1 + 1, m + 16, none⟩ (.int .u32 x)) (w.heap.size + 1 + 1) (m + 16 + 1) f) := fun W x hw hx => (hW.kept hw (fun f => f)).set (by omega) _ hx.symm (fun j hj hne => ⟨by omega, rfl⟩)
    have H1 : Hid (∀ W x, Kept (fun _ => False) wr W → (W.setCell ⟨w.heap.size + 1 + 1, m + 16, none⟩ x).heap[w.heap.size]? = some (.cells #[.int .u32 s.a, .int .u32 s.b, .int .u32 s.c, .int .u32 s.d, .int .u32 s.e, .int .u32 s.f, .int .u32 s.g, .int .u32 s.h] 124 (0, 0))) := fun W x hw => ((kept_set W ⟨w.heap.size + 1 + 1, m + 16, none⟩ x).block w.heap.size (Nat.lt_of_lt_of_le (heap_lt hS) hw.size) (by show _ ≠ w.heap.size + 1 + 1; omega)).trans ((hw.block _ (heap_lt hS) (fun f => f)).trans hS)
    have H3 : Hid (∀ W x, Kept (fun _ => False) wr W → Row (W.setCell ⟨w.heap.size + 1 + 1, m + 16, none⟩ x) (w.heap.size + 1) 124 .u32 8 0 (fun _ => 0)) := fun W x hw => (hO.kept hw (fun f => f)).other _ _ (by show _ ≠ w.heap.size + 1 + 1; omega)
    have HKS : Hid (∀ W x, Kept (fun _ => False) wr W → Kept (fun _ => False) w (W.setCell ⟨w.heap.size + 1 + 1, m + 16, none⟩ x)) := fun W x hw => (hK.trans hw).setCell (.inl (by show _ ≤ w.heap.size + 1 + 1; omega)) _
    have HB : Hid (Kept (fun _ => False) wr wr.drew) := (Kept.refl _ wr).drew
    clear hW hS hO hK huo hfo
    generalize f m = v16 at *
    generalize f (m + 1) = v15 at *
    generalize f (m + 9) = v7 at *
    generalize f (m + 14) = v2 at *
    have HNX := hid_of hnx
    clear hnx
    have hc : ((m + 16 : Nat) : Int) = (m : Int) + 16 := by omega
    rw [hc] at hkI ⊢
    have hmI : (m : Int) < 48 := by omega
    clear h16 hlt hk hc
    go_wp2
    have HC16 := hid_of c16
    have HC7 := hid_of c7
    clear c16 c15 c7 c2
    have i0 : IntKind.i64.wrap (m : Int) = (m : Int) := by rw [IntKind.wrap_i64]; omega
    have i0' : IntKind.i64.wrap ((m : Int) + 16 - 16) = (m : Int) := by rw [IntKind.wrap_i64]; omega
    have i9 : IntKind.i64.wrap ((m : Int) + 16 - 7) = (m : Int) + 9 := by rw [IntKind.wrap_i64]; omega
    have l9 : (0 : Int) ≤ (m : Int) + 9 := by omega
    have b9 : (m : Int) + 9 < 64 := by omega
    have b0 : (m : Int) < 64 := by omega
    have l16 : (0 : Int) ≤ (m : Int) + 16 := by omega
    have n9 : ((m : Int) + 9).toNat = m + 9 := by omega
    have n16 : ((m : Int) + 16).toNat = m + 16 := by omega
    refine wp_region_held_drew (S := fun w' => w'.cell? ⟨w.heap.size + 1 + 1, m, none⟩ = some (.int .u32 v16) ∧ w'.cell? ⟨w.heap.size + 1 + 1, m + 9, none⟩ = some (.int .u32 v7)) (by kernel_rfl) ⟨HB.out.cell HC16.out (fun f => f), HB.out.cell HC7.out (fun f => f)⟩ (fun hHeld => ?_)
    iterate 4
     refine tkn (v := ?_) 0 rfl ?_ ?_; rotate_left 1
     ·intro w hSw; go_simp; try with_reducible rfl
     try simp only [Act.put, tdy]
    refine tkp (v := ?_) 4 rfl ?_ ?_; rotate_left 1
    ·intro w hSw; obtain ⟨e16, e7⟩ := hSw; go_simp; try with_reducible rfl
    try simp only [Act.put, tdy]
    refine tkp (v := ?_) 5 rfl ?_ ?_; rotate_left 1
    ·intro w hSw; go_simp; try with_reducible rfl
    try simp only [Act.put, tdy]
    refine tkp (v := ?_) 7 rfl ?_ ?_; rotate_left 1
    ·intro w hSw; go_simp; try with_reducible rfl
    try simp only [Act.put, tdy]
    iterate 2
     refine tkn (v := ?_) 10 rfl ?_ ?_; rotate_left 1
     ·intro w hSw; go_simp; try with_reducible rfl
     try simp only [Act.put, tdy]
    iterate 3
     refine tkn (v := ?_) 14 rfl ?_ ?_; rotate_left 1
     ·intro w hSw; go_simp; try with_reducible rfl
     try simp only [Act.put, tdy]
    refine tkp (v := ?_) 17 rfl ?_ ?_; rotate_left 1
    ·intro w hSw; obtain ⟨e16, e7⟩ := hSw; go_simp; try with_reducible rfl
    try simp only [Act.put, tdy]
    refine tkp (v := ?_) 19 rfl ?_ ?_; rotate_left 1
    ·intro w hSw; go_simp; try with_reducible rfl
    try simp only [Act.put, tdy]
    refine tkp (v := ?_) 21 rfl ?_ ?_; rotate_left 1
    ·intro w hSw; go_simp; try with_reducible rfl
    try simp only [Act.put, tdy]
    iterate 2
     refine tkn (v := ?_) 24 rfl ?_ ?_; rotate_left 1
     ·intro w hSw; go_simp; try with_reducible rfl
     try simp only [Act.put, tdy]
    refine wpAnyH_ready (rs := [6]) (by kernel_rfl) (by simp) ?_
    refine AllReadyH.cons rfl (fun K hK => ?_) .nil
    go_simp
    refine (rturned_int _ _ (by decide) (by decide) _).mono ?_
    rintro e w' ⟨rfl, hk'⟩
    replace HB := hid_of (HB.out.trans hk')
    clear hk'
    refine hK.out _ _ ⟨HB.out.cell HC16.out (fun f => f), HB.out.cell HC7.out (fun f => f)⟩ (fun hHeld => ?_)
    clear hK K
    try simp only [Act.put, tdy]
    refine wpAnyH_ready (rs := [8]) (by kernel_rfl) (by simp) ?_
    refine AllReadyH.cons rfl (fun K hK => ?_) .nil
    go_simp
    refine (rturned_int _ _ (by decide) (by decide) _).mono ?_
    rintro e w' ⟨rfl, hk'⟩
    replace HB := hid_of (HB.out.trans hk')
    clear hk'
    refine hK.out _ _ ⟨HB.out.cell HC16.out (fun f => f), HB.out.cell HC7.out (fun f => f)⟩ (fun hHeld => ?_)
    clear hK K
    try simp only [Act.put, tdy]
    refine tkp (v := ?_) 9 rfl ?_ ?_; rotate_left 1
    ·intro w hSw; go_simp; try with_reducible rfl
    try simp only [Act.put, tdy]
    iterate 2
     refine tkn (v := ?_) 12 rfl ?_ ?_; rotate_left 1
     ·intro w hSw; go_simp; try with_reducible rfl
     try simp only [Act.put, tdy]
    refine tkp (v := ?_) 18 rfl ?_ ?_; rotate_left 1
    ·intro w hSw; go_simp; try with_reducible rfl
    try simp only [Act.put, tdy]
    refine wpAnyH_ready (rs := [20]) (by kernel_rfl) (by simp) ?_
    refine AllReadyH.cons rfl (fun K hK => ?_) .nil
    go_simp
    refine (rturned_int _ _ (by decide) (by decide) _).mono ?_
    rintro e w' ⟨rfl, hk'⟩
    replace HB := hid_of (HB.out.trans hk')
    clear hk'
    refine hK.out _ _ ⟨HB.out.cell HC16.out (fun f => f), HB.out.cell HC7.out (fun f => f)⟩ (fun hHeld => ?_)
    clear hK K
    try simp only [Act.put, tdy]
    refine wpAnyH_ready (rs := [22]) (by kernel_rfl) (by simp) ?_
    refine AllReadyH.cons rfl (fun K hK => ?_) .nil
    go_simp
    refine (rturned_int _ _ (by decide) (by decide) _).mono ?_
    rintro e w' ⟨rfl, hk'⟩
    replace HB := hid_of (HB.out.trans hk')
    clear hk'
    refine hK.out _ _ ⟨HB.out.cell HC16.out (fun f => f), HB.out.cell HC7.out (fun f => f)⟩ (fun hHeld => ?_)
    clear hK K
    try simp only [Act.put, tdy]
    refine tkp (v := ?_) 23 rfl ?_ ?_; rotate_left 1
    ·intro w hSw; go_simp; try with_reducible rfl
    try simp only [Act.put, tdy]
    iterate 3
     refine tkn (v := ?_) 26 rfl ?_ ?_; rotate_left 1
     ·intro w hSw; go_simp; try with_reducible rfl
     try simp only [Act.put, tdy]
    have hud := HB.out.cell (p := ⟨w.heap.size + 1 + 1, m + 16, none⟩) HUO.out (fun f => f)
    have hfd := frz HB.out HUO.out HFO.out
    refine wpAnyH_ready (rs := [29]) (by kernel_rfl) (by simp) ?_
    refine AllReadyH.cons rfl (fun K hK => ?_) .nil
    go_simp
    have HB9 := HB
    refine hK.out _ _ ⟨(cell_far _ _ _ _ _ (by omega)).trans (HB.out.cell HC16.out (fun f => f)), (cell_far _ _ _ _ _ (by omega)).trans (HB.out.cell HC7.out (fun f => f))⟩ (fun hHeld => ?_)
    clear hK K
    try simp only [Act.put, tdy]
    refine wpAnyH_done (by kernel_rfl) ?_ _
    have HVAL : Hid (IntKind.u32.wrap (IntKind.u32.wrap (IntKind.u32.wrap (v16 + bits .xor .u32 (bits .xor .u32 (ror v15 7) (ror v15 18)) (v15 / 8)) + v7) + bits .xor .u32 (bits .xor .u32 (ror v2 17) (ror v2 19)) (v2 / 1024)) = f (m + 16)) := by
     show _ = _
     rw [HNX.out]
     simp only [IntKind.wrap_u32']
     rfl
    clear hud hfd hHeld i0 i0' i9 l9 b9 b0 l16 n9 n16
    go_wp2
    go_roundw
    case rel => exact ⟨m + 16 + 1, by omega, by go_num, H2.out _ _ HB.out HVAL.out, H1.out _ _ HB.out, H3.out _ _ HB.out, HKS.out _ _ HB.out⟩
    case measure => simp [intOf]; omega
  ·obtain rfl : k = 64 := by omega
   have HW := hid_of hW
   have HO := hid_of hO
   have HSA := hid_of hS
   have HG2 : Hid (w.heap.size + 1 + 1 < wr.heap.size) := by
    obtain ⟨cur, h0, _⟩ := hW
    exact heap_lt h0
   have HK := hid_of hK
   clear hW hO hK HX HFIRST HNEXT
   have hone : #[Value.int .u32 s.a, .int .u32 s.b, .int .u32 s.c, .int .u32 s.d, .int .u32 s.e, .int .u32 s.f, .int .u32 s.g, .int .u32 s.h].all (·.oneCell') = true := oneCells .u32 [s.a, s.b, s.c, s.d, s.e, s.f, s.g, s.h]
   have hsz8 := HS47.out (.int .u32 s.a) (.int .u32 s.b) (.int .u32 s.c) (.int .u32 s.d) (.int .u32 s.e) (.int .u32 s.f) (.int .u32 s.g) (.int .u32 s.h)
   generalize hcs : #[Value.int .u32 s.a, .int .u32 s.b, .int .u32 s.c, .int .u32 s.d, .int .u32 s.e, .int .u32 s.f, .int .u32 s.g, .int .u32 s.h] = cs at *
   have HCS := hid_of hcs
   have HC8 : Hid (8 = cs.size) := by rw [← hcs]; rfl
   clear hcs
   go_wp2_with (first | refine wpList_load_row rfl 124 _ rfl w.heap.size rfl 124 cs (0, 0) _ hS Tryz.underlying124 rfl hsz8 ?_ | (refine wpList_store_row rfl 124 _ _ rfl wr.heap.size cs rfl rfl 124 _ (alloc_new _ _ rfl) hsz8 HC8.out hone ?_; rw [setRow_new _ _ _ _ rfl]))
   have HV0 : Hid ((wr.alloc (.cells cs 124)).heap[wr.heap.size]? = some (.cells #[.int .u32 (r 0).a, .int .u32 (r 0).b, .int .u32 (r 0).c, .int .u32 (r 0).d, .int .u32 (r 0).e, .int .u32 (r 0).f, .int .u32 (r 0).g, .int .u32 (r 0).h] 124 (0, 0))) := by
    show _ = _
    rw [HR0.out, HCS.out]
    exact alloc_new _ _ rfl
   have HKA : Hid (Kept (fun _ => False) wr (wr.alloc (.cells cs 124))) := (Kept.refl _ wr).alloc _
   have HWA := hid_of (HW.out.kept HKA.out (fun f => f))
   have HOA := hid_of (HO.out.kept HKA.out (fun f => f))
   have HSB := hid_of ((HKA.out.block _ (heap_lt hS) (fun f => f)).trans hS)
   have HKW := hid_of (HK.out.trans HKA.out)
   have HGV : Hid (w.heap.size + 1 + 1 < wr.heap.size ∧ wr.heap.size < (wr.alloc (.cells cs 124)).heap.size) := ⟨HG2.out, by simp⟩
   clear hS HW HO HSA HK HG2 hone
   generalize wr.heap.size = gv at *
   generalize wr.alloc (.cells cs 124) = w3 at *
   go_wp2_with fail
   go_loopw [10] (fun i wr => ∃ k : Nat, k ≤ 64 ∧ i = .int .i64 k ∧ wr.heap[gv]? = some (.cells #[.int .u32 (r k).a, .int .u32 (r k).b, .int .u32 (r k).c, .int .u32 (r k).d, .int .u32 (r k).e, .int .u32 (r k).f, .int .u32 (r k).g, .int .u32 (r k).h] 124 (0, 0)) ∧ Kept (fun k => k = gv) w3 wr) (fun i _ => 64 - (intOf i).toNat)
   case atStart => exact ⟨0, by omega, rfl, HV0.out, Kept.refl _ _⟩
   case round =>
    obtain ⟨k, hk, rfl, hV, hK⟩ := hrel
    clear HV0
    by_cases hlt : k < 64
    ·have hkI : (k : Int) < 64 := by omega
     have HRK := hid_of (HRN.out k)
     have HCW := hid_of (hK.cell (HWA.out.cell (k := k) hlt) (by show ¬ (w.heap.size + 1 + 1 = gv); have := HGV.out.1; omega))
     have HRR := hid_of (fun W => rround_any k hlt W)
     obtain ⟨st', HRE⟩ : ∃ x, Hid (r (k + 1) = x) := ⟨_, rfl⟩
     rw [HRE.out] at HRK
     generalize r k = st at *
     generalize f k = wv at *
     generalize kw.getD k 0 = kv at *
     have c0 := cell_block _ _ 0 _ _ _ hV
     have c4 := cell_block _ _ 4 _ _ _ hV
     have HV := hid_of hV
     have HK := hid_of hK
     clear hV hK
     simp only [List.getElem?_toArray, List.getElem?_cons_zero, List.getElem?_cons_succ] at c0 c4
     go_wp2
     clear c0 c4
     have HB : Hid (Kept (fun _ => False) wr wr.drew) := (Kept.refl _ wr).drew
     have HD7 : Hid (wr.cell? ⟨gv, 7, none⟩ = some (.int .u32 st.h)) := cell_block _ _ 7 _ _ _ HV.out
     have HD5 : Hid (wr.cell? ⟨gv, 5, none⟩ = some (.int .u32 st.f)) := cell_block _ _ 5 _ _ _ HV.out
     have HD6 : Hid (wr.cell? ⟨gv, 6, none⟩ = some (.int .u32 st.g)) := cell_block _ _ 6 _ _ _ HV.out
     have HD1 : Hid (wr.cell? ⟨gv, 1, none⟩ = some (.int .u32 st.b)) := cell_block _ _ 1 _ _ _ HV.out
     have HD2 : Hid (wr.cell? ⟨gv, 2, none⟩ = some (.int .u32 st.c)) := cell_block _ _ 2 _ _ _ HV.out
     have HD3 : Hid (wr.cell? ⟨gv, 3, none⟩ = some (.int .u32 st.d)) := cell_block _ _ 3 _ _ _ HV.out
     refine wp_region_held_drew (S := fun w' => w'.cell? ⟨gv, 7, none⟩ = some (.int .u32 st.h) ∧ w'.cell? ⟨gv, 5, none⟩ = some (.int .u32 st.f) ∧ w'.cell? ⟨gv, 6, none⟩ = some (.int .u32 st.g) ∧ w'.cell? ⟨w.heap.size + 1 + 1, k, none⟩ = some (.int .u32 wv)) (by kernel_rfl) ⟨HB.out.cell HD7.out (fun f => f), HB.out.cell HD5.out (fun f => f), HB.out.cell HD6.out (fun f => f), HB.out.cell HCW.out (fun f => f)⟩ (fun hHeld => ?_)
     refine tkp (v := ?_) 0 rfl ?_ ?_; rotate_left 1
     ·intro w hSw; go_simp; try with_reducible rfl
     try simp only [Act.put, tdy]
     refine tkp (v := ?_) 1 rfl ?_ ?_; rotate_left 1
     ·intro w hSw; obtain ⟨e7, e5, e6, ew⟩ := hSw; go_simp; try with_reducible rfl
     try simp only [Act.put, tdy]
     refine tkp (v := ?_) 2 rfl ?_ ?_; rotate_left 1
     ·intro w hSw; go_simp; try with_reducible rfl
     try simp only [Act.put, tdy]
     refine tkp (v := ?_) 4 rfl ?_ ?_; rotate_left 1
     ·intro w hSw; go_simp; try with_reducible rfl
     try simp only [Act.put, tdy]
     refine tkp (v := ?_) 7 rfl ?_ ?_; rotate_left 1
     ·intro w hSw; go_simp; try with_reducible rfl
     try simp only [Act.put, tdy]
     iterate 2
      refine tkn (v := ?_) 11 rfl ?_ ?_; rotate_left 1
      ·intro w hSw; go_simp; try with_reducible rfl
      try simp only [Act.put, tdy]
     refine tkp (v := ?_) 13 rfl ?_ ?_; rotate_left 1
     ·intro w hSw; obtain ⟨e7, e5, e6, ew⟩ := hSw; go_simp; try with_reducible rfl
     try simp only [Act.put, tdy]
     iterate 4
      refine tkn (v := ?_) 14 rfl ?_ ?_; rotate_left 1
      ·intro w hSw; go_simp; try with_reducible rfl
      try simp only [Act.put, tdy]
     refine tkp (v := ?_) 18 rfl ?_ ?_; rotate_left 1
     ·intro w hSw; obtain ⟨e7, e5, e6, ew⟩ := hSw; go_simp; try with_reducible rfl
     try simp only [Act.put, tdy]
     iterate 2
      refine tkn (v := ?_) 19 rfl ?_ ?_; rotate_left 1
      ·intro w hSw; go_simp; try with_reducible rfl
      try simp only [Act.put, tdy]
     refine tkp (v := ?_) 22 rfl ?_ ?_; rotate_left 1
     ·intro w hSw; go_simp; try with_reducible rfl
     try simp only [Act.put, tdy]
     iterate 2
      refine tkn (v := ?_) 25 rfl ?_ ?_; rotate_left 1
      ·intro w hSw; go_simp; try with_reducible rfl
      try simp only [Act.put, tdy]
     refine tkp (v := ?_) 27 rfl ?_ ?_; rotate_left 1
     ·intro w hSw; obtain ⟨e7, e5, e6, ew⟩ := hSw; go_simp; try with_reducible rfl
     try simp only [Act.put, tdy]
     refine wpAnyH_ready (rs := [3]) (by kernel_rfl) (by simp) ?_
     refine AllReadyH.cons rfl (fun K hK => ?_) .nil
     go_simp
     refine (rturned_int _ _ (by decide) (by decide) _).mono ?_
     rintro e w' ⟨rfl, hk'⟩
     replace HB := hid_of (HB.out.trans hk')
     clear hk'
     refine hK.out _ _ ⟨HB.out.cell HD7.out (fun f => f), HB.out.cell HD5.out (fun f => f), HB.out.cell HD6.out (fun f => f), HB.out.cell HCW.out (fun f => f)⟩ (fun hHeld => ?_)
     clear hK K
     try simp only [Act.put, tdy]
     refine wpAnyH_ready (rs := [5]) (by kernel_rfl) (by simp) ?_
     refine AllReadyH.cons rfl (fun K hK => ?_) .nil
     go_simp
     refine (rturned_int _ _ (by decide) (by decide) _).mono ?_
     rintro e w' ⟨rfl, hk'⟩
     replace HB := hid_of (HB.out.trans hk')
     clear hk'
     refine hK.out _ _ ⟨HB.out.cell HD7.out (fun f => f), HB.out.cell HD5.out (fun f => f), HB.out.cell HD6.out (fun f => f), HB.out.cell HCW.out (fun f => f)⟩ (fun hHeld => ?_)
     clear hK K
     try simp only [Act.put, tdy]
     refine tkp (v := ?_) 6 rfl ?_ ?_; rotate_left 1
     ·intro w hSw; go_simp; try with_reducible rfl
     try simp only [Act.put, tdy]
     refine wpAnyH_ready (rs := [8]) (by kernel_rfl) (by simp) ?_
     refine AllReadyH.cons rfl (fun K hK => ?_) .nil
     go_simp
     refine (rturned_int _ _ (by decide) (by decide) _).mono ?_
     rintro e w' ⟨rfl, hk'⟩
     replace HB := hid_of (HB.out.trans hk')
     clear hk'
     refine hK.out _ _ ⟨HB.out.cell HD7.out (fun f => f), HB.out.cell HD5.out (fun f => f), HB.out.cell HD6.out (fun f => f), HB.out.cell HCW.out (fun f => f)⟩ (fun hHeld => ?_)
     clear hK K
     try simp only [Act.put, tdy]
     iterate 2
      refine tkn (v := ?_) 9 rfl ?_ ?_; rotate_left 1
      ·intro w hSw; go_simp; try with_reducible rfl
      try simp only [Act.put, tdy]
     refine tkp (v := ?_) 21 rfl ?_ ?_; rotate_left 1
     ·intro w hSw; go_simp; try with_reducible rfl
     try simp only [Act.put, tdy]
     refine wpAnyH_ready (rs := [23]) (by kernel_rfl) (by simp) ?_
     refine AllReadyH.cons rfl (fun K hK => ?_) .nil
     go_simp
     refine (HRR.out _).mono ?_
     rintro e w' ⟨rfl, hk'⟩
     replace HB := hid_of (HB.out.trans hk')
     clear hk'
     refine hK.out _ _ ⟨HB.out.cell HD7.out (fun f => f), HB.out.cell HD5.out (fun f => f), HB.out.cell HD6.out (fun f => f), HB.out.cell HCW.out (fun f => f)⟩ (fun hHeld => ?_)
     clear hK K
     try simp only [Act.put, tdy]
     refine tkp (v := ?_) 24 rfl ?_ ?_; rotate_left 1
     ·intro w hSw; go_simp; try with_reducible rfl
     try simp only [Act.put, tdy]
     iterate 2
      refine tkn (v := ?_) 28 rfl ?_ ?_; rotate_left 1
      ·intro w hSw; go_simp; try with_reducible rfl
      try simp only [Act.put, tdy]
     refine wpAnyH_done (by kernel_rfl) ?_ _
     have hpw : IntKind.u32.wrap (IntKind.u32.wrap (IntKind.u32.wrap (IntKind.u32.wrap (st.h + bits .xor .u32 (bits .xor .u32 (ror st.e 6) (ror st.e 11)) (ror st.e 25)) + bits .xor .u32 (bits .and .u32 st.e st.f) (bits .and .u32 (bits .xor .u32 IntKind.u32.max st.e) st.g)) + kv) + wv) = pw st kv wv := by
      simp only [IntKind.wrap_u32']
      rfl
     have hsg : ¬ (IntKind.u32.signed = true) := by decide
     simp only [if_neg hsg]
     rw [hpw]
     clear hpw hsg
     have HST : Hid (st' = ⟨add (pw st kv wv) (qw st), st.a, st.b, st.c, add st.d (pw st kv wv), st.e, st.f, st.g⟩) := HRK.out
     generalize pw st kv wv = pv at *
     have HB16 := hid_of HB.out
     clear HB HRK
     try clear hHeld
     rename_i wx
     go_wp2_with fail
     have HB : Hid (Kept (fun _ => False) wr w'.drew) := HB16.out.drew
     refine wp_region_held_drew (S := fun w' => w'.cell? ⟨gv, 1, none⟩ = some (.int .u32 st.b) ∧ w'.cell? ⟨gv, 2, none⟩ = some (.int .u32 st.c)) (by kernel_rfl) ⟨HB.out.cell HD1.out (fun f => f), HB.out.cell HD2.out (fun f => f)⟩ (fun hHeld => ?_)
     refine tkp (v := ?_) 0 rfl ?_ ?_; rotate_left 1
     ·intro w hSw; go_simp; try with_reducible rfl
     try simp only [Act.put, tdy]
     refine tkp (v := ?_) 2 rfl ?_ ?_; rotate_left 1
     ·intro w hSw; go_simp; try with_reducible rfl
     try simp only [Act.put, tdy]
     refine tkp (v := ?_) 5 rfl ?_ ?_; rotate_left 1
     ·intro w hSw; go_simp; try with_reducible rfl
     try simp only [Act.put, tdy]
     iterate 2
      refine tkn (v := ?_) 8 rfl ?_ ?_; rotate_left 1
      ·intro w hSw; go_simp; try with_reducible rfl
      try simp only [Act.put, tdy]
     refine tkp (v := ?_) 10 rfl ?_ ?_; rotate_left 1
     ·intro w hSw; obtain ⟨e1, e2⟩ := hSw; go_simp; try with_reducible rfl
     try simp only [Act.put, tdy]
     iterate 3
      refine tkn (v := ?_) 11 rfl ?_ ?_; rotate_left 1
      ·intro w hSw; go_simp; try with_reducible rfl
      try simp only [Act.put, tdy]
     refine tkp (v := ?_) 14 rfl ?_ ?_; rotate_left 1
     ·intro w hSw; obtain ⟨e1, e2⟩ := hSw; go_simp; try with_reducible rfl
     try simp only [Act.put, tdy]
     iterate 3
      refine tkn (v := ?_) 15 rfl ?_ ?_; rotate_left 1
      ·intro w hSw; go_simp; try with_reducible rfl
      try simp only [Act.put, tdy]
     refine tkp (v := ?_) 18 rfl ?_ ?_; rotate_left 1
     ·intro w hSw; obtain ⟨e1, e2⟩ := hSw; go_simp; try with_reducible rfl
     try simp only [Act.put, tdy]
     refine tkp (v := ?_) 19 rfl ?_ ?_; rotate_left 1
     ·intro w hSw; go_simp; try with_reducible rfl
     try simp only [Act.put, tdy]
     refine tkp (v := ?_) 20 rfl ?_ ?_; rotate_left 1
     ·intro w hSw; obtain ⟨e1, e2⟩ := hSw; go_simp; try with_reducible rfl
     try simp only [Act.put, tdy]
     iterate 2
      refine tkn (v := ?_) 21 rfl ?_ ?_; rotate_left 1
      ·intro w hSw; go_simp; try with_reducible rfl
      try simp only [Act.put, tdy]
     refine wpAnyH_ready (rs := [1]) (by kernel_rfl) (by simp) ?_
     refine AllReadyH.cons rfl (fun K hK => ?_) .nil
     go_simp
     refine (rturned_int _ _ (by decide) (by decide) _).mono ?_
     rintro e w' ⟨rfl, hk'⟩
     replace HB := hid_of (HB.out.trans hk')
     clear hk'
     refine hK.out _ _ ⟨HB.out.cell HD1.out (fun f => f), HB.out.cell HD2.out (fun f => f)⟩ (fun hHeld => ?_)
     clear hK K
     try simp only [Act.put, tdy]
     refine wpAnyH_ready (rs := [3]) (by kernel_rfl) (by simp) ?_
     refine AllReadyH.cons rfl (fun K hK => ?_) .nil
     go_simp
     refine (rturned_int _ _ (by decide) (by decide) _).mono ?_
     rintro e w' ⟨rfl, hk'⟩
     replace HB := hid_of (HB.out.trans hk')
     clear hk'
     refine hK.out _ _ ⟨HB.out.cell HD1.out (fun f => f), HB.out.cell HD2.out (fun f => f)⟩ (fun hHeld => ?_)
     clear hK K
     try simp only [Act.put, tdy]
     refine tkp (v := ?_) 4 rfl ?_ ?_; rotate_left 1
     ·intro w hSw; go_simp; try with_reducible rfl
     try simp only [Act.put, tdy]
     refine wpAnyH_ready (rs := [6]) (by kernel_rfl) (by simp) ?_
     refine AllReadyH.cons rfl (fun K hK => ?_) .nil
     go_simp
     refine (rturned_int _ _ (by decide) (by decide) _).mono ?_
     rintro e w' ⟨rfl, hk'⟩
     replace HB := hid_of (HB.out.trans hk')
     clear hk'
     refine hK.out _ _ ⟨HB.out.cell HD1.out (fun f => f), HB.out.cell HD2.out (fun f => f)⟩ (fun hHeld => ?_)
     clear hK K
     try simp only [Act.put, tdy]
     refine tkp (v := ?_) 7 rfl ?_ ?_; rotate_left 1
     ·intro w hSw; go_simp; try with_reducible rfl
     try simp only [Act.put, tdy]
     iterate 2
      refine tkn (v := ?_) 23 rfl ?_ ?_; rotate_left 1
      ·intro w hSw; go_simp; try with_reducible rfl
      try simp only [Act.put, tdy]
     refine wpAnyH_done (by kernel_rfl) ?_ _
     have hqw : IntKind.u32.wrap (bits .xor .u32 (bits .xor .u32 (ror st.a 2) (ror st.a 13)) (ror st.a 22) + bits .xor .u32 (bits .xor .u32 (bits .and .u32 st.a st.b) (bits .and .u32 st.a st.c)) (bits .and .u32 st.b st.c)) = qw st := by
      simp only [IntKind.wrap_u32']
      rfl
     rw [hqw]
     clear hqw
     generalize qw st = qv at *
     have HB17 := hid_of HB.out
     clear HB HB16
     try clear hHeld
     have c1 := HB17.out.cell HD1.out (fun f => f)
     have c2 := HB17.out.cell HD2.out (fun f => f)
     have c3 := HB17.out.cell HD3.out (fun f => f)
     have c5 := HB17.out.cell HD5.out (fun f => f)
     have c6 := HB17.out.cell HD6.out (fun f => f)
     have hVV := (HB17.out.block _ (heap_lt HV.out) (fun f => f)).trans HV.out
     have hsn := HS47.out (.int .u32 ((pv + qv) % 4294967296)) (.int .u32 st.a) (.int .u32 st.b) (.int .u32 st.c) (.int .u32 ((st.d + pv) % 4294967296)) (.int .u32 st.e) (.int .u32 st.f) (.int .u32 st.g)
     have hon : #[Value.int .u32 ((pv + qv) % 4294967296), .int .u32 st.a, .int .u32 st.b, .int .u32 st.c, .int .u32 ((st.d + pv) % 4294967296), .int .u32 st.e, .int .u32 st.f, .int .u32 st.g].all (·.oneCell') = true := oneCells .u32 [(pv + qv) % 4294967296, st.a, st.b, st.c, (st.d + pv) % 4294967296, st.e, st.f, st.g]
     clear HD7 HD5 HD6 HD1 HD2 HD3 HCW HRR
     go_wp2_with (refine wpList_store_row rfl 124 _ _ rfl gv #[.int .u32 ((pv + qv) % 4294967296), .int .u32 st.a, .int .u32 st.b, .int .u32 st.c, .int .u32 ((st.d + pv) % 4294967296), .int .u32 st.e, .int .u32 st.f, .int .u32 st.g] rfl rfl 124 _ hVV hsn rfl hon ?_)
     go_roundw
     case rel =>
      refine ⟨k + 1, by omega, by go_num, ?_, ?_⟩
      ·rw [HRE.out, HST.out]
       exact setRow_heap _ gv _ _ 124 (0, 0) hVV
      ·exact (HK.out.step HB17.out (fun _ _ f => f.elim)).setRow (.inr rfl) _
     case measure => simp [intOf]; omega
    ·obtain rfl : k = 64 := by omega
     obtain ⟨sf, HSF⟩ : ∃ sf : Nat → Int, Hid (∀ j, sf j = s.list.getD j 0) := ⟨_, fun _ => rfl⟩
     obtain ⟨vf, HVF⟩ : ∃ vf : Nat → Int, Hid (∀ j, vf j = (r 64).list.getD j 0) := ⟨_, fun _ => rfl⟩
     have HSr : Hid (Row wr w.heap.size 124 .u32 8 8 (mixf sf vf 0)) := by
      refine ⟨cs, (hK.block _ (heap_lt HSB.out) (by show ¬ (w.heap.size = gv); have := HGV.out.1; omega)).trans HSB.out, HC8.out.symm, fun j hj => ?_⟩
      rw [mix_ge _ _ _ _ (by omega), HSF.out, ← HCS.out]
      exact list_at s j hj
     have HVr : Hid (Row wr gv 124 .u32 8 8 vf) := ⟨_, hV, rfl, fun j hj => by rw [HVF.out]; exact list_at (r 64) j hj⟩
     have HOr : Hid (Row wr (w.heap.size + 1) 124 .u32 8 0 (fun _ => 0)) := HOA.out.kept hK (by show ¬ (w.heap.size + 1 = gv); have := HGV.out.1; omega)
     have HKr : Hid (Kept (fun _ => False) w wr) := HKW.out.step hK (fun i hi e => by have := HGV.out.1; omega)
     have hgv1 := HGV.out.1
     clear hV hK HWA HOA HSB HKW HKA HGV
     go_wp2_with fail
     generalize Value.int IntKind.i64 ((64 : Nat) : Int) = d10
     go_loopw [15] (fun i wr => ∃ k : Nat, k ≤ 8 ∧ i = .int .i64 k ∧ Row wr w.heap.size 124 .u32 8 8 (mixf sf vf k) ∧ Row wr gv 124 .u32 8 8 vf ∧ Row wr (w.heap.size + 1) 124 .u32 8 0 (fun _ => 0) ∧ Kept (fun _ => False) w wr) (fun i _ => 8 - (intOf i).toNat)
     case atStart => exact ⟨0, by omega, rfl, HSr.out, HVr.out, HOr.out, HKr.out⟩
     case round =>
      clear HSr HVr HOr HKr
      obtain ⟨k, hk, rfl, hS, hV, hO, hK⟩ := hrel
      by_cases hlt : k < 8
      ·have hkI : (k : Int) < 8 := by omega
       have HCV := hid_of (hV.cell (k := k) hlt)
       have hcs := hS.cell (k := k) hlt
       rw [mix_ge _ _ _ _ (by omega)] at hcs
       have hfs := (hS.there (k := k) hlt).2
       have hcd : wr.drew.cell? ⟨w.heap.size, k, none⟩ = some (.int .u32 (sf k)) := hcs
       have hfd : wr.drew.frozen? ⟨w.heap.size, k, none⟩ = false := hfs
       have H0 : Hid (∀ x, x = add (sf k) (vf k) → Row (wr.drew.setCell ⟨w.heap.size, k, none⟩ (.int .u32 x)) w.heap.size 124 .u32 8 8 (mixf sf vf (k + 1))) := fun x hx => (show Row wr.drew _ _ _ _ _ _ from hS).set hlt _ (by rw [mix_lt _ _ _ _ (by omega)]; exact hx.symm) (fun j hj hne => ⟨hj, by
        by_cases h : j < k
        ·rw [mix_lt _ _ _ _ (by omega), mix_lt _ _ _ _ h]
        ·rw [mix_ge _ _ _ _ (by omega), mix_ge _ _ _ _ h]⟩)
       have H1 : Hid (∀ x, Row (wr.drew.setCell ⟨w.heap.size, k, none⟩ x) gv 124 .u32 8 8 vf) := fun x => (show Row wr.drew _ _ _ _ _ _ from hV).other _ _ (by show _ ≠ w.heap.size; omega)
       have H2 : Hid (∀ x, Row (wr.drew.setCell ⟨w.heap.size, k, none⟩ x) (w.heap.size + 1) 124 .u32 8 0 (fun _ => 0)) := fun x => (show Row wr.drew _ _ _ _ _ _ from hO).other _ _ (by show _ ≠ w.heap.size; omega)
       have H3 : Hid (∀ x, Kept (fun _ => False) w (wr.drew.setCell ⟨w.heap.size, k, none⟩ x)) := fun x => hK.drew.setCell (.inl (Nat.le_refl _)) _
       clear hS hV hO hK hcs hfs
       generalize sf k = x0 at *
       generalize vf k = y0 at *
       go_wp2
       refine wp_region_held_drew (S := fun w' => w'.cell? ⟨gv, k, none⟩ = some (.int .u32 y0)) (by kernel_rfl) (show wr.drew.cell? _ = _ from HCV.out) (fun hHeld => ?_)
       iterate 3
        refine tkn (v := ?_) 0 rfl ?_ ?_; rotate_left 1
        ·intro w hSw; go_simp; try with_reducible rfl
        try simp only [Act.put, tdy]
       iterate 3
        refine tkn (v := ?_) 4 rfl ?_ ?_; rotate_left 1
        ·intro w hSw; go_simp; try with_reducible rfl
        try simp only [Act.put, tdy]
       refine wpAnyH_ready (rs := [3]) (by kernel_rfl) (by simp) ?_
       refine AllReadyH.cons rfl (fun K hK => ?_) .nil
       go_simp
       refine hK.out _ _ (show wr.drew.cell? _ = _ from HCV.out) (fun hHeld => ?_)
       clear hK K
       try simp only [Act.put, tdy]
       iterate 2
        refine tkn (v := ?_) 7 rfl ?_ ?_; rotate_left 1
        ·intro w hSw; go_simp; try with_reducible rfl
        try simp only [Act.put, tdy]
       refine wpAnyH_ready (rs := [9]) (by kernel_rfl) (by simp) ?_
       refine AllReadyH.cons rfl (fun K hK => ?_) .nil
       go_simp
       refine hK.out _ _ ((World.cell?_of_block (w := wr.drew) ((kept_set wr.drew ⟨w.heap.size, k, none⟩ _).block gv (by have := World.block_lt_of_cell? wr _ HCV.out; exact this) (by show gv ≠ w.heap.size; omega))).trans HCV.out) (fun hHeld => ?_)
       clear hK K
       try simp only [Act.put, tdy]
       refine wpAnyH_done (by kernel_rfl) ?_ _
       clear hcd hfd hHeld
       go_wp2
       go_roundw
       case rel => exact ⟨k + 1, by omega, by go_num, H0.out _ (by first | rfl | (rw [IntKind.wrap_u32']; rfl)), H1.out _, H2.out _, H3.out _⟩
       case measure => simp [intOf]; omega
      ·obtain rfl : k = 8 := by omega
       obtain ⟨cur, hB, hsz, hcur⟩ := hS
       have hts : turn s bs = s.add (r 64) := HTURN.out
       obtain rfl := row_list (l := (turn s bs).list) hsz rfl (fun j hj => by
        rw [hcur j hj, mix_lt _ _ _ _ hj, HSF.out, HVF.out, hts, add_at s (r 64) j hj])
       obtain ⟨old, hOl, hosz, _⟩ := hO
       have h2 := oneCells .u32 (turn s bs).list
       have hst : (Tryz.prog.info? 124).map (·.size) = some ((turn s bs).list.map (Value.int .u32)).toArray.size := size47
       have hos : old.size = ((turn s bs).list.map (Value.int .u32)).toArray.size := hosz
       have HKR : Hid (Kept (fun _ => False) w (wr.setRow (w.heap.size + 1) ((turn s bs).list.map (Value.int .u32)).toArray)) := hK.setRow (.inl (by omega)) _
       have HRR := hid_of (setRow_heap wr (w.heap.size + 1) old ((turn s bs).list.map (Value.int .u32)).toArray 124 (0, 0) hOl)
       clear hcur hsz hosz hK hV hts HTURN HRN HR0
       have HRES : Hid ((turn s bs).val = .agg ((turn s bs).list.map (Value.int .u32)).toArray) := rfl
       generalize hcc : ((turn s bs).list.map (Value.int .u32)).toArray = cc at *
       clear hcc
       go_wp2_with (first | refine wpList_load_row rfl 124 _ rfl w.heap.size rfl 124 cc (0, 0) _ hB Tryz.underlying124 rfl hst ?_ | refine wpList_store_row rfl 124 _ _ rfl (w.heap.size + 1) cc rfl rfl 124 old hOl hst hos h2 ?_)
       refine bodyPost_ret (v := .agg cc) ?_ rfl ⟨by rw [HRES.out], HKR.out⟩
       exact results_cell_row (by rfl) _ _ (w.heap.size + 1) 124 cc (0, 0) _ (by rfl) HRR.out Tryz.underlying124 rfl hst
end Go.Proofs.YtjdbmjkidljhpaaGreatDoor
namespace Go.Proofs.YtjdbmjkidljhpaaGreatDoor
open Go.RowKit
set_option linter.unusedVariables false
set_option maxRecDepth 100000
set_option linter.unusedSimpArgs false
section
variable {P : Program} {w : World}
theorem step_own_at {ops : Array Oper} {o : Oper} {a : Act} {K : Act → World → Prop} {Q : Exit → Act → World → Prop} {E : Prop} (hg : o.guard = none) (s x : Operand) (t : TypeId)
  (ho : o.op = .call { callee := .builtin .append, args := #[s, x], argTypes := #[t, t] }) (base : Nat) (e : TypeId) (i : TypeInfo) (z : Value) (size bytes : Nat) (ht : P.underlying t = some (.slice e)) (hi : P.info? e = some i) (hz : i.zero = some z)
  (hsize : i.size = size) (hby : i.bytes = bytes) (hzs : z.cells.size = size) (hsz : 0 < size)
  (v : Value) (n : Nat) (xs : List Value) (hs : a.eval s = v) (hown : w.ownsRow base e size v n xs)
  (ad : Addr) (m c : Nat) (news : List Value) (hx : a.eval x = .slice (some ad) m c) (hl : news.length = m * size) (hnews : ∀ j u, news[j]? = some u → w.cell? (ad.add j) = some u) (h1 : ∀ u ∈ news, u.oneCell' = true)
  (h63 : n + m ≤ maxLen) (hbytes : (n + m) * bytes ≤ 140737488355328) (hbase : base ≤ w.heap.size)
  (h : ∀ v' w', w'.ownsRow base e size v' (n + m) (xs ++ news) → w.grownBy w' v.ownBlock → (v'.ownBlock = v.ownBlock ∨ v'.ownBlock = some w.heap.size) → K (a.put o.dst v') w') :
  if Region.wanted o (yielded ops a.tmps) = true then Oper.wp P o a w K Q else E := by
 have hw : Region.wanted o (yielded ops a.tmps) = true := by simp [Region.wanted, hg]
 rw [if_pos hw]
 obtain ⟨v', w', hr, h2, h3, h4, h5⟩ := run_append_own_at (P := P) w base t o.type e i z size bytes ht hi hz hsize hby hzs hsz v n xs hown ad m c news hl hnews h1 h63 hbytes hbase
 unfold Oper.wp
 simp [execOp, ho, resolve, invoke, builtin, hs, hx, hr, Result.andThen]
 exact h v' w' h2 h3 h5
end
theorem cell_two_new (w : World) (x y : Value) (t : TypeId) (j : Nat) (u : Value) (h : ([x, y] : List Value)[j]? = some u) : (w.alloc (.cells #[x, y] t)).cell? ((⟨w.heap.size, 0, none⟩ : Addr).add j) = some u := by
 rw [Addr.add_mid, cell_block _ _ _ _ _ _ (alloc_new _ _ rfl), Nat.zero_add]
 simpa using h
def hexd (n : Int) : Int := if n < 10 then 48 + n else 87 + n
def hexs : List Int → List Int
 | [] => []
 | c :: l => hexd (c / 16) :: hexd (c % 16) :: hexs l
theorem hexs_append : ∀ (a b : List Int), hexs (a ++ b) = hexs a ++ hexs b
 | [], _ => rfl
 | c :: l, b => by simp [hexs, hexs_append l b]
theorem hexs_length : ∀ a : List Int, (hexs a).length = 2 * a.length
 | [] => rfl
 | c :: l => by simp [hexs, hexs_length l]; omega
/-- A text of these bytes. -/
def strOf (l : List Int) : ByteArray := l.foldl (fun r n => r.push (UInt8.ofNat n.toNat)) ByteArray.empty
def digs : ByteArray := ⟨#[48, 49, 50, 51, 52, 53, 54, 55, 56, 57, 97, 98, 99, 100, 101, 102]⟩
theorem dig_at : ∀ n : Nat, n < 16 → (digs[n]!).toNat = (hexd n).toNat := by decide
theorem run_digs (w : World) (n : Int) (h0 : 0 ≤ n) (h1 : n < 16) : (Instr.index 9 (.string digs) (.int .u8 n)).run Tryz.prog w = .ok (.int .u8 (hexd n)) w := by
 obtain ⟨k, rfl⟩ := Int.eq_ofNat_of_zero_le h0
 have hk : k < 16 := by omega
 have hs : digs.size = 16 := rfl
 rw [run_index_string (P := Tryz.prog) w 9 digs .u8 (k : Int) Tryz.underlying9, dif_pos ⟨h0, by rw [hs]; omega⟩]
 have e : (digs[k]'(by omega)) = digs[k]! := by simp [hs, hk]
 simp only [Int.toNat_natCast]
 rw [e, dig_at k hk]
 have : 0 ≤ hexd (k : Int) := by unfold hexd; split <;> omega
 rw [Int.toNat_of_nonneg this]
theorem mk64 (W : World) : (Instr.makeSlice 27 (.int .i64 0) (.int .i64 64)).run Tryz.prog W = .ok (.slice (some ⟨W.heap.size, 0, none⟩) 0 64) (W.alloc (.cells (zer 64) 5)) := by
 obtain ⟨i0, hi, hz0, hz1, hz2⟩ := info_parts info5
 have := run_make (P := Tryz.prog) W 27 5 i0 (.int .u8 0) Tryz.underlying27 hi hz0 .i64 .i64 0 64 (by omega) (by omega) (by rw [hz2]; omega) (by omega)
 simpa [zer, hz1] using this
theorem and15 (c : Int) (h0 : 0 ≤ c) (h1 : c < 256) : bits .and .u8 c 15 = c % 16 := by
 rw [u8_and c 15 h0 h1 (by decide) (by decide)]
 have : c.toNat &&& (15 : Int).toNat = c.toNat % 16 := nat_mask4 _
 rw [this]
 omega
end Go.Proofs.YtjdbmjkidljhpaaGreatDoor
namespace Go.Proofs.YtjdbmjkidljhpaaGreatDoor
open Go.RowKit
set_option linter.unusedVariables false
set_option maxRecDepth 100000
set_option linter.unusedSimpArgs false
theorem mapc {w : World} {g o : Nat} {xs : List Int} (h : ∀ i, i < xs.length → w.cell? ⟨g, o + i, none⟩ = some (.int .u8 (xs.getD i 0))) : ∀ j u, (xs.map (Value.int .u8))[j]? = some u → w.cell? ((⟨g, o, none⟩ : Addr).add j) = some u := by
 intro j u hj
 have hl : j < xs.length := by
  have := (List.getElem?_eq_some_iff.1 hj).1
  simpa using this
 rw [Addr.add_mid, h j hl]
 rw [List.getElem?_map, List.getElem?_eq_getElem hl] at hj
 simpa [List.getD, List.getElem?_eq_getElem hl] using hj
theorem map1 (xs : List Int) : ∀ u ∈ xs.map (Value.int .u8), u.oneCell' = true := by
 intro u hu
 obtain ⟨x, _, rfl⟩ := List.mem_map.1 hu
 rfl
/-- append of no bytes, from a nil slice. -/
theorem app_nil (W : World) (v : Value) (n base : Nat) (xs : List Value) (ty : TypeId) (c : Nat) (hown : W.ownsRow base 5 1 v n xs) : (Builtin.append_ #[27, 27] ty #[v, .slice none 0 c]).run Tryz.prog W = .ok v W := by
 obtain ⟨i0, hi, hz0, hz1, hz2⟩ := info_parts info5
 rcases hown.2 with ⟨rfl, rfl⟩ | ⟨g, cap, cur, rfl, hb, hg, hn, hm, hs, ht⟩
 ·simp [Builtin.append_, run_underlying Tryz.underlying27, sizeOf, typeInfo, hi, Builtin.lenOf, Builtin.firstCells]
 ·have := run_append_room_src (P := Tryz.prog) W 27 27 ty 5 i0 Tryz.underlying27 hi g 0 n cap (.slice none 0 c) 0 [] (Src.ofNil W Tryz.underlying27 c) (by omega) (by simp) (by simp)
  simpa [World.setCells] using this
/-- append of bytes onto a row of one's own, from whatever slice they lie in. -/
theorem app_any (W : World) (v : Value) (n base : Nat) (l : List Int) (ty : TypeId) (bv : Value) (xs : List Int) (hown : W.ownsRow base 5 1 v n (l.map (Value.int .u8))) (hx : BIn W bv xs) (hb : base ≤ W.heap.size) (hsz : n + xs.length ≤ 140737488355328) :
  ∃ v' w', (Builtin.append_ #[27, 27] ty #[v, bv]).run Tryz.prog W = .ok v' w' ∧ w'.ownsRow base 5 1 v' (n + xs.length) ((l ++ xs).map (Value.int .u8)) ∧ W.grownBy w' v.ownBlock := by
 obtain ⟨i0, hi, hz0, hz1, hz2⟩ := info_parts info5
 have key : ∀ (p : Addr) (c : Nat), (∀ j u, (xs.map (Value.int .u8))[j]? = some u → W.cell? (p.add j) = some u) → ∃ v' w', (Builtin.append_ #[27, 27] ty #[v, .slice (some p) xs.length c]).run Tryz.prog W = .ok v' w' ∧ w'.ownsRow base 5 1 v' (n + xs.length) ((l ++ xs).map (Value.int .u8)) ∧ W.grownBy w' v.ownBlock := by
  intro p c hc
  obtain ⟨v', w', hr, h2, h3, h4⟩ := run_append_own (P := Tryz.prog) W base 27 ty 5 i0 (.int .u8 0) 1 1 Tryz.underlying27 hi hz0 hz1 hz2 rfl (by decide) v n _ hown p xs.length c (xs.map (Value.int .u8)) (by simp) hc (map1 xs) (by unfold maxLen; omega) (by omega) hb
  exact ⟨v', w', hr, by rw [List.map_append]; exact h2, h3⟩
 obtain ⟨ao, c, rfl, hc, hx⟩ := hx
 cases ao with
 | none =>
  have e : xs = [] := by
   rcases hx with h | ⟨b, o, h, _⟩
   ·exact h
   ·cases h
  subst e
  exact ⟨v, W, app_nil W v n base _ ty c hown, by simpa using hown, ⟨rfl, rfl, rfl, Nat.le_refl _, fun _ _ _ => rfl⟩⟩
 | some p =>
  refine key p c ?_
  rcases hx with rfl | ⟨b, o, h, hx⟩
  ·intro j u hj
   simp at hj
  ·cases h
   exact mapc hx
/-- An append whose outcome is known, for the walk. -/
theorem wp_app {w : World} {ops : Array Oper} {rest : List Oper} {o : Oper} {a : Act} {Q : Exit → Act → World → Prop} (hgd : o.guard = none) (s x : Operand) (t u : TypeId)
  (ho : o.op = .call { callee := .builtin .append, args := #[s, x], argTypes := #[t, u] }) (v bv : Value) (hs : a.eval s = v) (hx : a.eval x = bv) (v' : Value) (w' : World)
  (hr : (Builtin.append_ #[t, u] o.type #[v, bv]).run Tryz.prog w = .ok v' w') (h : wpList Tryz.prog ops Q rest (a.put o.dst v') w') : wpList Tryz.prog ops Q (o :: rest) a w := by
 refine wpList_plain hgd fun K hK => ?_
 unfold Oper.wp execOp
 simp only [ho, resolve, invoke, builtin, Sem.run_bind, Sem.run_pure, Result.andThen_ok, List.map_toArray, List.map_cons, List.map_nil, hs, hx, hr]
 exact hK _ _ h
/-- One byte more onto a row of one's own. -/
theorem app_one (W : World) (v : Value) (n base : Nat) (l : List Int) (ty : TypeId) (x : Int) (hown : W.ownsRow base 5 1 v n (l.map (Value.int .u8))) (hb : base ≤ W.heap.size) (hsz : n + 1 ≤ 140737488355328) :
  ∃ v' w', (Builtin.append_ #[27, 27] ty #[v, .slice (some ⟨W.heap.size, 0, none⟩) 1 1]).run Tryz.prog (W.alloc (.cells #[.int .u8 x] 5)) = .ok v' w' ∧ w'.ownsRow base 5 1 v' (n + 1) ((l ++ [x]).map (Value.int .u8)) ∧ (∃ g cap, v' = .slice (some ⟨g, 0, none⟩) (n + 1) cap) ∧ Kept (fun k => base ≤ k) W w' := by
 obtain ⟨v', w', hr, h2, h3⟩ := app_any (W.alloc (.cells #[.int .u8 x] 5)) v n base l ty (.slice (some ⟨W.heap.size, 0, none⟩) 1 1) [x] (hown.alloc _) (bin_new (xs := [x]) (t := 5) (f := (0, 0)) (alloc_new _ _ rfl) rfl (Nat.le_refl _)) (by simp; omega) (by simpa using hsz)
 refine ⟨v', w', hr, h2, ?_, ?_⟩
 ·rcases h2.2 with ⟨_, h⟩ | ⟨g, cap, cur, h, _⟩
  ·simp at h
  ·exact ⟨g, cap, h⟩
 ·exact ((Kept.refl (fun k => base ≤ k) W).alloc _).grown h3 (fun k hk => .inr (hown.lt k hk).1)
theorem fill_stop (n z : Nat) (hz : z ≤ zeros n) : ((n + 1 + z) % 64 = 56) ↔ z = zeros n := by
 unfold zeros at *
 omega
def vlen : Value → Nat
 | .slice _ n _ => n
 | _ => 0
set_option maxRecDepth 100000 in
set_option maxHeartbeats 1000000 in
theorem filled_any (bv : Value) (xs : List Int) (w : World) (hx : BIn w bv xs) (hn : xs.length ≤ 4294967296) :
  Calls Tryz.prog 85 #[bv] w fun e w' => ∃ v', e = .returned v' ∧ w'.ownsRow w.heap.size 5 1 v' (xs.length + (pad xs.length).length) ((xs ++ pad xs.length).map (Value.int .u8)) ∧ Kept (fun _ => False) w w' := by
 obtain ⟨v1, w1, hr1, ho1, hg1⟩ := app_any w (.slice none 0 0) 0 w.heap.size [] 27 bv xs (World.ownsRow_nil _ _ _ _) hx (Nat.le_refl _) (by omega)
 rw [Nat.zero_add, List.nil_append] at ho1
 have hk1 : Kept (fun k => w.heap.size ≤ k) w w1 := (Kept.refl (fun k => w.heap.size ≤ k) w).grown hg1 (fun k hk => by cases hk)
 obtain ⟨v2, w2, hr2, ho2, ⟨g2, cap2, rfl⟩, hk2⟩ := app_one w1 v1 xs.length w.heap.size xs 27 128 ho1 hk1.size (by omega)
 have hK2 := hk1.trans hk2
 obtain ⟨ao, c, rfl⟩ : ∃ ao c, bv = .slice ao xs.length c := by
  obtain ⟨ao, c, h, _⟩ := hx
  exact ⟨ao, c, h⟩
 have HO2 := hid_of ho2
 have HK2 := hid_of hK2
 clear hg1 ho1 ho2 hk1 hk2 hK2 hx
 go_enter Tryz.func85, Tryz.ntmps85
 go_wp2_with (first | (refine wp_app rfl (.tmp 6) (.tmp 7) 27 27 ?_ _ _ rfl rfl v1 w1 ?_ ?_; rfl; exact hr1) | (refine wp_app rfl (.tmp 9) (.tmp 10) 27 27 ?_ _ _ rfl rfl (.slice (some ⟨g2, 0, none⟩) (xs.length + 1) cap2) w2 ?_ ?_; rfl; exact hr2))
 clear hr1 hr2
 generalize hz : zeros xs.length = z at *
 have HZ := hid_of hz
 have hz64 : z < 64 := by rw [← hz]; unfold zeros; omega
 clear hz
 have HST : Hid (∀ y, y ≤ z → ((xs.length + 1 + y) % 64 = 56 ↔ y = z)) := fun y hy => by
  have := fill_stop xs.length y (by rw [HZ.out]; exact hy)
  rw [HZ.out] at this
  exact this
 generalize hN : xs.length = n at *
 have HN := hid_of hN
 clear hN
 have HO2' : Hid (w2.ownsRow w.heap.size 5 1 (.slice (some ⟨g2, 0, none⟩) (n + 1) cap2) (n + 1 + 0) ((xs ++ (128 :: List.replicate 0 0)).map (Value.int .u8))) := HO2.out
 clear HO2
 go_loopw [3] (fun v wr => ∃ (y g cap : Nat), y ≤ z ∧ v = .slice (some ⟨g, 0, none⟩) (n + 1 + y) cap ∧ wr.ownsRow w.heap.size 5 1 v (n + 1 + y) ((xs ++ (128 :: List.replicate y 0)).map (Value.int .u8)) ∧ Kept (fun k => w.heap.size ≤ k) w wr) (fun v _ => n + 1 + z - vlen v)
 case atStart => exact ⟨0, g2, cap2, by omega, rfl, HO2'.out, HK2.out⟩
 case round =>
  clear HO2' HK2
  obtain ⟨y, g, cap, hy, rfl, hO, hK⟩ := hrel
  have hst := HST.out y hy
  by_cases hlt : y = z
  ·subst hlt
   have h56 : (n + 1 + y) % 64 = 56 := hst.2 rfl
   have h56I : ((n : Int) + 1 + (y : Int)) % 64 = 56 := by omega
   have HO := hid_of hO
   have HK := hid_of hK
   clear hst hO hK
   go_wp2
   have HO2 : Hid (wr.ownsRow w.heap.size 5 1 (.slice (some ⟨g, 0, none⟩) (n + 1 + y) cap) (n + 1 + y + 0) ((xs ++ (128 :: (List.replicate y 0 ++ (lenb n).take 0))).map (Value.int .u8))) := by
    rw [List.take_zero, List.append_nil]
    exact HO.out
   clear HO h56 h56I
   go_loopw [3, 5] (fun v i wr => ∃ (j g cap : Nat), j ≤ 8 ∧ i = .int .i64 j ∧ v = .slice (some ⟨g, 0, none⟩) (n + 1 + y + j) cap ∧ wr.ownsRow w.heap.size 5 1 v (n + 1 + y + j) ((xs ++ (128 :: (List.replicate y 0 ++ (lenb n).take j))).map (Value.int .u8)) ∧ Kept (fun k => w.heap.size ≤ k) w wr) (fun _ i _ => 8 - (intOf i).toNat)
   case atStart => exact ⟨0, g, cap, by omega, rfl, rfl, HO2.out, HK.out⟩
   case round =>
    clear HO2 HK
    obtain ⟨j, g, cap, hj, rfl, rfl, hO, hK⟩ := hrel
    by_cases hjt : j < 8
    ·have hjI : (j : Int) < 8 := by omega
     obtain ⟨v3, w3, hr3, ho3, ⟨g3, cap3, rfl⟩, hk3⟩ := app_one wr _ _ _ _ 27 (lbyte n j) hO hK.size (by omega)
     have HO3 : Hid (w3.ownsRow w.heap.size 5 1 (.slice (some ⟨g3, 0, none⟩) (n + 1 + y + (j + 1)) cap3) (n + 1 + y + (j + 1)) ((xs ++ (128 :: (List.replicate y 0 ++ (lenb n).take (j + 1)))).map (Value.int .u8))) := by
      have e : (lenb n).take (j + 1) = (lenb n).take j ++ [lbyte n j] := by
       rw [List.take_add_one, lenb, List.getElem?_map, List.getElem?_range hjt]
       rfl
      rw [e, ← List.append_assoc (List.replicate y 0), ← List.cons_append, ← List.append_assoc]
      exact ho3
     have HK3 := hid_of (hK.trans (hk3.mono (fun _ _ h => h)))
     clear hO hK ho3 hk3
     have hlb : (n : Int) * 8 / 2 ^ (8 * (7 - j)) % 256 = lbyte n j := by
      rw [show 8 * (7 - j) = 56 - 8 * j by omega, lbyte, Int.mul_comm]
     rw [← hlb] at hr3
     clear hlb
     go_wp2_with (refine wp_app rfl (.tmp 27) (.tmp 34) 27 27 ?_ _ _ rfl rfl (.slice (some ⟨g3, 0, none⟩) (n + 1 + y + j + 1) cap3) w3 ?_ ?_; rfl; exact hr3)
     go_roundw
     case rel => exact ⟨j + 1, g3, cap3, by omega, by go_num, by first | rfl | go_num, HO3.out, HK3.out⟩
     case measure => simp [intOf]; omega
    ·obtain rfl : j = 8 := by omega
     rw [List.take_of_length_le (by simp [lenb])] at hO
     have HO3 : Hid (wr.ownsRow w.heap.size 5 1 (.slice (some ⟨g, 0, none⟩) (n + 1 + y + 8) cap) (n + (pad n).length) ((xs ++ pad n).map (Value.int .u8))) := by
      rw [pad_length, pad, HZ.out, show n + (9 + y) = n + 1 + y + 8 by omega]
      exact hO
     have HK3 : Hid (Kept (fun _ => False) w wr) := ⟨hK.os, hK.tape, hK.output, hK.size, fun i hi hn => hK.block i hi (by omega)⟩
     clear hO hK
     go_wp2
     go_ret
     refine ⟨_, rfl, ?_, HK3.out⟩
     rw [HN.out]
     exact HO3.out
  ·have h56 : ¬ (n + 1 + y) % 64 = 56 := fun h => hlt (hst.1 h)
   have h56I : ¬ ((n : Int) + 1 + (y : Int)) % 64 = 56 := by omega
   obtain ⟨v3, w3, hr3, ho3, ⟨g3, cap3, rfl⟩, hk3⟩ := app_one wr _ _ _ _ 27 0 hO hK.size (by omega)
   have HO3 : Hid (w3.ownsRow w.heap.size 5 1 (.slice (some ⟨g3, 0, none⟩) (n + 1 + (y + 1)) cap3) (n + 1 + (y + 1)) ((xs ++ (128 :: List.replicate (y + 1) 0)).map (Value.int .u8))) := by
    rw [List.append_assoc, List.cons_append, ← List.replicate_succ'] at ho3
    exact ho3
   have HK3 := hid_of (hK.trans (hk3.mono (fun _ _ h => h)))
   clear hst hO hK ho3 hk3 h56
   go_wp2_with (refine wp_app rfl (.tmp 16) (.tmp 17) 27 27 ?_ _ _ rfl rfl (.slice (some ⟨g3, 0, none⟩) (n + 1 + y + 1) cap3) w3 ?_ ?_; rfl; exact hr3)
   go_roundw
   case rel => exact ⟨y + 1, g3, cap3, by omega, by first | rfl | go_num, HO3.out, HK3.out⟩
   case measure => simp [vlen]; omega
end Go.Proofs.YtjdbmjkidljhpaaGreatDoor
namespace Go.Proofs.YtjdbmjkidljhpaaGreatDoor
open Go.RowKit
set_option linter.unusedVariables false
set_option maxRecDepth 100000
set_option linter.unusedSimpArgs false
section
variable {P : Program} {w : World} {ops : Array Oper} {o : Oper} {a : Act} {K : Act → World → Prop} {Q : Exit → Act → World → Prop} {E : Prop}
theorem step_load_row (hgd : o.guard = none) (ty : TypeId) (x : Operand) (ho : o.op = .load ty x)
  (g : Nat) (hx : a.eval x = .pointer (some ⟨g, 0, none⟩)) (t : TypeId) (cs : Array Value) (fr : Nat × Nat) (d : TypeDesc) (hg : w.heap[g]? = some (.cells cs t fr))
  (hu : P.underlying ty = some d) (hd : (match d with | .struct _ | .array _ _ => true | _ => false) = true) (hi : (P.info? ty).map (·.size) = some cs.size)
  (h : K (a.put o.dst (.agg cs)) w) : if Region.wanted o (yielded ops a.tmps) = true then Oper.wp P o a w K Q else E := by
 have hw : Region.wanted o (yielded ops a.tmps) = true := by simp [Region.wanted, hgd]
 rw [if_pos hw]
 exact wp_load_row ty x ho g hx t cs fr d hg hu hd hi h
theorem step_store_row (hgd : o.guard = none) (ty : TypeId) (x y : Operand) (ho : o.op = .store ty x y)
  (g : Nat) (cells : Array Value) (hx : a.eval x = .pointer (some ⟨g, 0, none⟩)) (hy : a.eval y = .agg cells)
  (t : TypeId) (old : Array Value) (hg : w.heap[g]? = some (.cells old t (0, 0))) (hi : (P.info? ty).map (·.size) = some cells.size)
  (hold : old.size = cells.size) (h1 : cells.all (·.oneCell') = true)
  (h : K (a.put o.dst undef) (w.setRow g cells)) : if Region.wanted o (yielded ops a.tmps) = true then Oper.wp P o a w K Q else E := by
 have hw : Region.wanted o (yielded ops a.tmps) = true := by simp [Region.wanted, hgd]
 rw [if_pos hw]
 exact wp_store_row ty x y ho g cells hx hy t old hg hi hold h1 h
end
theorem take_at (l : List Int) (k i : Nat) (hi : i < 64) : ((l.drop (64 * k)).take 64).getD i 0 = l.getD (64 * k + i) 0 := by
 simp [List.getD, List.getElem?_take, hi, List.getElem?_drop]
def S8.arr (s : S8) : Array Value := #[.int .u32 s.a, .int .u32 s.b, .int .u32 s.c, .int .u32 s.d, .int .u32 s.e, .int .u32 s.f, .int .u32 s.g, .int .u32 s.h]
theorem arr_val (s : S8) : s.val = .agg s.arr := rfl
theorem arr_one (s : S8) : s.arr.all (·.oneCell') = true := oneCells .u32 s.list
theorem arr_size (s : S8) : (Tryz.prog.info? 124).map (·.size) = some s.arr.size := size47
set_option maxRecDepth 100000 in
set_option maxHeartbeats 4000000 in
theorem rof_any (bv : Value) (xs : List Int) (w : World) (hx : BIn w bv xs) (hr : ∀ x ∈ xs, 0 ≤ x ∧ x < 256) (hn : xs.length ≤ 4294967296) :
  Calls Tryz.prog 76 #[bv] w fun e w' => e = .returned (.agg ((sha xs).map (Value.int .u8)).toArray) ∧ Kept (fun _ => False) w w' := by
 obtain ⟨full, hfull⟩ : ∃ l, l = xs ++ pad xs.length := ⟨_, rfl⟩
 obtain ⟨m, hm⟩ : ∃ m, full.length = 64 * m := ⟨full.length / 64, by have := full_length xs.length; rw [hfull, List.length_append]; omega⟩
 have hmb : m ≤ 67108866 := by
  have h1 : full.length = xs.length + (9 + zeros xs.length) := by rw [hfull, List.length_append, pad_length]
  have := zeros_lt xs.length
  omega
 obtain ⟨st, HST0, HSTN, HSHA⟩ : ∃ st : Nat → S8, Hid (st 0 = s0) ∧ Hid (∀ k, st (k + 1) = turn (st k) ((full.drop (64 * k)).take 64)) ∧ Hid (sha xs = dig (st m)) :=
  ⟨blk full, rfl, fun k => rfl, by
   show sha xs = _
   rw [sha, hfull]
   congr 2
   rw [hfull, List.length_append] at hm
   omega⟩
 have HRF : Hid (∀ x ∈ full, 0 ≤ x ∧ x < 256) := fun x hx => by
  rw [hfull, List.mem_append] at hx
  rcases hx with h | h
  ·exact hr x h
  ·exact pad_range _ x h
 obtain ⟨ao, c, rfl⟩ : ∃ ao c, bv = .slice ao xs.length c := by
  obtain ⟨ao, c, h, _⟩ := hx
  exact ⟨ao, c, h⟩
 have HX := hid_of hx
 have hz31 : (Tryz.prog.info? 100).map (·.size) = some (zeros32.map (Value.int .u8)).toArray.size := by simp [size31, zeros32]
 have HFIL : Hid (∀ W, Kept (fun _ => False) w W → Calls Tryz.prog 85 #[.slice ao xs.length c] W fun e w' => ∃ v', e = .returned v' ∧ w'.ownsRow W.heap.size 5 1 v' (64 * m) (full.map (Value.int .u8)) ∧ Kept (fun _ => False) W w') := fun W hW => by
  have := filled_any (.slice ao xs.length c) xs W (hx.kept hW (fun _ _ f => f)) hn
  rw [← hfull, show xs.length + (pad xs.length).length = 64 * m by rw [← List.length_append, ← hfull, hm]] at this
  exact this
 have HM := hid_of hm
 have HNZ : Hid (¬ m = 0) := by
  show ¬ m = 0
  have h1 : full.length = xs.length + (9 + zeros xs.length) := by rw [hfull, List.length_append, pad_length]
  omega
 clear hx hr hn hfull hm
 have hon := arr_one (st 0)
 have hsz := arr_size (st 0)
 have harr : s0.arr = (st 0).arr := by rw [HST0.out]
 go_enter Tryz.func76, Tryz.ntmps76
 go_wp2_with (first | (refine wpList_store_row rfl 124 _ _ rfl (w.heap.size + 1) s0.arr rfl rfl 124 _ (alloc_new _ _ (by simp)) (by rw [harr]; exact hsz) rfl (by rw [harr]; exact hon) ?_; rw [setRow_new _ _ _ _ (by simp)]))
 have HKA : Hid (Kept (fun _ => False) w ((w.alloc (.cells (zeros32.map (Value.int .u8)).toArray 100)).alloc (.cells (st 0).arr 124))) := ((Kept.refl _ w).alloc _).alloc _
 have HZA : Hid (((w.alloc (.cells (zeros32.map (Value.int .u8)).toArray 100)).alloc (.cells (st 0).arr 124)).heap[w.heap.size]? = some (.cells (zeros32.map (Value.int .u8)).toArray 100 (0, 0))) := alloc_old (alloc_new _ _ rfl)
 have HSA : Hid (((w.alloc (.cells (zeros32.map (Value.int .u8)).toArray 100)).alloc (.cells (st 0).arr 124)).heap[w.heap.size + 1]? = some (.cells (st 0).arr 124 (0, 0))) := alloc_new _ _ (by simp)
 have HZS : Hid (((w.alloc (.cells (zeros32.map (Value.int .u8)).toArray 100)).alloc (.cells (st 0).arr 124)).heap.size = w.heap.size + 2) := by show _ = _; simp
 change Calls Tryz.prog 85 _ ((w.alloc (.cells (zeros32.map (Value.int .u8)).toArray 100)).alloc (.cells (st 0).arr 124)) _
 generalize (w.alloc (.cells (zeros32.map (Value.int .u8)).toArray 100)).alloc (.cells (st 0).arr 124) = wA at *
 refine (HFIL.out wA HKA.out).mono ?_
 rintro e w1 ⟨v', rfl, hO, hk1⟩
 rw [HZS.out] at hO
 have HK1 := hid_of (HKA.out.trans hk1)
 have HZ1 := hid_of ((hk1.block _ (heap_lt HZA.out) (fun f => f)).trans HZA.out)
 have HS1 := hid_of ((hk1.block _ (heap_lt HSA.out) (fun f => f)).trans HSA.out)
 clear HKA HZA HSA HZS hk1 HFIL hon hsz harr
 have HMP : Hid (0 < m) := by
  show 0 < m
  have := HM.out
  have h2 := HSHA.out
  rcases Nat.eq_zero_or_pos m with h | h
  ·exfalso
   exact HNZ.out h
  ·exact h
 obtain ⟨gl, cap, hv', HCAP, HGL, HCL⟩ : ∃ gl cap, v' = .slice (some ⟨gl, 0, none⟩) (64 * m) cap ∧ Hid (64 * m ≤ cap) ∧ Hid (w.heap.size + 2 ≤ gl ∧ gl < w1.heap.size) ∧ Hid (∀ i, i < 64 * m → w1.cell? ⟨gl, i, none⟩ = some (.int .u8 (full.getD i 0))) := by
  have hO' := hO
  rcases hO.2 with ⟨_, h⟩ | ⟨g, cap, cur, rfl, hb, hg, hc, _⟩
  ·have := HMP.out
   omega
  ·refine ⟨g, cap, rfl, hc, ⟨hb, heap_lt hg⟩, fun i hi => ?_⟩
   have hi' : i < full.length := by rw [HM.out]; exact hi
   have := hO'.cells (g := g) rfl i (.int .u8 (full.getD i 0)) (by simp [List.getD, List.getElem?_eq_getElem hi'])
   rw [Addr.add_mid, Nat.zero_add] at this
   exact this
 subst hv'
 clear hO
 have hcap : 64 * m ≤ cap := HCAP.out
 go_wp2_with fail
 go_loopw [5] (fun i wr => ∃ k : Nat, k ≤ m ∧ i = .int .i64 (64 * (k : Int)) ∧ wr.heap[w.heap.size + 1]? = some (.cells (st k).arr 124 (0, 0)) ∧ Kept (fun k => k = w.heap.size + 1) w1 wr) (fun i _ => 64 * m - (intOf i).toNat)
 case atStart => exact ⟨0, by omega, rfl, HS1.out, Kept.refl _ _⟩
 case round =>
  clear HS1
  obtain ⟨k, hk, rfl, hS, hK⟩ := hrel
  by_cases hlt : k < m
  ·have hkI : (64 * (k : Int)) < 64 * (m : Int) := by omega
   have HBLK : Hid (∀ W, Kept (fun _ => False) wr W → Calls Tryz.prog 86 #[.agg (st k).arr, .slice (if cap = 64 * k then some ⟨gl, 0, none⟩ else some ⟨gl, 64 * k, none⟩) 64 (cap - 64 * k)] W fun e w' => e = .returned (.agg (st (k + 1)).arr) ∧ Kept (fun _ => False) W w') := fun W hW => by
    rw [HSTN.out k, if_neg (by omega)]
    refine rblock_any (st k) ((full.drop (64 * k)).take 64) gl (64 * k) (cap - 64 * k) (by simp; have := HM.out; omega) (fun x hx => HRF.out x (List.mem_of_mem_drop (List.mem_of_mem_take hx))) W (fun i hi => ?_) (by omega)
    rw [take_at _ _ _ hi]
    exact hW.cell (hK.cell (HCL.out (64 * k + i) (by omega)) (by show ¬ (gl = w.heap.size + 1); have := HGL.out.1; omega)) (fun f => f)
   have hszk := arr_size (st k)
   have hszk' := arr_size (st (k + 1))
   have honk := arr_one (st (k + 1))
   have HS := hid_of hS
   have HK := hid_of hK
   have HSZ : Hid (∀ a b : S8, a.arr.size = b.arr.size) := fun _ _ => rfl
   clear hS hK
   have i64a : IntKind.i64.wrap (64 * (k : Int) + 64) = 64 * (k : Int) + 64 := by rw [IntKind.wrap_i64]; omega
   have b1 : (0 : Int) ≤ 64 * (k : Int) := by omega
   have b2 : 64 * (k : Int) ≤ 64 * (k : Int) + 64 := by omega
   have b3 : 64 * (k : Int) + 64 ≤ (cap : Int) := by omega
   have n1 : (64 * (k : Int)).toNat = 64 * k := by omega
   have n2 : (64 * (k : Int) + 64).toNat = 64 * k + 64 := by omega
   go_wp2
   have HB : Hid (Kept (fun _ => False) wr wr.drew) := (Kept.refl _ wr).drew
   refine wp_region_held_drew (S := fun _ => True) (by kernel_rfl) trivial (fun hHeld => ?_)
   iterate 5
    refine tkn (v := ?_) 1 rfl ?_ ?_; rotate_left 1
    ·intro w hSw; go_simp; try with_reducible rfl
    try simp only [Act.put, tdy]
   refine wpAnyH_ready (rs := [0]) (by kernel_rfl) (by simp) ?_
   refine AllReadyH.cons rfl (fun K hK => ?_) .nil
   refine step_load_row rfl 124 _ rfl (w.heap.size + 1) rfl 124 (st k).arr (0, 0) _ (show wr.drew.heap[_]? = _ from HS.out) Tryz.underlying124 rfl hszk ?_
   refine hK.out _ _ trivial (fun hHeld => ?_)
   clear hK K
   try simp only [Act.put, tdy]
   refine wpAnyH_ready (rs := [6]) (by kernel_rfl) (by simp) ?_
   refine AllReadyH.cons rfl (fun K hK => ?_) .nil
   go_simp
   refine (HBLK.out _ HB.out).mono ?_
   rintro e w' ⟨rfl, hk'⟩
   replace HB := hid_of (HB.out.trans hk')
   clear hk'
   refine hK.out _ _ trivial (fun hHeld => ?_)
   clear hK K
   try simp only [Act.put, tdy]
   have hSW := (HB.out.block _ (heap_lt HS.out) (fun f => f)).trans HS.out
   refine wpAnyH_ready (rs := [7]) (by kernel_rfl) (by simp) ?_
   refine AllReadyH.cons rfl (fun K hK => ?_) .nil
   refine step_store_row rfl 124 _ _ rfl (w.heap.size + 1) (st (k + 1)).arr rfl rfl 124 (st k).arr hSW hszk' (HSZ.out _ _) honk ?_
   refine hK.out _ _ trivial (fun hHeld => ?_)
   clear hK K
   try simp only [Act.put, tdy]
   refine wpAnyH_done (by kernel_rfl) ?_ _
   have HN : Hid ((w'.setRow (w.heap.size + 1) (st (k + 1)).arr).heap[w.heap.size + 1]? = some (.cells (st (k + 1)).arr 124 (0, 0))) := setRow_heap _ _ _ _ _ _ hSW
   have HKN : Hid (Kept (fun k => k = w.heap.size + 1) w1 (w'.setRow (w.heap.size + 1) (st (k + 1)).arr)) := (HK.out.step HB.out (fun _ _ f => f.elim)).setRow (.inr rfl) _
   clear hSW i64a b1 b2 b3 n1 n2 hszk hszk' honk
   try clear hHeld
   go_wp2
   go_roundw
   case rel => exact ⟨k + 1, by omega, by go_num, HN.out, HKN.out⟩
   case measure => simp [intOf]; omega
  ·obtain rfl : k = m := by omega
   have HSr : Hid (Row wr (w.heap.size + 1) 124 .u32 8 8 (fun j => (st k).list.getD j 0)) := ⟨_, hS, rfl, fun j hj => list_at (st k) j hj⟩
   have HZr : Hid (Row wr w.heap.size 100 .u8 32 0 (fun _ => 0)) := ⟨_, (hK.block _ (heap_lt HZ1.out) (by show ¬ (w.heap.size = w.heap.size + 1); omega)).trans HZ1.out, by simp [zeros32], fun j hj => absurd hj (by omega)⟩
   have HKr : Hid (Kept (fun _ => False) w wr) := HK1.out.step hK (fun i hi e => by omega)
   have HDS : Hid (∀ j, j < 32 → (sha xs).getD j 0 = (st k).list.getD (j / 4) 0 / 2 ^ (8 * (3 - j % 4)) % 256) := fun j hj => by
    rw [HSHA.out]
    have e : 24 - j % 4 * 8 = 8 * (3 - j % 4) := by omega
    simp [dig, List.getD, hj, dbyte, e]
   have HSL : Hid ((sha xs).length = 32) := by show _ = _; rw [HSHA.out, dig_length]
   have HG1 : Hid (w.heap.size + 1 < wr.heap.size) := heap_lt hS
   clear hS hK HZ1 HK1 HCL HGL HST0 HSTN HRF HMP HM HX
   go_wp2_with fail
   have HKr2 : Hid (Kept (fun _ => False) wr (wr.alloc (.cells (zeros32.map (Value.int .u8)).toArray 100))) := (Kept.refl _ wr).alloc _
   have HS2 := hid_of (HSr.out.kept HKr2.out (fun f => f))
   have HZ2 := hid_of (HZr.out.kept HKr2.out (fun f => f))
   have HK2 := hid_of (HKr.out.trans HKr2.out)
   have HD2 : Hid (Row (wr.alloc (.cells (zeros32.map (Value.int .u8)).toArray 100)) wr.heap.size 100 .u8 32 0 (fun j => (sha xs).getD j 0)) := ⟨_, alloc_new _ _ rfl, by simp [zeros32], fun j hj => absurd hj (by omega)⟩
   clear HSr HZr HKr HKr2
   obtain ⟨lf, HLF⟩ : ∃ lf : Nat → Int, Hid (lf = fun j => (st k).list.getD j 0) := ⟨_, rfl⟩
   obtain ⟨df, HDF⟩ : ∃ df : Nat → Int, Hid (df = fun j => (sha xs).getD j 0) := ⟨_, rfl⟩
   have HDD : Hid (∀ j, j < 32 → df j = lf (j / 4) / 2 ^ (8 * (3 - j % 4)) % 256) := fun j hj => by rw [HLF.out, HDF.out]; exact HDS.out j hj
   rw [← HLF.out] at HS2
   rw [← HDF.out] at HD2
   clear HDS HLF HSHA
   have HGD : Hid (w.heap.size + 1 < wr.heap.size) := HG1.out
   have hgd := HG1.out
   generalize wr.heap.size = gd at *
   go_loopw [7] (fun i wr => ∃ j : Nat, j ≤ 32 ∧ i = .int .i64 j ∧ Row wr (w.heap.size + 1) 124 .u32 8 8 lf ∧ Row wr w.heap.size 100 .u8 32 0 (fun _ => 0) ∧ Row wr gd 100 .u8 32 j df ∧ Kept (fun _ => False) w wr) (fun i _ => 32 - (intOf i).toNat)
   case atStart => exact ⟨0, by omega, rfl, HS2.out, HZ2.out, HD2.out, HK2.out⟩
   case round =>
    clear HS2 HZ2 HD2 HK2
    obtain ⟨j, hj, rfl, hS, hZ, hD, hK⟩ := hrel
    by_cases hjt : j < 32
    ·have hjI : (j : Int) < 32 := by omega
     have hc := hS.cell (k := j / 4) (by omega)
     obtain ⟨⟨u, hu⟩, hf⟩ := hD.there (k := j) hjt
     have hdj := HDD.out j hjt
     generalize lf (j / 4) = v at *
     have H2 : Hid (Row (wr.setCell ⟨gd, j, none⟩ (.int .u8 (v / 2 ^ (8 * (3 - j % 4)) % 256))) gd 100 .u8 32 (j + 1) df) := hD.set hjt _ hdj (fun i hi hne => ⟨by omega, rfl⟩)
     have H0 : Hid (∀ x, Row (wr.setCell ⟨gd, j, none⟩ x) (w.heap.size + 1) 124 .u32 8 8 lf) := fun x => hS.other _ _ (by show _ ≠ gd; omega)
     have H1 : Hid (∀ x, Row (wr.setCell ⟨gd, j, none⟩ x) w.heap.size 100 .u8 32 0 (fun _ => 0)) := fun x => hZ.other _ _ (by show _ ≠ gd; omega)
     have HK : Hid (∀ x, Kept (fun _ => False) w (wr.setCell ⟨gd, j, none⟩ x)) := fun x => hK.setCell (.inl (by show _ ≤ gd; omega)) _
     clear hS hZ hD hK hdj
     go_wp2
     go_roundw
     case rel => exact ⟨j + 1, by omega, by go_num, H0.out _, H1.out _, H2.out, HK.out _⟩
     case measure => simp [intOf]; omega
    ·obtain rfl : j = 32 := by omega
     obtain ⟨cur, hB, hsz, hcur⟩ := hD
     obtain rfl := row_list (l := sha xs) hsz HSL.out (fun j hj => by rw [hcur j hj, HDF.out])
     obtain ⟨old, hO, hosz, _⟩ := hZ
     have h1 := oneCells .u8 (sha xs)
     have hs31 : (Tryz.prog.info? 100).map (·.size) = some ((sha xs).map (Value.int .u8)).toArray.size := by rw [size31]; simp [HSL.out]
     have hos : old.size = ((sha xs).map (Value.int .u8)).toArray.size := by simp [hosz, HSL.out]
     have HKR : Hid (Kept (fun _ => False) w (wr.setRow w.heap.size ((sha xs).map (Value.int .u8)).toArray)) := hK.setRow (.inl (Nat.le_refl _)) _
     have HRR := hid_of (setRow_heap wr w.heap.size old ((sha xs).map (Value.int .u8)).toArray 100 (0, 0) hO)
     clear hcur hsz hosz hK hS HDD HDF HSL
     generalize hcs : ((sha xs).map (Value.int .u8)).toArray = cs at *
     have HC := hid_of hcs
     clear hcs
     go_wp2_with (first | refine wpList_load_row rfl 100 _ rfl gd rfl 100 cs (0, 0) _ hB Tryz.underlying100 rfl hs31 ?_ | refine wpList_store_row rfl 100 _ _ rfl w.heap.size cs rfl rfl 100 old hO hs31 hos h1 ?_)
     refine bodyPost_ret (v := .agg cs) ?_ rfl ⟨by first | rfl | rw [HC.out], HKR.out⟩
     exact results_cell_row (by rfl) _ _ w.heap.size 100 cs (0, 0) _ (by rfl) HRR.out Tryz.underlying100 rfl hs31
end Go.Proofs.YtjdbmjkidljhpaaGreatDoor
namespace Go.Proofs.YtjdbmjkidljhpaaGreatDoor
open Go.RowKit
set_option linter.unusedVariables false
set_option linter.unusedSimpArgs false
set_option maxRecDepth 100000
set_option maxHeartbeats 2000000 in
theorem rfront_any (k : Nat) (h1 : 1 ≤ k) (h2 : k ≤ 32) (bv : Value) (xs : List Int) (w : World) (hx : BIn w bv xs) (hr : ∀ x ∈ xs, 0 ≤ x ∧ x < 256) (hn : xs.length ≤ 4294967296) :
  Calls Tryz.prog 64 #[bv, .int .i64 (k : Int)] w fun e w' => e = .returned (dv (frontOf k xs)) ∧ Kept (fun _ => False) w w' := by
 have HO : Hid (∀ W, Kept (fun _ => False) w W → Calls Tryz.prog 76 #[bv] W fun e w' => e = .returned (.agg ((sha xs).map (Value.int .u8)).toArray) ∧ Kept (fun _ => False) W w') := fun W hW => rof_any bv xs W (hx.kept hW (fun _ _ f => f)) hr hn
 have HC := hid_of (fun W => rcut_ok (sha xs) k (sha_len xs) h1 h2 W)
 have hfl := frontOf_len k xs h2
 have hone := oneCells .u8 (frontOf k xs)
 have hs57 : (Tryz.prog.info? 100).map (·.size) = some ((frontOf k xs).map (Value.int .u8)).toArray.size := by simp [size31, hfl]
 have HOS : Hid (32 = ((frontOf k xs).map (Value.int .u8)).toArray.size) := by show 32 = _; simp [hfl]
 have HF : Hid (cutL (sha xs) k = frontOf k xs) := rfl
 rw [HF.out] at HC
 unfold dv
 clear hx hr HF hfl
 generalize ((sha xs).map (Value.int .u8)).toArray = os at *
 generalize ((frontOf k xs).map (Value.int .u8)).toArray = cs at *
 go_enter Tryz.func64, Tryz.ntmps64
 go_wp2_with fail
 have HA : Hid ((w.alloc (.cells z32 100)).heap[w.heap.size]? = some (.cells z32 100 (0, 0))) := alloc_new _ _ rfl
 have HKA : Hid (Kept (fun _ => False) w (w.alloc (.cells z32 100))) := (Kept.refl _ w).alloc _
 generalize w.alloc (.cells z32 100) = wA at *
 refine (HO.out wA HKA.out).mono ?_
 rintro e w1 ⟨rfl, hk1⟩
 have HK1 := hid_of (HKA.out.trans hk1)
 have HA1 := hid_of ((hk1.block _ (heap_lt HA.out) (fun f => f)).trans HA.out)
 clear hk1 HO HKA HA
 go_wp2_with fail
 refine (HC.out w1).mono ?_
 rintro e w2 ⟨rfl, hk2⟩
 have HK2 := hid_of (HK1.out.trans hk2)
 have HA2 := hid_of ((hk2.block _ (heap_lt HA1.out) (fun f => f)).trans HA1.out)
 have HD : Hid ((w2.alloc (.cells cs 100)).heap[w2.heap.size]? = some (.cells cs 100 (0, 0))) := alloc_new _ _ rfl
 have HA3 : Hid ((w2.alloc (.cells cs 100)).heap[w.heap.size]? = some (.cells z32 100 (0, 0))) := alloc_old HA2.out
 have HKR : Hid (Kept (fun _ => False) w ((w2.alloc (.cells cs 100)).setRow w.heap.size cs)) := (HK2.out.alloc _).setRow (.inl (Nat.le_refl _)) _
 have HRR := hid_of (setRow_heap (w2.alloc (.cells cs 100)) w.heap.size _ cs 100 (0, 0) HA3.out)
 clear hk2 HC HK1 HA1
 go_wp2_with (first | refine wpList_load_row rfl 100 _ rfl w2.heap.size rfl 100 cs (0, 0) _ HD.out Tryz.underlying100 rfl hs57 ?_ | (refine wpList_store_row rfl 100 _ _ rfl w2.heap.size cs rfl rfl 100 _ (alloc_new _ _ rfl) hs57 HOS.out hone ?_; rw [setRow_new _ _ _ _ rfl]) | refine wpList_store_row rfl 100 _ _ rfl w.heap.size cs rfl rfl 100 _ HA3.out hs57 HOS.out hone ?_)
 try simp only [Act.put]
 refine bodyPost_ret (v := .agg cs) ?_ rfl ⟨rfl, HKR.out⟩
 exact results_cell_row (by rfl) _ _ w.heap.size 100 cs (0, 0) _ (by rfl) HRR.out Tryz.underlying100 rfl hs57
set_option maxHeartbeats 2000000 in
theorem rof4_any (k : Nat) (h1 : 1 ≤ k) (h2 : k ≤ 32) (bv : Value) (xs : List Int) (w : World) (hx : BIn w bv xs) (hr : ∀ x ∈ xs, 0 ≤ x ∧ x < 256) (hn : xs.length ≤ 4294967296) :
  Calls Tryz.prog 38 #[.int .i64 (k : Int), bv] w fun e w' => e = .returned (dv (frontOf k xs)) ∧ Kept (fun _ => False) w w' := by
 have HO : Hid (∀ W, Kept (fun _ => False) w W → Calls Tryz.prog 64 #[bv, .int .i64 (k : Int)] W fun e w' => e = .returned (dv (frontOf k xs)) ∧ Kept (fun _ => False) W w') := fun W hW => rfront_any k h1 h2 bv xs W (hx.kept hW (fun _ _ f => f)) hr hn
 have hfl := frontOf_len k xs h2
 have hone := oneCells .u8 (frontOf k xs)
 have hs57 : (Tryz.prog.info? 100).map (·.size) = some ((frontOf k xs).map (Value.int .u8)).toArray.size := by simp [size31, hfl]
 have hs28 : (Tryz.prog.info? 29).map (·.size) = some ((frontOf k xs).map (Value.int .u8)).toArray.size := by simp [size28, hfl]
 have HOS : Hid (32 = ((frontOf k xs).map (Value.int .u8)).toArray.size) := by show 32 = _; simp [hfl]
 unfold dv at *
 clear hx hr hfl
 generalize ((frontOf k xs).map (Value.int .u8)).toArray = cs at *
 go_enter Tryz.func38, Tryz.ntmps38
 go_wp2_with fail
 have HA : Hid ((w.alloc (.cells z32 29)).heap[w.heap.size]? = some (.cells z32 29 (0, 0))) := alloc_new _ _ rfl
 have HKA : Hid (Kept (fun _ => False) w (w.alloc (.cells z32 29))) := (Kept.refl _ w).alloc _
 generalize w.alloc (.cells z32 29) = wA at *
 refine (HO.out wA HKA.out).mono ?_
 rintro e w2 ⟨rfl, hk2⟩
 have HK2 := hid_of (HKA.out.trans hk2)
 have HA2 := hid_of ((hk2.block _ (heap_lt HA.out) (fun f => f)).trans HA.out)
 have HD : Hid ((w2.alloc (.cells cs 100)).heap[w2.heap.size]? = some (.cells cs 100 (0, 0))) := alloc_new _ _ rfl
 have HA3 : Hid ((w2.alloc (.cells cs 100)).heap[w.heap.size]? = some (.cells z32 29 (0, 0))) := alloc_old HA2.out
 have HKR : Hid (Kept (fun _ => False) w ((w2.alloc (.cells cs 100)).setRow w.heap.size cs)) := (HK2.out.alloc _).setRow (.inl (Nat.le_refl _)) _
 have HRR := hid_of (setRow_heap (w2.alloc (.cells cs 100)) w.heap.size _ cs 29 (0, 0) HA3.out)
 clear hk2 HO HKA HA
 go_wp2_with (first | refine wpList_load_row rfl 100 _ rfl w2.heap.size rfl 100 cs (0, 0) _ HD.out Tryz.underlying100 rfl hs57 ?_ | (refine wpList_store_row rfl 100 _ _ rfl w2.heap.size cs rfl rfl 100 _ (alloc_new _ _ rfl) hs57 HOS.out hone ?_; rw [setRow_new _ _ _ _ rfl]) | refine wpList_store_row rfl 29 _ _ rfl w.heap.size cs rfl rfl 29 _ HA3.out hs28 HOS.out hone ?_)
 try simp only [Act.put]
 refine bodyPost_ret (v := .agg cs) ?_ rfl ⟨rfl, HKR.out⟩
 exact results_cell_row (by rfl) _ _ w.heap.size 29 cs (0, 0) _ (by rfl) HRR.out Tryz.underlying29 rfl hs28
end Go.Proofs.YtjdbmjkidljhpaaGreatDoor
