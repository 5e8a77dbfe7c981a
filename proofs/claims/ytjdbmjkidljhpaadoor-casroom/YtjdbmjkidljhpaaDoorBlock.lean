/-
  block of the reference by contract.
-/
import Derived.Test.YtjdbmjkidljhpaaDoorKnown
import Derived.Test.YtjdbmjkidljhpaaDoorRround
namespace Go.Proofs.YtjdbmjkidljhpaaDoor
open Go.RowKit
set_option linter.unusedVariables false
set_option maxRecDepth 100000
set_option linter.unusedSimpArgs false

theorem size47 : (Tryd.prog.info? 87).map (·.size) = some 8 := by kernel_rfl
theorem grown_get (ws : List Int) (hw : ws.length = 16) (k : Nat) : ∀ m j, j < 16 + k → (grown ws (k + m)).getD j 0 = (grown ws k).getD j 0
  | 0, j, hj => rfl
  | m + 1, j, hj => by
    rw [← grown_get ws hw k m j hj, show k + (m + 1) = (k + m) + 1 by omega, grown, List.getD, List.getD, List.getElem?_append_left (by rw [grown_length, hw]; omega)]
theorem wide_first (bs : List Int) (t : Nat) (ht : t < 16) : (wide bs).getD t 0 = word bs t := by
  have := grown_get (first bs) (first_length bs) 0 48 t (by omega)
  rw [Nat.zero_add] at this
  rw [wide, this]
  simp [grown, first, List.getD, ht]
theorem wide_next (bs : List Int) (k : Nat) (hk : k < 48) : (wide bs).getD (k + 16) 0 = add (add (add ((wide bs).getD k 0) (sg0 ((wide bs).getD (k + 1) 0))) ((wide bs).getD (k + 9) 0)) (sg1 ((wide bs).getD (k + 14) 0)) := by
  have g : ∀ j, j < 16 + k → (wide bs).getD j 0 = (grown (first bs) k).getD j 0 := fun j hj => by
    have := grown_get (first bs) (first_length bs) k (48 - k) j hj
    rw [show k + (48 - k) = 48 by omega] at this
    exact this
  have h := grown_get (first bs) (first_length bs) (k + 1) (48 - (k + 1)) (k + 16) (by omega)
  rw [show k + 1 + (48 - (k + 1)) = 48 by omega, next_at] at h
  rw [wide, h, nextw, ← g k (by omega), ← g (k + 1) (by omega), ← g (k + 9) (by omega), ← g (k + 14) (by omega)]
  rfl

theorem wval_is (bs : List Int) (hr : ∀ x ∈ bs, 0 ≤ x ∧ x < 256) (hl : bs.length = 64) (t : Nat) (ht : t < 16) (b0 b1 b2 b3 : Int) (h0 : bs.getD (4 * t) 0 = b0) (h1 : bs.getD (4 * t + 1) 0 = b1) (h2 : bs.getD (4 * t + 2) 0 = b2) (h3 : bs.getD (4 * t + 3) 0 = b3) :
    bits .or .u32 (bits .or .u32 (bits .or .u32 (IntKind.u32.wrap (IntKind.u32.wrap b0 * 16777216)) (IntKind.u32.wrap (IntKind.u32.wrap b1 * 65536))) (IntKind.u32.wrap (IntKind.u32.wrap b2 * 256))) (IntKind.u32.wrap b3) = (wide bs).getD t 0 := by
  have key : ∀ j, j < 64 → 0 ≤ bs.getD j 0 ∧ bs.getD j 0 < 256 := fun j hj => hr (bs.getD j 0) (by rw [List.getD, List.getElem?_eq_getElem (by omega)]; simp)
  have k0 := key (4 * t) (by omega)
  have k1 := key (4 * t + 1) (by omega)
  have k2 := key (4 * t + 2) (by omega)
  rw [h0] at k0
  rw [h1] at k1
  rw [h2] at k2
  simp only [IntKind.wrap_u32']
  rw [Int.emod_eq_of_lt (a := b0) k0.1 (by omega), Int.emod_eq_of_lt (a := b1) k1.1 (by omega), Int.emod_eq_of_lt (a := b2) k2.1 (by omega), word_is bs hr hl t ht b0 b1 b2 b3 h0 h1 h2 h3, wide_first bs t ht]
theorem wide_later (bs : List Int) (k : Nat) (h : 16 ≤ k) (hk : k < 64) : (wide bs).getD k 0 = add (add (add ((wide bs).getD (k - 16) 0) (sg0 ((wide bs).getD (k - 15) 0))) ((wide bs).getD (k - 7) 0)) (sg1 ((wide bs).getD (k - 2) 0)) := by
  obtain ⟨m, rfl⟩ : ∃ m, k = m + 16 := ⟨k - 16, by omega⟩
  rw [wide_next bs m (by omega), show m + 16 - 16 = m by omega, show m + 16 - 15 = m + 1 by omega, show m + 16 - 7 = m + 9 by omega, show m + 16 - 2 = m + 14 by omega]

def mixf (sf vf : Nat → Int) (k j : Nat) : Int := if j < k then add (sf j) (vf j) else sf j
theorem mix_lt (sf vf : Nat → Int) (k j : Nat) (h : j < k) : mixf sf vf k j = add (sf j) (vf j) := if_pos h
theorem mix_ge (sf vf : Nat → Int) (k j : Nat) (h : ¬ j < k) : mixf sf vf k j = sf j := if_neg h
theorem list_at (s : S8) (j : Nat) (hj : j < 8) : #[Value.int .u32 s.a, .int .u32 s.b, .int .u32 s.c, .int .u32 s.d, .int .u32 s.e, .int .u32 s.f, .int .u32 s.g, .int .u32 s.h][j]? = some (.int .u32 (s.list.getD j 0)) := by
  match j, hj with
  | 0, _ => rfl
  | 1, _ => rfl
  | 2, _ => rfl
  | 3, _ => rfl
  | 4, _ => rfl
  | 5, _ => rfl
  | 6, _ => rfl
  | 7, _ => rfl
theorem add_at (s v : S8) (j : Nat) (hj : j < 8) : (s.add v).list.getD j 0 = add (s.list.getD j 0) (v.list.getD j 0) := by
  match j, hj with
  | 0, _ => rfl
  | 1, _ => rfl
  | 2, _ => rfl
  | 3, _ => rfl
  | 4, _ => rfl
  | 5, _ => rfl
  | 6, _ => rfl
  | 7, _ => rfl
theorem frz {S : Nat → Prop} {w w' : World} (h : Kept S w w') {p : Addr} {v : Value} (hc : w.cell? p = some v) (hf : w.frozen? p = false) (hp : ¬ S p.block := by exact fun f => f) : w'.frozen? p = false := by
  have hb := h.block p.block (World.block_lt_of_cell? w p hc) hp
  unfold World.frozen? at hf ⊢
  rw [hb]
  exact hf

set_option maxRecDepth 100000 in
set_option maxHeartbeats 20000000 in
theorem rblock_any (s : S8) (bs : List Int) (b o c : Nat) (hl : bs.length = 64) (hr : ∀ x ∈ bs, 0 ≤ x ∧ x < 256) (w : World) (hx : ∀ i, i < 64 → w.cell? ⟨b, o + i, none⟩ = some (.int .u8 (bs.getD i 0))) (hc64 : 64 ≤ c) :
    Calls Tryd.prog 48 #[.agg #[.int .u32 s.a, .int .u32 s.b, .int .u32 s.c, .int .u32 s.d, .int .u32 s.e, .int .u32 s.f, .int .u32 s.g, .int .u32 s.h], .slice (some ⟨b, o, none⟩) 64 c] w fun e w' => e = .returned (turn s bs).val ∧ Kept (fun _ => False) w w' := by
  have HX := hid_of hx
  obtain ⟨f, HF, HFIRST, HNEXT⟩ : ∃ f : Nat → Int, Hid (∀ j, f j = (wide bs).getD j 0) ∧ Hid (∀ t b0 b1 b2 b3, t < 16 → bs.getD (4 * t) 0 = b0 → bs.getD (4 * t + 1) 0 = b1 → bs.getD (4 * t + 2) 0 = b2 → bs.getD (4 * t + 3) 0 = b3 → bits .or .u32 (bits .or .u32 (bits .or .u32 (IntKind.u32.wrap (IntKind.u32.wrap b0 * 16777216)) (IntKind.u32.wrap (IntKind.u32.wrap b1 * 65536))) (IntKind.u32.wrap (IntKind.u32.wrap b2 * 256))) (IntKind.u32.wrap b3) = f t) ∧ Hid (∀ m, m < 48 → f (m + 16) = add (add (add (f m) (sg0 (f (m + 1)))) (f (m + 9))) (sg1 (f (m + 14)))) :=
    ⟨fun j => (wide bs).getD j 0, fun _ => rfl, fun t b0 b1 b2 b3 ht h0 h1 h2 h3 => wval_is bs hr hl t ht b0 b1 b2 b3 h0 h1 h2 h3, fun m hm => wide_next bs m hm⟩
  have hbl : b < w.heap.size := by simpa using World.block_lt_of_cell? w _ (hx 0 (by omega))
  clear hx hr hl
  obtain ⟨r, HR0, HRN, HTURN⟩ : ∃ r : Nat → S8, Hid (r 0 = s) ∧ Hid (∀ k, r (k + 1) = rnd (r k) (kw.getD k 0) (f k)) ∧ Hid (turn s bs = s.add (r 64)) :=
    ⟨rnds s (wide bs), rfl, fun k => by show rnd _ _ _ = _; rw [HF.out], rfl⟩
  have hs47 : ∀ a b c d e f g h : Value, (Tryd.prog.info? 87).map (·.size) = some #[a, b, c, d, e, f, g, h].size := fun _ _ _ _ _ _ _ _ => size47
  have HS47 := hid_of hs47
  clear hs47 HF
  go_enter Tryd.func48, Tryd.ntmps48
  go_wp2_with fail
  go_loopw [6] (fun i wr => ∃ k : Nat, k ≤ 64 ∧ i = .int .i64 k ∧ Words wr (w.heap.size + 1 + 1) k f ∧ wr.heap[w.heap.size]? = some (.cells #[.int .u32 s.a, .int .u32 s.b, .int .u32 s.c, .int .u32 s.d, .int .u32 s.e, .int .u32 s.f, .int .u32 s.g, .int .u32 s.h] 87 (0, 0)) ∧ Row wr (w.heap.size + 1) 87 .u32 8 0 (fun _ => 0) ∧ Kept (fun _ => False) w wr) (fun i _ => 64 - (intOf i).toNat)
  case atStart =>
    exact ⟨0, by omega, rfl, ⟨_, alloc_new _ _ (by simp), rfl, fun j hj => absurd hj (by omega)⟩, alloc_old (alloc_old (alloc_new _ _ rfl)), ⟨_, alloc_old (alloc_new _ _ (by simp)), rfl, fun j hj => absurd hj (by omega)⟩, (((Kept.refl _ _).alloc _).alloc _).alloc _⟩
  case round =>
    obtain ⟨k, hk, rfl, hW, hS, hO, hK⟩ := hrel
    by_cases hlt : k < 64
    · have hkI : (k : Int) < 64 := by omega
      by_cases h16 : k < 16
      · have h16I : (k : Int) < 16 := by omega
        have m0 : IntKind.i64.wrap (4 * (k : Int)) = 4 * (k : Int) := by rw [IntKind.wrap_i64]; omega
        have m1 : IntKind.i64.wrap (4 * (k : Int) + 1) = 4 * (k : Int) + 1 := by rw [IntKind.wrap_i64]; omega
        have m2 : IntKind.i64.wrap (4 * (k : Int) + 2) = 4 * (k : Int) + 2 := by rw [IntKind.wrap_i64]; omega
        have m3 : IntKind.i64.wrap (4 * (k : Int) + 3) = 4 * (k : Int) + 3 := by rw [IntKind.wrap_i64]; omega
        have l0 : (0 : Int) ≤ 4 * (k : Int) := by omega
        have u0 : 4 * (k : Int) < 64 := by omega
        have l1 : (0 : Int) ≤ 4 * (k : Int) + 1 := by omega
        have u1 : 4 * (k : Int) + 1 < 64 := by omega
        have l2 : (0 : Int) ≤ 4 * (k : Int) + 2 := by omega
        have u2 : 4 * (k : Int) + 2 < 64 := by omega
        have l3 : (0 : Int) ≤ 4 * (k : Int) + 3 := by omega
        have u3 : 4 * (k : Int) + 3 < 64 := by omega
        have n0 : (4 * (k : Int)).toNat = 4 * k := by omega
        have n1 : (4 * (k : Int) + 1).toNat = 4 * k + 1 := by omega
        have n2 : (4 * (k : Int) + 2).toNat = 4 * k + 2 := by omega
        have n3 : (4 * (k : Int) + 3).toNat = 4 * k + 3 := by omega
        have HWN := hid_of hW
        have HSN := hid_of hS
        have HON := hid_of hO
        have HKN := hid_of hK
        clear hW hS hO hK
        go_wp2
        obtain ⟨b0, hb0⟩ : ∃ x, bs.getD (4 * k) 0 = x := ⟨_, rfl⟩
        obtain ⟨b1, hb1⟩ : ∃ x, bs.getD (4 * k + 1) 0 = x := ⟨_, rfl⟩
        obtain ⟨b2, hb2⟩ : ∃ x, bs.getD (4 * k + 2) 0 = x := ⟨_, rfl⟩
        obtain ⟨b3, hb3⟩ : ∃ x, bs.getD (4 * k + 3) 0 = x := ⟨_, rfl⟩
        have HKB : Hid (Kept (fun _ => False) w wr.drew) := HKN.out.drew
        obtain ⟨⟨uo, huo⟩, hfo⟩ := HWN.out.there (k := k) (by omega)
        have hud : wr.drew.cell? ⟨w.heap.size + 1 + 1, k, none⟩ = some uo := huo
        have hfd : wr.drew.frozen? ⟨w.heap.size + 1 + 1, k, none⟩ = false := hfo
        have H2 : Hid (∀ x, x = f k → Words (wr.drew.setCell ⟨w.heap.size + 1 + 1, k, none⟩ (.int .u32 x)) (w.heap.size + 1 + 1) (k + 1) f) := fun x hx => (show Words wr.drew _ _ _ from HWN.out).set (by omega) _ hx.symm (fun j hj hne => ⟨by omega, rfl⟩)
        have H1 : Hid (∀ x, (wr.drew.setCell ⟨w.heap.size + 1 + 1, k, none⟩ x).heap[w.heap.size]? = some (.cells #[.int .u32 s.a, .int .u32 s.b, .int .u32 s.c, .int .u32 s.d, .int .u32 s.e, .int .u32 s.f, .int .u32 s.g, .int .u32 s.h] 87 (0, 0))) := fun x => ((kept_set wr.drew ⟨w.heap.size + 1 + 1, k, none⟩ x).block w.heap.size (by have := heap_lt HSN.out; exact this) (by show _ ≠ w.heap.size + 1 + 1; omega)).trans HSN.out
        have H3 : Hid (∀ x, Row (wr.drew.setCell ⟨w.heap.size + 1 + 1, k, none⟩ x) (w.heap.size + 1) 87 .u32 8 0 (fun _ => 0)) := fun x => (show Row wr.drew _ _ _ _ _ _ from HON.out).other _ _ (by show _ ≠ w.heap.size + 1 + 1; omega)
        have HKS : Hid (∀ x, Kept (fun _ => False) w (wr.drew.setCell ⟨w.heap.size + 1 + 1, k, none⟩ x)) := fun x => HKN.out.drew.setCell (.inl (by show _ ≤ w.heap.size + 1 + 1; omega)) _
        clear huo hfo HWN HSN HON
        refine wp_region_held_drew (S := fun w' => w'.cell? ⟨b, o + 4 * k, none⟩ = some (.int .u8 b0) ∧ w'.cell? ⟨b, o + (4 * k + 1), none⟩ = some (.int .u8 b1) ∧ w'.cell? ⟨b, o + (4 * k + 2), none⟩ = some (.int .u8 b2) ∧ w'.cell? ⟨b, o + (4 * k + 3), none⟩ = some (.int .u8 b3)) (by kernel_rfl) ⟨(HKB.out.cell (HX.out (4 * k) (by omega)) (fun f => f)).trans (by rw [hb0]), (HKB.out.cell (HX.out (4 * k + 1) (by omega)) (fun f => f)).trans (by rw [hb1]), (HKB.out.cell (HX.out (4 * k + 2) (by omega)) (fun f => f)).trans (by rw [hb2]), (HKB.out.cell (HX.out (4 * k + 3) (by omega)) (fun f => f)).trans (by rw [hb3])⟩ (fun hHeld => ?_)
        refine wpAnyH_take (i := 0) (v := ?_) rfl (by kernel_rfl) (by kernel_rfl) (by kernel_rfl) (fun _ _ _ h => h) (Or.inl ⟨by rfl, ?_⟩) (by assumption) ?_
        rotate_left 1
        · intro w hSw
          go_simp
          try with_reducible rfl
        try simp only [Act.put, List.getElem_toArray, List.getElem_cons_zero, List.getElem_cons_succ, List.setIfInBounds_toArray, List.set_cons_zero, List.set_cons_succ]
        refine wpAnyH_take (i := 1) (v := ?_) rfl (by kernel_rfl) (by kernel_rfl) (by kernel_rfl) (fun _ _ _ h => h) (Or.inl ⟨by rfl, ?_⟩) (by assumption) ?_
        rotate_left 1
        · intro w hSw
          go_simp
          try with_reducible rfl
        try simp only [Act.put, List.getElem_toArray, List.getElem_cons_zero, List.getElem_cons_succ, List.setIfInBounds_toArray, List.set_cons_zero, List.set_cons_succ]
        refine wpAnyH_take (i := 2) (v := ?_) rfl (by kernel_rfl) (by kernel_rfl) (by kernel_rfl) (fun _ _ _ h => h) (Or.inl ⟨by rfl, ?_⟩) (by assumption) ?_
        rotate_left 1
        · intro w hSw
          go_simp
          try with_reducible rfl
        try simp only [Act.put, List.getElem_toArray, List.getElem_cons_zero, List.getElem_cons_succ, List.setIfInBounds_toArray, List.set_cons_zero, List.set_cons_succ]
        refine wpAnyH_take (i := 3) (v := ?_) rfl (by kernel_rfl) (by kernel_rfl) (by kernel_rfl) (fun _ _ _ h => h) (Or.inl ⟨by rfl, ?_⟩) (by assumption) ?_
        rotate_left 1
        · intro w hSw
          go_simp
          try with_reducible rfl
        try simp only [Act.put, List.getElem_toArray, List.getElem_cons_zero, List.getElem_cons_succ, List.setIfInBounds_toArray, List.set_cons_zero, List.set_cons_succ]
        refine wpAnyH_take (i := 4) (v := ?_) rfl (by kernel_rfl) (by kernel_rfl) (by kernel_rfl) (fun _ _ _ h => h) (Or.inl ⟨by rfl, ?_⟩) (by assumption) ?_
        rotate_left 1
        · intro w hSw
          go_simp
          try with_reducible rfl
        try simp only [Act.put, List.getElem_toArray, List.getElem_cons_zero, List.getElem_cons_succ, List.setIfInBounds_toArray, List.set_cons_zero, List.set_cons_succ]
        refine wpAnyH_take (i := 5) (v := ?_) rfl (by kernel_rfl) (by kernel_rfl) (by kernel_rfl) (fun _ _ _ h => h) (Or.inl ⟨by rfl, ?_⟩) (by assumption) ?_
        rotate_left 1
        · intro w hSw
          obtain ⟨c0, c1, c2, c3⟩ := hSw
          go_simp
          try with_reducible rfl
        try simp only [Act.put, List.getElem_toArray, List.getElem_cons_zero, List.getElem_cons_succ, List.setIfInBounds_toArray, List.set_cons_zero, List.set_cons_succ]
        refine wpAnyH_take (i := 6) (v := ?_) rfl (by kernel_rfl) (by kernel_rfl) (by kernel_rfl) (fun _ _ _ h => h) (Or.inl ⟨by rfl, ?_⟩) (by assumption) ?_
        rotate_left 1
        · intro w hSw
          go_simp
          try with_reducible rfl
        try simp only [Act.put, List.getElem_toArray, List.getElem_cons_zero, List.getElem_cons_succ, List.setIfInBounds_toArray, List.set_cons_zero, List.set_cons_succ]
        refine wpAnyH_take (i := 7) (v := ?_) rfl (by kernel_rfl) (by kernel_rfl) (by kernel_rfl) (fun _ _ _ h => h) (Or.inl ⟨by rfl, ?_⟩) (by assumption) ?_
        rotate_left 1
        · intro w hSw
          go_simp
          try with_reducible rfl
        try simp only [Act.put, List.getElem_toArray, List.getElem_cons_zero, List.getElem_cons_succ, List.setIfInBounds_toArray, List.set_cons_zero, List.set_cons_succ]
        refine wpAnyH_take (i := 8) (v := ?_) rfl (by kernel_rfl) (by kernel_rfl) (by kernel_rfl) (fun _ _ _ h => h) (Or.inl ⟨by rfl, ?_⟩) (by assumption) ?_
        rotate_left 1
        · intro w hSw
          go_simp
          try with_reducible rfl
        try simp only [Act.put, List.getElem_toArray, List.getElem_cons_zero, List.getElem_cons_succ, List.setIfInBounds_toArray, List.set_cons_zero, List.set_cons_succ]
        refine wpAnyH_take (i := 9) (v := ?_) rfl (by kernel_rfl) (by kernel_rfl) (by kernel_rfl) (fun _ _ _ h => h) (Or.inl ⟨by rfl, ?_⟩) (by assumption) ?_
        rotate_left 1
        · intro w hSw
          go_simp
          try with_reducible rfl
        try simp only [Act.put, List.getElem_toArray, List.getElem_cons_zero, List.getElem_cons_succ, List.setIfInBounds_toArray, List.set_cons_zero, List.set_cons_succ]
        refine wpAnyH_take (i := 10) (v := ?_) rfl (by kernel_rfl) (by kernel_rfl) (by kernel_rfl) (fun _ _ _ h => h) (Or.inl ⟨by rfl, ?_⟩) (by assumption) ?_
        rotate_left 1
        · intro w hSw
          go_simp
          try with_reducible rfl
        try simp only [Act.put, List.getElem_toArray, List.getElem_cons_zero, List.getElem_cons_succ, List.setIfInBounds_toArray, List.set_cons_zero, List.set_cons_succ]
        refine wpAnyH_take (i := 11) (v := ?_) rfl (by kernel_rfl) (by kernel_rfl) (by kernel_rfl) (fun _ _ _ h => h) (Or.inl ⟨by rfl, ?_⟩) (by assumption) ?_
        rotate_left 1
        · intro w hSw
          go_simp
          try with_reducible rfl
        try simp only [Act.put, List.getElem_toArray, List.getElem_cons_zero, List.getElem_cons_succ, List.setIfInBounds_toArray, List.set_cons_zero, List.set_cons_succ]
        refine wpAnyH_take (i := 12) (v := ?_) rfl (by kernel_rfl) (by kernel_rfl) (by kernel_rfl) (fun _ _ _ h => h) (Or.inl ⟨by rfl, ?_⟩) (by assumption) ?_
        rotate_left 1
        · intro w hSw
          go_simp
          try with_reducible rfl
        try simp only [Act.put, List.getElem_toArray, List.getElem_cons_zero, List.getElem_cons_succ, List.setIfInBounds_toArray, List.set_cons_zero, List.set_cons_succ]
        refine wpAnyH_take (i := 13) (v := ?_) rfl (by kernel_rfl) (by kernel_rfl) (by kernel_rfl) (fun _ _ _ h => h) (Or.inl ⟨by rfl, ?_⟩) (by assumption) ?_
        rotate_left 1
        · intro w hSw
          obtain ⟨c0, c1, c2, c3⟩ := hSw
          go_simp
          try with_reducible rfl
        try simp only [Act.put, List.getElem_toArray, List.getElem_cons_zero, List.getElem_cons_succ, List.setIfInBounds_toArray, List.set_cons_zero, List.set_cons_succ]
        refine wpAnyH_take (i := 14) (v := ?_) rfl (by kernel_rfl) (by kernel_rfl) (by kernel_rfl) (fun _ _ _ h => h) (Or.inl ⟨by rfl, ?_⟩) (by assumption) ?_
        rotate_left 1
        · intro w hSw
          go_simp
          try with_reducible rfl
        try simp only [Act.put, List.getElem_toArray, List.getElem_cons_zero, List.getElem_cons_succ, List.setIfInBounds_toArray, List.set_cons_zero, List.set_cons_succ]
        refine wpAnyH_take (i := 15) (v := ?_) rfl (by kernel_rfl) (by kernel_rfl) (by kernel_rfl) (fun _ _ _ h => h) (Or.inl ⟨by rfl, ?_⟩) (by assumption) ?_
        rotate_left 1
        · intro w hSw
          go_simp
          try with_reducible rfl
        try simp only [Act.put, List.getElem_toArray, List.getElem_cons_zero, List.getElem_cons_succ, List.setIfInBounds_toArray, List.set_cons_zero, List.set_cons_succ]
        refine wpAnyH_take (i := 16) (v := ?_) rfl (by kernel_rfl) (by kernel_rfl) (by kernel_rfl) (fun _ _ _ h => h) (Or.inl ⟨by rfl, ?_⟩) (by assumption) ?_
        rotate_left 1
        · intro w hSw
          go_simp
          try with_reducible rfl
        try simp only [Act.put, List.getElem_toArray, List.getElem_cons_zero, List.getElem_cons_succ, List.setIfInBounds_toArray, List.set_cons_zero, List.set_cons_succ]
        refine wpAnyH_take (i := 17) (v := ?_) rfl (by kernel_rfl) (by kernel_rfl) (by kernel_rfl) (fun _ _ _ h => h) (Or.inl ⟨by rfl, ?_⟩) (by assumption) ?_
        rotate_left 1
        · intro w hSw
          go_simp
          try with_reducible rfl
        try simp only [Act.put, List.getElem_toArray, List.getElem_cons_zero, List.getElem_cons_succ, List.setIfInBounds_toArray, List.set_cons_zero, List.set_cons_succ]
        refine wpAnyH_take (i := 18) (v := ?_) rfl (by kernel_rfl) (by kernel_rfl) (by kernel_rfl) (fun _ _ _ h => h) (Or.inl ⟨by rfl, ?_⟩) (by assumption) ?_
        rotate_left 1
        · intro w hSw
          go_simp
          try with_reducible rfl
        try simp only [Act.put, List.getElem_toArray, List.getElem_cons_zero, List.getElem_cons_succ, List.setIfInBounds_toArray, List.set_cons_zero, List.set_cons_succ]
        refine wpAnyH_take (i := 19) (v := ?_) rfl (by kernel_rfl) (by kernel_rfl) (by kernel_rfl) (fun _ _ _ h => h) (Or.inl ⟨by rfl, ?_⟩) (by assumption) ?_
        rotate_left 1
        · intro w hSw
          go_simp
          try with_reducible rfl
        try simp only [Act.put, List.getElem_toArray, List.getElem_cons_zero, List.getElem_cons_succ, List.setIfInBounds_toArray, List.set_cons_zero, List.set_cons_succ]
        refine wpAnyH_take (i := 20) (v := ?_) rfl (by kernel_rfl) (by kernel_rfl) (by kernel_rfl) (fun _ _ _ h => h) (Or.inl ⟨by rfl, ?_⟩) (by assumption) ?_
        rotate_left 1
        · intro w hSw
          go_simp
          try with_reducible rfl
        try simp only [Act.put, List.getElem_toArray, List.getElem_cons_zero, List.getElem_cons_succ, List.setIfInBounds_toArray, List.set_cons_zero, List.set_cons_succ]
        refine wpAnyH_take (i := 21) (v := ?_) rfl (by kernel_rfl) (by kernel_rfl) (by kernel_rfl) (fun _ _ _ h => h) (Or.inl ⟨by rfl, ?_⟩) (by assumption) ?_
        rotate_left 1
        · intro w hSw
          go_simp
          try with_reducible rfl
        try simp only [Act.put, List.getElem_toArray, List.getElem_cons_zero, List.getElem_cons_succ, List.setIfInBounds_toArray, List.set_cons_zero, List.set_cons_succ]
        refine wpAnyH_take (i := 22) (v := ?_) rfl (by kernel_rfl) (by kernel_rfl) (by kernel_rfl) (fun _ _ _ h => h) (Or.inl ⟨by rfl, ?_⟩) (by assumption) ?_
        rotate_left 1
        · intro w hSw
          obtain ⟨c0, c1, c2, c3⟩ := hSw
          go_simp
          try with_reducible rfl
        try simp only [Act.put, List.getElem_toArray, List.getElem_cons_zero, List.getElem_cons_succ, List.setIfInBounds_toArray, List.set_cons_zero, List.set_cons_succ]
        refine wpAnyH_take (i := 23) (v := ?_) rfl (by kernel_rfl) (by kernel_rfl) (by kernel_rfl) (fun _ _ _ h => h) (Or.inl ⟨by rfl, ?_⟩) (by assumption) ?_
        rotate_left 1
        · intro w hSw
          go_simp
          try with_reducible rfl
        try simp only [Act.put, List.getElem_toArray, List.getElem_cons_zero, List.getElem_cons_succ, List.setIfInBounds_toArray, List.set_cons_zero, List.set_cons_succ]
        refine wpAnyH_take (i := 24) (v := ?_) rfl (by kernel_rfl) (by kernel_rfl) (by kernel_rfl) (fun _ _ _ h => h) (Or.inl ⟨by rfl, ?_⟩) (by assumption) ?_
        rotate_left 1
        · intro w hSw
          go_simp
          try with_reducible rfl
        try simp only [Act.put, List.getElem_toArray, List.getElem_cons_zero, List.getElem_cons_succ, List.setIfInBounds_toArray, List.set_cons_zero, List.set_cons_succ]
        refine wpAnyH_take (i := 25) (v := ?_) rfl (by kernel_rfl) (by kernel_rfl) (by kernel_rfl) (fun _ _ _ h => h) (Or.inl ⟨by rfl, ?_⟩) (by assumption) ?_
        rotate_left 1
        · intro w hSw
          go_simp
          try with_reducible rfl
        try simp only [Act.put, List.getElem_toArray, List.getElem_cons_zero, List.getElem_cons_succ, List.setIfInBounds_toArray, List.set_cons_zero, List.set_cons_succ]
        refine wpAnyH_take (i := 26) (v := ?_) rfl (by kernel_rfl) (by kernel_rfl) (by kernel_rfl) (fun _ _ _ h => h) (Or.inl ⟨by rfl, ?_⟩) (by assumption) ?_
        rotate_left 1
        · intro w hSw
          go_simp
          try with_reducible rfl
        try simp only [Act.put, List.getElem_toArray, List.getElem_cons_zero, List.getElem_cons_succ, List.setIfInBounds_toArray, List.set_cons_zero, List.set_cons_succ]
        refine wpAnyH_take (i := 27) (v := ?_) rfl (by kernel_rfl) (by kernel_rfl) (by kernel_rfl) (fun _ _ _ h => h) (Or.inl ⟨by rfl, ?_⟩) (by assumption) ?_
        rotate_left 1
        · intro w hSw
          go_simp
          try with_reducible rfl
        try simp only [Act.put, List.getElem_toArray, List.getElem_cons_zero, List.getElem_cons_succ, List.setIfInBounds_toArray, List.set_cons_zero, List.set_cons_succ]
        refine wpAnyH_take (i := 28) (v := ?_) rfl (by kernel_rfl) (by kernel_rfl) (by kernel_rfl) (fun _ _ _ h => h) (Or.inl ⟨by rfl, ?_⟩) (by assumption) ?_
        rotate_left 1
        · intro w hSw
          go_simp
          try with_reducible rfl
        try simp only [Act.put, List.getElem_toArray, List.getElem_cons_zero, List.getElem_cons_succ, List.setIfInBounds_toArray, List.set_cons_zero, List.set_cons_succ]
        refine wpAnyH_take (i := 29) (v := ?_) rfl (by kernel_rfl) (by kernel_rfl) (by kernel_rfl) (fun _ _ _ h => h) (Or.inl ⟨by rfl, ?_⟩) (by assumption) ?_
        rotate_left 1
        · intro w hSw
          go_simp
          try with_reducible rfl
        try simp only [Act.put, List.getElem_toArray, List.getElem_cons_zero, List.getElem_cons_succ, List.setIfInBounds_toArray, List.set_cons_zero, List.set_cons_succ]
        refine wpAnyH_take (i := 30) (v := ?_) rfl (by kernel_rfl) (by kernel_rfl) (by kernel_rfl) (fun _ _ _ h => h) (Or.inl ⟨by rfl, ?_⟩) (by assumption) ?_
        rotate_left 1
        · intro w hSw
          go_simp
          try with_reducible rfl
        try simp only [Act.put, List.getElem_toArray, List.getElem_cons_zero, List.getElem_cons_succ, List.setIfInBounds_toArray, List.set_cons_zero, List.set_cons_succ]
        refine wpAnyH_take (i := 31) (v := ?_) rfl (by kernel_rfl) (by kernel_rfl) (by kernel_rfl) (fun _ _ _ h => h) (Or.inl ⟨by rfl, ?_⟩) (by assumption) ?_
        rotate_left 1
        · intro w hSw
          obtain ⟨c0, c1, c2, c3⟩ := hSw
          go_simp
          try with_reducible rfl
        try simp only [Act.put, List.getElem_toArray, List.getElem_cons_zero, List.getElem_cons_succ, List.setIfInBounds_toArray, List.set_cons_zero, List.set_cons_succ]
        refine wpAnyH_take (i := 32) (v := ?_) rfl (by kernel_rfl) (by kernel_rfl) (by kernel_rfl) (fun _ _ _ h => h) (Or.inl ⟨by rfl, ?_⟩) (by assumption) ?_
        rotate_left 1
        · intro w hSw
          go_simp
          try with_reducible rfl
        try simp only [Act.put, List.getElem_toArray, List.getElem_cons_zero, List.getElem_cons_succ, List.setIfInBounds_toArray, List.set_cons_zero, List.set_cons_succ]
        refine wpAnyH_take (i := 33) (v := ?_) rfl (by kernel_rfl) (by kernel_rfl) (by kernel_rfl) (fun _ _ _ h => h) (Or.inl ⟨by rfl, ?_⟩) (by assumption) ?_
        rotate_left 1
        · intro w hSw
          go_simp
          try with_reducible rfl
        try simp only [Act.put, List.getElem_toArray, List.getElem_cons_zero, List.getElem_cons_succ, List.setIfInBounds_toArray, List.set_cons_zero, List.set_cons_succ]
        refine wpAnyH_take (i := 34) (v := ?_) rfl (by kernel_rfl) (by kernel_rfl) (by kernel_rfl) (fun _ _ _ h => h) (Or.inl ⟨by rfl, ?_⟩) (by assumption) ?_
        rotate_left 1
        · intro w hSw
          go_simp
          try with_reducible rfl
        try simp only [Act.put, List.getElem_toArray, List.getElem_cons_zero, List.getElem_cons_succ, List.setIfInBounds_toArray, List.set_cons_zero, List.set_cons_succ]
        refine wpAnyH_ready (rs := [35]) (by kernel_rfl) (by simp) ?_
        refine AllReadyH.cons rfl (fun K hK => ?_) AllReadyH.nil
        go_simp
        replace HKB := hid_of (HKS.out (.int .u32 (bits .or .u32 (bits .or .u32 (bits .or .u32 (IntKind.u32.wrap (IntKind.u32.wrap b0 * 16777216)) (IntKind.u32.wrap (IntKind.u32.wrap b1 * 65536))) (IntKind.u32.wrap (IntKind.u32.wrap b2 * 256))) (IntKind.u32.wrap b3))))
        refine hK.out _ _ ⟨(HKB.out.cell (HX.out (4 * k) (by omega)) (fun f => f)).trans (by rw [hb0]), (HKB.out.cell (HX.out (4 * k + 1) (by omega)) (fun f => f)).trans (by rw [hb1]), (HKB.out.cell (HX.out (4 * k + 2) (by omega)) (fun f => f)).trans (by rw [hb2]), (HKB.out.cell (HX.out (4 * k + 3) (by omega)) (fun f => f)).trans (by rw [hb3])⟩ (fun hHeld => ?_)
        clear hK K
        try simp only [Act.put, List.getElem_toArray, List.getElem_cons_zero, List.getElem_cons_succ, List.setIfInBounds_toArray, List.set_cons_zero, List.set_cons_succ]
        refine wpAnyH_done (by kernel_rfl) ?_ _
        have hval := HFIRST.out k b0 b1 b2 b3 h16 hb0 hb1 hb2 hb3
        have HVAL := hid_of hval
        clear hval hHeld hb0 hb1 hb2 hb3 hud hfd m0 m1 m2 m3 l0 l1 l2 l3 u0 u1 u2 u3 n0 n1 n2 n3
        go_wp2
        go_roundw
        case rel => exact ⟨k + 1, by omega, by go_num, H2.out _ HVAL.out, H1.out _, H3.out _, HKS.out _⟩
        case measure => simp [intOf]; omega
      · obtain ⟨m, rfl⟩ : ∃ m, k = m + 16 := ⟨k - 16, by omega⟩
        have c16 := hW.cell (k := m) (by omega)
        have c15 := hW.cell (k := m + 1) (by omega)
        have c7 := hW.cell (k := m + 9) (by omega)
        have c2 := hW.cell (k := m + 14) (by omega)
        have hnx := HNEXT.out m (by omega)
        obtain ⟨⟨uo, huo⟩, hfo⟩ := hW.there (k := m + 16) (by omega)
        have HUO : Hid (wr.cell? ⟨w.heap.size + 1 + 1, m + 16, none⟩ = some uo) := huo
        have HFO : Hid (wr.frozen? ⟨w.heap.size + 1 + 1, m + 16, none⟩ = false) := hfo
        have H2 : Hid (∀ W x, Kept (fun _ => False) wr W → x = f (m + 16) → Words (W.setCell ⟨w.heap.size + 1 + 1, m + 16, none⟩ (.int .u32 x)) (w.heap.size + 1 + 1) (m + 16 + 1) f) := fun W x hw hx => (hW.kept hw (fun f => f)).set (by omega) _ hx.symm (fun j hj hne => ⟨by omega, rfl⟩)
        have H1 : Hid (∀ W x, Kept (fun _ => False) wr W → (W.setCell ⟨w.heap.size + 1 + 1, m + 16, none⟩ x).heap[w.heap.size]? = some (.cells #[.int .u32 s.a, .int .u32 s.b, .int .u32 s.c, .int .u32 s.d, .int .u32 s.e, .int .u32 s.f, .int .u32 s.g, .int .u32 s.h] 87 (0, 0))) := fun W x hw => ((kept_set W ⟨w.heap.size + 1 + 1, m + 16, none⟩ x).block w.heap.size (Nat.lt_of_lt_of_le (heap_lt hS) hw.size) (by show _ ≠ w.heap.size + 1 + 1; omega)).trans ((hw.block _ (heap_lt hS) (fun f => f)).trans hS)
        have H3 : Hid (∀ W x, Kept (fun _ => False) wr W → Row (W.setCell ⟨w.heap.size + 1 + 1, m + 16, none⟩ x) (w.heap.size + 1) 87 .u32 8 0 (fun _ => 0)) := fun W x hw => (hO.kept hw (fun f => f)).other _ _ (by show _ ≠ w.heap.size + 1 + 1; omega)
        have HKS : Hid (∀ W x, Kept (fun _ => False) wr W → Kept (fun _ => False) w (W.setCell ⟨w.heap.size + 1 + 1, m + 16, none⟩ x)) := fun W x hw => (hK.trans hw).setCell (.inl (by show _ ≤ w.heap.size + 1 + 1; omega)) _
        have HB : Hid (Kept (fun _ => False) wr wr.drew) := (Kept.refl _ wr).drew
        clear hW hS hO hK huo hfo
        generalize f m = v16 at *
        generalize f (m + 1) = v15 at *
        generalize f (m + 9) = v7 at *
        generalize f (m + 14) = v2 at *
        have HNX := hid_of hnx
        clear hnx
        have hc : ((m + 16 : Nat) : Int) = (m : Int) + 16 := by omega
        rw [hc] at hkI ⊢
        have hmI : (m : Int) < 48 := by omega
        clear h16 hlt hk hc
        go_wp2
        have HC16 := hid_of c16
        have HC7 := hid_of c7
        clear c16 c15 c7 c2
        have i0 : IntKind.i64.wrap (m : Int) = (m : Int) := by rw [IntKind.wrap_i64]; omega
        have i0' : IntKind.i64.wrap ((m : Int) + 16 - 16) = (m : Int) := by rw [IntKind.wrap_i64]; omega
        have i9 : IntKind.i64.wrap ((m : Int) + 16 - 7) = (m : Int) + 9 := by rw [IntKind.wrap_i64]; omega
        have l9 : (0 : Int) ≤ (m : Int) + 9 := by omega
        have b9 : (m : Int) + 9 < 64 := by omega
        have b0 : (m : Int) < 64 := by omega
        have l16 : (0 : Int) ≤ (m : Int) + 16 := by omega
        have n9 : ((m : Int) + 9).toNat = m + 9 := by omega
        have n16 : ((m : Int) + 16).toNat = m + 16 := by omega
        refine wp_region_held_drew (S := fun w' => w'.cell? ⟨w.heap.size + 1 + 1, m, none⟩ = some (.int .u32 v16) ∧ w'.cell? ⟨w.heap.size + 1 + 1, m + 9, none⟩ = some (.int .u32 v7)) (by kernel_rfl) ⟨HB.out.cell HC16.out (fun f => f), HB.out.cell HC7.out (fun f => f)⟩ (fun hHeld => ?_)
        refine wpAnyH_take (i := 0) (v := ?_) rfl (by kernel_rfl) (by kernel_rfl) (by kernel_rfl) (fun _ _ _ h => h) (Or.inl ⟨by rfl, ?_⟩) (by assumption) ?_
        rotate_left 1
        · intro w hSw
          go_simp
          try with_reducible rfl
        try simp only [Act.put, List.getElem_toArray, List.getElem_cons_zero, List.getElem_cons_succ, List.setIfInBounds_toArray, List.set_cons_zero, List.set_cons_succ]
        refine wpAnyH_take (i := 1) (v := ?_) rfl (by kernel_rfl) (by kernel_rfl) (by kernel_rfl) (fun _ _ _ h => h) (Or.inl ⟨by rfl, ?_⟩) (by assumption) ?_
        rotate_left 1
        · intro w hSw
          go_simp
          try with_reducible rfl
        try simp only [Act.put, List.getElem_toArray, List.getElem_cons_zero, List.getElem_cons_succ, List.setIfInBounds_toArray, List.set_cons_zero, List.set_cons_succ]
        refine wpAnyH_take (i := 2) (v := ?_) rfl (by kernel_rfl) (by kernel_rfl) (by kernel_rfl) (fun _ _ _ h => h) (Or.inl ⟨by rfl, ?_⟩) (by assumption) ?_
        rotate_left 1
        · intro w hSw
          go_simp
          try with_reducible rfl
        try simp only [Act.put, List.getElem_toArray, List.getElem_cons_zero, List.getElem_cons_succ, List.setIfInBounds_toArray, List.set_cons_zero, List.set_cons_succ]
        refine wpAnyH_take (i := 3) (v := ?_) rfl (by kernel_rfl) (by kernel_rfl) (by kernel_rfl) (fun _ _ _ h => h) (Or.inl ⟨by rfl, ?_⟩) (by assumption) ?_
        rotate_left 1
        · intro w hSw
          go_simp
          try with_reducible rfl
        try simp only [Act.put, List.getElem_toArray, List.getElem_cons_zero, List.getElem_cons_succ, List.setIfInBounds_toArray, List.set_cons_zero, List.set_cons_succ]
        refine wpAnyH_take (i := 4) (v := ?_) rfl (by kernel_rfl) (by kernel_rfl) (by kernel_rfl) (fun _ _ _ h => h) (Or.inl ⟨by rfl, ?_⟩) (by assumption) ?_
        rotate_left 1
        · intro w hSw
          obtain ⟨e16, e7⟩ := hSw
          go_simp
          try with_reducible rfl
        try simp only [Act.put, List.getElem_toArray, List.getElem_cons_zero, List.getElem_cons_succ, List.setIfInBounds_toArray, List.set_cons_zero, List.set_cons_succ]
        refine wpAnyH_take (i := 5) (v := ?_) rfl (by kernel_rfl) (by kernel_rfl) (by kernel_rfl) (fun _ _ _ h => h) (Or.inl ⟨by rfl, ?_⟩) (by assumption) ?_
        rotate_left 1
        · intro w hSw
          go_simp
          try with_reducible rfl
        try simp only [Act.put, List.getElem_toArray, List.getElem_cons_zero, List.getElem_cons_succ, List.setIfInBounds_toArray, List.set_cons_zero, List.set_cons_succ]
        refine wpAnyH_take (i := 7) (v := ?_) rfl (by kernel_rfl) (by kernel_rfl) (by kernel_rfl) (fun _ _ _ h => h) (Or.inl ⟨by rfl, ?_⟩) (by assumption) ?_
        rotate_left 1
        · intro w hSw
          go_simp
          try with_reducible rfl
        try simp only [Act.put, List.getElem_toArray, List.getElem_cons_zero, List.getElem_cons_succ, List.setIfInBounds_toArray, List.set_cons_zero, List.set_cons_succ]
        refine wpAnyH_take (i := 10) (v := ?_) rfl (by kernel_rfl) (by kernel_rfl) (by kernel_rfl) (fun _ _ _ h => h) (Or.inl ⟨by rfl, ?_⟩) (by assumption) ?_
        rotate_left 1
        · intro w hSw
          go_simp
          try with_reducible rfl
        try simp only [Act.put, List.getElem_toArray, List.getElem_cons_zero, List.getElem_cons_succ, List.setIfInBounds_toArray, List.set_cons_zero, List.set_cons_succ]
        refine wpAnyH_take (i := 11) (v := ?_) rfl (by kernel_rfl) (by kernel_rfl) (by kernel_rfl) (fun _ _ _ h => h) (Or.inl ⟨by rfl, ?_⟩) (by assumption) ?_
        rotate_left 1
        · intro w hSw
          go_simp
          try with_reducible rfl
        try simp only [Act.put, List.getElem_toArray, List.getElem_cons_zero, List.getElem_cons_succ, List.setIfInBounds_toArray, List.set_cons_zero, List.set_cons_succ]
        refine wpAnyH_take (i := 14) (v := ?_) rfl (by kernel_rfl) (by kernel_rfl) (by kernel_rfl) (fun _ _ _ h => h) (Or.inl ⟨by rfl, ?_⟩) (by assumption) ?_
        rotate_left 1
        · intro w hSw
          go_simp
          try with_reducible rfl
        try simp only [Act.put, List.getElem_toArray, List.getElem_cons_zero, List.getElem_cons_succ, List.setIfInBounds_toArray, List.set_cons_zero, List.set_cons_succ]
        refine wpAnyH_take (i := 15) (v := ?_) rfl (by kernel_rfl) (by kernel_rfl) (by kernel_rfl) (fun _ _ _ h => h) (Or.inl ⟨by rfl, ?_⟩) (by assumption) ?_
        rotate_left 1
        · intro w hSw
          go_simp
          try with_reducible rfl
        try simp only [Act.put, List.getElem_toArray, List.getElem_cons_zero, List.getElem_cons_succ, List.setIfInBounds_toArray, List.set_cons_zero, List.set_cons_succ]
        refine wpAnyH_take (i := 16) (v := ?_) rfl (by kernel_rfl) (by kernel_rfl) (by kernel_rfl) (fun _ _ _ h => h) (Or.inl ⟨by rfl, ?_⟩) (by assumption) ?_
        rotate_left 1
        · intro w hSw
          go_simp
          try with_reducible rfl
        try simp only [Act.put, List.getElem_toArray, List.getElem_cons_zero, List.getElem_cons_succ, List.setIfInBounds_toArray, List.set_cons_zero, List.set_cons_succ]
        refine wpAnyH_take (i := 17) (v := ?_) rfl (by kernel_rfl) (by kernel_rfl) (by kernel_rfl) (fun _ _ _ h => h) (Or.inl ⟨by rfl, ?_⟩) (by assumption) ?_
        rotate_left 1
        · intro w hSw
          obtain ⟨e16, e7⟩ := hSw
          go_simp
          try with_reducible rfl
        try simp only [Act.put, List.getElem_toArray, List.getElem_cons_zero, List.getElem_cons_succ, List.setIfInBounds_toArray, List.set_cons_zero, List.set_cons_succ]
        refine wpAnyH_take (i := 19) (v := ?_) rfl (by kernel_rfl) (by kernel_rfl) (by kernel_rfl) (fun _ _ _ h => h) (Or.inl ⟨by rfl, ?_⟩) (by assumption) ?_
        rotate_left 1
        · intro w hSw
          go_simp
          try with_reducible rfl
        try simp only [Act.put, List.getElem_toArray, List.getElem_cons_zero, List.getElem_cons_succ, List.setIfInBounds_toArray, List.set_cons_zero, List.set_cons_succ]
        refine wpAnyH_take (i := 21) (v := ?_) rfl (by kernel_rfl) (by kernel_rfl) (by kernel_rfl) (fun _ _ _ h => h) (Or.inl ⟨by rfl, ?_⟩) (by assumption) ?_
        rotate_left 1
        · intro w hSw
          go_simp
          try with_reducible rfl
        try simp only [Act.put, List.getElem_toArray, List.getElem_cons_zero, List.getElem_cons_succ, List.setIfInBounds_toArray, List.set_cons_zero, List.set_cons_succ]
        refine wpAnyH_take (i := 24) (v := ?_) rfl (by kernel_rfl) (by kernel_rfl) (by kernel_rfl) (fun _ _ _ h => h) (Or.inl ⟨by rfl, ?_⟩) (by assumption) ?_
        rotate_left 1
        · intro w hSw
          go_simp
          try with_reducible rfl
        try simp only [Act.put, List.getElem_toArray, List.getElem_cons_zero, List.getElem_cons_succ, List.setIfInBounds_toArray, List.set_cons_zero, List.set_cons_succ]
        refine wpAnyH_take (i := 25) (v := ?_) rfl (by kernel_rfl) (by kernel_rfl) (by kernel_rfl) (fun _ _ _ h => h) (Or.inl ⟨by rfl, ?_⟩) (by assumption) ?_
        rotate_left 1
        · intro w hSw
          go_simp
          try with_reducible rfl
        try simp only [Act.put, List.getElem_toArray, List.getElem_cons_zero, List.getElem_cons_succ, List.setIfInBounds_toArray, List.set_cons_zero, List.set_cons_succ]
        refine wpAnyH_ready (rs := [6]) (by kernel_rfl) (by simp) ?_
        refine AllReadyH.cons rfl (fun K hK => ?_) AllReadyH.nil
        go_simp
        refine (rturned_int _ _ (by decide) (by decide) _).mono ?_
        rintro e w' ⟨rfl, hk'⟩
        replace HB := hid_of (HB.out.trans hk')
        clear hk'
        refine hK.out _ _ ⟨HB.out.cell HC16.out (fun f => f), HB.out.cell HC7.out (fun f => f)⟩ (fun hHeld => ?_)
        clear hK K
        try simp only [Act.put, List.getElem_toArray, List.getElem_cons_zero, List.getElem_cons_succ, List.setIfInBounds_toArray, List.set_cons_zero, List.set_cons_succ]
        refine wpAnyH_ready (rs := [8]) (by kernel_rfl) (by simp) ?_
        refine AllReadyH.cons rfl (fun K hK => ?_) AllReadyH.nil
        go_simp
        refine (rturned_int _ _ (by decide) (by decide) _).mono ?_
        rintro e w' ⟨rfl, hk'⟩
        replace HB := hid_of (HB.out.trans hk')
        clear hk'
        refine hK.out _ _ ⟨HB.out.cell HC16.out (fun f => f), HB.out.cell HC7.out (fun f => f)⟩ (fun hHeld => ?_)
        clear hK K
        try simp only [Act.put, List.getElem_toArray, List.getElem_cons_zero, List.getElem_cons_succ, List.setIfInBounds_toArray, List.set_cons_zero, List.set_cons_succ]
        refine wpAnyH_take (i := 9) (v := ?_) rfl (by kernel_rfl) (by kernel_rfl) (by kernel_rfl) (fun _ _ _ h => h) (Or.inl ⟨by rfl, ?_⟩) (by assumption) ?_
        rotate_left 1
        · intro w hSw
          go_simp
          try with_reducible rfl
        try simp only [Act.put, List.getElem_toArray, List.getElem_cons_zero, List.getElem_cons_succ, List.setIfInBounds_toArray, List.set_cons_zero, List.set_cons_succ]
        refine wpAnyH_take (i := 12) (v := ?_) rfl (by kernel_rfl) (by kernel_rfl) (by kernel_rfl) (fun _ _ _ h => h) (Or.inl ⟨by rfl, ?_⟩) (by assumption) ?_
        rotate_left 1
        · intro w hSw
          go_simp
          try with_reducible rfl
        try simp only [Act.put, List.getElem_toArray, List.getElem_cons_zero, List.getElem_cons_succ, List.setIfInBounds_toArray, List.set_cons_zero, List.set_cons_succ]
        refine wpAnyH_take (i := 13) (v := ?_) rfl (by kernel_rfl) (by kernel_rfl) (by kernel_rfl) (fun _ _ _ h => h) (Or.inl ⟨by rfl, ?_⟩) (by assumption) ?_
        rotate_left 1
        · intro w hSw
          go_simp
          try with_reducible rfl
        try simp only [Act.put, List.getElem_toArray, List.getElem_cons_zero, List.getElem_cons_succ, List.setIfInBounds_toArray, List.set_cons_zero, List.set_cons_succ]
        refine wpAnyH_take (i := 18) (v := ?_) rfl (by kernel_rfl) (by kernel_rfl) (by kernel_rfl) (fun _ _ _ h => h) (Or.inl ⟨by rfl, ?_⟩) (by assumption) ?_
        rotate_left 1
        · intro w hSw
          go_simp
          try with_reducible rfl
        try simp only [Act.put, List.getElem_toArray, List.getElem_cons_zero, List.getElem_cons_succ, List.setIfInBounds_toArray, List.set_cons_zero, List.set_cons_succ]
        refine wpAnyH_ready (rs := [20]) (by kernel_rfl) (by simp) ?_
        refine AllReadyH.cons rfl (fun K hK => ?_) AllReadyH.nil
        go_simp
        refine (rturned_int _ _ (by decide) (by decide) _).mono ?_
        rintro e w' ⟨rfl, hk'⟩
        replace HB := hid_of (HB.out.trans hk')
        clear hk'
        refine hK.out _ _ ⟨HB.out.cell HC16.out (fun f => f), HB.out.cell HC7.out (fun f => f)⟩ (fun hHeld => ?_)
        clear hK K
        try simp only [Act.put, List.getElem_toArray, List.getElem_cons_zero, List.getElem_cons_succ, List.setIfInBounds_toArray, List.set_cons_zero, List.set_cons_succ]
        refine wpAnyH_ready (rs := [22]) (by kernel_rfl) (by simp) ?_
        refine AllReadyH.cons rfl (fun K hK => ?_) AllReadyH.nil
        go_simp
        refine (rturned_int _ _ (by decide) (by decide) _).mono ?_
        rintro e w' ⟨rfl, hk'⟩
        replace HB := hid_of (HB.out.trans hk')
        clear hk'
        refine hK.out _ _ ⟨HB.out.cell HC16.out (fun f => f), HB.out.cell HC7.out (fun f => f)⟩ (fun hHeld => ?_)
        clear hK K
        try simp only [Act.put, List.getElem_toArray, List.getElem_cons_zero, List.getElem_cons_succ, List.setIfInBounds_toArray, List.set_cons_zero, List.set_cons_succ]
        refine wpAnyH_take (i := 23) (v := ?_) rfl (by kernel_rfl) (by kernel_rfl) (by kernel_rfl) (fun _ _ _ h => h) (Or.inl ⟨by rfl, ?_⟩) (by assumption) ?_
        rotate_left 1
        · intro w hSw
          go_simp
          try with_reducible rfl
        try simp only [Act.put, List.getElem_toArray, List.getElem_cons_zero, List.getElem_cons_succ, List.setIfInBounds_toArray, List.set_cons_zero, List.set_cons_succ]
        refine wpAnyH_take (i := 26) (v := ?_) rfl (by kernel_rfl) (by kernel_rfl) (by kernel_rfl) (fun _ _ _ h => h) (Or.inl ⟨by rfl, ?_⟩) (by assumption) ?_
        rotate_left 1
        · intro w hSw
          go_simp
          try with_reducible rfl
        try simp only [Act.put, List.getElem_toArray, List.getElem_cons_zero, List.getElem_cons_succ, List.setIfInBounds_toArray, List.set_cons_zero, List.set_cons_succ]
        refine wpAnyH_take (i := 27) (v := ?_) rfl (by kernel_rfl) (by kernel_rfl) (by kernel_rfl) (fun _ _ _ h => h) (Or.inl ⟨by rfl, ?_⟩) (by assumption) ?_
        rotate_left 1
        · intro w hSw
          go_simp
          try with_reducible rfl
        try simp only [Act.put, List.getElem_toArray, List.getElem_cons_zero, List.getElem_cons_succ, List.setIfInBounds_toArray, List.set_cons_zero, List.set_cons_succ]
        refine wpAnyH_take (i := 28) (v := ?_) rfl (by kernel_rfl) (by kernel_rfl) (by kernel_rfl) (fun _ _ _ h => h) (Or.inl ⟨by rfl, ?_⟩) (by assumption) ?_
        rotate_left 1
        · intro w hSw
          go_simp
          try with_reducible rfl
        try simp only [Act.put, List.getElem_toArray, List.getElem_cons_zero, List.getElem_cons_succ, List.setIfInBounds_toArray, List.set_cons_zero, List.set_cons_succ]
        have hud := HB.out.cell (p := ⟨w.heap.size + 1 + 1, m + 16, none⟩) HUO.out (fun f => f)
        have hfd := frz HB.out HUO.out HFO.out
        refine wpAnyH_ready (rs := [29]) (by kernel_rfl) (by simp) ?_
        refine AllReadyH.cons rfl (fun K hK => ?_) AllReadyH.nil
        go_simp
        have HB9 := HB
        refine hK.out _ _ ⟨(cell_far _ _ _ _ _ (by omega)).trans (HB.out.cell HC16.out (fun f => f)), (cell_far _ _ _ _ _ (by omega)).trans (HB.out.cell HC7.out (fun f => f))⟩ (fun hHeld => ?_)
        clear hK K
        try simp only [Act.put, List.getElem_toArray, List.getElem_cons_zero, List.getElem_cons_succ, List.setIfInBounds_toArray, List.set_cons_zero, List.set_cons_succ]
        refine wpAnyH_done (by kernel_rfl) ?_ _
        have HVAL : Hid (IntKind.u32.wrap (IntKind.u32.wrap (IntKind.u32.wrap (v16 + bits .xor .u32 (bits .xor .u32 (ror v15 7) (ror v15 18)) (v15 / 8)) + v7) + bits .xor .u32 (bits .xor .u32 (ror v2 17) (ror v2 19)) (v2 / 1024)) = f (m + 16)) := by
          show _ = _
          rw [HNX.out]
          simp only [IntKind.wrap_u32']
          rfl
        clear hud hfd hHeld i0 i0' i9 l9 b9 b0 l16 n9 n16
        go_wp2
        go_roundw
        case rel => exact ⟨m + 16 + 1, by omega, by go_num, H2.out _ _ HB.out HVAL.out, H1.out _ _ HB.out, H3.out _ _ HB.out, HKS.out _ _ HB.out⟩
        case measure => simp [intOf]; omega
    · obtain rfl : k = 64 := by omega
      have HW := hid_of hW
      have HO := hid_of hO
      have HSA := hid_of hS
      have HG2 : Hid (w.heap.size + 1 + 1 < wr.heap.size) := by
        obtain ⟨cur, h0, _⟩ := hW
        exact heap_lt h0
      have HK := hid_of hK
      clear hW hO hK HX HFIRST HNEXT
      have hone : #[Value.int .u32 s.a, .int .u32 s.b, .int .u32 s.c, .int .u32 s.d, .int .u32 s.e, .int .u32 s.f, .int .u32 s.g, .int .u32 s.h].all (·.oneCell') = true := oneCells .u32 [s.a, s.b, s.c, s.d, s.e, s.f, s.g, s.h]
      have hsz8 := HS47.out (.int .u32 s.a) (.int .u32 s.b) (.int .u32 s.c) (.int .u32 s.d) (.int .u32 s.e) (.int .u32 s.f) (.int .u32 s.g) (.int .u32 s.h)
      generalize hcs : #[Value.int .u32 s.a, .int .u32 s.b, .int .u32 s.c, .int .u32 s.d, .int .u32 s.e, .int .u32 s.f, .int .u32 s.g, .int .u32 s.h] = cs at *
      have HCS := hid_of hcs
      have HC8 : Hid (8 = cs.size) := by rw [← hcs]; rfl
      clear hcs
      go_wp2_with (first | refine wpList_load_row rfl 87 _ rfl w.heap.size rfl 87 cs (0, 0) _ hS Tryd.underlying87 rfl hsz8 ?_ | (refine wpList_store_row rfl 87 _ _ rfl wr.heap.size cs rfl rfl 87 _ (alloc_new _ _ rfl) hsz8 HC8.out hone ?_; rw [setRow_new _ _ _ _ rfl]))
      have HV0 : Hid ((wr.alloc (.cells cs 87)).heap[wr.heap.size]? = some (.cells #[.int .u32 (r 0).a, .int .u32 (r 0).b, .int .u32 (r 0).c, .int .u32 (r 0).d, .int .u32 (r 0).e, .int .u32 (r 0).f, .int .u32 (r 0).g, .int .u32 (r 0).h] 87 (0, 0))) := by
        show _ = _
        rw [HR0.out, HCS.out]
        exact alloc_new _ _ rfl
      have HKA : Hid (Kept (fun _ => False) wr (wr.alloc (.cells cs 87))) := (Kept.refl _ wr).alloc _
      have HWA := hid_of (HW.out.kept HKA.out (fun f => f))
      have HOA := hid_of (HO.out.kept HKA.out (fun f => f))
      have HSB := hid_of ((HKA.out.block _ (heap_lt hS) (fun f => f)).trans hS)
      have HKW := hid_of (HK.out.trans HKA.out)
      have HGV : Hid (w.heap.size + 1 + 1 < wr.heap.size ∧ wr.heap.size < (wr.alloc (.cells cs 87)).heap.size) := ⟨HG2.out, by simp⟩
      clear hS HW HO HSA HK HG2 hone
      generalize wr.heap.size = gv at *
      generalize wr.alloc (.cells cs 87) = w3 at *
      go_wp2_with fail
      go_loopw [10] (fun i wr => ∃ k : Nat, k ≤ 64 ∧ i = .int .i64 k ∧ wr.heap[gv]? = some (.cells #[.int .u32 (r k).a, .int .u32 (r k).b, .int .u32 (r k).c, .int .u32 (r k).d, .int .u32 (r k).e, .int .u32 (r k).f, .int .u32 (r k).g, .int .u32 (r k).h] 87 (0, 0)) ∧ Kept (fun k => k = gv) w3 wr) (fun i _ => 64 - (intOf i).toNat)
      case atStart => exact ⟨0, by omega, rfl, HV0.out, Kept.refl _ _⟩
      case round =>
        obtain ⟨k, hk, rfl, hV, hK⟩ := hrel
        clear HV0
        by_cases hlt : k < 64
        · have hkI : (k : Int) < 64 := by omega
          have HRK := hid_of (HRN.out k)
          have HCW := hid_of (hK.cell (HWA.out.cell (k := k) hlt) (by show ¬ (w.heap.size + 1 + 1 = gv); have := HGV.out.1; omega))
          have HRR := hid_of (fun W => rround_any k hlt W)
          obtain ⟨st', HRE⟩ : ∃ x, Hid (r (k + 1) = x) := ⟨_, rfl⟩
          rw [HRE.out] at HRK
          generalize r k = st at *
          generalize f k = wv at *
          generalize kw.getD k 0 = kv at *
          have c0 := cell_block _ _ 0 _ _ _ hV
          have c4 := cell_block _ _ 4 _ _ _ hV
          have HV := hid_of hV
          have HK := hid_of hK
          clear hV hK
          simp only [List.getElem?_toArray, List.getElem?_cons_zero, List.getElem?_cons_succ] at c0 c4
          go_wp2
          clear c0 c4
          have HB : Hid (Kept (fun _ => False) wr wr.drew) := (Kept.refl _ wr).drew
          have HD7 : Hid (wr.cell? ⟨gv, 7, none⟩ = some (.int .u32 st.h)) := cell_block _ _ 7 _ _ _ HV.out
          have HD5 : Hid (wr.cell? ⟨gv, 5, none⟩ = some (.int .u32 st.f)) := cell_block _ _ 5 _ _ _ HV.out
          have HD6 : Hid (wr.cell? ⟨gv, 6, none⟩ = some (.int .u32 st.g)) := cell_block _ _ 6 _ _ _ HV.out
          have HD1 : Hid (wr.cell? ⟨gv, 1, none⟩ = some (.int .u32 st.b)) := cell_block _ _ 1 _ _ _ HV.out
          have HD2 : Hid (wr.cell? ⟨gv, 2, none⟩ = some (.int .u32 st.c)) := cell_block _ _ 2 _ _ _ HV.out
          have HD3 : Hid (wr.cell? ⟨gv, 3, none⟩ = some (.int .u32 st.d)) := cell_block _ _ 3 _ _ _ HV.out
          refine wp_region_held_drew (S := fun w' => w'.cell? ⟨gv, 7, none⟩ = some (.int .u32 st.h) ∧ w'.cell? ⟨gv, 5, none⟩ = some (.int .u32 st.f) ∧ w'.cell? ⟨gv, 6, none⟩ = some (.int .u32 st.g) ∧ w'.cell? ⟨w.heap.size + 1 + 1, k, none⟩ = some (.int .u32 wv)) (by kernel_rfl) ⟨HB.out.cell HD7.out (fun f => f), HB.out.cell HD5.out (fun f => f), HB.out.cell HD6.out (fun f => f), HB.out.cell HCW.out (fun f => f)⟩ (fun hHeld => ?_)
          refine wpAnyH_take (i := 0) (v := ?_) rfl (by kernel_rfl) (by kernel_rfl) (by kernel_rfl) (fun _ _ _ h => h) (Or.inl ⟨by rfl, ?_⟩) (by assumption) ?_
          rotate_left 1
          · intro w hSw
            go_simp
            try with_reducible rfl
          try simp only [Act.put, List.getElem_toArray, List.getElem_cons_zero, List.getElem_cons_succ, List.setIfInBounds_toArray, List.set_cons_zero, List.set_cons_succ]
          refine wpAnyH_take (i := 1) (v := ?_) rfl (by kernel_rfl) (by kernel_rfl) (by kernel_rfl) (fun _ _ _ h => h) (Or.inl ⟨by rfl, ?_⟩) (by assumption) ?_
          rotate_left 1
          · intro w hSw
            obtain ⟨e7, e5, e6, ew⟩ := hSw
            go_simp
            try with_reducible rfl
          try simp only [Act.put, List.getElem_toArray, List.getElem_cons_zero, List.getElem_cons_succ, List.setIfInBounds_toArray, List.set_cons_zero, List.set_cons_succ]
          refine wpAnyH_take (i := 2) (v := ?_) rfl (by kernel_rfl) (by kernel_rfl) (by kernel_rfl) (fun _ _ _ h => h) (Or.inl ⟨by rfl, ?_⟩) (by assumption) ?_
          rotate_left 1
          · intro w hSw
            go_simp
            try with_reducible rfl
          try simp only [Act.put, List.getElem_toArray, List.getElem_cons_zero, List.getElem_cons_succ, List.setIfInBounds_toArray, List.set_cons_zero, List.set_cons_succ]
          refine wpAnyH_take (i := 4) (v := ?_) rfl (by kernel_rfl) (by kernel_rfl) (by kernel_rfl) (fun _ _ _ h => h) (Or.inl ⟨by rfl, ?_⟩) (by assumption) ?_
          rotate_left 1
          · intro w hSw
            go_simp
            try with_reducible rfl
          try simp only [Act.put, List.getElem_toArray, List.getElem_cons_zero, List.getElem_cons_succ, List.setIfInBounds_toArray, List.set_cons_zero, List.set_cons_succ]
          refine wpAnyH_take (i := 7) (v := ?_) rfl (by kernel_rfl) (by kernel_rfl) (by kernel_rfl) (fun _ _ _ h => h) (Or.inl ⟨by rfl, ?_⟩) (by assumption) ?_
          rotate_left 1
          · intro w hSw
            go_simp
            try with_reducible rfl
          try simp only [Act.put, List.getElem_toArray, List.getElem_cons_zero, List.getElem_cons_succ, List.setIfInBounds_toArray, List.set_cons_zero, List.set_cons_succ]
          refine wpAnyH_take (i := 11) (v := ?_) rfl (by kernel_rfl) (by kernel_rfl) (by kernel_rfl) (fun _ _ _ h => h) (Or.inl ⟨by rfl, ?_⟩) (by assumption) ?_
          rotate_left 1
          · intro w hSw
            go_simp
            try with_reducible rfl
          try simp only [Act.put, List.getElem_toArray, List.getElem_cons_zero, List.getElem_cons_succ, List.setIfInBounds_toArray, List.set_cons_zero, List.set_cons_succ]
          refine wpAnyH_take (i := 12) (v := ?_) rfl (by kernel_rfl) (by kernel_rfl) (by kernel_rfl) (fun _ _ _ h => h) (Or.inl ⟨by rfl, ?_⟩) (by assumption) ?_
          rotate_left 1
          · intro w hSw
            go_simp
            try with_reducible rfl
          try simp only [Act.put, List.getElem_toArray, List.getElem_cons_zero, List.getElem_cons_succ, List.setIfInBounds_toArray, List.set_cons_zero, List.set_cons_succ]
          refine wpAnyH_take (i := 13) (v := ?_) rfl (by kernel_rfl) (by kernel_rfl) (by kernel_rfl) (fun _ _ _ h => h) (Or.inl ⟨by rfl, ?_⟩) (by assumption) ?_
          rotate_left 1
          · intro w hSw
            obtain ⟨e7, e5, e6, ew⟩ := hSw
            go_simp
            try with_reducible rfl
          try simp only [Act.put, List.getElem_toArray, List.getElem_cons_zero, List.getElem_cons_succ, List.setIfInBounds_toArray, List.set_cons_zero, List.set_cons_succ]
          refine wpAnyH_take (i := 14) (v := ?_) rfl (by kernel_rfl) (by kernel_rfl) (by kernel_rfl) (fun _ _ _ h => h) (Or.inl ⟨by rfl, ?_⟩) (by assumption) ?_
          rotate_left 1
          · intro w hSw
            go_simp
            try with_reducible rfl
          try simp only [Act.put, List.getElem_toArray, List.getElem_cons_zero, List.getElem_cons_succ, List.setIfInBounds_toArray, List.set_cons_zero, List.set_cons_succ]
          refine wpAnyH_take (i := 15) (v := ?_) rfl (by kernel_rfl) (by kernel_rfl) (by kernel_rfl) (fun _ _ _ h => h) (Or.inl ⟨by rfl, ?_⟩) (by assumption) ?_
          rotate_left 1
          · intro w hSw
            go_simp
            try with_reducible rfl
          try simp only [Act.put, List.getElem_toArray, List.getElem_cons_zero, List.getElem_cons_succ, List.setIfInBounds_toArray, List.set_cons_zero, List.set_cons_succ]
          refine wpAnyH_take (i := 16) (v := ?_) rfl (by kernel_rfl) (by kernel_rfl) (by kernel_rfl) (fun _ _ _ h => h) (Or.inl ⟨by rfl, ?_⟩) (by assumption) ?_
          rotate_left 1
          · intro w hSw
            go_simp
            try with_reducible rfl
          try simp only [Act.put, List.getElem_toArray, List.getElem_cons_zero, List.getElem_cons_succ, List.setIfInBounds_toArray, List.set_cons_zero, List.set_cons_succ]
          refine wpAnyH_take (i := 17) (v := ?_) rfl (by kernel_rfl) (by kernel_rfl) (by kernel_rfl) (fun _ _ _ h => h) (Or.inl ⟨by rfl, ?_⟩) (by assumption) ?_
          rotate_left 1
          · intro w hSw
            go_simp
            try with_reducible rfl
          try simp only [Act.put, List.getElem_toArray, List.getElem_cons_zero, List.getElem_cons_succ, List.setIfInBounds_toArray, List.set_cons_zero, List.set_cons_succ]
          refine wpAnyH_take (i := 18) (v := ?_) rfl (by kernel_rfl) (by kernel_rfl) (by kernel_rfl) (fun _ _ _ h => h) (Or.inl ⟨by rfl, ?_⟩) (by assumption) ?_
          rotate_left 1
          · intro w hSw
            obtain ⟨e7, e5, e6, ew⟩ := hSw
            go_simp
            try with_reducible rfl
          try simp only [Act.put, List.getElem_toArray, List.getElem_cons_zero, List.getElem_cons_succ, List.setIfInBounds_toArray, List.set_cons_zero, List.set_cons_succ]
          refine wpAnyH_take (i := 19) (v := ?_) rfl (by kernel_rfl) (by kernel_rfl) (by kernel_rfl) (fun _ _ _ h => h) (Or.inl ⟨by rfl, ?_⟩) (by assumption) ?_
          rotate_left 1
          · intro w hSw
            go_simp
            try with_reducible rfl
          try simp only [Act.put, List.getElem_toArray, List.getElem_cons_zero, List.getElem_cons_succ, List.setIfInBounds_toArray, List.set_cons_zero, List.set_cons_succ]
          refine wpAnyH_take (i := 20) (v := ?_) rfl (by kernel_rfl) (by kernel_rfl) (by kernel_rfl) (fun _ _ _ h => h) (Or.inl ⟨by rfl, ?_⟩) (by assumption) ?_
          rotate_left 1
          · intro w hSw
            go_simp
            try with_reducible rfl
          try simp only [Act.put, List.getElem_toArray, List.getElem_cons_zero, List.getElem_cons_succ, List.setIfInBounds_toArray, List.set_cons_zero, List.set_cons_succ]
          refine wpAnyH_take (i := 22) (v := ?_) rfl (by kernel_rfl) (by kernel_rfl) (by kernel_rfl) (fun _ _ _ h => h) (Or.inl ⟨by rfl, ?_⟩) (by assumption) ?_
          rotate_left 1
          · intro w hSw
            go_simp
            try with_reducible rfl
          try simp only [Act.put, List.getElem_toArray, List.getElem_cons_zero, List.getElem_cons_succ, List.setIfInBounds_toArray, List.set_cons_zero, List.set_cons_succ]
          refine wpAnyH_take (i := 25) (v := ?_) rfl (by kernel_rfl) (by kernel_rfl) (by kernel_rfl) (fun _ _ _ h => h) (Or.inl ⟨by rfl, ?_⟩) (by assumption) ?_
          rotate_left 1
          · intro w hSw
            go_simp
            try with_reducible rfl
          try simp only [Act.put, List.getElem_toArray, List.getElem_cons_zero, List.getElem_cons_succ, List.setIfInBounds_toArray, List.set_cons_zero, List.set_cons_succ]
          refine wpAnyH_take (i := 26) (v := ?_) rfl (by kernel_rfl) (by kernel_rfl) (by kernel_rfl) (fun _ _ _ h => h) (Or.inl ⟨by rfl, ?_⟩) (by assumption) ?_
          rotate_left 1
          · intro w hSw
            go_simp
            try with_reducible rfl
          try simp only [Act.put, List.getElem_toArray, List.getElem_cons_zero, List.getElem_cons_succ, List.setIfInBounds_toArray, List.set_cons_zero, List.set_cons_succ]
          refine wpAnyH_take (i := 27) (v := ?_) rfl (by kernel_rfl) (by kernel_rfl) (by kernel_rfl) (fun _ _ _ h => h) (Or.inl ⟨by rfl, ?_⟩) (by assumption) ?_
          rotate_left 1
          · intro w hSw
            obtain ⟨e7, e5, e6, ew⟩ := hSw
            go_simp
            try with_reducible rfl
          try simp only [Act.put, List.getElem_toArray, List.getElem_cons_zero, List.getElem_cons_succ, List.setIfInBounds_toArray, List.set_cons_zero, List.set_cons_succ]
          refine wpAnyH_ready (rs := [3]) (by kernel_rfl) (by simp) ?_
          refine AllReadyH.cons rfl (fun K hK => ?_) AllReadyH.nil
          go_simp
          refine (rturned_int _ _ (by decide) (by decide) _).mono ?_
          rintro e w' ⟨rfl, hk'⟩
          replace HB := hid_of (HB.out.trans hk')
          clear hk'
          refine hK.out _ _ ⟨HB.out.cell HD7.out (fun f => f), HB.out.cell HD5.out (fun f => f), HB.out.cell HD6.out (fun f => f), HB.out.cell HCW.out (fun f => f)⟩ (fun hHeld => ?_)
          clear hK K
          try simp only [Act.put, List.getElem_toArray, List.getElem_cons_zero, List.getElem_cons_succ, List.setIfInBounds_toArray, List.set_cons_zero, List.set_cons_succ]
          refine wpAnyH_ready (rs := [5]) (by kernel_rfl) (by simp) ?_
          refine AllReadyH.cons rfl (fun K hK => ?_) AllReadyH.nil
          go_simp
          refine (rturned_int _ _ (by decide) (by decide) _).mono ?_
          rintro e w' ⟨rfl, hk'⟩
          replace HB := hid_of (HB.out.trans hk')
          clear hk'
          refine hK.out _ _ ⟨HB.out.cell HD7.out (fun f => f), HB.out.cell HD5.out (fun f => f), HB.out.cell HD6.out (fun f => f), HB.out.cell HCW.out (fun f => f)⟩ (fun hHeld => ?_)
          clear hK K
          try simp only [Act.put, List.getElem_toArray, List.getElem_cons_zero, List.getElem_cons_succ, List.setIfInBounds_toArray, List.set_cons_zero, List.set_cons_succ]
          refine wpAnyH_take (i := 6) (v := ?_) rfl (by kernel_rfl) (by kernel_rfl) (by kernel_rfl) (fun _ _ _ h => h) (Or.inl ⟨by rfl, ?_⟩) (by assumption) ?_
          rotate_left 1
          · intro w hSw
            go_simp
            try with_reducible rfl
          try simp only [Act.put, List.getElem_toArray, List.getElem_cons_zero, List.getElem_cons_succ, List.setIfInBounds_toArray, List.set_cons_zero, List.set_cons_succ]
          refine wpAnyH_ready (rs := [8]) (by kernel_rfl) (by simp) ?_
          refine AllReadyH.cons rfl (fun K hK => ?_) AllReadyH.nil
          go_simp
          refine (rturned_int _ _ (by decide) (by decide) _).mono ?_
          rintro e w' ⟨rfl, hk'⟩
          replace HB := hid_of (HB.out.trans hk')
          clear hk'
          refine hK.out _ _ ⟨HB.out.cell HD7.out (fun f => f), HB.out.cell HD5.out (fun f => f), HB.out.cell HD6.out (fun f => f), HB.out.cell HCW.out (fun f => f)⟩ (fun hHeld => ?_)
          clear hK K
          try simp only [Act.put, List.getElem_toArray, List.getElem_cons_zero, List.getElem_cons_succ, List.setIfInBounds_toArray, List.set_cons_zero, List.set_cons_succ]
          refine wpAnyH_take (i := 9) (v := ?_) rfl (by kernel_rfl) (by kernel_rfl) (by kernel_rfl) (fun _ _ _ h => h) (Or.inl ⟨by rfl, ?_⟩) (by assumption) ?_
          rotate_left 1
          · intro w hSw
            go_simp
            try with_reducible rfl
          try simp only [Act.put, List.getElem_toArray, List.getElem_cons_zero, List.getElem_cons_succ, List.setIfInBounds_toArray, List.set_cons_zero, List.set_cons_succ]
          refine wpAnyH_take (i := 10) (v := ?_) rfl (by kernel_rfl) (by kernel_rfl) (by kernel_rfl) (fun _ _ _ h => h) (Or.inl ⟨by rfl, ?_⟩) (by assumption) ?_
          rotate_left 1
          · intro w hSw
            go_simp
            try with_reducible rfl
          try simp only [Act.put, List.getElem_toArray, List.getElem_cons_zero, List.getElem_cons_succ, List.setIfInBounds_toArray, List.set_cons_zero, List.set_cons_succ]
          refine wpAnyH_take (i := 21) (v := ?_) rfl (by kernel_rfl) (by kernel_rfl) (by kernel_rfl) (fun _ _ _ h => h) (Or.inl ⟨by rfl, ?_⟩) (by assumption) ?_
          rotate_left 1
          · intro w hSw
            go_simp
            try with_reducible rfl
          try simp only [Act.put, List.getElem_toArray, List.getElem_cons_zero, List.getElem_cons_succ, List.setIfInBounds_toArray, List.set_cons_zero, List.set_cons_succ]
          refine wpAnyH_ready (rs := [23]) (by kernel_rfl) (by simp) ?_
          refine AllReadyH.cons rfl (fun K hK => ?_) AllReadyH.nil
          go_simp
          refine (HRR.out _).mono ?_
          rintro e w' ⟨rfl, hk'⟩
          replace HB := hid_of (HB.out.trans hk')
          clear hk'
          refine hK.out _ _ ⟨HB.out.cell HD7.out (fun f => f), HB.out.cell HD5.out (fun f => f), HB.out.cell HD6.out (fun f => f), HB.out.cell HCW.out (fun f => f)⟩ (fun hHeld => ?_)
          clear hK K
          try simp only [Act.put, List.getElem_toArray, List.getElem_cons_zero, List.getElem_cons_succ, List.setIfInBounds_toArray, List.set_cons_zero, List.set_cons_succ]
          refine wpAnyH_take (i := 24) (v := ?_) rfl (by kernel_rfl) (by kernel_rfl) (by kernel_rfl) (fun _ _ _ h => h) (Or.inl ⟨by rfl, ?_⟩) (by assumption) ?_
          rotate_left 1
          · intro w hSw
            go_simp
            try with_reducible rfl
          try simp only [Act.put, List.getElem_toArray, List.getElem_cons_zero, List.getElem_cons_succ, List.setIfInBounds_toArray, List.set_cons_zero, List.set_cons_succ]
          refine wpAnyH_take (i := 28) (v := ?_) rfl (by kernel_rfl) (by kernel_rfl) (by kernel_rfl) (fun _ _ _ h => h) (Or.inl ⟨by rfl, ?_⟩) (by assumption) ?_
          rotate_left 1
          · intro w hSw
            go_simp
            try with_reducible rfl
          try simp only [Act.put, List.getElem_toArray, List.getElem_cons_zero, List.getElem_cons_succ, List.setIfInBounds_toArray, List.set_cons_zero, List.set_cons_succ]
          refine wpAnyH_take (i := 29) (v := ?_) rfl (by kernel_rfl) (by kernel_rfl) (by kernel_rfl) (fun _ _ _ h => h) (Or.inl ⟨by rfl, ?_⟩) (by assumption) ?_
          rotate_left 1
          · intro w hSw
            go_simp
            try with_reducible rfl
          try simp only [Act.put, List.getElem_toArray, List.getElem_cons_zero, List.getElem_cons_succ, List.setIfInBounds_toArray, List.set_cons_zero, List.set_cons_succ]
          refine wpAnyH_done (by kernel_rfl) ?_ _
          have hpw : IntKind.u32.wrap (IntKind.u32.wrap (IntKind.u32.wrap (IntKind.u32.wrap (st.h + bits .xor .u32 (bits .xor .u32 (ror st.e 6) (ror st.e 11)) (ror st.e 25)) + bits .xor .u32 (bits .and .u32 st.e st.f) (bits .and .u32 (bits .xor .u32 IntKind.u32.max st.e) st.g)) + kv) + wv) = pw st kv wv := by
            simp only [IntKind.wrap_u32']
            rfl
          have hsg : ¬ (IntKind.u32.signed = true) := by decide
          simp only [if_neg hsg]
          rw [hpw]
          clear hpw hsg
          have HST : Hid (st' = ⟨add (pw st kv wv) (qw st), st.a, st.b, st.c, add st.d (pw st kv wv), st.e, st.f, st.g⟩) := HRK.out
          generalize pw st kv wv = pv at *
          have HB16 := hid_of HB.out
          clear HB HRK
          try clear hHeld
          rename_i wx
          go_wp2_with fail
          have HB : Hid (Kept (fun _ => False) wr w'.drew) := HB16.out.drew
          refine wp_region_held_drew (S := fun w' => w'.cell? ⟨gv, 1, none⟩ = some (.int .u32 st.b) ∧ w'.cell? ⟨gv, 2, none⟩ = some (.int .u32 st.c)) (by kernel_rfl) ⟨HB.out.cell HD1.out (fun f => f), HB.out.cell HD2.out (fun f => f)⟩ (fun hHeld => ?_)
          refine wpAnyH_take (i := 0) (v := ?_) rfl (by kernel_rfl) (by kernel_rfl) (by kernel_rfl) (fun _ _ _ h => h) (Or.inl ⟨by rfl, ?_⟩) (by assumption) ?_
          rotate_left 1
          · intro w hSw
            go_simp
            try with_reducible rfl
          try simp only [Act.put, List.getElem_toArray, List.getElem_cons_zero, List.getElem_cons_succ, List.setIfInBounds_toArray, List.set_cons_zero, List.set_cons_succ]
          refine wpAnyH_take (i := 2) (v := ?_) rfl (by kernel_rfl) (by kernel_rfl) (by kernel_rfl) (fun _ _ _ h => h) (Or.inl ⟨by rfl, ?_⟩) (by assumption) ?_
          rotate_left 1
          · intro w hSw
            go_simp
            try with_reducible rfl
          try simp only [Act.put, List.getElem_toArray, List.getElem_cons_zero, List.getElem_cons_succ, List.setIfInBounds_toArray, List.set_cons_zero, List.set_cons_succ]
          refine wpAnyH_take (i := 5) (v := ?_) rfl (by kernel_rfl) (by kernel_rfl) (by kernel_rfl) (fun _ _ _ h => h) (Or.inl ⟨by rfl, ?_⟩) (by assumption) ?_
          rotate_left 1
          · intro w hSw
            go_simp
            try with_reducible rfl
          try simp only [Act.put, List.getElem_toArray, List.getElem_cons_zero, List.getElem_cons_succ, List.setIfInBounds_toArray, List.set_cons_zero, List.set_cons_succ]
          refine wpAnyH_take (i := 8) (v := ?_) rfl (by kernel_rfl) (by kernel_rfl) (by kernel_rfl) (fun _ _ _ h => h) (Or.inl ⟨by rfl, ?_⟩) (by assumption) ?_
          rotate_left 1
          · intro w hSw
            go_simp
            try with_reducible rfl
          try simp only [Act.put, List.getElem_toArray, List.getElem_cons_zero, List.getElem_cons_succ, List.setIfInBounds_toArray, List.set_cons_zero, List.set_cons_succ]
          refine wpAnyH_take (i := 9) (v := ?_) rfl (by kernel_rfl) (by kernel_rfl) (by kernel_rfl) (fun _ _ _ h => h) (Or.inl ⟨by rfl, ?_⟩) (by assumption) ?_
          rotate_left 1
          · intro w hSw
            go_simp
            try with_reducible rfl
          try simp only [Act.put, List.getElem_toArray, List.getElem_cons_zero, List.getElem_cons_succ, List.setIfInBounds_toArray, List.set_cons_zero, List.set_cons_succ]
          refine wpAnyH_take (i := 10) (v := ?_) rfl (by kernel_rfl) (by kernel_rfl) (by kernel_rfl) (fun _ _ _ h => h) (Or.inl ⟨by rfl, ?_⟩) (by assumption) ?_
          rotate_left 1
          · intro w hSw
            obtain ⟨e1, e2⟩ := hSw
            go_simp
            try with_reducible rfl
          try simp only [Act.put, List.getElem_toArray, List.getElem_cons_zero, List.getElem_cons_succ, List.setIfInBounds_toArray, List.set_cons_zero, List.set_cons_succ]
          refine wpAnyH_take (i := 11) (v := ?_) rfl (by kernel_rfl) (by kernel_rfl) (by kernel_rfl) (fun _ _ _ h => h) (Or.inl ⟨by rfl, ?_⟩) (by assumption) ?_
          rotate_left 1
          · intro w hSw
            go_simp
            try with_reducible rfl
          try simp only [Act.put, List.getElem_toArray, List.getElem_cons_zero, List.getElem_cons_succ, List.setIfInBounds_toArray, List.set_cons_zero, List.set_cons_succ]
          refine wpAnyH_take (i := 12) (v := ?_) rfl (by kernel_rfl) (by kernel_rfl) (by kernel_rfl) (fun _ _ _ h => h) (Or.inl ⟨by rfl, ?_⟩) (by assumption) ?_
          rotate_left 1
          · intro w hSw
            go_simp
            try with_reducible rfl
          try simp only [Act.put, List.getElem_toArray, List.getElem_cons_zero, List.getElem_cons_succ, List.setIfInBounds_toArray, List.set_cons_zero, List.set_cons_succ]
          refine wpAnyH_take (i := 13) (v := ?_) rfl (by kernel_rfl) (by kernel_rfl) (by kernel_rfl) (fun _ _ _ h => h) (Or.inl ⟨by rfl, ?_⟩) (by assumption) ?_
          rotate_left 1
          · intro w hSw
            go_simp
            try with_reducible rfl
          try simp only [Act.put, List.getElem_toArray, List.getElem_cons_zero, List.getElem_cons_succ, List.setIfInBounds_toArray, List.set_cons_zero, List.set_cons_succ]
          refine wpAnyH_take (i := 14) (v := ?_) rfl (by kernel_rfl) (by kernel_rfl) (by kernel_rfl) (fun _ _ _ h => h) (Or.inl ⟨by rfl, ?_⟩) (by assumption) ?_
          rotate_left 1
          · intro w hSw
            obtain ⟨e1, e2⟩ := hSw
            go_simp
            try with_reducible rfl
          try simp only [Act.put, List.getElem_toArray, List.getElem_cons_zero, List.getElem_cons_succ, List.setIfInBounds_toArray, List.set_cons_zero, List.set_cons_succ]
          refine wpAnyH_take (i := 15) (v := ?_) rfl (by kernel_rfl) (by kernel_rfl) (by kernel_rfl) (fun _ _ _ h => h) (Or.inl ⟨by rfl, ?_⟩) (by assumption) ?_
          rotate_left 1
          · intro w hSw
            go_simp
            try with_reducible rfl
          try simp only [Act.put, List.getElem_toArray, List.getElem_cons_zero, List.getElem_cons_succ, List.setIfInBounds_toArray, List.set_cons_zero, List.set_cons_succ]
          refine wpAnyH_take (i := 16) (v := ?_) rfl (by kernel_rfl) (by kernel_rfl) (by kernel_rfl) (fun _ _ _ h => h) (Or.inl ⟨by rfl, ?_⟩) (by assumption) ?_
          rotate_left 1
          · intro w hSw
            go_simp
            try with_reducible rfl
          try simp only [Act.put, List.getElem_toArray, List.getElem_cons_zero, List.getElem_cons_succ, List.setIfInBounds_toArray, List.set_cons_zero, List.set_cons_succ]
          refine wpAnyH_take (i := 17) (v := ?_) rfl (by kernel_rfl) (by kernel_rfl) (by kernel_rfl) (fun _ _ _ h => h) (Or.inl ⟨by rfl, ?_⟩) (by assumption) ?_
          rotate_left 1
          · intro w hSw
            go_simp
            try with_reducible rfl
          try simp only [Act.put, List.getElem_toArray, List.getElem_cons_zero, List.getElem_cons_succ, List.setIfInBounds_toArray, List.set_cons_zero, List.set_cons_succ]
          refine wpAnyH_take (i := 18) (v := ?_) rfl (by kernel_rfl) (by kernel_rfl) (by kernel_rfl) (fun _ _ _ h => h) (Or.inl ⟨by rfl, ?_⟩) (by assumption) ?_
          rotate_left 1
          · intro w hSw
            obtain ⟨e1, e2⟩ := hSw
            go_simp
            try with_reducible rfl
          try simp only [Act.put, List.getElem_toArray, List.getElem_cons_zero, List.getElem_cons_succ, List.setIfInBounds_toArray, List.set_cons_zero, List.set_cons_succ]
          refine wpAnyH_take (i := 19) (v := ?_) rfl (by kernel_rfl) (by kernel_rfl) (by kernel_rfl) (fun _ _ _ h => h) (Or.inl ⟨by rfl, ?_⟩) (by assumption) ?_
          rotate_left 1
          · intro w hSw
            go_simp
            try with_reducible rfl
          try simp only [Act.put, List.getElem_toArray, List.getElem_cons_zero, List.getElem_cons_succ, List.setIfInBounds_toArray, List.set_cons_zero, List.set_cons_succ]
          refine wpAnyH_take (i := 20) (v := ?_) rfl (by kernel_rfl) (by kernel_rfl) (by kernel_rfl) (fun _ _ _ h => h) (Or.inl ⟨by rfl, ?_⟩) (by assumption) ?_
          rotate_left 1
          · intro w hSw
            obtain ⟨e1, e2⟩ := hSw
            go_simp
            try with_reducible rfl
          try simp only [Act.put, List.getElem_toArray, List.getElem_cons_zero, List.getElem_cons_succ, List.setIfInBounds_toArray, List.set_cons_zero, List.set_cons_succ]
          refine wpAnyH_take (i := 21) (v := ?_) rfl (by kernel_rfl) (by kernel_rfl) (by kernel_rfl) (fun _ _ _ h => h) (Or.inl ⟨by rfl, ?_⟩) (by assumption) ?_
          rotate_left 1
          · intro w hSw
            go_simp
            try with_reducible rfl
          try simp only [Act.put, List.getElem_toArray, List.getElem_cons_zero, List.getElem_cons_succ, List.setIfInBounds_toArray, List.set_cons_zero, List.set_cons_succ]
          refine wpAnyH_take (i := 22) (v := ?_) rfl (by kernel_rfl) (by kernel_rfl) (by kernel_rfl) (fun _ _ _ h => h) (Or.inl ⟨by rfl, ?_⟩) (by assumption) ?_
          rotate_left 1
          · intro w hSw
            go_simp
            try with_reducible rfl
          try simp only [Act.put, List.getElem_toArray, List.getElem_cons_zero, List.getElem_cons_succ, List.setIfInBounds_toArray, List.set_cons_zero, List.set_cons_succ]
          refine wpAnyH_ready (rs := [1]) (by kernel_rfl) (by simp) ?_
          refine AllReadyH.cons rfl (fun K hK => ?_) AllReadyH.nil
          go_simp
          refine (rturned_int _ _ (by decide) (by decide) _).mono ?_
          rintro e w' ⟨rfl, hk'⟩
          replace HB := hid_of (HB.out.trans hk')
          clear hk'
          refine hK.out _ _ ⟨HB.out.cell HD1.out (fun f => f), HB.out.cell HD2.out (fun f => f)⟩ (fun hHeld => ?_)
          clear hK K
          try simp only [Act.put, List.getElem_toArray, List.getElem_cons_zero, List.getElem_cons_succ, List.setIfInBounds_toArray, List.set_cons_zero, List.set_cons_succ]
          refine wpAnyH_ready (rs := [3]) (by kernel_rfl) (by simp) ?_
          refine AllReadyH.cons rfl (fun K hK => ?_) AllReadyH.nil
          go_simp
          refine (rturned_int _ _ (by decide) (by decide) _).mono ?_
          rintro e w' ⟨rfl, hk'⟩
          replace HB := hid_of (HB.out.trans hk')
          clear hk'
          refine hK.out _ _ ⟨HB.out.cell HD1.out (fun f => f), HB.out.cell HD2.out (fun f => f)⟩ (fun hHeld => ?_)
          clear hK K
          try simp only [Act.put, List.getElem_toArray, List.getElem_cons_zero, List.getElem_cons_succ, List.setIfInBounds_toArray, List.set_cons_zero, List.set_cons_succ]
          refine wpAnyH_take (i := 4) (v := ?_) rfl (by kernel_rfl) (by kernel_rfl) (by kernel_rfl) (fun _ _ _ h => h) (Or.inl ⟨by rfl, ?_⟩) (by assumption) ?_
          rotate_left 1
          · intro w hSw
            go_simp
            try with_reducible rfl
          try simp only [Act.put, List.getElem_toArray, List.getElem_cons_zero, List.getElem_cons_succ, List.setIfInBounds_toArray, List.set_cons_zero, List.set_cons_succ]
          refine wpAnyH_ready (rs := [6]) (by kernel_rfl) (by simp) ?_
          refine AllReadyH.cons rfl (fun K hK => ?_) AllReadyH.nil
          go_simp
          refine (rturned_int _ _ (by decide) (by decide) _).mono ?_
          rintro e w' ⟨rfl, hk'⟩
          replace HB := hid_of (HB.out.trans hk')
          clear hk'
          refine hK.out _ _ ⟨HB.out.cell HD1.out (fun f => f), HB.out.cell HD2.out (fun f => f)⟩ (fun hHeld => ?_)
          clear hK K
          try simp only [Act.put, List.getElem_toArray, List.getElem_cons_zero, List.getElem_cons_succ, List.setIfInBounds_toArray, List.set_cons_zero, List.set_cons_succ]
          refine wpAnyH_take (i := 7) (v := ?_) rfl (by kernel_rfl) (by kernel_rfl) (by kernel_rfl) (fun _ _ _ h => h) (Or.inl ⟨by rfl, ?_⟩) (by assumption) ?_
          rotate_left 1
          · intro w hSw
            go_simp
            try with_reducible rfl
          try simp only [Act.put, List.getElem_toArray, List.getElem_cons_zero, List.getElem_cons_succ, List.setIfInBounds_toArray, List.set_cons_zero, List.set_cons_succ]
          refine wpAnyH_take (i := 23) (v := ?_) rfl (by kernel_rfl) (by kernel_rfl) (by kernel_rfl) (fun _ _ _ h => h) (Or.inl ⟨by rfl, ?_⟩) (by assumption) ?_
          rotate_left 1
          · intro w hSw
            go_simp
            try with_reducible rfl
          try simp only [Act.put, List.getElem_toArray, List.getElem_cons_zero, List.getElem_cons_succ, List.setIfInBounds_toArray, List.set_cons_zero, List.set_cons_succ]
          refine wpAnyH_take (i := 24) (v := ?_) rfl (by kernel_rfl) (by kernel_rfl) (by kernel_rfl) (fun _ _ _ h => h) (Or.inl ⟨by rfl, ?_⟩) (by assumption) ?_
          rotate_left 1
          · intro w hSw
            go_simp
            try with_reducible rfl
          try simp only [Act.put, List.getElem_toArray, List.getElem_cons_zero, List.getElem_cons_succ, List.setIfInBounds_toArray, List.set_cons_zero, List.set_cons_succ]
          refine wpAnyH_done (by kernel_rfl) ?_ _
          have hqw : IntKind.u32.wrap (bits .xor .u32 (bits .xor .u32 (ror st.a 2) (ror st.a 13)) (ror st.a 22) + bits .xor .u32 (bits .xor .u32 (bits .and .u32 st.a st.b) (bits .and .u32 st.a st.c)) (bits .and .u32 st.b st.c)) = qw st := by
            simp only [IntKind.wrap_u32']
            rfl
          rw [hqw]
          clear hqw
          generalize qw st = qv at *
          have HB17 := hid_of HB.out
          clear HB HB16
          try clear hHeld
          have c1 := HB17.out.cell HD1.out (fun f => f)
          have c2 := HB17.out.cell HD2.out (fun f => f)
          have c3 := HB17.out.cell HD3.out (fun f => f)
          have c5 := HB17.out.cell HD5.out (fun f => f)
          have c6 := HB17.out.cell HD6.out (fun f => f)
          have hVV := (HB17.out.block _ (heap_lt HV.out) (fun f => f)).trans HV.out
          have hsn := HS47.out (.int .u32 ((pv + qv) % 4294967296)) (.int .u32 st.a) (.int .u32 st.b) (.int .u32 st.c) (.int .u32 ((st.d + pv) % 4294967296)) (.int .u32 st.e) (.int .u32 st.f) (.int .u32 st.g)
          have hon : #[Value.int .u32 ((pv + qv) % 4294967296), .int .u32 st.a, .int .u32 st.b, .int .u32 st.c, .int .u32 ((st.d + pv) % 4294967296), .int .u32 st.e, .int .u32 st.f, .int .u32 st.g].all (·.oneCell') = true := oneCells .u32 [(pv + qv) % 4294967296, st.a, st.b, st.c, (st.d + pv) % 4294967296, st.e, st.f, st.g]
          clear HD7 HD5 HD6 HD1 HD2 HD3 HCW HRR
          go_wp2_with (refine wpList_store_row rfl 87 _ _ rfl gv #[.int .u32 ((pv + qv) % 4294967296), .int .u32 st.a, .int .u32 st.b, .int .u32 st.c, .int .u32 ((st.d + pv) % 4294967296), .int .u32 st.e, .int .u32 st.f, .int .u32 st.g] rfl rfl 87 _ hVV hsn rfl hon ?_)
          go_roundw
          case rel =>
            refine ⟨k + 1, by omega, by go_num, ?_, ?_⟩
            · rw [HRE.out, HST.out]
              exact setRow_heap _ gv _ _ 87 (0, 0) hVV
            · exact (HK.out.step HB17.out (fun _ _ f => f.elim)).setRow (.inr rfl) _
          case measure => simp [intOf]; omega
        · obtain rfl : k = 64 := by omega
          obtain ⟨sf, HSF⟩ : ∃ sf : Nat → Int, Hid (∀ j, sf j = s.list.getD j 0) := ⟨_, fun _ => rfl⟩
          obtain ⟨vf, HVF⟩ : ∃ vf : Nat → Int, Hid (∀ j, vf j = (r 64).list.getD j 0) := ⟨_, fun _ => rfl⟩
          have HSr : Hid (Row wr w.heap.size 87 .u32 8 8 (mixf sf vf 0)) := by
            refine ⟨cs, (hK.block _ (heap_lt HSB.out) (by show ¬ (w.heap.size = gv); have := HGV.out.1; omega)).trans HSB.out, HC8.out.symm, fun j hj => ?_⟩
            rw [mix_ge _ _ _ _ (by omega), HSF.out, ← HCS.out]
            exact list_at s j hj
          have HVr : Hid (Row wr gv 87 .u32 8 8 vf) := ⟨_, hV, rfl, fun j hj => by rw [HVF.out]; exact list_at (r 64) j hj⟩
          have HOr : Hid (Row wr (w.heap.size + 1) 87 .u32 8 0 (fun _ => 0)) := HOA.out.kept hK (by show ¬ (w.heap.size + 1 = gv); have := HGV.out.1; omega)
          have HKr : Hid (Kept (fun _ => False) w wr) := HKW.out.step hK (fun i hi e => by have := HGV.out.1; omega)
          have hgv1 := HGV.out.1
          clear hV hK HWA HOA HSB HKW HKA HGV
          go_wp2_with fail
          generalize Value.int IntKind.i64 ((64 : Nat) : Int) = d10
          go_loopw [15] (fun i wr => ∃ k : Nat, k ≤ 8 ∧ i = .int .i64 k ∧ Row wr w.heap.size 87 .u32 8 8 (mixf sf vf k) ∧ Row wr gv 87 .u32 8 8 vf ∧ Row wr (w.heap.size + 1) 87 .u32 8 0 (fun _ => 0) ∧ Kept (fun _ => False) w wr) (fun i _ => 8 - (intOf i).toNat)
          case atStart => exact ⟨0, by omega, rfl, HSr.out, HVr.out, HOr.out, HKr.out⟩
          case round =>
            clear HSr HVr HOr HKr
            obtain ⟨k, hk, rfl, hS, hV, hO, hK⟩ := hrel
            by_cases hlt : k < 8
            · have hkI : (k : Int) < 8 := by omega
              have HCV := hid_of (hV.cell (k := k) hlt)
              have hcs := hS.cell (k := k) hlt
              rw [mix_ge _ _ _ _ (by omega)] at hcs
              have hfs := (hS.there (k := k) hlt).2
              have hcd : wr.drew.cell? ⟨w.heap.size, k, none⟩ = some (.int .u32 (sf k)) := hcs
              have hfd : wr.drew.frozen? ⟨w.heap.size, k, none⟩ = false := hfs
              have H0 : Hid (∀ x, x = add (sf k) (vf k) → Row (wr.drew.setCell ⟨w.heap.size, k, none⟩ (.int .u32 x)) w.heap.size 87 .u32 8 8 (mixf sf vf (k + 1))) := fun x hx => (show Row wr.drew _ _ _ _ _ _ from hS).set hlt _ (by rw [mix_lt _ _ _ _ (by omega)]; exact hx.symm) (fun j hj hne => ⟨hj, by
                by_cases h : j < k
                · rw [mix_lt _ _ _ _ (by omega), mix_lt _ _ _ _ h]
                · rw [mix_ge _ _ _ _ (by omega), mix_ge _ _ _ _ h]⟩)
              have H1 : Hid (∀ x, Row (wr.drew.setCell ⟨w.heap.size, k, none⟩ x) gv 87 .u32 8 8 vf) := fun x => (show Row wr.drew _ _ _ _ _ _ from hV).other _ _ (by show _ ≠ w.heap.size; omega)
              have H2 : Hid (∀ x, Row (wr.drew.setCell ⟨w.heap.size, k, none⟩ x) (w.heap.size + 1) 87 .u32 8 0 (fun _ => 0)) := fun x => (show Row wr.drew _ _ _ _ _ _ from hO).other _ _ (by show _ ≠ w.heap.size; omega)
              have H3 : Hid (∀ x, Kept (fun _ => False) w (wr.drew.setCell ⟨w.heap.size, k, none⟩ x)) := fun x => hK.drew.setCell (.inl (Nat.le_refl _)) _
              clear hS hV hO hK hcs hfs
              generalize sf k = x0 at *
              generalize vf k = y0 at *
              go_wp2
              refine wp_region_held_drew (S := fun w' => w'.cell? ⟨gv, k, none⟩ = some (.int .u32 y0)) (by kernel_rfl) (show wr.drew.cell? _ = _ from HCV.out) (fun hHeld => ?_)
              refine wpAnyH_take (i := 0) (v := ?_) rfl (by kernel_rfl) (by kernel_rfl) (by kernel_rfl) (fun _ _ _ h => h) (Or.inl ⟨by rfl, ?_⟩) (by assumption) ?_
              rotate_left 1
              · intro w hSw
                go_simp
                try with_reducible rfl
              try simp only [Act.put, List.getElem_toArray, List.getElem_cons_zero, List.getElem_cons_succ, List.setIfInBounds_toArray, List.set_cons_zero, List.set_cons_succ]
              refine wpAnyH_take (i := 1) (v := ?_) rfl (by kernel_rfl) (by kernel_rfl) (by kernel_rfl) (fun _ _ _ h => h) (Or.inl ⟨by rfl, ?_⟩) (by assumption) ?_
              rotate_left 1
              · intro w hSw
                go_simp
                try with_reducible rfl
              try simp only [Act.put, List.getElem_toArray, List.getElem_cons_zero, List.getElem_cons_succ, List.setIfInBounds_toArray, List.set_cons_zero, List.set_cons_succ]
              refine wpAnyH_take (i := 2) (v := ?_) rfl (by kernel_rfl) (by kernel_rfl) (by kernel_rfl) (fun _ _ _ h => h) (Or.inl ⟨by rfl, ?_⟩) (by assumption) ?_
              rotate_left 1
              · intro w hSw
                go_simp
                try with_reducible rfl
              try simp only [Act.put, List.getElem_toArray, List.getElem_cons_zero, List.getElem_cons_succ, List.setIfInBounds_toArray, List.set_cons_zero, List.set_cons_succ]
              refine wpAnyH_take (i := 4) (v := ?_) rfl (by kernel_rfl) (by kernel_rfl) (by kernel_rfl) (fun _ _ _ h => h) (Or.inl ⟨by rfl, ?_⟩) (by assumption) ?_
              rotate_left 1
              · intro w hSw
                go_simp
                try with_reducible rfl
              try simp only [Act.put, List.getElem_toArray, List.getElem_cons_zero, List.getElem_cons_succ, List.setIfInBounds_toArray, List.set_cons_zero, List.set_cons_succ]
              refine wpAnyH_take (i := 5) (v := ?_) rfl (by kernel_rfl) (by kernel_rfl) (by kernel_rfl) (fun _ _ _ h => h) (Or.inl ⟨by rfl, ?_⟩) (by assumption) ?_
              rotate_left 1
              · intro w hSw
                go_simp
                try with_reducible rfl
              try simp only [Act.put, List.getElem_toArray, List.getElem_cons_zero, List.getElem_cons_succ, List.setIfInBounds_toArray, List.set_cons_zero, List.set_cons_succ]
              refine wpAnyH_take (i := 6) (v := ?_) rfl (by kernel_rfl) (by kernel_rfl) (by kernel_rfl) (fun _ _ _ h => h) (Or.inl ⟨by rfl, ?_⟩) (by assumption) ?_
              rotate_left 1
              · intro w hSw
                go_simp
                try with_reducible rfl
              try simp only [Act.put, List.getElem_toArray, List.getElem_cons_zero, List.getElem_cons_succ, List.setIfInBounds_toArray, List.set_cons_zero, List.set_cons_succ]
              refine wpAnyH_ready (rs := [3]) (by kernel_rfl) (by simp) ?_
              refine AllReadyH.cons rfl (fun K hK => ?_) AllReadyH.nil
              go_simp
              refine hK.out _ _ (show wr.drew.cell? _ = _ from HCV.out) (fun hHeld => ?_)
              clear hK K
              try simp only [Act.put, List.getElem_toArray, List.getElem_cons_zero, List.getElem_cons_succ, List.setIfInBounds_toArray, List.set_cons_zero, List.set_cons_succ]
              refine wpAnyH_take (i := 7) (v := ?_) rfl (by kernel_rfl) (by kernel_rfl) (by kernel_rfl) (fun _ _ _ h => h) (Or.inl ⟨by rfl, ?_⟩) (by assumption) ?_
              rotate_left 1
              · intro w hSw
                go_simp
                try with_reducible rfl
              try simp only [Act.put, List.getElem_toArray, List.getElem_cons_zero, List.getElem_cons_succ, List.setIfInBounds_toArray, List.set_cons_zero, List.set_cons_succ]
              refine wpAnyH_take (i := 8) (v := ?_) rfl (by kernel_rfl) (by kernel_rfl) (by kernel_rfl) (fun _ _ _ h => h) (Or.inl ⟨by rfl, ?_⟩) (by assumption) ?_
              rotate_left 1
              · intro w hSw
                go_simp
                try with_reducible rfl
              try simp only [Act.put, List.getElem_toArray, List.getElem_cons_zero, List.getElem_cons_succ, List.setIfInBounds_toArray, List.set_cons_zero, List.set_cons_succ]
              refine wpAnyH_ready (rs := [9]) (by kernel_rfl) (by simp) ?_
              refine AllReadyH.cons rfl (fun K hK => ?_) AllReadyH.nil
              go_simp
              refine hK.out _ _ ((World.cell?_of_block (w := wr.drew) ((kept_set wr.drew ⟨w.heap.size, k, none⟩ _).block gv (by have := World.block_lt_of_cell? wr _ HCV.out; exact this) (by show gv ≠ w.heap.size; omega))).trans HCV.out) (fun hHeld => ?_)
              clear hK K
              try simp only [Act.put, List.getElem_toArray, List.getElem_cons_zero, List.getElem_cons_succ, List.setIfInBounds_toArray, List.set_cons_zero, List.set_cons_succ]
              refine wpAnyH_done (by kernel_rfl) ?_ _
              clear hcd hfd hHeld
              go_wp2
              go_roundw
              case rel => exact ⟨k + 1, by omega, by go_num, H0.out _ (by first | rfl | (rw [IntKind.wrap_u32']; rfl)), H1.out _, H2.out _, H3.out _⟩
              case measure => simp [intOf]; omega
            · obtain rfl : k = 8 := by omega
              obtain ⟨cur, hB, hsz, hcur⟩ := hS
              have hts : turn s bs = s.add (r 64) := HTURN.out
              obtain rfl := row_list (l := (turn s bs).list) hsz rfl (fun j hj => by
                rw [hcur j hj, mix_lt _ _ _ _ hj, HSF.out, HVF.out, hts, add_at s (r 64) j hj])
              obtain ⟨old, hOl, hosz, _⟩ := hO
              have h2 := oneCells .u32 (turn s bs).list
              have hst : (Tryd.prog.info? 87).map (·.size) = some ((turn s bs).list.map (Value.int .u32)).toArray.size := size47
              have hos : old.size = ((turn s bs).list.map (Value.int .u32)).toArray.size := hosz
              have HKR : Hid (Kept (fun _ => False) w (wr.setRow (w.heap.size + 1) ((turn s bs).list.map (Value.int .u32)).toArray)) := hK.setRow (.inl (by omega)) _
              have HRR := hid_of (setRow_heap wr (w.heap.size + 1) old ((turn s bs).list.map (Value.int .u32)).toArray 87 (0, 0) hOl)
              clear hcur hsz hosz hK hV hts HTURN HRN HR0
              have HRES : Hid ((turn s bs).val = .agg ((turn s bs).list.map (Value.int .u32)).toArray) := rfl
              generalize hcc : ((turn s bs).list.map (Value.int .u32)).toArray = cc at *
              clear hcc
              go_wp2_with (first | refine wpList_load_row rfl 87 _ rfl w.heap.size rfl 87 cc (0, 0) _ hB Tryd.underlying87 rfl hst ?_ | refine wpList_store_row rfl 87 _ _ rfl (w.heap.size + 1) cc rfl rfl 87 old hOl hst hos h2 ?_)
              refine bodyPost_ret (v := .agg cc) ?_ rfl ⟨by rw [HRES.out], HKR.out⟩
              exact results_cell_row (by rfl) _ _ (w.heap.size + 1) 87 cc (0, 0) _ (by rfl) HRR.out Tryd.underlying87 rfl hst
end Go.Proofs.YtjdbmjkidljhpaaDoor
