import Derived.Test.YtpfmhibdmehlcaaGreatDoorTOx11
import Derived.Test.YtpfmhibdmehlcaaGreatDoorTOx8
import Derived.Lib.ConvBytes
import Derived.Laws.Closers25
import Derived.Laws.Closers25b
import Derived.Lib.Hide
namespace Go.Proofs.YtpfmhibdmehlcaaGreatDoor
open Go.RowKit Go.Shelf
set_option linter.unusedVariables false
set_option linter.unusedSimpArgs false
set_option maxRecDepth 100000
set_option maxRecDepth 1000000 in
set_option maxHeartbeats 2000000 in
theorem irune_four (r : Nat) (h1 : 128 ≤ r) (h2 : r ≠ 65533) (hv : Lib.validRune (r : Int) = true) (b c d f : UInt8) (hE : Utf8.encode (r : Int) = ⟨#[b, c, d, f]⟩) (hc : 128 ≤ f.toNat) (w : World) :
  Calls Tryz.prog 123 #[.string hexS, .int .i32 r] w fun e w' => e = .returned (.int .i64 (-1)) ∧ Kept (fun _ => False) w w' := by
 have HV := hid_of (fun w => Any.utf8_ValidRune Tryz.lays119 (r : Int) w)
 rw [hv] at HV
 have HI : Hid (∀ w, Calls Tryz.prog 152 #[.string ⟨#[52, 53, 54, 55, 56, 57, 97, 98, 99, 100, 101, 102]⟩, .int .u8 f.toNat] w fun e w' => e = .returned (.int .i64 (-1)) ∧ w' = w) := fun w => by
  have h := Any.strings_IndexByte Tryz.lays137 ⟨#[52, 53, 54, 55, 56, 57, 97, 98, 99, 100, 101, 102]⟩ (f.toNat : Int) w
  have e := hex_rest4 f hc
  simp only [Int.toNat_natCast] at h
  rw [show (f.toNat.toUInt8) = f by simp] at h
  rw [show (Lib.indexByte (ByteArray.mk #[52, 53, 54, 55, 56, 57, 97, 98, 99, 100, 101, 102]).data.toList f : Int) = -1 from e] at h
  exact h
 have e1 : ((r : Int) == 65533) = false := by rw [beq_eq_false_iff_ne]; omega
 have e2 : ((51 : Int) == (f.toNat : Int)) = false := by rw [beq_eq_false_iff_ne]; omega
 have g1 : (hexS[3]'(by decide)) = (51 : UInt8) := rfl
 have g2 : ((⟨#[b, c, d, f]⟩ : ByteArray)[3]'(show 3 < 4 by omega)) = f := rfl
 clear hv hc
 go_enter Tryz.func123, Tryz.ntmps123
 go_wp2_with fail
 refine (HV.out _).mono ?_
 rintro e w1 ⟨rfl, rfl⟩
 clear HV
 go_wp2
 refine wp_scope_straight ?_
 go_wp2
 go_loopw [9] (fun i wr => i = .int .i64 3 ∧ wr = w1) (fun _ _ => 0)
 case atStart => exact ⟨rfl, rfl⟩
 case round =>
  obtain ⟨rfl, rfl⟩ := hrel
  go_wp2
  refine wp_scope_straight ?_
  go_wp2
  go_quiet (fail)
  go_wp2
  go_quiet (first | (go_at_call 152; exact (HI.out _).mono (fun _ _ h => ⟨h.1, _, h.2⟩)))
  go_wp2
  repeat rw [Exit.noGoto_ret]
  refine body_end136 (R := fun e w' => e = .returned (.int .i64 (-1)) ∧ Kept (fun _ => False) wr w') rfl ?_
  exact ⟨rfl, by first | exact kept_drewN (Kept.refl _ _) _ | exact kept_drewN (kept_drewN (Kept.refl _ _) _) _⟩
theorem hex_next (wr : World) (k pos : Nat) (ty : TypeId) (hk : wr.heap[k]? = some (.stringIter hexS pos)) (hp : pos < 16) :
  (Instr.next (.pointer (some ⟨k, 0, none⟩)) true ty).run Tryz.prog wr = .ok (.tuple #[.bool true, .int .i64 pos, .int .i32 ((hexS[pos]!).toNat : Int)]) (wr.iterAt k hexS (pos + 1)) := by
 have h := Lib.run_next_any_at (P := Tryz.prog) wr k hexS pos ty hk hp
 rw [h]
 match pos, hp with
 | 0, _ => rfl
 | 1, _ => rfl
 | 2, _ => rfl
 | 3, _ => rfl
 | 4, _ => rfl
 | 5, _ => rfl
 | 6, _ => rfl
 | 7, _ => rfl
 | 8, _ => rfl
 | 9, _ => rfl
 | 10, _ => rfl
 | 11, _ => rfl
 | 12, _ => rfl
 | 13, _ => rfl
 | 14, _ => rfl
 | 15, _ => rfl
 | n + 16, hq => exact absurd hq (by omega)
theorem hex_not : ∀ pos : Nat, pos < 16 → (((hexS[pos]!).toNat : Int) == 65533) = false := by decide
set_option maxRecDepth 1000000 in
set_option maxHeartbeats 2000000 in
theorem irune_err (w : World) :
  Calls Tryz.prog 123 #[.string hexS, .int .i32 65533] w fun e w' => e = .returned (.int .i64 (-1)) ∧ Kept (fun _ => False) w w' := by
 go_enter Tryz.func123, Tryz.ntmps123
 go_wp2
 go_loopw [5, 6] (fun _ _ wr => ∃ pos : Nat, wr.heap[w.heap.size]? = some (.stringIter hexS pos) ∧ Kept (fun _ => False) w wr ∧ pos ≤ 16) (fun _ _ wr => 16 - wr.iterPos w.heap.size)
 case atStart => exact ⟨0, World.iter_heap w _ 0, (Kept.refl _ w).alloc _, by omega⟩
 case round =>
  obtain ⟨pos, hit, hkept, hp⟩ := hrel
  have HK := hid_of hkept
  have HI := hid_of hit
  clear hkept
  have hip : wr.iterPos w.heap.size = pos := by rw [World.iterPos, HI.out]
  by_cases hlt : pos < 16
  ·have hnx := fun ty => hex_next wr w.heap.size pos ty hit hlt
   have GI : Hid ((wr.iterAt w.heap.size hexS (pos + 1)).heap[w.heap.size]? = some (.stringIter hexS (pos + 1))) := Lib.iterAt_heap wr _ _ pos _ HI.out
   have GK := hid_of (HK.out.step (S := fun _ => False) (T := fun i => i = w.heap.size) ⟨rfl, rfl, rfl, by simp [World.iterAt], fun i _ hn => by
    show (wr.heap.setIfInBounds w.heap.size _)[i]? = _
    rw [Array.getElem?_setIfInBounds_ne (fun e => hn e.symm)]⟩ (fun i hi e => absurd hi (by omega)) : Kept (fun _ => False) w (wr.iterAt w.heap.size hexS (pos + 1)))
   have hr := hex_not pos hlt
   generalize ((hexS[pos]!).toNat : Int) = rn at *
   have e1 : (wr.iterAt w.heap.size hexS (pos + 1)).iterPos w.heap.size = pos + 1 := by rw [World.iterPos, GI.out]
   go_wp2
   refine ⟨⟨pos + 1, GI.out, GK.out, by omega⟩, ?_⟩
   rw [e1, hip]
   omega
  ·have hnx := fun ty => Lib.run_next_end_at (P := Tryz.prog) wr w.heap.size hexS pos ty hit hlt
   go_wp2
   go_ret
   exact ⟨rfl, HK.out⟩
theorem iruneG (r : Int) (h0 : 0 ≤ r) (w : World) : Calls Tryz.prog 123 #[.string hexS, .int .i32 r] w fun e w' => e = .returned (.int .i64 (hexP r)) ∧ Kept (fun _ => False) w w' := by
 obtain ⟨n, rfl⟩ := Int.eq_ofNat_of_zero_le h0
 by_cases h1 : n < 128
 ·have h := Any.strings_IndexRune_ascii Tryz.lays152 hexS (n : Int) w (by omega) (by omega)
  rw [Int.toNat_natCast, hex_ascii n h1] at h
  exact h.mono fun e w' hh => ⟨hh.1, by rw [hh.2]; exact Kept.refl _ _⟩
 have h1' : 128 ≤ n := by omega
 have e : hexP (n : Int) = -1 := by
  unfold hexP
  rw [if_neg (by omega), if_neg (by omega)]
 rw [e]
 by_cases he : n = 65533
 ·subst he
  exact irune_err w
 cases hv : Lib.validRune (n : Int) with
 | false => exact irune_bad n h1' he hv w
 | true =>
  rcases enc_high n h1' with ⟨b, c, hE, hc⟩ | ⟨b, c, d, hE, hc⟩ | ⟨b, c, d, e, hE, hc⟩
  ·exact irune_two n h1' he hv b c hE hc w
  ·exact irune_three n h1' he hv b c d hE hc w
  ·exact irune_four n h1' he hv b c d e hE hc w
end Go.Proofs.YtpfmhibdmehlcaaGreatDoor
namespace Go.Proofs.YtpfmhibdmehlcaaGreatDoor
open Go.RowKit
set_option linter.unusedVariables false
set_option linter.unusedSimpArgs false
set_option maxRecDepth 100000
theorem hex_lt (r : Int) : hexP r < 16 := by unfold hexP; split; omega; split <;> omega
theorem w8_id (x : Int) (h0 : 0 ≤ x) (h1 : x < 256) : IntKind.wrap .u8 x = x := by simp [IntKind.wrap, IntKind.bits, IntKind.signed]; omega
def byteOf (h n : Int) : Int := 16 * h + n
theorem run_shl4 (w : World) (h : Int) (h0 : 0 ≤ h) (h1 : h < 16) : (Op.shift .shl .i64 h .u64 4).run Tryz.prog w = .ok (.int .i64 (16 * h)) w := by
 obtain ⟨k, rfl⟩ := Int.eq_ofNat_of_zero_le h0
 have : ∀ k : Nat, k < 16 → IntKind.i64.wrap ((k : Int) * 2 ^ 4) = 16 * (k : Int) := by decide
 have e := this k (by omega)
 show (if (4 : Int) < 0 then _ else (pure (.int .i64 (IntKind.i64.wrap ((k : Int) * 2 ^ min (4 : Int).toNat 64))) : Sem Value)).run Tryz.prog w = _
 rw [if_neg (by omega), show min (4 : Int).toNat 64 = 4 from rfl, e]; rfl
theorem or16 (h n : Int) (h0 : 0 ≤ h) (h1 : h < 16) (n0 : 0 ≤ n) (n1 : n < 16) : bits .or .i64 (16 * h) n = byteOf h n := by
 obtain ⟨k, rfl⟩ := Int.eq_ofNat_of_zero_le h0
 obtain ⟨m, rfl⟩ := Int.eq_ofNat_of_zero_le n0
 have : ∀ k : Nat, k < 16 → ∀ m : Nat, m < 16 → bits .or .i64 (16 * (k : Int)) m = byteOf k m := by decide
 exact this k (by omega) m (by omega)
theorem shl16 (h : Int) (h0 : 0 ≤ h) (h1 : h < 16) : IntKind.i64.wrap (h * 16) = 16 * h := by simp [IntKind.wrap, IntKind.bits, IntKind.signed]; omega
def digP (x : CS) (r : Int) : Option CS :=
 if hexP r < 0 then none
 else if x.st = 6 then some ⟨x.ps, 7, x.un, hexP r⟩
 else some ⟨x.ps, 4, x.un ++ [byteOf x.hi (hexP r)], x.hi⟩
variable {I : Nat × ByteArray × Nat}
theorem Cg.setH {w wr : World} {c : Nat} {ps : List Pf} {st : Int} {un : List Int} {hi : Int} (h : Cg I w wr c ps st un hi) (x : Int) : Cg I w (wr.setCell ⟨c, 3, none⟩ (.int .i64 x)) c ps st un x := by
 obtain ⟨pv, uv, h1, h2, h3⟩ := h.ex
 have hs := kept_set wr c 3 (.int .i64 x)
 exact ⟨⟨pv, uv, set_block _ _ 3 _ _ _ h1 _, hs.ownsRow h2 (fun q hq e => own_box2 h2 h1 (by decide) (by rw [hq, e])), hs.ownsRow h3 (fun q hq e => own_box2 h3 h1 (by decide) (by rw [hq, e]))⟩, h.kept.setCell (.inl h.lo) _, h.lo, box_kept hs h.it (box_iter h1 h.it), h.ilo⟩
set_option maxHeartbeats 8000000 in
theorem digitsG (c : Nat) (r : Int) (w wr : World) (x : CS) (h : CgS I w wr c x) (h0 : 0 ≤ r) (hu : x.un.length ≤ 900000) (hst : x.st = 6 ∨ x.st = 7 ∧ 0 ≤ x.hi ∧ x.hi < 16) :
  Calls Tryz.prog 97 #[.pointer (some ⟨c, 0, none⟩), .int .i32 r] wr (StepR I w wr c (digP x r)) := by
 obtain ⟨ps, st, un, hi⟩ := x
 simp only at h hu hst
 have HI := hid_of (iruneG r h0 wr)
 have hn1 := hex_lt r
 by_cases hn : hexP r < 0
 ·have HE : Hid (digP ⟨ps, st, un, hi⟩ r = none) := if_pos hn
  generalize digP ⟨ps, st, un, hi⟩ r = o at *
  generalize hexP r = n at *
  have HH := hid_of h
  clear h hst
  go_enter Tryz.func97, Tryz.ntmps97
  go_wp2_with fail
  refine HI.out.mono ?_
  rintro e w1 ⟨rfl, hk1⟩
  have HK := hid_of hk1
  clear hk1
  go_wp2
  go_ret
  exact .inr ⟨HE.out, rfl, HH.out.kept.trans HK.out⟩
 rcases hst with rfl | ⟨rfl, hh0, hh1⟩
 ·have HE : Hid (digP ⟨ps, 6, un, hi⟩ r = some ⟨ps, 7, un, hexP r⟩) := by show digP _ _ = _; unfold digP; rw [if_neg hn, if_pos rfl]
  generalize digP ⟨ps, 6, un, hi⟩ r = o at *
  generalize hexP r = n at *
  have HH := hid_of h
  clear h
  go_enter Tryz.func97, Tryz.ntmps97
  go_wp2_with fail
  refine HI.out.mono ?_
  rintro e w1 ⟨rfl, hk1⟩
  have h := HH.out.same hk1
  have HS := hid_of ((h.setH n).setS 7)
  obtain ⟨pv, uv, hb0, _⟩ := h.ex
  have q1 := cell_block _ _ 1 _ _ _ hb0
  have f1 := frozen_block _ _ 3 _ _ hb0
  have hb1 := set_block _ _ 3 _ _ _ hb0 (.int .i64 n)
  have q3 := cell_block _ _ 3 _ _ _ hb0
  have q2 := cell_block _ _ 1 _ _ _ hb1
  have f2 := frozen_block _ _ 1 _ _ hb1
  clear hk1 h hb0 hb1
  go_wp2
  go_ret
  exact .inl ⟨_, HE.out, rfl, HS.out⟩
 ·have HE : Hid (digP ⟨ps, 7, un, hi⟩ r = some ⟨ps, 4, un ++ [byteOf hi (hexP r)], hi⟩) := by show digP _ _ = _; unfold digP; rw [if_neg hn, if_neg (show ¬ (7 : Int) = 6 by decide)]
  generalize digP ⟨ps, 7, un, hi⟩ r = o at *
  generalize hexP r = n at *
  have hsh := fun w => run_shl4 w hi hh0 hh1
  have hor := or16 hi n hh0 hh1 (by omega) hn1
  have hs16 := shl16 hi hh0 hh1
  have hbb : 0 ≤ byteOf hi n ∧ byteOf hi n < 256 := by unfold byteOf; omega
  have hw8 : IntKind.wrap .u8 (byteOf hi n) = byteOf hi n := w8_id _ hbb.1 hbb.2
  generalize byteOf hi n = bb at *
  have HH := hid_of h
  clear h
  go_enter Tryz.func97, Tryz.ntmps97
  go_wp2_with fail
  refine HI.out.mono ?_
  rintro e w1 ⟨rfl, hk1⟩
  have h1 := HH.out.same hk1
  have h := h1.same ((Kept.refl (fun _ => False) w1).drew)
  obtain ⟨pv1, uv1, hb1, _⟩ := h1.ex
  have q0 := cell_block _ _ 1 _ _ _ hb1
  clear hk1 HH HI
  go_upto_region 2 with fail
  clear q0 hb1 h1
  obtain ⟨pv, uv, hb, hp, hu'⟩ := h.ex
  refine wp_region_held_drew (S := fun w' => w'.cell? ⟨c, 3, none⟩ = some (.int .i64 hi)) (by kernel_rfl) (cell_block _ _ 3 _ _ _ hb) (fun hHeld => ?_)
  generalize w1.drew = wd at *
  obtain ⟨v', w', hr, ho, hk0, hk1', hn'⟩ := push_byte hu' (.int .u8 bb) rfl h.kept hu
  have hb' := box_kept hk1' hb (fun e => own_box2 hu' hb (by decide) e)
  have hp' := hk1'.ownsRow hp (fun q hq e => own_two hu' hp (by decide) q e hq)
  have hs := kept_set w' c 2 v'
  have HS : Hid (CgS I w ((w'.setCell ⟨c, 2, none⟩ v').setCell ⟨c, 1, none⟩ (.int .i64 4)) c ⟨ps, 4, un ++ [bb], hi⟩) := by
   refine Cg.setS (st := 7) ?_ 4
   refine ⟨⟨pv, v', set_block _ _ 2 _ _ _ hb' _, hs.ownsRow hp' (fun q hq e => own_box2 hp' hb' (by decide) (by rw [hq, e])), ?_⟩, hk0.setCell (.inl h.lo) _, h.lo, box_kept hs (box_kept hk1' h.it (own_iter hu' h.it)) (box_iter hb' (box_kept hk1' h.it (own_iter hu' h.it))), h.ilo⟩
   rw [List.length_append, byts_snoc]
   exact hs.ownsRow ho (fun q hq e => own_box2 ho hb' (by decide) (by rw [hq, e]))
  obtain ⟨a1, c1, hv1⟩ := ownsRow_shape hu'
  obtain ⟨n1, hnn1⟩ := nmd (un.length)
  rw [← hnn1] at hv1
  subst hv1
  have l0 := cell_block _ _ 2 _ _ _ hb
  have HC1 := hid_of (cell_block _ _ 3 _ _ _ hb')
  have HR := hid_of hr
  obtain ⟨a2, c2, hv2⟩ := ownsRow_shape ho
  obtain ⟨n2, hnn2⟩ := nmd (un.length + 1)
  rw [← hnn2] at hv2
  subst hv2
  have HG1 : Hid (w'.cell? ⟨c, 2, none⟩ = some _ ∧ w'.frozen? ⟨c, 2, none⟩ = false) := ⟨cell_block _ _ 2 _ _ _ hb', frozen_block _ _ 2 _ _ hb'⟩
  have hb7 := set_block _ _ 2 _ _ _ hb' (.slice a2 n2 c2)
  have HC2 := hid_of (cell_block _ _ 3 _ _ _ hb7)
  have HQ6 := hid_of (cell_block _ _ 1 _ _ _ hb7)
  have HQ7 := hid_of (frozen_block _ _ 1 _ _ hb7)
  clear hr ho hk0 hn' hp hu' hp' hs hnn1 hnn2 hb hb' hb7 h hu hk1'
  iterate 4
   refine tkn (v := ?_) 0 rfl ?_ ?_; rotate_left 1
   ·intro w hSw; go_simp; try with_reducible rfl
   try simp only [Act.put, tdy]
  iterate 3
   refine tkn (v := ?_) 5 rfl ?_ ?_; rotate_left 1
   ·intro w hSw; go_simp; try with_reducible rfl
   try simp only [Act.put, tdy]
  iterate 1
   refine tkn (v := ?_) 8 rfl ?_ ?_; rotate_left 1
   ·intro w hSw; have s0 : w.cell? ⟨c, 3, none⟩ = some (.int .i64 hi) := hSw; go_simp; try with_reducible rfl
   try simp only [Act.put, tdy]
  iterate 4
   refine tkn (v := ?_) 9 rfl ?_ ?_; rotate_left 1
   ·intro w hSw; go_simp; try with_reducible rfl
   try simp only [Act.put, tdy]
  refine (fun (hfin : ?G) => ?main) ?fin
  case main =>
   refine wpAnyH_ready (rs := [4, 13]) (by kernel_rfl) (by simp) ?_
   refine AllReadyH.cons rfl (fun K hK => ?_) (AllReadyH.cons rfl (fun K hK => ?_) AllReadyH.nil)
   ·have l1 := l0
    go_simp
    refine hK.out _ _ hHeld (fun hHeld => ?_)
    clear hK K
    try simp only [Act.put, tdy]
    clear l1
    refine rdy 13 rfl (fun K hK => ?_)
    go_simp
    refine hK.out _ _ (((Kept.refl (fun _ => False) _).alloc _).cell hHeld id) (fun hHeld => ?_)
    clear hK K
    try simp only [Act.put, tdy]
    refine rdy 14 rfl (fun K hK => ?_)
    refine step_app rfl (.tmp 12) (.tmp 21) 22 22 rfl _ _ rfl rfl (.slice a2 n2 c2) w' HR.out ?_
    refine hK.out _ _ HC1.out (fun hHeld => ?_)
    clear hK K
    try simp only [Act.put, tdy]
    iterate 2
     refine tkn (v := ?_) 15 rfl ?_ ?_; rotate_left 1
     ·intro w hSw; go_simp; try with_reducible rfl
     try simp only [Act.put, tdy]
    obtain ⟨g1, gf1⟩ := HG1.out
    refine rdy 17 rfl (fun K hK => ?_)
    go_simp
    refine hK.out _ _ HC2.out (fun hHeld => ?_)
    clear hK K
    try simp only [Act.put, tdy]
    refine wpAnyH_done (by kernel_rfl) ?_ _
    exact hfin
   ·go_simp
    refine hK.out _ _ (((Kept.refl (fun _ => False) _).alloc _).cell hHeld id) (fun hHeld => ?_)
    clear hK K
    try simp only [Act.put, tdy]
    have l1 : (wd.alloc (.cells #[.int .u8 bb] 5)).cell? ⟨c, 2, none⟩ = some _ := ((Kept.refl (fun _ => False) wd).alloc _).cell l0 id
    refine rdy 4 rfl (fun K hK => ?_)
    go_simp
    refine hK.out _ _ hHeld (fun hHeld => ?_)
    clear hK K
    try simp only [Act.put, tdy]
    clear l1
    refine rdy 14 rfl (fun K hK => ?_)
    refine step_app rfl (.tmp 12) (.tmp 21) 22 22 rfl _ _ rfl rfl (.slice a2 n2 c2) w' HR.out ?_
    refine hK.out _ _ HC1.out (fun hHeld => ?_)
    clear hK K
    try simp only [Act.put, tdy]
    iterate 2
     refine tkn (v := ?_) 15 rfl ?_ ?_; rotate_left 1
     ·intro w hSw; go_simp; try with_reducible rfl
     try simp only [Act.put, tdy]
    obtain ⟨g1, gf1⟩ := HG1.out
    refine rdy 17 rfl (fun K hK => ?_)
    go_simp
    refine hK.out _ _ HC2.out (fun hHeld => ?_)
    clear hK K
    try simp only [Act.put, tdy]
    refine wpAnyH_done (by kernel_rfl) ?_ _
    exact hfin
  have q6 := HQ6.out
  have q7 := HQ7.out
  go_wp2
  go_ret
  exact .inl ⟨_, HE.out, rfl, HS.out⟩
end Go.Proofs.YtpfmhibdmehlcaaGreatDoor
namespace Go.Proofs.YtpfmhibdmehlcaaGreatDoor
open Go.RowKit
set_option linter.unusedVariables false
set_option linter.unusedSimpArgs false
set_option maxRecDepth 100000
def hexOk (bs : List UInt8) : Bool := !bs.isEmpty && decide (bs.length ≤ 16) && bs.all (fun c => decide (0 ≤ hexP c.toNat))
def hexVal (bs : List UInt8) : Int := bs.foldl (fun a c => 16 * a + hexP c.toNat) 0
theorem hexVal_snoc (bs : List UInt8) (c : UInt8) : hexVal (bs ++ [c]) = hexVal bs * 16 + hexP c.toNat := by
 unfold hexVal
 rw [List.foldl_append]
 show 16 * _ + _ = _
 omega
theorem hexVal_lt : ∀ (n : Nat) (bs : List UInt8), bs.length = n → (∀ c ∈ bs, 0 ≤ hexP c.toNat) → 0 ≤ hexVal bs ∧ hexVal bs < 16 ^ n := by
 intro n
 induction n with
 | zero => intro bs h _; rw [List.length_eq_zero_iff.1 h]; exact ⟨by decide, by decide⟩
 | succ n ih =>
  intro bs h hc
  have hne : bs ≠ [] := fun e => by rw [e] at h; simp at h
  have e := List.dropLast_concat_getLast hne
  have h1 := ih bs.dropLast (by rw [List.length_dropLast]; omega) (fun c hm => hc c ((List.dropLast_sublist bs).subset hm))
  have h2 := hc (bs.getLast hne) (List.getLast_mem hne)
  have h3 := hex_lt (bs.getLast hne).toNat
  rw [← e, hexVal_snoc, Int.pow_succ]
  omega
theorem hexOk_iff (bs : List UInt8) (h : hexOk bs = true) : bs ≠ [] ∧ bs.length ≤ 16 ∧ ∀ c ∈ bs, 0 ≤ hexP c.toNat := by
 unfold hexOk at h
 simp only [Bool.and_eq_true, Bool.not_eq_true', decide_eq_true_eq, List.all_eq_true, List.isEmpty_eq_false_iff] at h
 exact ⟨h.1.1, h.1.2, h.2⟩
theorem lowerG (x : Int) (w : World) : Calls Tryz.prog 169 #[.int .u8 x] w fun e w' => e = .returned (.int .u8 (bits .or .u8 x 32)) ∧ w' = w := by
 go_enter Tryz.func169, Tryz.ntmps169
 go_wp2
 go_ret
 exact ⟨rfl, rfl⟩
theorem lower_t1 : ∀ n : Nat, n < 256 → ¬ (48 ≤ n ∧ n ≤ 57) → 97 ≤ bits .or .u8 n 32 → bits .or .u8 n 32 ≤ 102 → (hexP n < 0 ∨ hexP n = bits .or .u8 n 32 - 87) := by decide +kernel
theorem lower_t2 : ∀ n : Nat, n < 256 → 103 ≤ bits .or .u8 n 32 → hexP n < 0 := by decide +kernel
theorem lower_t3 : ∀ n : Nat, n < 256 → ¬ (48 ≤ n ∧ n ≤ 57) → bits .or .u8 n 32 < 97 ∨ 122 < bits .or .u8 n 32 → hexP n < 0 := by decide +kernel
def UintR (bs : List UInt8) (w : World) (e : Ending) (w' : World) : Prop :=
 ∃ (u : Int) (v : Value), e = .returned (.tuple #[.int .u64 u, v]) ∧ (v = .nilIface ∨ v = .iface 230 (.int .i64 1) ∨ v = .iface 230 (.int .i64 2)) ∧ (hexOk bs = true → u = hexVal bs ∧ v = .nilIface) ∧ Kept (fun _ => False) w w'
set_option maxHeartbeats 32000000 in
set_option maxRecDepth 100000 in
theorem puint16 (t : ByteArray) (hmax : t.size ≤ 9000000) (w : World) :
  Calls Tryz.prog 155 #[.string t, .int .i64 16, .int .i64 64] w (UintR t.data.toList w) := by
 by_cases h0 : t.size = 0
 ·have ht : t = ⟨#[]⟩ := by
   obtain ⟨⟨l⟩⟩ := t
   cases l with
   | nil => rfl
   | cons _ _ => simp [ByteArray.size] at h0
  subst ht
  go_enter Tryz.func155, Tryz.ntmps155
  go_wp2
  go_ret2
  exact ⟨_, _, rfl, .inr (.inr rfl), fun h => absurd h (by decide), Kept.refl _ _⟩
 have hemp : t.toList.isEmpty = false := by
  rw [← decide_eq_emptyBytes]
  exact decide_eq_false (fun h => h0 (by rw [h]; rfl))
 have hcv := Lib.run_convert_string_bytes (P := Tryz.prog) w 9 22 5 t (u := .string) Tryz.underlying9 Tryz.underlying22 Tryz.underlying5
 have hB : ∀ j, j < t.size → (Lib.bytesWorld w 5 t).cell? ⟨w.heap.size, j, none⟩ = some (.int .u8 (t.data.toList.getD j 0).toNat) := fun j hj => Lib.bytesWorld_cell w 5 t j hj
 have HK := hid_of (kept_bytes w t)
 obtain ⟨W1, hW1⟩ := nmd (Lib.bytesWorld w 5 t)
 rw [← hW1] at hcv hB HK
 clear hW1
 obtain ⟨bs, hL⟩ := nmd (t.data.toList)
 have hLn : bs.length = t.size := by rw [hL, Lib.size_eq]
 rw [← hL] at hB ⊢
 clear hL
 have hmv : IntKind.u64.wrap (IntKind.u64.wrap 18446744073709551616 - 1) = 18446744073709551615 := by
  rw [IntKind.wrap_u64, IntKind.wrap_u64]
  decide
 go_enter Tryz.func155, Tryz.ntmps155
 go_wp2
 go_loop [12, 13, 101] (fun vu vn vi => ∃ (k : Nat) (a : Int), vu = .bool false ∧ vn = .int .u64 a ∧ vi = .int .i64 k ∧ k ≤ t.size ∧ Hid (0 ≤ a ∧ a < 18446744073709551616 ∧ (hexOk bs = true → a = hexVal (bs.take k))))
  (fun _ _ vi => t.size - (intOf vi).toNat)
 case atStart => exact ⟨0, 0, rfl, rfl, rfl, by omega, by omega, by omega, fun _ => rfl⟩
 case round =>
  obtain ⟨k, a, rfl, rfl, rfl, hk, hh⟩ := hrel
  obtain ⟨a0, a1, hval⟩ := hh.out
  clear hh
  by_cases hkn : k < t.size
  ·have hc := hB k hkn
   have hget : bs.getD k 0 = bs[k]'(by omega) := by simp [List.getD, List.getElem?_eq_getElem (show k < bs.length by omega)]
   have htk : bs.take (k + 1) = bs.take k ++ [bs[k]'(by omega)] := by rw [List.take_succ_eq_append_getElem]
   have hmem : bs[k]'(by omega) ∈ bs := List.getElem_mem _
   rw [hget] at hc
   generalize bs[k]'(by omega) = c at hc htk hmem
   have hc256 : c.toNat < 256 := c.toNat_lt
   have hgood : hexOk bs = true → 0 ≤ hexP c.toNat ∧ a < 1152921504606846976 := fun hg => by
    obtain ⟨_, h2, h3⟩ := hexOk_iff bs hg
    refine ⟨h3 c hmem, ?_⟩
    rw [hval hg]
    have h4 := (hexVal_lt k (bs.take k) (by rw [List.length_take]; omega) (fun c hm => h3 c (List.mem_of_mem_take hm))).2
    have h5 : (16 : Int) ^ k ≤ 16 ^ 15 := by
     have : (16 : Nat) ^ k ≤ 16 ^ 15 := Nat.pow_le_pow_right (by omega) (by omega)
     exact_mod_cast this
    have h6 : (16 : Int) ^ 15 = 1152921504606846976 := by decide
    omega
   have hnext : hexOk bs = true → hexVal (bs.take (k + 1)) = a * 16 + hexP c.toNat := fun hg => by rw [htk, hexVal_snoc, hval hg]
   clear hB hget htk hmem hval
   by_cases hdig : 48 ≤ c.toNat ∧ c.toNat ≤ 57
   ·have hp : hexP c.toNat = (c.toNat : Int) - 48 := if_pos (by omega)
    rw [hp] at hnext hgood
    clear hp
    obtain ⟨hd0, hd1⟩ := hdig
    generalize c.toNat = cn at *
    obtain ⟨x, hx⟩ : ∃ x : Int, x = cn := ⟨_, rfl⟩
    rw [← hx] at hc hnext hgood
    have x0 : 48 ≤ x := by omega
    have x1 : x ≤ 57 := by omega
    clear hx hd0 hd1 hc256
    by_cases hcut : 1152921504606846976 ≤ a
    ·have HE : Hid (hexOk bs = true → False) := fun hg => by have := (hgood hg).2; omega
     clear hgood hnext
     go_wp2
     go_ret2
     exact ⟨_, _, rfl, .inr (.inl rfl), fun hg => (HE.out hg).elim, HK.out⟩
    ·have HN : Hid (0 ≤ a * 16 + (x - 48) ∧ a * 16 + (x - 48) < 18446744073709551616 ∧ (hexOk bs = true → a * 16 + (x - 48) = hexVal (bs.take (k + 1)))) := ⟨by omega, by omega, fun hg => (hnext hg).symm⟩
     have icut : a < 1152921504606846976 := by omega
     have iov : a * 16 + (x - 48) < 18446744073709551616 := by omega
     clear hcut hgood hnext
     go_wp2
     refine ⟨⟨k + 1, a * 16 + (x - 48), rfl, (by first | rfl | (congr 1; omega)), (by first | rfl | (congr 1; omega)), by omega, HN⟩, by simp [intOf]; omega⟩
   ·by_cases h95 : c.toNat = 95
    ·have HE : Hid (hexOk bs = true → False) := fun hg => by have := (hgood hg).1; rw [h95] at this; exact absurd this (by decide)
     have HLow := hid_of (fun w => lowerG 95 w)
     rw [show bits .or .u8 95 32 = 127 by decide] at HLow
     rw [h95] at hc
     clear hgood hnext hdig h95 hc256
     go_wp2_with (go_at_call 169; refine (HLow.out _).mono ?_; rintro e w' ⟨rfl, rfl⟩)
     all_goals go_ret2
     all_goals exact ⟨_, _, rfl, .inr (.inr rfl), fun hg => (HE.out hg).elim, HK.out⟩
    have t1 := lower_t1 c.toNat hc256 hdig
    have t2 := lower_t2 c.toNat hc256
    have t3 := lower_t3 c.toNat hc256 hdig
    have hb0 := bits_lo_u8 .or (c.toNat : Int) 32
    have hb1 := bits_hi_u8 .or (c.toNat : Int) 32
    have hlow := fun w => lowerG (c.toNat : Int) w
    generalize hexP c.toNat = hp at *
    generalize c.toNat = cn at *
    obtain ⟨x, hx⟩ : ∃ x : Int, x = cn := ⟨_, rfl⟩
    rw [← hx] at hc t1 t2 t3 hb0 hb1 hlow
    have e95 : (x == 95) = false := by rw [beq_eq_false_iff_ne]; omega
    have x0 : ¬ (48 ≤ x ∧ x ≤ 57) := by omega
    have x2 : 0 ≤ x := by omega
    have x3 : x < 256 := by omega
    clear hx hdig hc256 h95
    generalize bits .or .u8 x 32 = L at *
    have HLow := hid_of hlow
    clear hlow
    by_cases hlet : 97 ≤ L ∧ L ≤ 122
    ·obtain ⟨l0, l1⟩ := hlet
     have t1 := t1 l0
     clear t3
     by_cases hbig : 103 ≤ L
     ·have HE : Hid (hexOk bs = true → False) := fun hg => by have := (hgood hg).1; have := t2 hbig; omega
      clear hgood hnext t1 t2
      go_wp2_with (go_at_call 169; refine (HLow.out _).mono ?_; rintro e w' ⟨rfl, rfl⟩)
      all_goals go_ret2
      all_goals exact ⟨_, _, rfl, .inr (.inr rfl), fun hg => (HE.out hg).elim, HK.out⟩
     ·have l2 : L ≤ 102 := by omega
      by_cases hcut : 1152921504606846976 ≤ a
      ·have HE : Hid (hexOk bs = true → False) := fun hg => by have := (hgood hg).2; omega
       clear hgood hnext t1 t2
       go_wp2_with (go_at_call 169; refine (HLow.out _).mono ?_; rintro e w' ⟨rfl, rfl⟩)
       all_goals go_ret2
       all_goals exact ⟨_, _, rfl, .inr (.inl rfl), fun hg => (HE.out hg).elim, HK.out⟩
      ·have HN : Hid (0 ≤ a * 16 + (L - 87) ∧ a * 16 + (L - 87) < 18446744073709551616 ∧ (hexOk bs = true → a * 16 + (L - 87) = hexVal (bs.take (k + 1)))) := ⟨by omega, by omega, fun hg => by
        rw [hnext hg]
        have := (hgood hg).1
        rcases t1 l2 with h | h
        ·omega
        ·rw [h]⟩
       have icut : a < 1152921504606846976 := by omega
       have iov : a * 16 + (L - 87) < 18446744073709551616 := by omega
       clear hcut hgood hnext t1 t2
       go_wp2_with (go_at_call 169; refine (HLow.out _).mono ?_; rintro e w' ⟨rfl, rfl⟩)
       all_goals refine ⟨⟨k + 1, a * 16 + (L - 87), rfl, (by first | rfl | (congr 1; omega)), (by first | rfl | (congr 1; omega)), by omega, HN⟩, by simp [intOf]; omega⟩
    ·have HE : Hid (hexOk bs = true → False) := fun hg => by have := (hgood hg).1; have := t3 (by omega); omega
     clear hgood hnext t1 t2 t3
     go_wp2_with (go_at_call 169; refine (HLow.out _).mono ?_; rintro e w' ⟨rfl, rfl⟩)
     all_goals go_ret2
     all_goals exact ⟨_, _, rfl, .inr (.inr rfl), fun hg => (HE.out hg).elim, HK.out⟩
  ·have hkk : k = t.size := by omega
   subst hkk
   have HE : Hid (hexOk bs = true → a = hexVal bs) := fun hg => by rw [hval hg, ← hLn, List.take_length]
   clear hval
   go_wp2
   go_ret2
   exact ⟨_, _, rfl, .inl rfl, fun hg => ⟨HE.out hg, rfl⟩, HK.out⟩
end Go.Proofs.YtpfmhibdmehlcaaGreatDoor
