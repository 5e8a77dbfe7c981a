import Derived.Test.YtgoabnehdmdikaaGreatDoorTLg8
import Derived.Test.YtgoabnehdmdikaaGreatDoorTLg6
import Derived.Lib.ConvBytes
import Derived.Laws.Closers25
import Derived.Laws.Closers25b
import Derived.Lib.Hide
import Derived.LaidEql
import Derived.Stop.Asserts
import Derived.RowKitTokens
import Derived.Shelf.Strconv.ToError
import Derived.Shelf.Strconv.ToErrorRange
import Derived.Shelf.Strings.SlTrimAscii
import Derived.Shelf.Strconv.ParseIntPublic10
import Derived.Lib.ParseIntB
set_option linter.unusedVariables false
set_option linter.unusedSimpArgs false
set_option maxRecDepth 100000
set_option maxHeartbeats 64000000
namespace Go.Proofs.YtgoabnehdmdikaaGreatDoor
open Go.RowKit Go.Shelf
theorem Zsu (wr : World) (k pos : Nat) (ty : TypeId) (hk : wr.heap[k]? = some (.stringIter Xc pos)) (hp : pos < 16) :
  (Instr.next (.pointer (some ⟨k, 0, none⟩)) true ty).run Tryz.prog wr = .ok (.tuple #[.bool true, .int .i64 pos, .int .i32 ((Xc[pos]!).toNat : Int)]) (wr.iterAt k Xc (pos + 1)) := by
 have h := Lib.run_next_any_at (P := Tryz.prog) wr k Xc pos ty hk hp
 rw [h]
 match pos, hp with
 | 0, _ => rfl
 | 1, _ => rfl
 | 2, _ => rfl
 | 3, _ => rfl
 | 4, _ => rfl
 | 5, _ => rfl
 | 6, _ => rfl
 | 7, _ => rfl
 | 8, _ => rfl
 | 9, _ => rfl
 | 10, _ => rfl
 | 11, _ => rfl
 | 12, _ => rfl
 | 13, _ => rfl
 | 14, _ => rfl
 | 15, _ => rfl
 | n + 16, hq => exact absurd hq (by omega)
theorem Zvc : ∀ pos : Nat, pos < 16 → (((Xc[pos]!).toNat : Int) == 65533) = false := by decide
set_option maxRecDepth 1000000 in
theorem Zqc (w : World) :
  Calls Tryz.prog 136 #[.string Xc, .int .i32 65533] w fun e w' => e = .returned (.int .i64 (-1)) ∧ Kept nF w w' := by
 go_enter Tryz.func136, Tryz.ntmps136
 go_wp2
 go_loopw [5, 6] (fun _ _ wr => ∃ pos : Nat, wr.heap[w.heap.size]? = some (.stringIter Xc pos) ∧ Kept nF w wr ∧ pos ≤ 16) (fun _ _ wr => 16 - wr.iterPos w.heap.size)
 case atStart => exact ⟨0, World.iter_heap w _ 0, (Kept.refl _ w).alloc _, by omega⟩
 case round =>
  obtain ⟨pos, hit, hkept, hp⟩ := hrel
  have HK := Za hkept
  have HI := Za hit
  clear hkept
  have hip : wr.iterPos w.heap.size = pos := by rw [World.iterPos, HI.out]
  by_cases hlt : pos < 16
  ·have hnx := fun ty => Zsu wr w.heap.size pos ty hit hlt
   have GI : Hid ((wr.iterAt w.heap.size Xc (pos + 1)).heap[w.heap.size]? = some (.stringIter Xc (pos + 1))) := Lib.iterAt_heap wr _ _ pos _ HI.out
   have GK := Za (HK.out.step (S := fun _ => False) (T := fun i => i = w.heap.size) ⟨rfl, rfl, rfl, by simp [World.iterAt], fun i _ hn => by
    show (wr.heap.setIfInBounds w.heap.size _)[i]? = _
    rw [Array.getElem?_setIfInBounds_ne (fun e => hn e.symm)]⟩ (fun i hi e => absurd hi (by omega)) : Kept nF w (wr.iterAt w.heap.size Xc (pos + 1)))
   have hr := Zvc pos hlt
   generalize ((Xc[pos]!).toNat : Int) = rn at *
   have e1 : (wr.iterAt w.heap.size Xc (pos + 1)).iterPos w.heap.size = pos + 1 := by rw [World.iterPos, GI.out]
   go_wp2
   refine ⟨⟨pos + 1, GI.out, GK.out, by omega⟩, ?_⟩
   rw [e1, hip]
   omega
  ·have hnx := fun ty => Lib.run_next_end_at (P := Tryz.prog) wr w.heap.size Xc pos ty hit hlt
   go_wp2
   go_ret
   exact ⟨rfl, HK.out⟩
theorem Zwv (r : Int) (h0 : 0 ≤ r) (w : World) : Calls Tryz.prog 136 #[.string Xc, .int .i32 r] w fun e w' => e = .returned (.int .i64 (Zz r)) ∧ Kept nF w w' := by
 obtain ⟨n, rfl⟩ := Int.eq_ofNat_of_zero_le h0
 by_cases h1 : n < 128
 ·have h := Any.strings_IndexRune_ascii Tryz.lays152 Xc (n : Int) w (by omega) (by omega)
  rw [Int.toNat_natCast, Zp6 n h1] at h
  exact h.mono fun e w' hh => ⟨hh.1, by rw [hh.2]; exact Kept.refl _ _⟩
 have h1' : 128 ≤ n := by omega
 have e : Zz (n : Int) = -1 := by
  unfold Zz
  rw [if_neg (by omega), if_neg (by omega)]
 rw [e]
 by_cases he : n = 65533
 ·subst he
  exact Zqc w
 cases hv : Lib.validRune (n : Int) with
 | false => exact Zqa n h1' he hv w
 | true =>
  rcases Zst n h1' with ⟨b, c, hE, hc⟩ | ⟨b, c, d, hE, hc⟩ | ⟨b, c, d, e, hE, hc⟩
  ·exact Zqb n h1' he hv b c hE hc w
  ·exact Zls n h1' he hv b c d hE hc w
  ·exact Znx n h1' he hv b c d e hE hc w
end Go.Proofs.YtgoabnehdmdikaaGreatDoor
namespace Go.Proofs.YtgoabnehdmdikaaGreatDoor
open Go.RowKit
theorem Zeo (r : Int) : Zz r < 16 := by unfold Zz; split; omega; split <;> omega
theorem Zqd (r : Int) : -1 ≤ Zz r := by unfold Zz; split; omega; split <;> omega
theorem Zti (x : Int) (h0 : 0 ≤ x) (h1 : x < 256) : IntKind.wrap .u8 x = x := by simp [IntKind.wrap, IntKind.bits, IntKind.signed]; omega
def Zbq (h n : Int) : Int := 16 * h + n
theorem Zsv (w : World) (h : Int) (h0 : 0 ≤ h) (h1 : h < 16) : (Op.shift .shl .i64 h .u64 4).run Tryz.prog w = .ok (.int .i64 (16 * h)) w := by
 obtain ⟨k, rfl⟩ := Int.eq_ofNat_of_zero_le h0
 have : ∀ k : Nat, k < 16 → IntKind.i64.wrap ((k : Int) * 2 ^ 4) = 16 * (k : Int) := by decide
 have e := this k (by omega)
 show (if (4 : Int) < 0 then _ else (pure (.int .i64 (IntKind.i64.wrap ((k : Int) * 2 ^ min (4 : Int).toNat 64))) : Sem Value)).run Tryz.prog w = _
 rw [if_neg (by omega), show min (4 : Int).toNat 64 = 4 from rfl, e]; rfl
theorem Zyd (h n : Int) (h0 : 0 ≤ h) (h1 : h < 16) (n0 : 0 ≤ n) (n1 : n < 16) : bits .or .i64 (16 * h) n = Zbq h n := by
 obtain ⟨k, rfl⟩ := Int.eq_ofNat_of_zero_le h0
 obtain ⟨m, rfl⟩ := Int.eq_ofNat_of_zero_le n0
 have : ∀ k : Nat, k < 16 → ∀ m : Nat, m < 16 → bits .or .i64 (16 * (k : Int)) m = Zbq k m := by decide
 exact this k (by omega) m (by omega)
theorem Zxj (h : Int) (h0 : 0 ≤ h) (h1 : h < 16) : IntKind.i64.wrap (h * 16) = 16 * h := by simp [IntKind.wrap, IntKind.bits, IntKind.signed]; omega
def Wd (x : CS) (r : Int) : Option CS :=
 if Zz r < 0 then none
 else if x.st = 6 then some ⟨x.ps, 7, x.un, Zz r⟩
 else some ⟨x.ps, 4, x.un ++ [Zbq x.hi (Zz r)], x.hi⟩
variable {I : Nat × ByteArray × Nat}
theorem Cg.setH {w wr : World} {c : Nat} {ps : List Pf} {st : Int} {un : List Int} {hi : Int} (h : Cg I w wr c ps st un hi) (x : Int) : Cg I w (wr.setCell ⟨c, 3, none⟩ (.int .i64 x)) c ps st un x := by
 obtain ⟨pv, uv, h1, h2, h3⟩ := h.ex
 have hs := Zg wr c 3 (.int .i64 x)
 exact ⟨⟨pv, uv, Zf _ _ 3 _ _ _ h1 _, hs.ownsRow h2 (fun q hq e => Zs h2 h1 (by decide) (by rw [hq, e])), hs.ownsRow h3 (fun q hq e => Zs h3 h1 (by decide) (by rw [hq, e]))⟩, h.kept.setCell (.inl h.lo) _, h.lo, Zc hs h.it (Zb1 h1 h.it), h.ilo⟩
theorem Zvd (c : Nat) (r : Int) (w wr : World) (x : CS) (h : CgS I w wr c x) (h0 : 0 ≤ r) (hu : x.un.length ≤ 900000) (hst : x.st = 6 ∨ x.st = 7 ∧ 0 ≤ x.hi ∧ x.hi < 16) :
  Calls Tryz.prog 111 #[.pointer (some ⟨c, 0, none⟩), .int .i32 r] wr (Zhh I w wr c (Wd x r)) := by
 obtain ⟨ps, st, un, hi⟩ := x
 simp only at h hu hst
 have HI := Za (Zwv r h0 wr)
 have hn1 := Zeo r
 by_cases hn : Zz r < 0
 ·have HE : Hid (Wd ⟨ps, st, un, hi⟩ r = none) := if_pos hn
  generalize Wd ⟨ps, st, un, hi⟩ r = o at *
  generalize Zz r = n at *
  have HH := Za h
  clear h hst
  go_enter Tryz.func111, Tryz.ntmps111
  go_wp2_with fail
  refine HI.out.mono ?_
  rintro e w1 ⟨rfl, hk1⟩
  have HK := Za hk1
  clear hk1
  go_wp2
  go_ret
  exact .inr ⟨HE.out, rfl, HH.out.kept.trans HK.out⟩
 rcases hst with rfl | ⟨rfl, hh0, hh1⟩
 ·have HE : Hid (Wd ⟨ps, 6, un, hi⟩ r = some ⟨ps, 7, un, Zz r⟩) := by show Wd _ _ = _; unfold Wd; rw [if_neg hn, if_pos rfl]
  generalize Wd ⟨ps, 6, un, hi⟩ r = o at *
  generalize Zz r = n at *
  have HH := Za h
  clear h
  go_enter Tryz.func111, Tryz.ntmps111
  go_wp2_with fail
  refine HI.out.mono ?_
  rintro e w1 ⟨rfl, hk1⟩
  have h := HH.out.same hk1
  have HS := Za ((h.setH n).setS 7)
  obtain ⟨pv, uv, hb0, _⟩ := h.ex
  have q1 := Zb _ _ 1 _ _ _ hb0
  have f1 := Ze _ _ 3 _ _ hb0
  have hb1 := Zf _ _ 3 _ _ _ hb0 (.int .i64 n)
  have q3 := Zb _ _ 3 _ _ _ hb0
  have q2 := Zb _ _ 1 _ _ _ hb1
  have f2 := Ze _ _ 1 _ _ hb1
  clear hk1 h hb0 hb1
  go_wp2
  go_ret
  exact .inl ⟨_, HE.out, rfl, HS.out⟩
 ·have HE : Hid (Wd ⟨ps, 7, un, hi⟩ r = some ⟨ps, 4, un ++ [Zbq hi (Zz r)], hi⟩) := by show Wd _ _ = _; unfold Wd; rw [if_neg hn, if_neg (show ¬ (7 : Int) = 6 by decide)]
  generalize Wd ⟨ps, 7, un, hi⟩ r = o at *
  generalize Zz r = n at *
  have hsh := fun w => Zsv w hi hh0 hh1
  have hor := Zyd hi n hh0 hh1 (by omega) hn1
  have hs16 := Zxj hi hh0 hh1
  have hbb : 0 ≤ Zbq hi n ∧ Zbq hi n < 256 := by unfold Zbq; omega
  have hw8 : IntKind.wrap .u8 (Zbq hi n) = Zbq hi n := Zti _ hbb.1 hbb.2
  generalize Zbq hi n = bb at *
  have HH := Za h
  clear h
  go_enter Tryz.func111, Tryz.ntmps111
  go_wp2_with fail
  refine HI.out.mono ?_
  rintro e w1 ⟨rfl, hk1⟩
  have h1 := HH.out.same hk1
  have h := h1.same ((Kept.refl nF w1).drew)
  obtain ⟨pv1, uv1, hb1, _⟩ := h1.ex
  have q0 := Zb _ _ 1 _ _ _ hb1
  clear hk1 HH HI
  go_upto_region 2 with fail
  clear q0 hb1 h1
  obtain ⟨pv, uv, hb, hp, hu'⟩ := h.ex
  refine wp_region_held_drew (S := fun w' => w'.cell? ⟨c, 3, none⟩ = some (.int .i64 hi)) (by kernel_rfl) (Zb _ _ 3 _ _ _ hb) (fun qh => ?_)
  generalize w1.drew = wd at *
  obtain ⟨v', w', hr, ho, hk0, hk1', hn'⟩ := Zcn hu' (.int .u8 bb) rfl h.kept hu
  have hb' := Zc hk1' hb (fun e => Zs hu' hb (by decide) e)
  have hp' := hk1'.ownsRow hp (fun q hq e => Zh2 hu' hp (by decide) q e hq)
  have hs := Zg w' c 2 v'
  have HS : Hid (CgS I w ((w'.setCell ⟨c, 2, none⟩ v').setCell ⟨c, 1, none⟩ (.int .i64 4)) c ⟨ps, 4, un ++ [bb], hi⟩) := by
   refine Cg.setS (st := 7) ?_ 4
   refine ⟨⟨pv, v', Zf _ _ 2 _ _ _ hb' _, hs.ownsRow hp' (fun q hq e => Zs hp' hb' (by decide) (by rw [hq, e])), ?_⟩, hk0.setCell (.inl h.lo) _, h.lo, Zc hs (Zc hk1' h.it (Zbn hu' h.it)) (Zb1 hb' (Zc hk1' h.it (Zbn hu' h.it))), h.ilo⟩
   rw [List.length_append, Zdb]
   exact hs.ownsRow ho (fun q hq e => Zs ho hb' (by decide) (by rw [hq, e]))
  obtain ⟨a1, c1, hv1⟩ := Zd hu'
  obtain ⟨n1, hnn1⟩ := nmd (un.length)
  rw [← hnn1] at hv1
  subst hv1
  have l0 := Zb _ _ 2 _ _ _ hb
  have HC1 := Za (Zb _ _ 3 _ _ _ hb')
  have HR := Za hr
  obtain ⟨a2, c2, hv2⟩ := Zd ho
  obtain ⟨n2, hnn2⟩ := nmd (un.length + 1)
  rw [← hnn2] at hv2
  subst hv2
  have HG1 : Hid (w'.cell? ⟨c, 2, none⟩ = some _ ∧ w'.frozen? ⟨c, 2, none⟩ = false) := ⟨Zb _ _ 2 _ _ _ hb', Ze _ _ 2 _ _ hb'⟩
  have hb7 := Zf _ _ 2 _ _ _ hb' (.slice a2 n2 c2)
  have HC2 := Za (Zb _ _ 3 _ _ _ hb7)
  have HQ6 := Za (Zb _ _ 1 _ _ _ hb7)
  have HQ7 := Za (Ze _ _ 1 _ _ hb7)
  clear hr ho hk0 hn' hp hu' hp' hs hnn1 hnn2 hb hb' hb7 h hu hk1'
  iterate 4
   refine tkn (v := ?_) 0 rfl ?_ ?_; rotate_left
   ·intro w hSw; go_simp; try with_reducible rfl
   try simp only [Act.put, tdy]
  iterate 3
   refine tkn (v := ?_) 5 rfl ?_ ?_; rotate_left
   ·intro w hSw; go_simp; try with_reducible rfl
   try simp only [Act.put, tdy]
  iterate 1
   refine tkn (v := ?_) 8 rfl ?_ ?_; rotate_left
   ·intro w hSw; have s0 : w.cell? ⟨c, 3, none⟩ = some (.int .i64 hi) := hSw; go_simp; try with_reducible rfl
   try simp only [Act.put, tdy]
  iterate 4
   refine tkn (v := ?_) 9 rfl ?_ ?_; rotate_left
   ·intro w hSw; go_simp; try with_reducible rfl
   try simp only [Act.put, tdy]
  refine (fun (hfin : ?G) => ?main) ?fin
  case main =>
   refine wpAnyH_ready (rs := [4, 13]) (by kernel_rfl) (by simp) ?_
   refine AllReadyH.cons rfl (fun K hK => ?_) (AllReadyH.cons rfl (fun K hK => ?_) AllReadyH.nil)
   ·have l1 := l0
    go_simp
    refine hK.out _ _ qh (fun qh => ?_)
    clear hK K
    try simp only [Act.put, tdy]
    clear l1
    refine rdy 13 rfl (fun K hK => ?_)
    go_simp
    refine hK.out _ _ (((Kept.refl nF _).alloc _).cell qh id) (fun qh => ?_)
    clear hK K
    try simp only [Act.put, tdy]
    refine rdy 14 rfl (fun K hK => ?_)
    refine Zm rfl (.tmp 12) (.tmp 21) 23 23 rfl _ _ rfl rfl (.slice a2 n2 c2) w' HR.out ?_
    refine hK.out _ _ HC1.out (fun qh => ?_)
    clear hK K
    try simp only [Act.put, tdy]
    iterate 2
     refine tkn (v := ?_) 15 rfl ?_ ?_; rotate_left
     ·intro w hSw; go_simp; try with_reducible rfl
     try simp only [Act.put, tdy]
    obtain ⟨g1, gf1⟩ := HG1.out
    refine rdy 17 rfl (fun K hK => ?_)
    go_simp
    refine hK.out _ _ HC2.out (fun qh => ?_)
    clear hK K
    try simp only [Act.put, tdy]
    refine wpAnyH_done (by kernel_rfl) ?_ _
    exact hfin
   ·go_simp
    refine hK.out _ _ (((Kept.refl nF _).alloc _).cell qh id) (fun qh => ?_)
    clear hK K
    try simp only [Act.put, tdy]
    have l1 : (wd.alloc (.cells #[.int .u8 bb] 5)).cell? ⟨c, 2, none⟩ = some _ := ((Kept.refl nF wd).alloc _).cell l0 id
    refine rdy 4 rfl (fun K hK => ?_)
    go_simp
    refine hK.out _ _ qh (fun qh => ?_)
    clear hK K
    try simp only [Act.put, tdy]
    clear l1
    refine rdy 14 rfl (fun K hK => ?_)
    refine Zm rfl (.tmp 12) (.tmp 21) 23 23 rfl _ _ rfl rfl (.slice a2 n2 c2) w' HR.out ?_
    refine hK.out _ _ HC1.out (fun qh => ?_)
    clear hK K
    try simp only [Act.put, tdy]
    iterate 2
     refine tkn (v := ?_) 15 rfl ?_ ?_; rotate_left
     ·intro w hSw; go_simp; try with_reducible rfl
     try simp only [Act.put, tdy]
    obtain ⟨g1, gf1⟩ := HG1.out
    refine rdy 17 rfl (fun K hK => ?_)
    go_simp
    refine hK.out _ _ HC2.out (fun qh => ?_)
    clear hK K
    try simp only [Act.put, tdy]
    refine wpAnyH_done (by kernel_rfl) ?_ _
    exact hfin
  have q6 := HQ6.out
  have q7 := HQ7.out
  go_wp2
  go_ret
  exact .inl ⟨_, HE.out, rfl, HS.out⟩
end Go.Proofs.YtgoabnehdmdikaaGreatDoor
namespace Go.Proofs.YtgoabnehdmdikaaGreatDoor
open Go.RowKit
def Xm (bs : List UInt8) : Bool := !bs.isEmpty && decide (bs.length ≤ 16) && bs.all (fun c => decide (0 ≤ Zz c.toNat))
def Xs (bs : List UInt8) : Int := bs.foldl (fun a c => 16 * a + Zz c.toNat) 0
theorem Zef (bs : List UInt8) (c : UInt8) : Xs (bs ++ [c]) = Xs bs * 16 + Zz c.toNat := by
 unfold Xs
 rw [List.foldl_append]
 show 16 * _ + _ = _
 omega
theorem Zi9 : ∀ (n : Nat) (bs : List UInt8), bs.length = n → (∀ c ∈ bs, 0 ≤ Zz c.toNat) → 0 ≤ Xs bs ∧ Xs bs < 16 ^ n := by
 intro n
 induction n with
 | zero => intro bs h _; rw [List.length_eq_zero_iff.1 h]; exact ⟨by decide, by decide⟩
 | succ n ih =>
  intro bs h hc
  have hne : bs ≠ [] := fun e => by rw [e] at h; simp at h
  have e := List.dropLast_concat_getLast hne
  have h1 := ih bs.dropLast (by rw [List.length_dropLast]; omega) (fun c hm => hc c ((List.dropLast_sublist bs).subset hm))
  have h2 := hc (bs.getLast hne) (List.getLast_mem hne)
  have h3 := Zeo (bs.getLast hne).toNat
  rw [← e, Zef, Int.pow_succ]
  omega
theorem Zja (bs : List UInt8) (h : Xm bs = true) : bs ≠ [] ∧ bs.length ≤ 16 ∧ ∀ c ∈ bs, 0 ≤ Zz c.toNat := by
 unfold Xm at h
 simp only [Bool.and_eq_true, Bool.not_eq_true', decide_eq_true_eq, List.all_eq_true, List.isEmpty_eq_false_iff] at h
 exact ⟨h.1.1, h.1.2, h.2⟩
theorem Zqe (x : Int) (w : World) : Calls Tryz.prog 185 #[.int .u8 x] w fun e w' => e = .returned (.int .u8 (bits .or .u8 x 32)) ∧ w' = w := by
 go_enter Tryz.func185, Tryz.ntmps185
 go_wp2
 go_ret
 exact ⟨rfl, rfl⟩
theorem Zsw : ∀ n : Nat, n < 256 → ¬ (48 ≤ n ∧ n ≤ 57) → 97 ≤ bits .or .u8 n 32 → bits .or .u8 n 32 ≤ 102 → (Zz n < 0 ∨ Zz n = bits .or .u8 n 32 - 87) := by decide +kernel
theorem Zsx : ∀ n : Nat, n < 256 → 103 ≤ bits .or .u8 n 32 → Zz n < 0 := by decide +kernel
theorem Zsy : ∀ n : Nat, n < 256 → ¬ (48 ≤ n ∧ n ≤ 57) → bits .or .u8 n 32 < 97 ∨ 122 < bits .or .u8 n 32 → Zz n < 0 := by decide +kernel
def Zxk (bs : List UInt8) (w : World) (e : Ending) (w' : World) : Prop :=
 ∃ (u : Int) (v : Value), e = .returned (.tuple #[.int .u64 u, v]) ∧ (v = .nilIface ∨ v = .iface 253 (.int .i64 1) ∨ v = .iface 253 (.int .i64 2)) ∧ (Xm bs = true → u = Xs bs ∧ v = .nilIface) ∧ Kept nF w w'
set_option maxRecDepth 100000 in
theorem Zve (t : ByteArray) (hmax : t.size ≤ 9000000) (w : World) :
  Calls Tryz.prog 159 #[.string t, .int .i64 16, .int .i64 64] w (Zxk t.data.toList w) := by
 by_cases h0 : t.size = 0
 ·have ht : t = ⟨#[]⟩ := by
   obtain ⟨⟨l⟩⟩ := t
   cases l with
   | nil => rfl
   | cons _ _ => simp [ByteArray.size] at h0
  subst ht
  go_enter Tryz.func159, Tryz.ntmps159
  go_wp2
  go_ret2
  exact ⟨_, _, rfl, .inr (.inr rfl), fun h => absurd h (by decide), Kept.refl _ _⟩
 have hemp : t.toList.isEmpty = false := by
  rw [← decide_eq_emptyBytes]
  exact decide_eq_false (fun h => h0 (by rw [h]; rfl))
 have hcv := Lib.run_convert_string_bytes (P := Tryz.prog) w 9 23 5 t (u := .string) Tryz.underlying9 Tryz.underlying23 Tryz.underlying5
 have hB : ∀ j, j < t.size → (Lib.bytesWorld w 5 t).cell? ⟨w.heap.size, j, none⟩ = some (.int .u8 (t.data.toList.getD j 0).toNat) := fun j hj => Lib.bytesWorld_cell w 5 t j hj
 have HK := Za (Zhg w t)
 obtain ⟨W1, hW1⟩ := nmd (Lib.bytesWorld w 5 t)
 rw [← hW1] at hcv hB HK
 clear hW1
 obtain ⟨bs, hL⟩ := nmd (t.data.toList)
 have hLn : bs.length = t.size := by rw [hL, Lib.size_eq]
 rw [← hL] at hB ⊢
 clear hL
 have hmv : IntKind.u64.wrap (IntKind.u64.wrap 18446744073709551616 - 1) = 18446744073709551615 := by
  rw [IntKind.wrap_u64, IntKind.wrap_u64]
  decide
 go_enter Tryz.func159, Tryz.ntmps159
 go_wp2
 go_loop [12, 13, 101] (fun vu vn vi => ∃ (k : Nat) (a : Int), vu = .bool false ∧ vn = .int .u64 a ∧ vi = .int .i64 k ∧ k ≤ t.size ∧ Hid (0 ≤ a ∧ a < 18446744073709551616 ∧ (Xm bs = true → a = Xs (bs.take k))))
  (fun _ _ vi => t.size - (intOf vi).toNat)
 case atStart => exact ⟨0, 0, rfl, rfl, rfl, by omega, by omega, by omega, fun _ => rfl⟩
 case round =>
  obtain ⟨k, a, rfl, rfl, rfl, hk, hh⟩ := hrel
  obtain ⟨a0, a1, hval⟩ := hh.out
  clear hh
  by_cases hkn : k < t.size
  ·have hc := hB k hkn
   have hget : bs.getD k 0 = bs[k]'(by omega) := by simp [List.getD, List.getElem?_eq_getElem (show k < bs.length by omega)]
   have htk : bs.take (k + 1) = bs.take k ++ [bs[k]'(by omega)] := by rw [List.take_succ_eq_append_getElem]
   have hmem : bs[k]'(by omega) ∈ bs := List.getElem_mem _
   rw [hget] at hc
   generalize bs[k]'(by omega) = c at hc htk hmem
   have hc256 : c.toNat < 256 := c.toNat_lt
   have hgood : Xm bs = true → 0 ≤ Zz c.toNat ∧ a < 1152921504606846976 := fun hg => by
    obtain ⟨_, h2, h3⟩ := Zja bs hg
    refine ⟨h3 c hmem, ?_⟩
    rw [hval hg]
    have h4 := (Zi9 k (bs.take k) (by rw [List.length_take]; omega) (fun c hm => h3 c (List.mem_of_mem_take hm))).2
    have h5 : (16 : Int) ^ k ≤ 16 ^ 15 := by
     have : (16 : Nat) ^ k ≤ 16 ^ 15 := Nat.pow_le_pow_right (by omega) (by omega)
     exact_mod_cast this
    have h6 : (16 : Int) ^ 15 = 1152921504606846976 := by decide
    omega
   have hnext : Xm bs = true → Xs (bs.take (k + 1)) = a * 16 + Zz c.toNat := fun hg => by rw [htk, Zef, hval hg]
   clear hB hget htk hmem hval
   by_cases hdig : 48 ≤ c.toNat ∧ c.toNat ≤ 57
   ·have hp : Zz c.toNat = (c.toNat : Int) - 48 := if_pos (by omega)
    rw [hp] at hnext hgood
    clear hp
    obtain ⟨hd0, hd1⟩ := hdig
    generalize c.toNat = cn at *
    obtain ⟨x, hx⟩ : ∃ x : Int, x = cn := ⟨_, rfl⟩
    rw [← hx] at hc hnext hgood
    have x0 : 48 ≤ x := by omega
    have x1 : x ≤ 57 := by omega
    clear hx hd0 hd1 hc256
    by_cases hcut : 1152921504606846976 ≤ a
    ·have HE : Hid (Xm bs = true → False) := fun hg => by have := (hgood hg).2; omega
     clear hgood hnext
     go_wp2
     go_ret2
     exact ⟨_, _, rfl, .inr (.inl rfl), fun hg => (HE.out hg).elim, HK.out⟩
    ·have HN : Hid (0 ≤ a * 16 + (x - 48) ∧ a * 16 + (x - 48) < 18446744073709551616 ∧ (Xm bs = true → a * 16 + (x - 48) = Xs (bs.take (k + 1)))) := ⟨by omega, by omega, fun hg => (hnext hg).symm⟩
     have icut : a < 1152921504606846976 := by omega
     have iov : a * 16 + (x - 48) < 18446744073709551616 := by omega
     clear hcut hgood hnext
     go_wp2
     refine ⟨⟨k + 1, a * 16 + (x - 48), rfl, (by first | rfl | (congr 1; omega)), (by first | rfl | (congr 1; omega)), by omega, HN⟩, by simp [intOf]; omega⟩
   ·by_cases h95 : c.toNat = 95
    ·have HE : Hid (Xm bs = true → False) := fun hg => by have := (hgood hg).1; rw [h95] at this; exact absurd this (by decide)
     have HLow := Za (fun w => Zqe 95 w)
     rw [show bits .or .u8 95 32 = 127 by decide] at HLow
     rw [h95] at hc
     clear hgood hnext hdig h95 hc256
     go_wp2_with (go_at_call 185; refine (HLow.out _).mono ?_; rintro e w' ⟨rfl, rfl⟩)
     all_goals go_ret2
     all_goals exact ⟨_, _, rfl, .inr (.inr rfl), fun hg => (HE.out hg).elim, HK.out⟩
    have t1 := Zsw c.toNat hc256 hdig
    have t2 := Zsx c.toNat hc256
    have t3 := Zsy c.toNat hc256 hdig
    have hb0 := bits_lo_u8 .or (c.toNat : Int) 32
    have hb1 := bits_hi_u8 .or (c.toNat : Int) 32
    have hlow := fun w => Zqe (c.toNat : Int) w
    generalize Zz c.toNat = hp at *
    generalize c.toNat = cn at *
    obtain ⟨x, hx⟩ : ∃ x : Int, x = cn := ⟨_, rfl⟩
    rw [← hx] at hc t1 t2 t3 hb0 hb1 hlow
    have e95 : (x == 95) = false := by rw [beq_eq_false_iff_ne]; omega
    have x0 : ¬ (48 ≤ x ∧ x ≤ 57) := by omega
    have x2 : 0 ≤ x := by omega
    have x3 : x < 256 := by omega
    clear hx hdig hc256 h95
    generalize bits .or .u8 x 32 = L at *
    have HLow := Za hlow
    clear hlow
    by_cases hlet : 97 ≤ L ∧ L ≤ 122
    ·obtain ⟨l0, l1⟩ := hlet
     have t1 := t1 l0
     clear t3
     by_cases hbig : 103 ≤ L
     ·have HE : Hid (Xm bs = true → False) := fun hg => by have := (hgood hg).1; have := t2 hbig; omega
      clear hgood hnext t1 t2
      go_wp2_with (go_at_call 185; refine (HLow.out _).mono ?_; rintro e w' ⟨rfl, rfl⟩)
      all_goals go_ret2
      all_goals exact ⟨_, _, rfl, .inr (.inr rfl), fun hg => (HE.out hg).elim, HK.out⟩
     ·have l2 : L ≤ 102 := by omega
      by_cases hcut : 1152921504606846976 ≤ a
      ·have HE : Hid (Xm bs = true → False) := fun hg => by have := (hgood hg).2; omega
       clear hgood hnext t1 t2
       go_wp2_with (go_at_call 185; refine (HLow.out _).mono ?_; rintro e w' ⟨rfl, rfl⟩)
       all_goals go_ret2
       all_goals exact ⟨_, _, rfl, .inr (.inl rfl), fun hg => (HE.out hg).elim, HK.out⟩
      ·have HN : Hid (0 ≤ a * 16 + (L - 87) ∧ a * 16 + (L - 87) < 18446744073709551616 ∧ (Xm bs = true → a * 16 + (L - 87) = Xs (bs.take (k + 1)))) := ⟨by omega, by omega, fun hg => by
        rw [hnext hg]
        have := (hgood hg).1
        rcases t1 l2 with h | h
        ·omega
        ·rw [h]⟩
       have icut : a < 1152921504606846976 := by omega
       have iov : a * 16 + (L - 87) < 18446744073709551616 := by omega
       clear hcut hgood hnext t1 t2
       go_wp2_with (go_at_call 185; refine (HLow.out _).mono ?_; rintro e w' ⟨rfl, rfl⟩)
       all_goals refine ⟨⟨k + 1, a * 16 + (L - 87), rfl, (by first | rfl | (congr 1; omega)), (by first | rfl | (congr 1; omega)), by omega, HN⟩, by simp [intOf]; omega⟩
    ·have HE : Hid (Xm bs = true → False) := fun hg => by have := (hgood hg).1; have := t3 (by omega); omega
     clear hgood hnext t1 t2 t3
     go_wp2_with (go_at_call 185; refine (HLow.out _).mono ?_; rintro e w' ⟨rfl, rfl⟩)
     all_goals go_ret2
     all_goals exact ⟨_, _, rfl, .inr (.inr rfl), fun hg => (HE.out hg).elim, HK.out⟩
  ·have hkk : k = t.size := by omega
   subst hkk
   have HE : Hid (Xm bs = true → a = Xs bs) := fun hg => by rw [hval hg, ← hLn, List.take_length]
   clear hval
   go_wp2
   go_ret2
   exact ⟨_, _, rfl, .inl rfl, fun hg => ⟨HE.out hg, rfl⟩, HK.out⟩
structure Gs (w : World) : Prop where
 gl : Gl w
 er : ∃ (a b : Addr) (ca cb : Array Value) (ta tb : TypeId), w.cell? ⟨1, 0, none⟩ = some (.iface 291 (.pointer (some a))) ∧ w.cell? ⟨5, 0, none⟩ = some (.iface 291 (.pointer (some b))) ∧ w.heap[a.block]? = some (.cells ca ta (0, 0)) ∧ w.heap[b.block]? = some (.cells cb tb (0, 0))
theorem Gs.same {w w' : World} (h : Gs w) (hk : Kept nF w w') : Gs w' := by
 obtain ⟨a, b, ca, cb, ta, tb, h1, h2, h3, h4⟩ := h.er
 exact ⟨h.gl.same hk, a, b, ca, cb, ta, tb, hk.cell h1 id, hk.cell h2 id, Zc hk h3 id, Zc hk h4 id⟩
theorem Zb8 {w w' : World} (h : Below w.heap.size w w') : Kept nF w w' := ⟨h.os, h.tape, h.output, h.size, fun k hk _ => h.block k hk⟩
theorem Zxl (t : ByteArray) (hmax : t.size ≤ 9000000) (w : World) (hG : Gs w) :
  Calls Tryz.prog 138 #[.string t, .int .i64 16, .int .i64 64] w fun e w' => ∃ (u : Int) (v : Value), e = .returned (.tuple #[.int .u64 u, v]) ∧ (Xm t.data.toList = true → u = Xs t.data.toList) ∧ Kept nF w w' := by
 have HU := Za (Zve t hmax w)
 have HG := Za hG
 clear hG
 go_enter Tryz.func138, Tryz.ntmps138
 go_wp2_with fail
 refine HU.out.mono ?_
 rintro e w1 ⟨u, v, rfl, hv, hu, hk1⟩
 obtain ⟨a, b, ca, cb, ta, tb, h1, h2, h3, h4⟩ := (HG.out.same hk1).er
 have HX := Za hk1
 have HV := Za hu
 clear hk1 hu HU
 rcases hv with rfl | rfl | rfl
 ·go_wp2
  go_ret2
  exact ⟨_, _, rfl, fun h => (HV.out h).1, HX.out⟩
 ·have HT := Za (Any.strconv_toError_range { Tryz.laysC174 with } ⟨#[80, 97, 114, 115, 101, 85, 105, 110, 116]⟩ t 16 64 _ w1 (by omega) h1 (.inr ⟨_, _, rfl⟩))
  go_wp2_with fail
  refine HT.out.mono ?_
  rintro e w2 ⟨nb, rfl, hh1, hh2, hh3⟩
  have HK2 := Za (Zb8 hh3)
  clear hh1 hh2 hh3 HT
  go_wp2
  go_ret2
  exact ⟨_, _, rfl, fun h => (HV.out h).1, HX.out.trans HK2.out⟩
 ·have HT := Za (Any.strconv_toError_syntax { Tryz.laysC174 with } ⟨#[80, 97, 114, 115, 101, 85, 105, 110, 116]⟩ t 16 64 _ w1 (by omega) h2 (.inr ⟨_, _, rfl⟩))
  go_wp2_with fail
  refine HT.out.mono ?_
  rintro e w2 ⟨nb, rfl, hh1, hh2, hh3⟩
  have HK2 := Za (Zb8 hh3)
  clear hh1 hh2 hh3 HT
  go_wp2
  go_ret2
  exact ⟨_, _, rfl, fun h => (HV.out h).1, HX.out.trans HK2.out⟩
open Go.Extern.Stop Go.Stop Go.Extern
theorem Zld (v : Value) (w : World) : (Extern.ReflectliteType.typeOf #[.iface 291 v]).run Tryz.prog w = .ok (.iface 266 (.agg #[.pointer (some ⟨8, 291, none⟩)])) w := by kernel_rfl
def Zsz : Array Value → Sem Value := Extern.ReflectliteType.method fun t => do Extern.Rtype.noPackHeld "Comparable" t; pure (.bool (← typeInfo t).comparable)
theorem Zfz (w : World) : (Zsz #[.agg #[.pointer (some ⟨8, 291, none⟩)]]).run Tryz.prog w = .ok (.bool true) w := by kernel_rfl
theorem Zdc (v : Value) (w : World) : (Go.method 427 266 v "Comparable").run Tryz.prog w = .ok (240, v) w := by kernel_rfl
theorem Zqf : (Tryz.prog.info? 291).map (·.comparable) = some true := by kernel_rfl
theorem Zqg : (Tryz.prog.info? 293).map (·.size) = some 1 := by kernel_rfl
theorem Ztj (v : Value) (xT : TypeId) (w : World) : (Instr.typeAssert (.iface 291 v) xT 268 true).run Tryz.prog w = .ok (.tuple #[.nilIface, .bool false]) w := run_typeAssert_lacksB Tryz.underlying268 (by kernel_rfl) (by kernel_rfl) v xT w
theorem Zjb (v : Value) (xT : TypeId) (w : World) : (Instr.typeAssert (.iface 291 v) xT 271 true).run Tryz.prog w = .ok (.tuple #[.nilIface, .bool false]) w := run_typeAssert_lacksB Tryz.underlying271 (by kernel_rfl) (by kernel_rfl) v xT w
theorem Zhi (v : Value) (xT : TypeId) (w : World) : (Instr.typeAssert (.iface 291 v) xT 273 true).run Tryz.prog w = .ok (.tuple #[.nilIface, .bool false]) w := run_typeAssert_lacksB Tryz.underlying273 (by kernel_rfl) (by kernel_rfl) v xT w
theorem Ztk (v : Value) (xT : TypeId) (w : World) : (Instr.typeAssert (.iface 255 v) xT 268 true).run Tryz.prog w = .ok (.tuple #[.nilIface, .bool false]) w := run_typeAssert_lacksB Tryz.underlying268 (by kernel_rfl) (by kernel_rfl) v xT w
theorem Zhj (v : Value) (xT : TypeId) (w : World) : (Instr.typeAssert (.iface 255 v) xT 271 true).run Tryz.prog w = .ok (.tuple #[.iface 255 v, .bool true]) w := run_typeAssert_hasB Tryz.underlying271 (by kernel_rfl) v xT w
theorem Zf0 (v : Value) (w : World) : (Go.method 427 255 v "Unwrap").run Tryz.prog w = .ok (236, v) w := by kernel_rfl
theorem Zqh (b : Addr) (w : World) :
  Calls Tryz.prog 141 #[.nilIface, .iface 291 (.pointer (some b))] w fun e w' => e = .returned (.bool false) ∧ w' = w := by
 have hn := run_eql_iface_nil_left (P := Tryz.prog) w 291 (.pointer (some b)) Tryz.underlying28
 go_enter Tryz.func141, Tryz.ntmps141
 go_wp2
 go_ret
 exact ⟨rfl, rfl⟩
theorem Zf1 (pb po : Nat) (b : Addr) (w : World) (h1 : w.cell? ⟨pb, po + 2, none⟩ = some (.iface 291 (.pointer (some b)))) :
  Calls Tryz.prog 141 #[.iface 255 (.pointer (some ⟨pb, po, none⟩)), .iface 291 (.pointer (some b))] w fun e w' => e = .returned (.bool true) ∧ w' = w := by
 obtain ⟨i, hi, hcmp⟩ := Option.map_eq_some_iff.1 Zqf
 obtain ⟨j, hj, hjs⟩ := Option.map_eq_some_iff.1 Zqg
 have h8 := @run_callFunc_extern Tryz.prog 163 _ Extern.ReflectliteType.typeOf Tryz.func163 (by kernel_rfl) (by kernel_rfl) (by kernel_rfl) (by kernel_rfl)
 have h32 := @run_callFunc_extern Tryz.prog 240 _ Zsz Tryz.func240 (by kernel_rfl) (by kernel_rfl) (by kernel_rfl) (by kernel_rfl)
 have tT := Zld
 have cT := Zfz
 have mR := Zdc
 have nE := Ztj
 have uE := Zjb
 have vE := Zhi
 have nW := Ztk
 have uW := Zhj
 have mU := Zf0
 have heq := run_eql_iface_ptr_same (P := Tryz.prog) w b Tryz.underlying28 Tryz.underlying291 hi hcmp hj
 have hty := run_eql_iface_types (P := Tryz.prog) 255 291 (.pointer (some ⟨pb, po, none⟩)) (.pointer (some b)) Tryz.underlying28 (by decide) w
 go_enter Tryz.func141, Tryz.ntmps141
 go_wp2
 refine wp_loop_rounds 2 ?_
 rw [rounds_succ]
 go_wp2
 rw [rounds_succ]
 go_wp2
 go_ret
 exact ⟨rfl, rfl⟩
theorem Zjg (pb po : Nat) (b a : Addr) (ca cb : Array Value) (ta tb : TypeId) (w : World) (h1 : w.cell? ⟨pb, po + 2, none⟩ = some (.iface 291 (.pointer (some a)))) (hne : a ≠ b) (ha : w.heap[a.block]? = some (.cells ca ta (0, 0))) (hb : w.heap[b.block]? = some (.cells cb tb (0, 0))) :
  Calls Tryz.prog 141 #[.iface 255 (.pointer (some ⟨pb, po, none⟩)), .iface 291 (.pointer (some b))] w fun e w' => e = .returned (.bool false) ∧ w' = w := by
 obtain ⟨i, hi, hcmp⟩ := Option.map_eq_some_iff.1 Zqf
 obtain ⟨j, hj, hjs⟩ := Option.map_eq_some_iff.1 Zqg
 have h8 := @run_callFunc_extern Tryz.prog 163 _ Extern.ReflectliteType.typeOf Tryz.func163 (by kernel_rfl) (by kernel_rfl) (by kernel_rfl) (by kernel_rfl)
 have h32 := @run_callFunc_extern Tryz.prog 240 _ Zsz Tryz.func240 (by kernel_rfl) (by kernel_rfl) (by kernel_rfl) (by kernel_rfl)
 have tT := Zld
 have cT := Zfz
 have mR := Zdc
 have nE := Ztj
 have uE := Zjb
 have vE := Zhi
 have nW := Ztk
 have uW := Zhj
 have mU := Zf0
 have heq := run_eql_iface_ptr_other (P := Tryz.prog) w Tryz.underlying28 Tryz.underlying291 hi hcmp hj (by rw [hjs]; decide) hne ha hb
 have hty := run_eql_iface_types (P := Tryz.prog) 255 291 (.pointer (some ⟨pb, po, none⟩)) (.pointer (some b)) Tryz.underlying28 (by decide) w
 go_enter Tryz.func141, Tryz.ntmps141
 go_wp2
 refine wp_loop_rounds 2 ?_
 rw [rounds_succ]
 go_wp2
 rw [rounds_succ]
 go_wp2
 go_ret
 exact ⟨rfl, rfl⟩
end Go.Proofs.YtgoabnehdmdikaaGreatDoor
namespace Go.Proofs
open Go.Shelf
shelf_lay Lays.n160 Nm 160 at Tryz as Tryz.lays160
end Go.Proofs
namespace Go.Proofs.YtgoabnehdmdikaaGreatDoor
open Go.RowKit Go.Shelf
def Zbo (l signs : List UInt8) : Bool := !l.isEmpty && l.all (signs.contains ·)
theorem Zf2 (p : UInt8 → Bool) : ∀ l : List UInt8, l.dropWhile p = [] ↔ ∀ x ∈ l, p x = true
 | [] => by simp
 | a :: l => by
  rw [List.dropWhile_cons]
  cases h : p a with
  | false => simp [h]
  | true => simp [h, Zf2 p l]
theorem Zle (p : UInt8 → Bool) : ∀ l : List UInt8, l.dropWhile p ≠ [] → ∃ x, x ∈ l.dropWhile p ∧ p x = false
 | [], h => absurd rfl h
 | a :: l, h => by
  rw [List.dropWhile_cons] at h ⊢
  cases hp : p a with
  | false => exact ⟨a, by simp, hp⟩
  | true =>
   simp only [hp, if_true] at h ⊢
   exact Zle p l h
theorem Zqi (l cs : List UInt8) : Lib.trimS l cs = [] ↔ l.all (cs.contains ·) = true := by
 unfold Lib.trimS Lib.trimLeftS Lib.trimRightS
 rw [Zf2, List.all_eq_true]
 constructor
 ·intro h x hx
  by_cases hc : (l.reverse.dropWhile (cs.contains ·)) = []
  ·rw [Zf2] at hc
   exact hc x (List.mem_reverse.2 hx)
  ·obtain ⟨y, hy, hyp⟩ := Zle _ _ hc
   have h2 := h y (List.mem_reverse.2 hy)
   rw [hyp] at h2
   cases h2
 ·intro h x hx
  have := (List.dropWhile_sublist (l := l.reverse) (cs.contains ·)).subset (List.mem_reverse.1 hx)
  exact h x (List.mem_reverse.1 this)
theorem Ztl (t sg : ByteArray) (hm : t.size ≤ 9000000) (hs : sg.size ≤ 1000) (hascii : ∀ (j : Nat) b, sg.data.toList[j]? = some b → b.toNat < 128) (w : World) :
  Calls Tryz.prog 139 #[.string t, .string sg] w fun e w' => e = .returned (.bool (Zbo t.data.toList sg.data.toList)) ∧ Kept nF w w' := by
 by_cases h0 : t.size = 0
 ·have ht : t = ⟨#[]⟩ := by
   obtain ⟨⟨l⟩⟩ := t
   cases l with
   | nil => rfl
   | cons _ _ => simp [ByteArray.size] at h0
  subst ht
  go_enter Tryz.func139, Tryz.ntmps139
  go_wp2
  go_ret
  exact ⟨rfl, Kept.refl _ _⟩
 have hemp : t.toList.isEmpty = false := by
  rw [← decide_eq_emptyBytes]
  exact decide_eq_false (fun h => h0 (by rw [h]; rfl))
 have hne : t.data.toList ≠ [] := fun h => h0 (by rw [Lib.size_eq, h]; rfl)
 have HT := Za (Any.strings_Trim_ascii Tryz.lays160 Zu8 (by kernel_rfl) t sg w (by omega) (by omega) hascii)
 have hP : Zbo t.data.toList sg.data.toList = t.data.toList.all (sg.data.toList.contains ·) := by
  unfold Zbo
  rw [show t.data.toList.isEmpty = false by simpa using hne]
  rfl
 have hX := Zqi t.data.toList sg.data.toList
 rw [← hP] at hX
 generalize Zbo t.data.toList sg.data.toList = q at *
 generalize Lib.trimS t.data.toList sg.data.toList = x at *
 clear hP hascii hne
 by_cases hx : x = []
 ·have hq : q = true := hX.1 hx
  subst hx
  subst hq
  clear hX
  go_enter Tryz.func139, Tryz.ntmps139
  go_wp2_with fail
  refine HT.out.mono ?_
  rintro e w1 ⟨rfl, hb⟩
  have HK := Za (Zb8 hb)
  clear hb HT
  go_wp2
  go_ret
  exact ⟨rfl, HK.out⟩
 ·have hq : q = false := by
   cases q with
   | false => rfl
   | true => exact absurd (hX.2 rfl) hx
  subst hq
  have hex : (⟨x.toArray⟩ : ByteArray).toList.isEmpty = false := by
   rw [← decide_eq_emptyBytes]
   exact decide_eq_false (fun h => hx (by
    have : x.toArray = #[] := congrArg ByteArray.data h
    simpa using this))
  generalize (⟨x.toArray⟩ : ByteArray) = xs at *
  clear hX hx
  go_enter Tryz.func139, Tryz.ntmps139
  go_wp2_with fail
  refine HT.out.mono ?_
  rintro e w1 ⟨rfl, hb⟩
  have HK := Za (Zb8 hb)
  clear hb HT
  go_wp2
  go_ret
  exact ⟨rfl, HK.out⟩
def Zxm (l : List UInt8) (w : World) (e : Ending) (w' : World) : Prop :=
 ∃ (v : Int) (ev : Value), e = .returned (.tuple #[.int .i64 v, ev]) ∧ Kept nF w w' ∧
  ∃ (q : Bool) (tp : TypeId) (pv : Value), w'.cell? ⟨1, 0, none⟩ = some (.iface tp pv) ∧
   (Calls Tryz.prog 141 #[ev, .iface tp pv] w' fun e2 w2 => e2 = .returned (.bool q) ∧ w2 = w') ∧
   ((Lib.parseIntB 64 l = .ok v ∧ q = false) ∨ (Lib.parseIntB 64 l = .range ∧ v = Lib.intSat 64 l ∧ q = true) ∨ Lib.parseIntB 64 l = .syntax)
theorem Zxn (t : ByteArray) (hmax : t.size ≤ 9000000) (w : World) (hG : Gs w) :
  Calls Tryz.prog 140 #[.string t, .int .i64 10, .int .i64 64] w (Zxm t.data.toList w) := by
 cases hp : Lib.parseIntB 64 t.data.toList with
 | ok v =>
  refine (Tryz.strconv_ParseInt_10_at64_ok t (by omega) v hp w).mono ?_
  rintro e w' ⟨rfl, hw⟩
  have hk : Kept nF w w' := by
   rcases hw with rfl | ⟨t, rfl⟩
   ·exact Kept.refl _ _
   ·exact Zhg _ _
  obtain ⟨a, b, ca, cb, ta, tb, h1, h2, h3, h4⟩ := (hG.same hk).er
  exact ⟨v, _, rfl, hk, false, _, _, h1, Zqh a w', .inl ⟨hp, rfl⟩⟩
 | range =>
  obtain ⟨a0, b0, _, _, _, _, g1, g2, _, _⟩ := hG.er
  refine (Any.strconv_ParseInt_10_at64_range Tryz.laysC174 t (by omega) hp _ w g1 (.inr ⟨_, _, rfl⟩)).mono ?_
  rintro e w' ⟨N, rfl, hN, hb, hbl⟩
  have hk := Zb8 hbl
  obtain ⟨a, b, ca, cb, ta, tb, h1, h2, h3, h4⟩ := (hG.same hk).er
  have ea := Option.some.inj ((hk.cell g1 id).symm.trans h1)
  have ea : a0 = a := by injection ea with _ e; injection e with e; exact Option.some.inj e
  subst ea
  exact ⟨_, _, rfl, hk, true, _, _, h1, Zf1 N 0 a0 w' (Zb _ _ 2 _ _ _ hb), .inr (.inl ⟨hp, rfl, rfl⟩)⟩
 | «syntax» =>
  obtain ⟨a0, b0, _, _, _, _, g1, g2, _, _⟩ := hG.er
  refine (Any.strconv_ParseInt_10_at64_syntax Tryz.laysC174 t (by omega) hp _ w g2 (.inr ⟨_, _, rfl⟩)).mono ?_
  rintro e w' ⟨N, rfl, hN, hb, hbl⟩
  have hk := Zb8 hbl
  obtain ⟨a, b, ca, cb, ta, tb, h1, h2, h3, h4⟩ := (hG.same hk).er
  have eb := Option.some.inj ((hk.cell g2 id).symm.trans h2)
  have eb : b0 = b := by injection eb with _ e; injection e with e; exact Option.some.inj e
  subst eb
  by_cases hab : b0 = a
  ·subst hab
   exact ⟨_, _, rfl, hk, true, _, _, h1, Zf1 N 0 b0 w' (Zb _ _ 2 _ _ _ hb), .inr (.inr hp)⟩
  ·exact ⟨_, _, rfl, hk, false, _, _, h1, Zjg N 0 a b0 _ _ _ _ w' (Zb _ _ 2 _ _ _ hb) hab h4 h3, .inr (.inr hp)⟩
end Go.Proofs.YtgoabnehdmdikaaGreatDoor
