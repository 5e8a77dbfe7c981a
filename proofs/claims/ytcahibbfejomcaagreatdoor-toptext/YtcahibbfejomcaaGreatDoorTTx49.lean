import Derived.Test.YtcahibbfejomcaaGreatDoorTTx48
import Derived.Laws.CopyRow
import Derived.Laws.IdiomCopy
namespace Go.Proofs.YtcahibbfejomcaaGreatDoor
set_option maxRecDepth 100000
open Go.RowKit
set_option linter.unusedVariables false
set_option linter.unusedSimpArgs false
theorem HashIs.pasts {w : World} {g : Nat} {h : Hsh} (H : HashIs w g h) : w.cell? ⟨g, 0, none⟩ = some (.int .u32 h.p.a) ∧ w.cell? ⟨g, 1, none⟩ = some (.int .u32 h.p.b) ∧ w.cell? ⟨g, 2, none⟩ = some (.int .u32 h.p.c) ∧ w.cell? ⟨g, 3, none⟩ = some (.int .u32 h.p.d) ∧ w.cell? ⟨g, 4, none⟩ = some (.int .u32 h.p.e) ∧ w.cell? ⟨g, 5, none⟩ = some (.int .u32 h.p.f) ∧ w.cell? ⟨g, 6, none⟩ = some (.int .u32 h.p.g) ∧ w.cell? ⟨g, 7, none⟩ = some (.int .u32 h.p.h) := ⟨H.past 0 (by decide), H.past 1 (by decide), H.past 2 (by decide), H.past 3 (by decide), H.past 4 (by decide), H.past 5 (by decide), H.past 6 (by decide), H.past 7 (by decide)⟩
theorem range8 {w : World} {g : Nat} {cs : List Value} (h : w.rangeAt g 8 cs) (u0 u1 u2 u3 u4 u5 u6 u7 : Value) : ((((((((w.setCell ⟨g, 0, none⟩ u0).setCell ⟨g, 1, none⟩ u1).setCell ⟨g, 2, none⟩ u2).setCell ⟨g, 3, none⟩ u3).setCell ⟨g, 4, none⟩ u4).setCell ⟨g, 5, none⟩ u5).setCell ⟨g, 6, none⟩ u6).setCell ⟨g, 7, none⟩ u7).rangeAt g 8 cs := fun j v hv => by
 rw [cell_far _ _ _ _ _ (by omega), cell_far _ _ _ _ _ (by omega), cell_far _ _ _ _ _ (by omega), cell_far _ _ _ _ _ (by omega), cell_far _ _ _ _ _ (by omega), cell_far _ _ _ _ _ (by omega), cell_far _ _ _ _ _ (by omega), cell_far _ _ _ _ _ (by omega)]
 exact h j v hv
theorem s_range_kept {S : Nat → Prop} {w w' : World} {g o : Nat} {cs : List Value} (h : w.rangeAt g o cs) (hk : Kept S w w') (hs : ¬ S g) : w'.rangeAt g o cs := fun j v hv => hk.cell (h j v hv) hs
theorem laid_kept {S : Nat → Prop} {w w' : World} (h : Laid w) (hk : Kept S w w') (hs : ¬ S 0) : Laid w' := fun t ht => hk.cell (h t ht) hs
def BAt (w : World) (v : Value) (xs : List Int) (g : Nat) : Prop :=
 (xs = [] ∧ ∃ ao c, v = .slice ao 0 c) ∨ ∃ b o c, v = .slice (some ⟨b, o, none⟩) xs.length c ∧ xs.length ≤ c ∧ b ≠ g ∧ ∀ i, i < xs.length → w.cell? ⟨b, o + i, none⟩ = some (.int .u8 (xs.getD i 0))
theorem BAt.kept {S : Nat → Prop} {w w' : World} {v : Value} {xs : List Int} {g : Nat} (h : BAt w v xs g) (hk : Kept S w w') (hs : ∀ k, S k → k = g) : BAt w' v xs g := by
 rcases h with h | ⟨b, o, c, e, hc, hb, hx⟩
 ·exact .inl h
 ·exact .inr ⟨b, o, c, e, hc, hb, fun i hi => hk.cell (hx i hi) (fun f => hb (hs _ f))⟩
theorem BAt.rest {w : World} {xs : List Int} {g b o c k : Nat} (hc : xs.length ≤ c) (hb : b ≠ g) (hx : ∀ i, i < xs.length → w.cell? ⟨b, o + i, none⟩ = some (.int .u8 (xs.getD i 0))) (hk : k ≤ xs.length) :
  BAt w (.slice (if c = k then some ⟨b, o, none⟩ else some ⟨b, o + k, none⟩) (xs.length - k) (c - k)) (xs.drop k) g := by
 by_cases e : xs.length = k
 ·exact .inl ⟨List.drop_eq_nil_of_le (by omega), _, _, by rw [e, Nat.sub_self]⟩
 ·refine .inr ⟨b, o + k, c - k, ?_, by simp; omega, hb, fun i hi => ?_⟩
  ·rw [if_neg (by omega), List.length_drop]
  ·rw [List.length_drop] at hi
   rw [Nat.add_assoc, hx (k + i) (by omega)]
   simp [List.getD, List.getElem?_drop]
theorem Hsh.laid (h : Hsh) (hl : h.t.length = 64) (ys : List Int) (a : Nat) (ha : a + ys.length ≤ 64) :
  (h.cells.toArray.toList.take (8 + a) ++ ys.map (Value.int .u8) ++ h.cells.toArray.toList.drop (8 + a + (ys.map (Value.int .u8)).length)).toArray = (Hsh.mk h.p (laidIn h.t ys a) h.n).cells.toArray := by
 congr 1
 simp only [Hsh.cells, laidIn]
 generalize hP : ([.int .u32 h.p.a, .int .u32 h.p.b, .int .u32 h.p.c, .int .u32 h.p.d, .int .u32 h.p.e, .int .u32 h.p.f, .int .u32 h.p.g, .int .u32 h.p.h] : List Value) = P
 have hp : P.length = 8 := by rw [← hP]; rfl
 clear hP
 have hd : P.drop (8 + a + (ys.map (Value.int .u8)).length) = [] := List.drop_eq_nil_of_le (by simp; omega)
 rw [List.take_append, List.drop_append, List.take_of_length_le (l := P) (by omega), hd]
 simp [hp, hl, List.take_append, List.drop_append, show 8 + a + ys.length - 8 = a + ys.length by omega, show a - 64 = 0 by omega, show a + ys.length - 64 = 0 by omega]
theorem run_tail (w : World) (g a : Nat) (ha : a < 64) : (Instr.sliceAt 89 (.pointer (some ⟨g, 8, none⟩)) (some (.int .i64 (a : Int))) none none).run Tryz.prog w = .ok (.slice (some ⟨g, 8 + a, none⟩) (64 - a) (64 - a)) w := by
 have := run_sliceAt_array_l (P := Tryz.prog) w 89 ⟨g, 8, none⟩ Tryz.underlying89 .i64 (a : Int) (by omega) (by show (a : Int) ≤ 64; omega)
 rw [this]
 simp [slicedAt, Program.arrayLen, Program.elem, Tryz.underlying89, Tryz.sizeOf5, Addr.add_mid]
 omega
set_option maxRecDepth 100000 in
set_option maxHeartbeats 1000000 in
theorem write_any (g : Nat) (xs ys : List Int) (v : Value) (w : World) (H : HashAt w g xs) (hB : BAt w v ys g) (hr : ∀ x ∈ ys, 0 ≤ x ∧ x < 256) (hL : Laid w) (hg : g ≠ 0) (hlen : xs.length + ys.length < 4611686018427387904) :
  Calls Tryz.prog 20 #[.pointer (some ⟨g, 0, none⟩), v] w fun e w' => e = .returned (.tuple #[]) ∧ HashAt w' g (xs ++ ys) ∧ Kept (fun k => k = g) w w' := by
 have HR := hid_of hr
 have HL := hid_of hL
 have HH := hid_of H
 have HBB := hid_of hB
 have HLEN := hid_of hlen
 clear hr hL H hB hlen
 go_enter Tryz.func20, Tryz.ntmps20
 go_wp2
 go_loopw [1] (fun b wr => ∃ j : Nat, j ≤ ys.length ∧ BAt w b (ys.drop j) g ∧ HashAt wr g (xs ++ ys.take j) ∧ Kept (fun k => k = g) w wr) (fun b _ => lenOf b)
 case atStart => exact ⟨0, by omega, HBB.out, by simpa using HH.out, Kept.refl _ _⟩
 case round =>
  clear HH HBB
  obtain ⟨j, hj, hB, hH, hK⟩ := hrel
  rcases hB with ⟨he, ao, c, rfl⟩ | ⟨b, o, c, rfl, hc, hb, hx0⟩
  ·have ej : j = ys.length := by have := congrArg List.length he; simp at this; omega
   subst ej
   have HH : Hid (HashAt wr g (xs ++ ys)) := by rw [List.take_length] at hH; exact hH
   have HK := hid_of hK
   clear hH hK he
   go_wp2
   go_end0
   exact ⟨rfl, HH.out, HK.out⟩
  ·obtain ⟨h, hI, hO⟩ := hH
   obtain ⟨xs', hxs⟩ : ∃ l, xs ++ ys.take j = l := ⟨_, rfl⟩
   obtain ⟨zs, hzs⟩ : ∃ l, ys.drop j = l := ⟨_, rfl⟩
   rw [hxs] at hO
   rw [hzs] at hc hx0
   have hx : ∀ i, i < zs.length → wr.cell? ⟨b, o + i, none⟩ = some (.int .u8 (zs.getD i 0)) := fun i hi => hK.cell (hx0 i hi) (fun e => hb e)
   have hxl : xs'.length = xs.length + j := by rw [← hxs]; simp; omega
   have hzl : zs.length = ys.length - j := by rw [← hzs]; simp
   have hlen := HLEN.out
   by_cases hz0 : zs.length = 0
   ·have ej : j = ys.length := by omega
    have HH : Hid (HashAt wr g (xs ++ ys)) := ⟨h, hI, by rw [← hxs, ej, List.take_length] at hO; exact hO⟩
    have HK := hid_of hK
    rw [hzs, hz0]
    clear hI hO hx hx0 hK
    go_wp2
    go_end0
    exact ⟨rfl, HH.out, HK.out⟩
   obtain ⟨a, ha⟩ : ∃ a, xs'.length % 64 = a := ⟨_, rfl⟩
   have ha64 : a < 64 := by omega
   obtain ⟨k, hk⟩ : ∃ k, Nat.min zs.length (64 - a) = k := ⟨_, rfl⟩
   have hkm : k = min zs.length (64 - a) := hk.symm
   have hmod : (h.n : Int) % 64 = (a : Int) := by rw [hO.n]; omega
   have hpl : (zs.take k).length = k := by simp; omega
   have hsl := fun w => run_tail w g a ha64
   have hcp := run_copy_row (P := Tryz.prog) wr 22 22 3 5 g (8 + a) (64 - a) (64 - a) ⟨b, o, none⟩ zs.length c h.cells.toArray 91 ((zs.take k).map (Value.int .u8)) Tryz.underlying22 size5 hI.1 (by rw [List.length_map, hpl, hk])
    (fun i u hu => by
     have hi : i < k := by
      have := (List.getElem?_eq_some_iff.1 hu).1
      rw [List.length_map, hpl] at this
      exact this
     rw [Addr.add_mid, hx i (by omega)]
     rw [List.getElem?_map, List.getElem?_take_of_lt hi] at hu
     simpa [List.getD, List.getElem?_eq_getElem (show i < zs.length by omega)] using hu)
    (by rw [Hsh.size h hI.2.1, List.length_map, hpl]; omega) (fun u hu => by
     obtain ⟨x, _, rfl⟩ := List.mem_map.1 hu
     rfl)
   rw [Hsh.laid h hI.2.1 _ _ (by rw [hpl]; omega), List.length_map, hpl] at hcp
   have hrz : ∀ x ∈ zs, 0 ≤ x ∧ x < 256 := fun x hx => HR.out x (by rw [← hzs] at hx; exact List.mem_of_mem_drop hx)
   have hI1 : HashIs (wr.setRow g (Hsh.mk h.p (laidIn h.t (zs.take k) a) h.n).cells.toArray) g (Hsh.mk h.p (laidIn h.t (zs.take k) a) h.n) := by
    refine ⟨setRow_heap _ _ _ _ _ _ hI.1, (laidIn_length (by rw [hpl, hI.2.1]; omega)).trans hI.2.1, fun x hx => ?_⟩
    simp only [laidIn, List.mem_append] at hx
    rcases hx with hx | hx | hx
    ·exact hI.2.2 x (List.mem_of_mem_take hx)
    ·exact hrz x (List.mem_of_mem_take hx)
    ·exact hI.2.2 x (List.mem_of_mem_drop hx)
   have hK1 : Kept (fun k => k = g) w (wr.setRow g (Hsh.mk h.p (laidIn h.t (zs.take k) a) h.n).cells.toArray) := hK.setRow (.inr rfl) _
   have hn72 := hI.len
   have hk0 : 0 < k := by omega
   have hkz : k ≤ zs.length := by omega
   have hB1 : BAt w (.slice (if c = k then some ⟨b, o, none⟩ else some ⟨b, o + k, none⟩) (zs.length - k) (c - k)) (ys.drop (j + k)) g := by
    have := BAt.rest (k := k) hc hb hx0 hkz
    rw [← hzs, List.drop_drop] at this
    rw [← hzs]
    exact this
   have hJ : xs' ++ zs.take k = xs ++ ys.take (j + k) := by rw [← hxs, ← hzs, List.append_assoc, List.take_add]
   have HJ := hid_of hJ
   have HI1 := hid_of hI1
   have HK1 := hid_of hK1
   have HB1 := hid_of hB1
   have HO := hid_of hO
   have HA := hid_of ha
   have HX := hid_of hxs
   have HZ := hid_of hzs
   have HPL := hid_of hpl
   have hnlt : h.n < 4611686018427387904 := by rw [hO.n]; omega
   have HXL := hid_of hxl
   have HZL := hid_of hzl
   have HLN := hid_of hlen
   have hm0 : 0 < zs.length := by omega
   have hk64 : k ≤ 64 := by omega
   have hak : a + k ≤ 64 := by omega
   rw [hzs]
   clear hxl hzl hlen hz0 hI1 hK1 hB1 hI hK hx hx0 hrz hJ hO hxs hpl ha hzs hkm hk
   by_cases hfull : a + k = 64
   ·have hE : ((a : Int) + (k : Int) == 64) = true := by simp; omega
    have hLw : Laid (wr.setRow g (Hsh.mk h.p (laidIn h.t (zs.take k) a) h.n).cells.toArray) := fun t ht => HK1.out.cell (HL.out t ht) (fun e => hg e.symm)
    have HLW := hid_of hLw
    clear hLw
    generalize hh1 : Hsh.mk h.p (laidIn h.t (zs.take k) a) h.n = h1 at *
    have hn1 : h1.n = h.n := by rw [← hh1]
    have HN1 := hid_of hn1
    have HH1 := hid_of hh1
    clear hn1 hh1
    go_wp2
    generalize wr.setRow g h1.cells.toArray = w1 at *
    have hs49 : (Tryz.prog.info? 89).map (·.size) = some (h1.t.map (Value.int .u8)).length := by rw [size49, List.length_map, HI1.out.2.1]
    have hcl : (h1.t.map (Value.int .u8)).length = 64 := by rw [List.length_map, HI1.out.2.1]
    have hco : ∀ v ∈ h1.t.map (Value.int .u8), v.oneCell' = true := fun v hv => by
     obtain ⟨x, _, rfl⟩ := List.mem_map.1 hv
     rfl
    have hrg := HI1.out.tail
    have hu49 := Tryz.underlying89
    have HTU : Hid (∀ W, Laid W → Calls Tryz.prog 35 #[h1.now.lit, .agg (h1.t.map (Value.int .u8)).toArray] W fun e w' => e = .returned (turn h1.now h1.t).lit ∧ Kept (fun _ => False) W w') := fun W hW => turned_lit _ _ HI1.out.2.1 HI1.out.2.2 W hW
    have HST : Hid (Calls Tryz.prog 34 #[.pointer (some ⟨g, 0, none⟩)] w1.drew fun e w' => e = .returned h1.now.lit ∧ Kept (fun _ => False) w1.drew w') := state_any g h1 w1.drew HI1.out (by rw [HN1.out]; exact hnlt)
    have hrd : w1.drew.rangeAt g 8 (h1.t.map (Value.int .u8)) := hrg
    generalize h1.t.map (Value.int .u8) = cs at *
    generalize hsn : turn h1.now h1.t = sn at *
    generalize hso : h1.now = so at *
    have HSN := hid_of hsn
    have HSO := hid_of hso
    clear hsn hso
    go_region_held3 (fun w' => w'.rangeAt g 8 cs) (first | with_reducible exact hrg | with_reducible exact hrd | with_reducible exact H2.out.1.1 | with_reducible exact H3.out.2.1 | with_reducible exact range8 H3.out.2.1 _ _ _ _ _ _ _ _)
     (first | (go_at_call 35; refine (HTU.out w2 H2.out.2.1).mono ?_; rintro e w3 ⟨rfl, hk3⟩; have H3 := hid_of (show HashIs w3 g h1 ∧ w3.rangeAt g 8 cs ∧ Kept (fun k => k = g) w w3 from ⟨H2.out.1.2.kept hk3 id, s_range_kept H2.out.1.1 hk3 id, H2.out.2.2.trans (hk3.mono (fun _ _ f => f.elim))⟩); clear hk3; obtain ⟨d0, d1, d2, d3, d4, d5, d6, d7⟩ := H3.out.1.pasts; have f0 := H3.out.1.fz 0; have f1 := H3.out.1.fz 1; have f2 := H3.out.1.fz 2; have f3 := H3.out.1.fz 3; have f4 := H3.out.1.fz 4; have f5 := H3.out.1.fz 5; have f6 := H3.out.1.fz 6; have f7 := H3.out.1.fz 7) | (go_at_call 34; refine HST.out.mono ?_; rintro e w2 ⟨rfl, hk2⟩; have H2 := hid_of (show (w2.rangeAt g 8 cs ∧ HashIs w2 g h1) ∧ Laid w2 ∧ Kept (fun k => k = g) w w2 from ⟨⟨s_range_kept (show w1.drew.rangeAt g 8 cs from hrg) hk2 id, (show HashIs w1.drew g h1 from HI1.out).kept hk2 id⟩, laid_kept (show Laid w1.drew from HLW.out) hk2 id, (show Kept (fun k => k = g) w w1.drew from HK1.out.drew).trans (hk2.mono (fun _ _ f => f.elim))⟩); clear hk2))
    have hI4 := H3.out.1.setp sn
    have hK4 : Kept (fun k => k = g) w ((((((((w3.setCell ⟨g, 0, none⟩ (.int .u32 sn.a)).setCell ⟨g, 1, none⟩ (.int .u32 sn.b)).setCell ⟨g, 2, none⟩ (.int .u32 sn.c)).setCell ⟨g, 3, none⟩ (.int .u32 sn.d)).setCell ⟨g, 4, none⟩ (.int .u32 sn.e)).setCell ⟨g, 5, none⟩ (.int .u32 sn.f)).setCell ⟨g, 6, none⟩ (.int .u32 sn.g)).setCell ⟨g, 7, none⟩ (.int .u32 sn.h)) := ((((((((H3.out.2.2).setCell (p := ⟨g, 0, none⟩) (.inr rfl) _).setCell (p := ⟨g, 1, none⟩) (.inr rfl) _).setCell (p := ⟨g, 2, none⟩) (.inr rfl) _).setCell (p := ⟨g, 3, none⟩) (.inr rfl) _).setCell (p := ⟨g, 4, none⟩) (.inr rfl) _).setCell (p := ⟨g, 5, none⟩) (.inr rfl) _).setCell (p := ⟨g, 6, none⟩) (.inr rfl) _).setCell (p := ⟨g, 7, none⟩) (.inr rfl) _
    generalize ((((((((w3.setCell ⟨g, 0, none⟩ (.int .u32 sn.a)).setCell ⟨g, 1, none⟩ (.int .u32 sn.b)).setCell ⟨g, 2, none⟩ (.int .u32 sn.c)).setCell ⟨g, 3, none⟩ (.int .u32 sn.d)).setCell ⟨g, 4, none⟩ (.int .u32 sn.e)).setCell ⟨g, 5, none⟩ (.int .u32 sn.f)).setCell ⟨g, 6, none⟩ (.int .u32 sn.g)).setCell ⟨g, 7, none⟩ (.int .u32 sn.h)) = w4 at *
    clear d0 d1 d2 d3 d4 d5 d6 d7 f0 f1 f2 f3 f4 f5 f6 f7 hrg hrd H2 H3 HST HTU
    have hl4 := hI4.len
    have hf4 := hI4.fz 72
    have HI4 := hid_of hI4
    have HK4 := hid_of hK4
    clear hI4 hK4
    have hw : wrap64 ((h1.n : Int) + (k : Int)) = ((h1.n + k : Nat) : Int) := by rw [HN1.out]; unfold wrap64; omega
    have HW := hid_of hw
    clear hw
    go_wp2
    go_roundw
    case rel =>
     rw [HW.out]
     refine ⟨j + k, by have := HZL.out; omega, HB1.out, ⟨_, HI4.out.setn (h1.n + k), ?_⟩, HK4.out.setCell (.inr rfl) _⟩
     have hF := HO.out.full (zs.take k) (by rw [HA.out, HPL.out]; exact hfull)
     rw [HJ.out] at hF
     rw [← HSN.out, ← HSO.out, ← HH1.out]
     rw [HA.out, HPL.out] at hF
     exact hF
    case measure => simp [lenOf]; omega
   ·have hE : ((a : Int) + (k : Int) == 64) = false := by simp; omega
    generalize hh1 : Hsh.mk h.p (laidIn h.t (zs.take k) a) h.n = h1 at *
    have HH1 := hid_of hh1
    have hn1 : h1.n = h.n := by rw [← hh1]
    have HN1 := hid_of hn1
    clear hn1 hh1
    have hl1 := HI1.out.len
    have hf1 := HI1.out.fz 72
    generalize wr.setRow g h1.cells.toArray = w1 at *
    have hw : wrap64 ((h1.n : Int) + (k : Int)) = ((h1.n + k : Nat) : Int) := by rw [HN1.out]; unfold wrap64; omega
    have HW := hid_of hw
    clear hw
    go_wp2
    go_roundw
    case rel =>
     rw [HW.out]
     refine ⟨j + k, by have := HZL.out; omega, HB1.out, ⟨_, HI1.out.setn (h1.n + k), ?_⟩, HK1.out.setCell (.inr rfl) _⟩
     have hF := HO.out.part (zs.take k) (by rw [HA.out, HPL.out]; omega)
     rw [HJ.out] at hF
     rw [← HH1.out]
     rw [HA.out, HPL.out] at hF
     exact hF
    case measure => simp [lenOf]; omega
end Go.Proofs.YtcahibbfejomcaaGreatDoor
