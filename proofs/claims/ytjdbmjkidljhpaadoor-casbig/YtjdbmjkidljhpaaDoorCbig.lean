/-
  CasBig: the walk.
-/
import Derived.Test.YtjdbmjkidljhpaaDoorCmega
import Derived.Maps.AppendAt
namespace Go.Proofs.YtjdbmjkidljhpaaDoor
open Go.RowKit
set_option linter.unusedVariables false
set_option linter.unusedSimpArgs false
set_option maxRecDepth 100000

set_option maxHeartbeats 8000000 in
theorem big_walk (x more : Int) (hx : 0 ≤ x ∧ x < 256) (hm0 : -9223372036854775808 ≤ more) (hm1 : more ≤ 9223372036854775807) (W : World) (hL : Laid W) :
    Calls Tryd.prog 6 #[.int .u8 x, .int .i64 more] W fun e w' => e = .returned (.bool true) ∧ Kept (fun _ => False) W w' := by
  have hL0 := hL.size
  have HL := hid_of hL
  have HX := hid_of hx
  obtain ⟨m, hm⟩ : ∃ m : Nat, more % 1048576 = (m : Int) := ⟨(more % 1048576).toNat, by omega⟩
  have hml : m < 1048576 := by omega
  have HRD : Hid (∀ W', Calls Tryd.prog 26 #[.int .i64 more, .int .i64 1048576] W' fun e w' => e = .returned (.int .i64 (m : Int)) ∧ w' = W') := fun W' => by
    have := round_any more 1048576 W' hm0 hm1 (by decide) (by decide)
    rwa [hm] at this
  clear hL hx hm hm0 hm1
  obtain ⟨cs, hcs⟩ : ∃ cs, cs = zer 1048576 := ⟨_, rfl⟩
  have mk : (Instr.makeSlice 26 (.int .i64 1048576) (.int .i64 1048576)).run Tryd.prog W = .ok (.slice (some ⟨W.heap.size, 0, none⟩) 1048576 1048576) (W.alloc (.cells cs 5)) := by rw [hcs]; exact make_any W 1048576 (by decide)
  have HM0 : Hid (∃ ys, Mega (W.alloc (.cells cs 5)) W.heap.size 1048576 ys) := by
    obtain ⟨ys, h1, h2, h3⟩ := zer_list 1048576
    rw [hcs, h3]
    exact ⟨ys, h1, h2, alloc_new _ _ rfl⟩
  have HK0 : Hid (Kept (fun _ => False) W (W.alloc (.cells cs 5))) := (Kept.refl _ W).alloc _
  clear hcs
  go_enter Tryd.func6, Tryd.ntmps6
  go_wp2
  clear mk
  go_loopw [6] (fun i wr => ∃ k : Nat, k ≤ 1052669 ∧ i = .int .i64 k ∧ (∃ ys, Mega wr W.heap.size 1048576 ys) ∧ Kept (fun _ => False) W wr) (fun i _ => 1052669 - (intOf i).toNat)
  case atStart => exact ⟨0, by omega, rfl, HM0.out, HK0.out⟩
  case round =>
    clear HM0 HK0
    obtain ⟨k, hk, rfl, ⟨ys, hM⟩, hK⟩ := hrel
    by_cases hlt : k < 1048576
    · obtain ⟨⟨u, hu⟩, hf⟩ := hM.there hlt
      have HM := hid_of (hM.step (k := k) x HX.out)
      have HK : Hid (Kept (fun _ => False) W (wr.setCell ⟨W.heap.size, k, none⟩ (.int .u8 x))) := hK.setCell (.inl (Nat.le_refl _)) _
      have hkI : (k : Int) < 1048576 := by omega
      clear hM hK
      go_wp2
      go_roundw
      case rel => exact ⟨k + 4093, by omega, by go_num, ⟨_, HM.out⟩, HK.out⟩
      case measure => simp [intOf]; omega
    · have hkI : ¬ (k : Int) < 1048576 := by omega
      have HM := hid_of hM
      have HK := hid_of hK
      have hbl := hM.lt
      clear hM hK hlt
      have HN1 := hid_of (new_store 32 1048608 wr (by decide) (by decide) (by decide) (by decide))
      go_wp2_with fail
      refine HN1.out.mono ?_
      rintro e w1 ⟨rfl, rfl⟩
      have HS1 := hid_of (stor_new wr 32 1048608)
      have HM1 : Hid (Mega (wr.alloc (.cells ((Sg.new 32 1048608).cells (.map none)) 63)) W.heap.size 1048576 ys) := HM.out.kept ((Kept.refl (fun _ => False) wr).alloc _) (fun f => f)
      have HK1 : Hid (Kept (fun _ => False) W (wr.alloc (.cells ((Sg.new 32 1048608).cells (.map none)) 63))) := HK.out.alloc _
      generalize wr.alloc (.cells ((Sg.new 32 1048608).cells (.map none)) 63) = w1 at *
      generalize wr.heap.size = s at *
      clear HN1 HM HK hkI hk
      have HN2 := hid_of (new_store 32 1048607 w1 (by decide) (by decide) (by decide) (by decide))
      go_wp2_with fail
      refine HN2.out.mono ?_
      rintro e w2 ⟨rfl, rfl⟩
      have hst := HS1.out.lt
      have hk12 : Kept (fun _ => False) w1 (w1.alloc (.cells ((Sg.new 32 1048607).cells (.map none)) 63)) := (Kept.refl _ w1).alloc _
      have HT2 := hid_of (stor_new w1 32 1048607)
      have HS2 := hid_of (HS1.out.kept hk12 (fun _ _ f => f))
      have HM2 := hid_of (HM1.out.kept hk12 (fun f => f))
      have HK2 := hid_of (HK1.out.trans hk12)
      clear hk12
      generalize w1.alloc (.cells ((Sg.new 32 1048607).cells (.map none)) 63) = w2 at *
      generalize w1.heap.size = t at *
      clear HN2 HS1 HM1 HK1
      have hyl := HM2.out.len
      have HYR := hid_of HM2.out.rng
      have HYL := hid_of hyl
      have HP1 := hid_of (put_ok0 HS2.out (laid_kept HL.out HK2.out (fun f => f)) (by omega) 32 rfl (by decide) (by decide) _ ys HM2.out.bin HYR.out (by omega) (fun _ g hg => by cases hg; show W.heap.size ≠ s; omega) (show (0 : Int) ≤ 0 by decide) (show (0 : Int) ≤ 1099511627776 by decide) rfl (show (0 : Int) ≤ 0 by decide) (show (0 : Int) ≤ 1099511627776 by decide) (show (0 : Int) ≤ 0 by decide) (show (0 : Int) ≤ 1099511627776 by decide) (by rw [used_empty _ _ _ rfl]; show (0 : Int) + ((ys.length : Int) + 32) ≤ 1048608; omega))
      clear hyl
      go_wp2_with fail
      refine HP1.out.mono ?_
      rintro e w3 ⟨rfl, mv1, σ1, hlo, hS3, hk3, hmv⟩
      have hk3' := own_none hk3
      have h2s := HK2.out.size
      have ht2 := HT2.out.lt
      have HO1 := hid_of (big_first hlo HYL.out (b := W.heap.size) (by omega))
      have HS3 := hid_of hS3
      have HT3 := hid_of (HT2.out.beside HS2.out (by omega) hk3')
      have HM3 := hid_of (HM2.out.kept hk3' (by omega))
      have HK3 := hid_of (kept_s HK2.out hk3' (by omega))
      clear hlo hS3 hk3 hk3' hmv HP1 HS2 HT2 HM2 HK2 h2s ht2
      have hdl := frontOf_len 32 ys (by decide)
      have hds := size28_of (frontOf 32 ys) hdl
      have hone := oneCells .u8 (frontOf 32 ys)
      have HOS : Hid (32 = ((frontOf 32 ys).map (Value.int .u8)).toArray.size) := by show 32 = _; simp [hdl]
      have HDL := hid_of hdl
      have HFIT := hid_of (fits_front 32 ys (by decide) (by decide))
      have HDV : Hid (dv (frontOf 32 ys) = .agg ((frontOf 32 ys).map (Value.int .u8)).toArray) := rfl
      rw [HDV.out]
      clear hdl
      generalize ((frontOf 32 ys).map (Value.int .u8)).toArray = ds at *
      have hk34 : Kept (fun _ => False) w3 (w3.alloc (.cells ds 28)) := (Kept.refl _ w3).alloc _
      have HD4 : Hid ((w3.alloc (.cells ds 28)).heap[w3.heap.size]? = some (.cells ds 28 (0, 0))) := alloc_new _ _ rfl
      have HS4 := hid_of (HS3.out.kept hk34 (fun _ _ f => f))
      have HT4 := hid_of (HT3.out.kept hk34 (fun _ _ f => f))
      have HM4 := hid_of (HM3.out.kept hk34 (fun f => f))
      have HK4 := hid_of (HK3.out.trans hk34)
      have hsd := HS3.out.lt
      have htd := HT3.out.lt
      clear hk34
      go_wp2_with (refine wpList_store_row rfl 28 _ _ rfl w3.heap.size ds rfl rfl 28 _ (alloc_new _ _ rfl) hds HOS.out hone ?_; rw [setRow_new _ _ _ _ rfl])
      try simp only [Act.put]
      generalize w3.alloc (.cells ds 28) = w4 at *
      generalize w3.heap.size = bd at *
      clear HS3 HT3 HM3 HK3
      have hyl := HYL.out
      have HP2 := hid_of (put_full0 HT4.out (laid_kept HL.out HK4.out (fun f => f)) (by omega) 32 rfl (by decide) (by decide) _ ys HM4.out.bin HYR.out (by omega) (fun _ g hg => by cases hg; show W.heap.size ≠ t; omega) (show (0 : Int) ≤ 0 by decide) (show (0 : Int) ≤ 1099511627776 by decide) rfl (show (0 : Int) ≤ 0 by decide) (show (0 : Int) ≤ 1099511627776 by decide) (by rw [used_empty _ _ _ rfl]; show (1048607 : Int) < 0 + ((ys.length : Int) + 32); omega))
      clear hyl
      have HZV : Hid (dv zeros32 = .agg #[.int .u8 0, .int .u8 0, .int .u8 0, .int .u8 0, .int .u8 0, .int .u8 0, .int .u8 0, .int .u8 0, .int .u8 0, .int .u8 0, .int .u8 0, .int .u8 0, .int .u8 0, .int .u8 0, .int .u8 0, .int .u8 0, .int .u8 0, .int .u8 0, .int .u8 0, .int .u8 0, .int .u8 0, .int .u8 0, .int .u8 0, .int .u8 0, .int .u8 0, .int .u8 0, .int .u8 0, .int .u8 0, .int .u8 0, .int .u8 0, .int .u8 0, .int .u8 0]) := rfl
      rw [HZV.out] at HP2
      have hz28 : (Tryd.prog.info? 28).map (·.size) = some (#[.int .u8 0, .int .u8 0, .int .u8 0, .int .u8 0, .int .u8 0, .int .u8 0, .int .u8 0, .int .u8 0, .int .u8 0, .int .u8 0, .int .u8 0, .int .u8 0, .int .u8 0, .int .u8 0, .int .u8 0, .int .u8 0, .int .u8 0, .int .u8 0, .int .u8 0, .int .u8 0, .int .u8 0, .int .u8 0, .int .u8 0, .int .u8 0, .int .u8 0, .int .u8 0, .int .u8 0, .int .u8 0, .int .u8 0, .int .u8 0, .int .u8 0, .int .u8 0] : Array Value).size := size28
      have hzone : (#[.int .u8 0, .int .u8 0, .int .u8 0, .int .u8 0, .int .u8 0, .int .u8 0, .int .u8 0, .int .u8 0, .int .u8 0, .int .u8 0, .int .u8 0, .int .u8 0, .int .u8 0, .int .u8 0, .int .u8 0, .int .u8 0, .int .u8 0, .int .u8 0, .int .u8 0, .int .u8 0, .int .u8 0, .int .u8 0, .int .u8 0, .int .u8 0, .int .u8 0, .int .u8 0, .int .u8 0, .int .u8 0, .int .u8 0, .int .u8 0, .int .u8 0, .int .u8 0] : Array Value).all (·.oneCell') = true := oneCells .u8 zeros32
      go_wp2_with fail
      refine HP2.out.mono ?_
      rintro e w5 ⟨rfl, hT5, hk5⟩
      have HT5 := hid_of hT5
      have HS5 := hid_of (HS4.out.beside HT4.out (by omega) hk5)
      have HM5 := hid_of (HM4.out.kept hk5 (by omega))
      have HK5 := hid_of (kept_s HK4.out hk5 (by omega))
      have HD5 := hid_of ((hk5.block _ (heap_lt HD4.out) (by omega)).trans HD4.out)
      clear hT5 hk5 HP2 HS4 HT4 HM4 HK4 HD4
      have hk56 : Kept (fun _ => False) w5 (w5.alloc (.cells #[.int .u8 0, .int .u8 0, .int .u8 0, .int .u8 0, .int .u8 0, .int .u8 0, .int .u8 0, .int .u8 0, .int .u8 0, .int .u8 0, .int .u8 0, .int .u8 0, .int .u8 0, .int .u8 0, .int .u8 0, .int .u8 0, .int .u8 0, .int .u8 0, .int .u8 0, .int .u8 0, .int .u8 0, .int .u8 0, .int .u8 0, .int .u8 0, .int .u8 0, .int .u8 0, .int .u8 0, .int .u8 0, .int .u8 0, .int .u8 0, .int .u8 0, .int .u8 0] 28)) := (Kept.refl _ w5).alloc _
      have HS6 := hid_of (HS5.out.kept hk56 (fun _ _ f => f))
      have HT6 := hid_of (HT5.out.kept hk56 (fun _ _ f => f))
      have HM6 := hid_of (HM5.out.kept hk56 (fun f => f))
      have HK6 := hid_of (HK5.out.trans hk56)
      have HD6 := hid_of ((hk56.block _ (heap_lt HD5.out) (fun f => f)).trans HD5.out)
      clear hk56
      go_wp2_with (refine wpList_store_row rfl 28 _ _ rfl w5.heap.size #[.int .u8 0, .int .u8 0, .int .u8 0, .int .u8 0, .int .u8 0, .int .u8 0, .int .u8 0, .int .u8 0, .int .u8 0, .int .u8 0, .int .u8 0, .int .u8 0, .int .u8 0, .int .u8 0, .int .u8 0, .int .u8 0, .int .u8 0, .int .u8 0, .int .u8 0, .int .u8 0, .int .u8 0, .int .u8 0, .int .u8 0, .int .u8 0, .int .u8 0, .int .u8 0, .int .u8 0, .int .u8 0, .int .u8 0, .int .u8 0, .int .u8 0, .int .u8 0] rfl rfl 28 _ (alloc_new _ _ rfl) hz28 rfl hzone ?_; rw [setRow_new _ _ _ _ rfl])
      try simp only [Act.put]
      generalize w5.alloc (.cells #[.int .u8 0, .int .u8 0, .int .u8 0, .int .u8 0, .int .u8 0, .int .u8 0, .int .u8 0, .int .u8 0, .int .u8 0, .int .u8 0, .int .u8 0, .int .u8 0, .int .u8 0, .int .u8 0, .int .u8 0, .int .u8 0, .int .u8 0, .int .u8 0, .int .u8 0, .int .u8 0, .int .u8 0, .int .u8 0, .int .u8 0, .int .u8 0, .int .u8 0, .int .u8 0, .int .u8 0, .int .u8 0, .int .u8 0, .int .u8 0, .int .u8 0, .int .u8 0] 28) = w6 at *
      generalize w5.heap.size = bz at *
      clear HS5 HT5 HM5 HK5 HD5
      have HLN := hid_of (len_none HT6.out)
      have HUS := hid_of (used_any HS6.out)
      have HCP := hid_of (cap_any HS6.out)
      rw [HO1.out.us] at HUS
      rw [HO1.out.cp] at HCP
      go_wp2_with fail
      refine HLN.out.mono ?_
      rintro e w6a ⟨rfl, hw6a⟩
      have hw6a' := hw6a.symm
      clear hw6a HLN
      subst hw6a'
      go_wp2_with fail
      refine HUS.out.mono ?_
      rintro e w6b ⟨rfl, hw6b⟩
      have hw6b' := hw6b.symm
      clear hw6b HUS
      subst hw6b'
      go_wp2_with fail
      refine HCP.out.mono ?_
      rintro e w6c ⟨rfl, hw6c⟩
      have hw6c' := hw6c.symm
      clear hw6c HCP
      subst hw6c'
      have HGT := hid_of (get_ok HS6.out (laid_kept HL.out HK6.out (fun f => f)) (by omega) 32 HO1.out.wd (by decide) (by decide) (frontOf 32 ys) HDL.out (by rw [HO1.out.gt]; decide) (by rw [HO1.out.gt]; decide) HO1.out.whole)
      rw [HO1.out.raw, HDV.out] at HGT
      go_wp2_with (refine wpList_load_row rfl 28 _ rfl bd rfl 28 ds (0, 0) _ HD6.out Tryd.underlying28 rfl hds ?_)
      refine HGT.out.mono ?_
      rintro e w7 ⟨gv, rfl, hgv, hgf, hS7, hk7⟩
      have HS7 := hid_of hS7
      have HT7 := hid_of (HT6.out.beside HS6.out (by omega) hk7)
      have HM7 := hid_of (HM6.out.kept hk7 (by omega))
      have HK7 := hid_of (kept_s HK6.out hk7 (by omega))
      have HD7 := hid_of ((hk7.block _ (heap_lt HD6.out) (by omega)).trans HD6.out)
      obtain ⟨gn, gc, hgg, _, _⟩ := id hgv
      subst hgg
      have HG7 := hid_of hgv
      have hd6 := heap_lt HD6.out
      have HGF : Hid (∀ g, (Value.slice gn ys.length gc).ownBlock = some g → g ≠ W.heap.size ∧ g ≠ s ∧ g ≠ t) := fun g hg => by have := hgf g hg; omega
      clear hgv hgf hS7 hk7 hd6 HGT HS6 HT6 HM6 HK6 HD6
      obtain ⟨ob, hob⟩ : ∃ ob, ob = w7.alloc (.cells #[.int .u8 x] 5) := ⟨_, rfl⟩
      have hk7o : Kept (fun _ => False) w7 ob := by rw [hob]; exact (Kept.refl _ w7).alloc _
      have hxo : BIn ob (.slice (some ⟨w7.heap.size, 0, none⟩) 1 1) [x] := ⟨_, 1, rfl, Nat.le_refl _, .inr ⟨w7.heap.size, 0, rfl, fun i hi => by obtain rfl : i = 0 := (by simpa using hi); rw [hob, cell_block _ _ _ _ _ _ (alloc_new _ _ rfl)]; rfl⟩⟩
      obtain ⟨v8, w8, hr8, ho8, hg8⟩ := app_any ob (.slice (some ⟨W.heap.size, 0, none⟩) 1048576 1048576) 1048576 W.heap.size ys 26 (.slice (some ⟨w7.heap.size, 0, none⟩) 1 1) [x] ((HM7.out.kept hk7o (fun f => f)).own (by unfold maxLen; omega)) hxo (Nat.le_trans HK7.out.size hk7o.size) (by simp)
      rw [hob] at hr8
      have hkb : Kept (fun q => q = W.heap.size) ob w8 := ⟨hg8.os, hg8.tape, hg8.output, hg8.size, fun q hq hn => hg8.block q hq (fun e => hn (by cases e; rfl))⟩
      have hkb7 : Kept (fun q => q = W.heap.size) w7 w8 := (hk7o.mono (fun _ _ f => f.elim)).trans hkb
      obtain ⟨zs, hzs⟩ : ∃ zs, zs = ys ++ [x] := ⟨_, rfl⟩
      rw [← hzs] at ho8
      have HZL : Hid (zs.length = 1048577) := by rw [hzs, List.length_append, HYL.out]; rfl
      have HZT : Hid (zs.take 1048576 = ys) := by rw [hzs, List.take_append_of_le_length (by rw [HYL.out]; exact Nat.le_refl _)]; exact List.take_of_length_le (by rw [HYL.out]; exact Nat.le_refl _)
      have HZR : Hid (∀ y ∈ zs, 0 ≤ y ∧ y < 256) := fun y hy => by rw [hzs] at hy; rcases List.mem_append.1 hy with h | h; exact HYR.out y h; rw [List.mem_singleton.1 h]; exact HX.out
      obtain ⟨hx8, hv8⟩ := own_bin ho8
      obtain ⟨vo, vc, hvv, _, _⟩ := id hx8
      subst hvv
      have hmb : ∀ r, mv1 = .map (some r) → r ≠ W.heap.size := fun r hr e => by
        subst e
        rcases HS7.out.map with ⟨h1, _⟩ | ⟨r', c, h1, h2, _⟩
        · rw [h1] at hr; cases hr
        · rw [h1] at hr; cases hr; rw [HM7.out.blk] at h2; cases h2
      have HS8 := hid_of (HS7.out.kept3 hkb7 (by omega) hmb HO1.out.off)
      have HT8 := hid_of (HT7.out.kept3 hkb7 (by omega) (fun r hr => by cases hr) (fun e he => by cases he))
      have HK8 : Hid (Kept (fun _ => False) W w8) := kept_s HK7.out hkb7 (Nat.le_refl _)
      have HD8 := hid_of ((hkb7.block _ (heap_lt HD7.out) (by omega)).trans HD7.out)
      have HG8 := hid_of (HG7.out.kept2 hkb7 (fun _ g hg => (HGF.out g hg).1))
      have HX8 := hid_of hx8
      have HVF : Hid (∀ g, (Value.slice vo zs.length vc).ownBlock = some g → g ≠ s ∧ g ≠ t) := fun g hg => ⟨HS8.out.nobytes HS8.out.ismap hx8 (by intro h; have := HZL.out; rw [h] at this; cases this) g hg, HT8.out.nobytes HT8.out.ismap hx8 (by intro h; have := HZL.out; rw [h] at this; cases this) g hg⟩
      clear hk7o hxo ho8 hg8 hkb hkb7 hx8 hv8 hmb HS7 HT7 HK7 HD7 HM7 HG7 hob hzs
      go_wp2_with (refine wp_app rfl (.tmp 91) (.tmp 93) 26 26 ?_ _ _ rfl rfl (.slice vo zs.length vc) w8 ?_ ?_; rfl; exact hr8)
      have HPL := hid_of (put_long HS8.out _ zs HX8.out (by rw [HZL.out]; decide) (by rw [HZL.out]; decide) (by show (0 : Int) ≤ σ1.pt; rw [HO1.out.pt]; decide) (by show σ1.pt ≤ (1099511627776 : Int); rw [HO1.out.pt]; decide))
      rw [HZV.out] at HPL
      refine HPL.out.mono ?_
      rintro e w9 ⟨rfl, hS9, hk9⟩
      have HS9 := hid_of hS9
      have HT9 := hid_of (HT8.out.beside HS8.out (by omega) hk9)
      have HK9 := hid_of (kept_s HK8.out hk9 (by omega))
      have HD9 := hid_of ((hk9.block _ (heap_lt HD8.out) (by omega)).trans HD8.out)
      have HG9 := hid_of (HG8.out.kept2 hk9 (fun _ g hg => (HGF.out g hg).2.1))
      have HX9 := hid_of (HX8.out.kept2 hk9 (fun _ g hg => (HVF.out g hg).1))
      clear hS9 hk9 HPL HS8 HT8 HK8 HD8 HG8 HX8 hr8
      have hka : Kept (fun _ => False) w9 (w9.alloc (.cells #[.int .u8 0, .int .u8 0, .int .u8 0, .int .u8 0, .int .u8 0, .int .u8 0, .int .u8 0, .int .u8 0, .int .u8 0, .int .u8 0, .int .u8 0, .int .u8 0, .int .u8 0, .int .u8 0, .int .u8 0, .int .u8 0, .int .u8 0, .int .u8 0, .int .u8 0, .int .u8 0, .int .u8 0, .int .u8 0, .int .u8 0, .int .u8 0, .int .u8 0, .int .u8 0, .int .u8 0, .int .u8 0, .int .u8 0, .int .u8 0, .int .u8 0, .int .u8 0] 28)) := (Kept.refl _ w9).alloc _
      have HSa := hid_of (HS9.out.kept hka (fun _ _ f => f))
      have HTa := hid_of (HT9.out.kept hka (fun _ _ f => f))
      have HKa := hid_of (HK9.out.trans hka)
      have HDa := hid_of ((hka.block _ (heap_lt HD9.out) (fun f => f)).trans HD9.out)
      have HGa := hid_of (HG9.out.kept2 hka (fun _ _ _ f => f))
      have HXa := hid_of (HX9.out.kept2 hka (fun _ _ _ f => f))
      clear hka
      go_wp2_with (first | (refine wpList_store_row rfl 28 _ _ rfl w9.heap.size #[.int .u8 0, .int .u8 0, .int .u8 0, .int .u8 0, .int .u8 0, .int .u8 0, .int .u8 0, .int .u8 0, .int .u8 0, .int .u8 0, .int .u8 0, .int .u8 0, .int .u8 0, .int .u8 0, .int .u8 0, .int .u8 0, .int .u8 0, .int .u8 0, .int .u8 0, .int .u8 0, .int .u8 0, .int .u8 0, .int .u8 0, .int .u8 0, .int .u8 0, .int .u8 0, .int .u8 0, .int .u8 0, .int .u8 0, .int .u8 0, .int .u8 0, .int .u8 0] rfl rfl 28 _ (alloc_new _ _ rfl) hz28 rfl hzone ?_; rw [setRow_new _ _ _ _ rfl]) | (refine wpList_load_row rfl 28 _ rfl bd rfl 28 ds (0, 0) _ HDa.out Tryd.underlying28 rfl hds ?_))
      try simp only [Act.put]
      generalize w9.alloc (.cells #[.int .u8 0, .int .u8 0, .int .u8 0, .int .u8 0, .int .u8 0, .int .u8 0, .int .u8 0, .int .u8 0, .int .u8 0, .int .u8 0, .int .u8 0, .int .u8 0, .int .u8 0, .int .u8 0, .int .u8 0, .int .u8 0, .int .u8 0, .int .u8 0, .int .u8 0, .int .u8 0, .int .u8 0, .int .u8 0, .int .u8 0, .int .u8 0, .int .u8 0, .int .u8 0, .int .u8 0, .int .u8 0, .int .u8 0, .int .u8 0, .int .u8 0, .int .u8 0] 28) = wa at *
      generalize w9.heap.size = by' at *
      clear HS9 HT9 HK9 HD9 HG9 HX9
      have HPL := hid_of (plant_long HSa.out (frontOf 32 ys) HDL.out _ zs HXa.out (by rw [HZL.out]; decide) (by show fitsL (frontOf 32 ys) σ1.wd = true; rw [HO1.out.wd]; exact HFIT.out) (by rw [HZL.out]; decide))
      rw [HDV.out] at HPL
      refine HPL.out.mono ?_
      rintro e wb ⟨rfl, hkb⟩
      have HSb := hid_of (HSa.out.kept hkb (fun _ _ f => f))
      have HTb := hid_of (HTa.out.kept hkb (fun _ _ f => f))
      have HKb := hid_of (HKa.out.trans hkb)
      have HDb := hid_of ((hkb.block _ (heap_lt HDa.out) (fun f => f)).trans HDa.out)
      have HGb := hid_of (HGa.out.kept2 hkb (fun _ _ _ f => f))
      have HXb := hid_of (HXa.out.kept2 hkb (fun _ _ _ f => f))
      clear hkb HPL HSa HTa HKa HDa HGa HXa
      obtain ⟨po, pc, hps, hpb, hpg⟩ := front_of HXb.out m (by rw [HZL.out]; omega)
      have HPB := hid_of hpb
      have HPG := hid_of hpg
      have hpl : (zs.take m).length = m := by rw [List.length_take, HZL.out]; omega
      have HPO := hid_of (plant_ok HTb.out one32 rfl _ (zs.take m) (HPB.out wb HXb.out) (by omega) one32_fit (fun y hy => HZR.out y (List.mem_of_mem_take hy)) (by unfold one32; intro y hy; rcases List.mem_cons.1 hy with h | h; rw [h]; decide; rw [List.eq_of_mem_replicate h]; decide) (by omega) (show (0 : Int) ≤ 0 by decide) (show (0 : Int) ≤ 1099511627776 by decide) (show (0 : Int) ≤ 0 by decide) (show (0 : Int) ≤ 1099511627776 by decide) (by rw [used_empty _ _ _ rfl]; show (0 : Int) + (((zs.take m).length : Int) + 32) ≤ 1048607; omega) (fun _ g hg => (HVF.out g (HPG.out g hg)).2))
      clear hpb hpg hpl
      generalize zs.take m = ps at *
      have HOV : Hid (dv one32 = .agg #[.int .u8 1, .int .u8 0, .int .u8 0, .int .u8 0, .int .u8 0, .int .u8 0, .int .u8 0, .int .u8 0, .int .u8 0, .int .u8 0, .int .u8 0, .int .u8 0, .int .u8 0, .int .u8 0, .int .u8 0, .int .u8 0, .int .u8 0, .int .u8 0, .int .u8 0, .int .u8 0, .int .u8 0, .int .u8 0, .int .u8 0, .int .u8 0, .int .u8 0, .int .u8 0, .int .u8 0, .int .u8 0, .int .u8 0, .int .u8 0, .int .u8 0, .int .u8 0]) := rfl
      rw [HOV.out] at HPO
      go_wp2_with fail
      refine (HRD.out wb).mono ?_
      rintro e wb' ⟨rfl, hwb'⟩
      have hwb'' := hwb'.symm
      clear hwb'
      subst hwb''
      go_wp2_with fail
      refine HPO.out.mono ?_
      rintro e wc ⟨rfl, mvT, τ, _, _, hkc, _⟩
      have hkc' := own_none hkc
      have HSc := hid_of (HSb.out.beside HTb.out (by omega) hkc')
      have HKc := hid_of (kept_s HKb.out hkc' (by omega))
      have HGc := hid_of (HGb.out.kept2 hkc' (fun _ g hg => (HGF.out g hg).2.2))
      have HXc := hid_of (HXb.out.kept2 hkc' (fun _ g hg => (HVF.out g hg).2))
      clear hkc hkc' HPO HSb HTb HKb HDb HGb HXb hps HPB HPG
      obtain ⟨qo, qc, hqs, hqb, hqg⟩ := front_of HXc.out 1048576 (by rw [HZL.out]; decide)
      rw [HZT.out] at hqs hqb
      have HQB := hid_of hqb
      clear hqb hqg
      have hqs' : ∀ W' : World, (Instr.slice 26 (.slice vo zs.length vc) none (some (.int .i64 1048576)) none).run Tryd.prog W' = .ok (.slice qo ys.length qc) W' := hqs
      clear hqs
      have HSM : Hid (Calls Tryd.prog 23 #[.slice gn ys.length gc, .slice qo ys.length qc] wc fun e w' => e = .returned (.bool true) ∧ Kept (fun _ => False) wc w') := by
        have := same_any _ _ _ _ wc HGc.out (HQB.out wc HXc.out) (by rw [HYL.out]; unfold maxLen; decide)
        rwa [decide_eq_true rfl] at this
      go_wp2_with fail
      refine HSM.out.mono ?_
      rintro e wd ⟨rfl, hkd⟩
      have HSd := hid_of (HSc.out.kept hkd (fun _ _ f => f))
      have HKd := hid_of (HKc.out.trans hkd)
      have HGd := hid_of (HGc.out.kept2 hkd (fun _ _ _ f => f))
      have HXd := hid_of (HXc.out.kept2 hkd (fun _ _ _ f => f))
      clear hkd HSM HSc HKc HGc HXc hqs' HQB
      have HDG : Hid (Calls Tryd.prog 27 #[.pointer (some ⟨s, 0, none⟩), .slice vo zs.length vc] wd fun e w' => e = .returned (dv (frontOf 32 zs)) ∧ Kept (fun _ => False) wd w') := digest_cells s 32 (by decide) (by decide) _ zs wd (by have := HSd.out.cell 0; rw [show (0 : Nat) = 0 from rfl] at this; simpa [Sg.cells, Sg.get1, Sg.put1, HO1.out.wd] using this) (laid_kept HL.out HKd.out (fun f => f)) HXd.out HZR.out (by rw [HZL.out]; decide)
      have HOF : Hid (∀ W', BIn W' (.slice vo zs.length vc) zs → Calls Tryd.prog 8 #[.int .i64 32, .slice vo zs.length vc] W' fun e w' => e = .returned (dv (frontOf 32 zs)) ∧ Kept (fun _ => False) W' w') := fun W' hW => rof4_any 32 (by decide) (by decide) _ zs W' hW HZR.out (by rw [HZL.out]; decide)
      have hEQ : ∀ W' : World, (Op.equalIn 10000 28 (dv (frontOf 32 zs)) (dv (frontOf 32 zs))).run Tryd.prog W' = .ok true W' := fun W' => by
        have := run_eq_arr W' 9998 28 32 (frontOf 32 zs) (frontOf 32 zs) Tryd.underlying28 (frontOf_len 32 zs (by decide)) (frontOf_len 32 zs (by decide))
        rw [decide_eq_true rfl] at this
        exact this
      unfold dv at HDG HOF hEQ
      generalize ((frontOf 32 zs).map (Value.int .u8)).toArray = es at *
      go_wp2_with fail
      refine HDG.out.mono ?_
      rintro e we ⟨rfl, hke⟩
      have HSe := hid_of (HSd.out.kept hke (fun _ _ f => f))
      have HKe := hid_of (HKd.out.trans hke)
      have HGe := hid_of (HGd.out.kept2 hke (fun _ _ _ f => f))
      have HXe := hid_of (HXd.out.kept2 hke (fun _ _ _ f => f))
      clear hke HDG HSd HKd HGd HXd
      go_wp2_with fail
      refine (HOF.out we HXe.out).mono ?_
      rintro e wf ⟨rfl, hkf⟩
      have HSf := hid_of (HSe.out.kept hkf (fun _ _ f => f))
      have HKf := hid_of (HKe.out.trans hkf)
      have HGf := hid_of (HGe.out.kept2 hkf (fun _ _ _ f => f))
      have HXf := hid_of (HXe.out.kept2 hkf (fun _ _ _ f => f))
      clear hkf HOF HSe HKe HGe HXe
      have HHD := hid_of (head_any wf (laid_kept HL.out HKf.out (fun f => f)))
      go_wp2_with fail
      refine HHD.out.mono ?_
      rintro e wg ⟨rfl, hkg⟩
      have HKg := hid_of (HKf.out.trans hkg)
      clear hkg HHD
      go_wp2
      go_ret
      exact ⟨rfl, HKg.out⟩
end Go.Proofs.YtjdbmjkidljhpaaDoor
