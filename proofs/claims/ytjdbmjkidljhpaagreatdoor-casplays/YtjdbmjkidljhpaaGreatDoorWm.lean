/-
  made, CasPlays, by contract.
-/
import Derived.Test.YtjdbmjkidljhpaaGreatDoorWs
import Derived.Test.YtjdbmjkidljhpaaGreatDoorMn
import Derived.Test.YtjdbmjkidljhpaaGreatDoorMq
namespace Go.Proofs.YtjdbmjkidljhpaaGreatDoor
open Go.RowKit
set_option linter.unusedVariables false
set_option linter.unusedSimpArgs false
set_option maxRecDepth 100000

set_option maxHeartbeats 2000000 in
theorem news_bad (wd cp : Int) (w : World) (h : ¬ ((1 ≤ wd ∧ wd ≤ 32) ∧ 0 ≤ cp ∧ cp ≤ 67108864)) :
    Calls Tryz.prog 13 #[.int .i64 wd, .int .i64 cp] w fun e w' => e = .returned (.tuple #[.pointer none, .int .i64 (if 1 ≤ wd ∧ wd ≤ 32 then 1 else 3)]) ∧ w' = w := by
  have HM := hid_of (may_any cp)
  by_cases h1 : 1 ≤ wd
  · by_cases h2 : wd ≤ 32
    · rw [if_pos ⟨h1, h2⟩]
      have l1 : ¬ wd < 1 := by omega
      have l2 : ¬ 32 < wd := by omega
      have e0 : decide (0 ≤ cp ∧ cp ≤ 67108864) = false := decide_eq_false (fun q => h ⟨⟨h1, h2⟩, q⟩)
      rw [e0] at HM
      clear h h1 h2 e0
      go_enter Tryz.func13, Tryz.ntmps13
      go_wp2_with fail
      refine (HM.out _).mono ?_
      rintro e w1 ⟨rfl, rfl⟩
      go_wp2
      go_ret2
      exact ⟨rfl, rfl⟩
    · rw [if_neg (fun q => h2 q.2)]
      have l1 : ¬ wd < 1 := by omega
      have l2 : 32 < wd := by omega
      clear h h1 h2
      go_enter Tryz.func13, Tryz.ntmps13
      go_wp2
      go_ret2
      exact ⟨rfl, rfl⟩
  · rw [if_neg (fun q => h1 q.1)]
    have l1 : wd < 1 := by omega
    clear h h1
    go_enter Tryz.func13, Tryz.ntmps13
    go_wp2
    go_ret2
    exact ⟨rfl, rfl⟩
set_option maxHeartbeats 4000000 in
theorem made_bad (wd cp : Int) (w : World) (hL : Laid w) (h : ¬ ((1 ≤ wd ∧ wd ≤ 32) ∧ 0 ≤ cp ∧ cp ≤ 67108864)) :
    Calls Tryz.prog 5 #[.int .i64 wd, .int .i64 cp] w fun e w' => e = .returned (.tuple #[.pointer none, .bool true]) ∧ Kept (fun _ => False) w w' := by
  have HA := hid_of (news_bad wd cp w h)
  have HB := hid_of (newr_bad wd cp w h)
  have HH := hid_of (head_any w hL)
  clear h hL
  generalize (if 1 ≤ wd ∧ wd ≤ 32 then (1 : Int) else 3) = q at *
  go_enter Tryz.func5, Tryz.ntmps5
  go_wp2_with fail
  refine HA.out.mono ?_
  rintro e w1 ⟨rfl, rfl⟩
  go_wp2_with fail
  refine HB.out.mono ?_
  rintro e w2 ⟨rfl, rfl⟩
  go_wp2_with fail
  refine HH.out.mono ?_
  rintro e w3 ⟨rfl, hk⟩
  have HK := hid_of hk
  clear hk
  go_wp2
  go_ret2
  exact ⟨rfl, HK.out⟩
set_option maxHeartbeats 4000000 in
theorem made_ok (wd cp : Int) (w : World) (h1 : 1 ≤ wd) (h2 : wd ≤ 32) (h3 : 0 ≤ cp) (h4 : cp ≤ 67108864) :
    Calls Tryz.prog 5 #[.int .i64 wd, .int .i64 cp] w fun e w' => e = .returned (.tuple #[.pointer (some ⟨w.heap.size + 1 + 1, 0, none⟩), .bool true]) ∧ w' = ((w.alloc (.cells ((Sg.new wd cp).cells (.map none)) 65)).alloc (.cells ((Rg.new wd cp).cells (.slice none 0 0)) 42)).alloc (.cells (wcells w.heap.size (w.heap.size + 1) (.slice none 0 0)) 36) := by
  have HA := hid_of (new_store wd cp w h1 h2 h3 h4)
  have HB := hid_of (newr_ok wd cp (w.alloc (.cells ((Sg.new wd cp).cells (.map none)) 65)) h1 h2 h3 h4)
  rw [show (w.alloc (.cells ((Sg.new wd cp).cells (.map none)) 65)).heap.size = w.heap.size + 1 by simp] at HB
  have hs : ((w.alloc (.cells ((Sg.new wd cp).cells (.map none)) 65)).alloc (.cells ((Rg.new wd cp).cells (.slice none 0 0)) 42)).heap.size = w.heap.size + 1 + 1 := by simp
  have HWC : Hid (wcells w.heap.size (w.heap.size + 1) (.slice none 0 0) = #[.pointer (some ⟨w.heap.size, 0, none⟩), .pointer (some ⟨w.heap.size + 1, 0, none⟩), .slice none 0 0]) := rfl
  rw [HWC.out]
  clear h1 h2 h3 h4 HWC
  go_enter Tryz.func5, Tryz.ntmps5
  go_wp2_with fail
  refine HA.out.mono ?_
  rintro e w1 ⟨rfl, rfl⟩
  go_wp2_with fail
  refine HB.out.mono ?_
  rintro e w2 ⟨rfl, rfl⟩
  clear HA HB
  go_wp2
  try rw [hs]
  go_ret2
  exact ⟨rfl, rfl⟩
theorem wd_new (k : Nat) (h1 : 1 ≤ k) (h2 : k ≤ 32) (cp : Int) (h4 : cp ≤ 67108864) (w : World) (hL : Laid w) :
    Wd (((w.alloc (.cells ((Sg.new k cp).cells (.map none)) 65)).alloc (.cells ((Rg.new k cp).cells (.slice none 0 0)) 42)).alloc (.cells (wcells w.heap.size (w.heap.size + 1) (.slice none 0 0)) 36)) w.heap.size k 0 (w.heap.size + 1 + 1) w.heap.size (.map none) (Sg.new k cp) (w.heap.size + 1) (.slice none 0 0) (Rg.new k cp) (.slice none 0 0) 0 := by
  have k1 : Kept (fun _ => False) (w.alloc (.cells ((Sg.new k cp).cells (.map none)) 65)) (((w.alloc (.cells ((Sg.new k cp).cells (.map none)) 65)).alloc (.cells ((Rg.new k cp).cells (.slice none 0 0)) 42)).alloc (.cells (wcells w.heap.size (w.heap.size + 1) (.slice none 0 0)) 36)) := ((Kept.refl _ _).alloc _).alloc _
  have k2 : Kept (fun _ => False) ((w.alloc (.cells ((Sg.new k cp).cells (.map none)) 65)).alloc (.cells ((Rg.new k cp).cells (.slice none 0 0)) 42)) (((w.alloc (.cells ((Sg.new k cp).cells (.map none)) 65)).alloc (.cells ((Rg.new k cp).cells (.slice none 0 0)) 42)).alloc (.cells (wcells w.heap.size (w.heap.size + 1) (.slice none 0 0)) 36)) := (Kept.refl _ _).alloc _
  have k0 : Kept (fun _ => False) w (w.alloc (.cells ((Sg.new k cp).cells (.map none)) 65)) := (Kept.refl _ _).alloc _
  have hr := rst_new (w.alloc (.cells ((Sg.new k cp).cells (.map none)) 65)) k cp
  rw [show (w.alloc (.cells ((Sg.new k cp).cells (.map none)) 65)).heap.size = w.heap.size + 1 by simp] at hr
  have h0 := hL.size
  refine ⟨⟨(stor_new w k cp).kept k1 (fun _ _ f => f), sane_new k cp h4, hr.same k2, Alk.nil, ⟨rfl, rfl, rfl, rfl, rfl⟩, laid_kept hL (k0.trans k1) (fun f => f), ⟨h1, h2⟩, fun e he => (by cases he), fun q hq => ?_, by omega, Nat.le_refl _⟩, alloc_new _ _ (by simp), .inl ⟨rfl, rfl⟩, by omega, ⟨by omega, fun q hq => (by cases hq)⟩, fun q hq e => (by cases e)⟩
  rcases hq with (rfl | hq) | (rfl | hq)
  · exact Nat.le_refl _
  · cases hq
  · omega
  · cases hq
theorem TIs.stays {w w' : World} {v : Value} {ts : List Stp} (h : TIs w v ts) (hk : Kept (fun _ => False) w w') : TIs w' v ts := by
  obtain ⟨ao, cap, hv, hl, hall⟩ := h
  refine ⟨ao, cap, hv, hl, fun i t ht => ?_⟩
  obtain ⟨h1, g, o, h2, h3⟩ := hall i t ht
  exact ⟨⟨h1.bb.kept2 hk (fun _ _ _ f => f), h1.br, h1.cb.kept2 hk (fun _ _ _ f => f), h1.cr, h1.dl, h1.dr, h1.bl, h1.cl⟩, g, o, h2, fun j u hj => hk.cell (h3 j u hj) (fun f => f)⟩
theorem Stp.clen {t : Stp} (h : t.d.length = 32) : t.cells.length = 37 := by simp [Stp.cells, h]
theorem Stp.low {w : World} {t : Stp} (h : t.Ok w) : Low w.heap.size t := ⟨fun h0 q hq => h.bb.blt h0 q hq, fun h0 q hq => h.cb.blt h0 q hq⟩
/-- What holds between the rounds. -/
def PlS (W wr : World) (k n g r : Nat) : Prop := ∃ s mv σ lv ρ iv m, Wd wr W.heap.size k n g s mv σ r lv ρ iv m ∧ Kept (fun _ => False) W wr
theorem PlS.next {W wr w' : World} {k n n' g r s : Nat} {mv : Value} {σ : Sg} {lv : Value} {ρ : Rg} {iv : Value} {m : Nat} (h : Wd wr W.heap.size k n g s mv σ r lv ρ iv m) (hk : Kept (fun _ => False) W wr) (ht : WdTo wr w' W.heap.size k n' g s mv σ r lv ρ iv) : PlS W w' k n' g r := by
  obtain ⟨s', mv', σ', lv', ρ', iv', m', h1, h2, _, _⟩ := ht
  exact ⟨s', mv', σ', lv', ρ', iv', m', h1, hk.step h2 (fun i hi e => by have := h.base i e; omega)⟩
set_option maxHeartbeats 16000000 in
theorem plays_ok (wd cp : Int) (v : Value) (ts : List Stp) (W : World) (h1 : 1 ≤ wd) (h2 : wd ≤ 32) (h3 : 0 ≤ cp) (h4 : cp ≤ 67108864) (hL : Laid W) (ht : TIs W v ts) :
    Calls Tryz.prog 3 #[.int .i64 wd, .int .i64 cp, v] W fun e w' => e = .returned (.bool true) ∧ Kept (fun _ => False) W w' := by
  obtain ⟨ao, cap, hv, hlm, _⟩ := id ht
  subst hv
  obtain ⟨k, hk⟩ : ∃ k : Nat, wd = (k : Int) := ⟨wd.toNat, by omega⟩
  subst hk
  have HT := hid_of ht
  have HMA := hid_of (made_ok k cp W h1 h2 h3 h4)
  have HWN : Hid (PlS W (((W.alloc (.cells ((Sg.new k cp).cells (.map none)) 65)).alloc (.cells ((Rg.new k cp).cells (.slice none 0 0)) 42)).alloc (.cells (wcells W.heap.size (W.heap.size + 1) (.slice none 0 0)) 36)) k 0 (W.heap.size + 1 + 1) (W.heap.size + 1)) := ⟨_, _, _, _, _, _, _, wd_new k (by omega) (by omega) cp h4 W hL, (((Kept.refl _ W).alloc _).alloc _).alloc _⟩
  generalize ((W.alloc (.cells ((Sg.new k cp).cells (.map none)) 65)).alloc (.cells ((Rg.new k cp).cells (.slice none 0 0)) 42)).alloc (.cells (wcells W.heap.size (W.heap.size + 1) (.slice none 0 0)) 36) = wN at *
  obtain ⟨g, hgE⟩ : ∃ g, g = W.heap.size + 1 + 1 := ⟨_, rfl⟩
  obtain ⟨r, hrE⟩ : ∃ r, r = W.heap.size + 1 := ⟨_, rfl⟩
  rw [← hgE] at HMA HWN
  rw [← hrE] at HWN
  clear hgE hrE ht h1 h2 h3 h4
  go_enter Tryz.func3, Tryz.ntmps3
  go_wp2_with fail
  refine HMA.out.mono ?_
  rintro e w1 ⟨rfl, rfl⟩
  clear HMA
  go_wp2
  go_loopw [9] (fun i wr => ∃ (j : Nat), j ≤ ts.length ∧ j ≤ 300 ∧ i = .int .i64 j ∧ Hid (PlS W wr k (2 * j) g r)) (fun i _ => ts.length - (intOf i).toNat)
  case atStart => exact ⟨0, by omega, by omega, rfl, HWN⟩
  case round =>
    clear HWN
    obtain ⟨j, hj, hj3, rfl, HPL⟩ := hrel
    obtain ⟨s, mv, σ, lv, ρ, iv, m, hWd, hkp⟩ := HPL.out
    have HWD := hid_of hWd
    have HKP := hid_of hkp
    clear hWd hkp HPL
    by_cases hlt : j < ts.length ∧ j < 300
    · obtain ⟨t, htj⟩ : ∃ t, ts[j]? = some t := ⟨_, List.getElem?_eq_getElem hlt.1⟩
      obtain ⟨_, _, _, _, hall0⟩ := HT.out
      have hlow := Stp.low (hall0 j t htj).1
      obtain ⟨ao', cap', hv', _, hall⟩ := HT.out.stays HKP.out
      cases hv'
      obtain ⟨hOk, gg, o, hao, hr⟩ := hall j t htj
      subst hao
      have hjI : (j : Int) < (ts.length : Int) := by omega
      have hj3I : (j : Int) < 300 := by omega
      have hi31 : (Tryz.prog.info? 31).map (·.size) = some t.cells.length := by rw [Stp.clen hOk.dl]; exact size31s
      have HR := hid_of hr
      have HST := hid_of (wstep_any HWD.out (by omega) t hOk hlow)
      have hLT := hlt
      clear hall hall0 hr hOk hlt htj hlow
      go_wp2_with (refine wpList_load_mid rfl 31 _ rfl gg (o + j * 37) rfl t.cells _ HR.out Tryz.underlying31 rfl hi31 ?_)
      refine HST.out.mono ?_
      rintro e w5 ⟨rfl, hto⟩
      have HNX : Hid (PlS W w5 k (2 * (j + 1)) g r) := PlS.next HWD.out HKP.out hto
      clear hto HST HWD HKP HR
      go_wp2
      go_roundw
      case rel => exact ⟨j + 1, by omega, by omega, by go_num, HNX⟩
      case measure => simp [intOf]; omega
    · have HGS : Hid (∀ W', Kept (fun _ => False) wr W' → W'.cell? ⟨g, 0, none⟩ = some (.pointer (some ⟨s, 0, none⟩)) ∧ W'.cell? ⟨g, 1, none⟩ = some (.pointer (some ⟨r, 0, none⟩))) := fun W' hW' => ⟨hW'.cell (cell_block _ g 0 _ _ _ HWD.out.blk) (fun f => f), hW'.cell (cell_block _ g 1 _ _ _ HWD.out.blk) (fun f => f)⟩
      have HEQ := eq38 σ.gt σ.pt
      have HAL : Hid (∀ W', Kept (fun _ => False) wr W' → Calls Tryz.prog 7 #[.pointer (some ⟨s, 0, none⟩), .pointer (some ⟨r, 0, none⟩)] W' fun e w' => e = .returned (.bool true) ∧ Kept (fun _ => False) W' w') := fun W' hW' => alike_any (HWD.out.two.same hW') (by omega)
      have HHD : Hid (∀ W', Kept (fun _ => False) wr W' → Calls Tryz.prog 9 #[] W' fun e w' => e = .returned (.bool true) ∧ Kept (fun _ => False) W' w') := fun W' hW' => head_any W' (laid_kept HWD.out.two.laid hW' (fun f => f))
      have HCO : Hid (∀ W', Kept (fun _ => False) wr W' → Calls Tryz.prog 8 #[.pointer (some ⟨s, 0, none⟩)] W' fun e w' => e = .returned (.agg #[.int .i64 σ.gt, .int .i64 σ.pt]) ∧ Kept (fun _ => False) W' w') := fun W' hW' => counts_any (HWD.out.two.same hW').st
      have HMI : Hid (∀ W', Kept (fun _ => False) wr W' → W'.rangeAt r 4 [.int .i64 σ.gt, .int .i64 σ.pt]) := fun W' hW' j u hj => by
        have h2 := HWD.out.two.same hW'
        rw [cell_block _ _ _ _ _ _ h2.rs.blk]
        have hg := h2.num.2.2.2.1
        have hp := h2.num.2.2.2.2
        match j with
        | 0 => rw [← hj, ← hg]; rfl
        | 1 => rw [← hj, ← hp]; rfl
        | j + 2 => simp at hj
      obtain ⟨ls, hls⟩ : ∃ l, l = [Value.int .i64 σ.gt, Value.int .i64 σ.pt] := ⟨_, rfl⟩
      obtain ⟨la, hla⟩ : ∃ l, l = #[Value.int .i64 σ.gt, Value.int .i64 σ.pt] := ⟨_, rfl⟩
      have HLA : Hid (ls.toArray = la) := by show _ = _; rw [hls, hla]
      have hsl : (Tryz.prog.info? 38).map (·.size) = some ls.length := by rw [hls]; exact size38s
      rw [← hla] at HEQ HCO
      rw [← hls] at HMI
      clear hls hla
      by_cases hl : j < ts.length
      · have hjI : (j : Int) < (ts.length : Int) := by omega
        have hj3I : ¬ (j : Int) < 300 := by omega
        go_wp2
        refine wp_region_held_drew (S := fun w' => Kept (fun _ => False) wr w') (by kernel_rfl) ((Kept.refl _ _).drew) (fun hHeld => ?_)
        refine tkp (v := ?_) 0 rfl ?_ ?_; rotate_left 1
        · intro w hSw; obtain ⟨s1, s2⟩ := HGS.out w hSw; go_simp; try with_reducible rfl
        try simp only [Act.put, tdy]
        refine tkp (v := ?_) 1 rfl ?_ ?_; rotate_left 1
        · intro w hSw; obtain ⟨s1, s2⟩ := HGS.out w hSw; go_simp; try with_reducible rfl
        try simp only [Act.put, tdy]
        refine tkp (v := ?_) 2 rfl ?_ ?_; rotate_left 1
        · intro w hSw; obtain ⟨s1, s2⟩ := HGS.out w hSw; go_simp; try with_reducible rfl
        try simp only [Act.put, tdy]
        refine tkp (v := ?_) 3 rfl ?_ ?_; rotate_left 1
        · intro w hSw; obtain ⟨s1, s2⟩ := HGS.out w hSw; go_simp; try with_reducible rfl
        try simp only [Act.put, tdy]
        refine tkp (v := ?_) 4 rfl ?_ ?_; rotate_left 1
        · intro w hSw; obtain ⟨s1, s2⟩ := HGS.out w hSw; go_simp; try with_reducible rfl
        try simp only [Act.put, tdy]
        refine tkp (v := ?_) 5 rfl ?_ ?_; rotate_left 1
        · intro w hSw; obtain ⟨s1, s2⟩ := HGS.out w hSw; go_simp; try with_reducible rfl
        try simp only [Act.put, tdy]
        refine tkp (v := ?_) 6 rfl ?_ ?_; rotate_left 1
        · intro w hSw; obtain ⟨s1, s2⟩ := HGS.out w hSw; go_simp; try with_reducible rfl
        try simp only [Act.put, tdy]
        refine tkp (v := ?_) 7 rfl ?_ ?_; rotate_left 1
        · intro w hSw; obtain ⟨s1, s2⟩ := HGS.out w hSw; go_simp; try with_reducible rfl
        try simp only [Act.put, tdy]
        refine wpAnyH_ready (rs := [8]) (by kernel_rfl) (by simp) ?_
        refine AllReadyH.cons rfl (fun K hK => ?_) AllReadyH.nil
        go_simp
        refine (HAL.out _ hHeld).mono ?_
        rintro e w3 ⟨rfl, hk3⟩
        have HK3 : Hid (Kept (fun _ => False) wr w3) := hHeld.trans hk3
        clear hk3 HAL
        refine hK.out _ _ HK3.out (fun hHeld => ?_)
        clear hK K
        try simp only [Act.put, tdy]
        refine tkp (v := ?_) 9 rfl ?_ ?_; rotate_left 1
        · intro w hSw; obtain ⟨s1, s2⟩ := HGS.out w hSw; go_simp; try with_reducible rfl
        try simp only [Act.put, tdy]
        refine tkp (v := ?_) 10 rfl ?_ ?_; rotate_left 1
        · intro w hSw; obtain ⟨s1, s2⟩ := HGS.out w hSw; go_simp; try with_reducible rfl
        try simp only [Act.put, tdy]
        refine tkp (v := ?_) 11 rfl ?_ ?_; rotate_left 1
        · intro w hSw; obtain ⟨s1, s2⟩ := HGS.out w hSw; go_simp; try with_reducible rfl
        try simp only [Act.put, tdy]
        refine tkp (v := ?_) 12 rfl ?_ ?_; rotate_left 1
        · intro w hSw; obtain ⟨s1, s2⟩ := HGS.out w hSw; go_simp; try with_reducible rfl
        try simp only [Act.put, tdy]
        refine tkp (v := ?_) 13 rfl ?_ ?_; rotate_left 1
        · intro w hSw; obtain ⟨s1, s2⟩ := HGS.out w hSw; go_simp; try with_reducible rfl
        try simp only [Act.put, tdy]
        refine tkp (v := ?_) 15 rfl ?_ ?_; rotate_left 1
        · intro w hSw; obtain ⟨s1, s2⟩ := HGS.out w hSw; go_simp; try with_reducible rfl
        try simp only [Act.put, tdy]
        refine tkp (v := ?_) 16 rfl ?_ ?_; rotate_left 1
        · intro w hSw; obtain ⟨s1, s2⟩ := HGS.out w hSw; go_simp; try with_reducible rfl
        try simp only [Act.put, tdy]
        refine tkp (v := ?_) 17 rfl ?_ ?_; rotate_left 1
        · intro w hSw; obtain ⟨s1, s2⟩ := HGS.out w hSw; go_simp; try with_reducible rfl
        try simp only [Act.put, tdy]
        refine tkp (v := ?_) 18 rfl ?_ ?_; rotate_left 1
        · intro w hSw; obtain ⟨s1, s2⟩ := HGS.out w hSw; go_simp; try with_reducible rfl
        try simp only [Act.put, tdy]
        refine tkp (v := ?_) 19 rfl ?_ ?_; rotate_left 1
        · intro w hSw; obtain ⟨s1, s2⟩ := HGS.out w hSw; go_simp; try with_reducible rfl
        try simp only [Act.put, tdy]
        refine tkp (v := ?_) 20 rfl ?_ ?_; rotate_left 1
        · intro w hSw; obtain ⟨s1, s2⟩ := HGS.out w hSw; go_simp; try with_reducible rfl
        try simp only [Act.put, tdy]
        refine tkg 21 (.agg la) rfl (by rw [← HLA.out]; exact yieldsIf_load_mid (by rfl) 38 _ rfl r 4 rfl ls _ (fun w hSw => HMI.out w hSw) Tryz.underlying38 rfl hsl) ?_
        try simp only [Act.put, tdy]
        refine wpAnyH_ready (rs := [14]) (by kernel_rfl) (by simp) ?_
        refine AllReadyH.cons rfl (fun K hK => ?_) AllReadyH.nil
        go_simp
        refine (HCO.out _ HK3.out).mono ?_
        rintro e w4 ⟨rfl, hk4⟩
        have HK4 : Hid (Kept (fun _ => False) wr w4) := HK3.out.trans hk4
        clear hk4 HCO HK3
        refine hK.out _ _ HK4.out (fun hHeld => ?_)
        clear hK K
        try simp only [Act.put, tdy]
        refine tkp (v := ?_) 22 rfl ?_ ?_; rotate_left 1
        · intro w hSw; have hq := HEQ w; go_simp; try with_reducible rfl
        try simp only [Act.put, tdy]
        refine tkp (v := ?_) 23 rfl ?_ ?_; rotate_left 1
        · intro w hSw; obtain ⟨s1, s2⟩ := HGS.out w hSw; go_simp; try with_reducible rfl
        try simp only [Act.put, tdy]
        refine tkp (v := ?_) 24 rfl ?_ ?_; rotate_left 1
        · intro w hSw; obtain ⟨s1, s2⟩ := HGS.out w hSw; go_simp; try with_reducible rfl
        try simp only [Act.put, tdy]
        refine wpAnyH_ready (rs := [25]) (by kernel_rfl) (by simp) ?_
        refine AllReadyH.cons rfl (fun K hK => ?_) AllReadyH.nil
        go_simp
        refine (HHD.out _ HK4.out).mono ?_
        rintro e w6 ⟨rfl, hk6⟩
        have HK6 : Hid (Kept (fun _ => False) wr w6) := HK4.out.trans hk6
        clear hk6 HHD HK4
        refine hK.out _ _ HK6.out (fun hHeld => ?_)
        clear hK K
        try simp only [Act.put, tdy]
        refine tkp (v := ?_) 26 rfl ?_ ?_; rotate_left 1
        · intro w hSw; obtain ⟨s1, s2⟩ := HGS.out w hSw; go_simp; try with_reducible rfl
        try simp only [Act.put, tdy]
        refine tkp (v := ?_) 27 rfl ?_ ?_; rotate_left 1
        · intro w hSw; obtain ⟨s1, s2⟩ := HGS.out w hSw; go_simp; try with_reducible rfl
        try simp only [Act.put, tdy]
        refine wpAnyH_done (by kernel_rfl) ?_ _
        clear hHeld
        have HFI := hid_of (HKP.out.trans HK6.out)
        go_wp2
        go_ret
        exact ⟨rfl, HFI.out⟩
      · have hjI : ¬ (j : Int) < (ts.length : Int) := by omega
        go_wp2
        refine wp_region_held_drew (S := fun w' => Kept (fun _ => False) wr w') (by kernel_rfl) ((Kept.refl _ _).drew) (fun hHeld => ?_)
        refine tkp (v := ?_) 0 rfl ?_ ?_; rotate_left 1
        · intro w hSw; obtain ⟨s1, s2⟩ := HGS.out w hSw; go_simp; try with_reducible rfl
        try simp only [Act.put, tdy]
        refine tkp (v := ?_) 1 rfl ?_ ?_; rotate_left 1
        · intro w hSw; obtain ⟨s1, s2⟩ := HGS.out w hSw; go_simp; try with_reducible rfl
        try simp only [Act.put, tdy]
        refine tkp (v := ?_) 2 rfl ?_ ?_; rotate_left 1
        · intro w hSw; obtain ⟨s1, s2⟩ := HGS.out w hSw; go_simp; try with_reducible rfl
        try simp only [Act.put, tdy]
        refine tkp (v := ?_) 3 rfl ?_ ?_; rotate_left 1
        · intro w hSw; obtain ⟨s1, s2⟩ := HGS.out w hSw; go_simp; try with_reducible rfl
        try simp only [Act.put, tdy]
        refine tkp (v := ?_) 4 rfl ?_ ?_; rotate_left 1
        · intro w hSw; obtain ⟨s1, s2⟩ := HGS.out w hSw; go_simp; try with_reducible rfl
        try simp only [Act.put, tdy]
        refine tkp (v := ?_) 5 rfl ?_ ?_; rotate_left 1
        · intro w hSw; obtain ⟨s1, s2⟩ := HGS.out w hSw; go_simp; try with_reducible rfl
        try simp only [Act.put, tdy]
        refine tkp (v := ?_) 6 rfl ?_ ?_; rotate_left 1
        · intro w hSw; obtain ⟨s1, s2⟩ := HGS.out w hSw; go_simp; try with_reducible rfl
        try simp only [Act.put, tdy]
        refine tkp (v := ?_) 7 rfl ?_ ?_; rotate_left 1
        · intro w hSw; obtain ⟨s1, s2⟩ := HGS.out w hSw; go_simp; try with_reducible rfl
        try simp only [Act.put, tdy]
        refine wpAnyH_ready (rs := [8]) (by kernel_rfl) (by simp) ?_
        refine AllReadyH.cons rfl (fun K hK => ?_) AllReadyH.nil
        go_simp
        refine (HAL.out _ hHeld).mono ?_
        rintro e w3 ⟨rfl, hk3⟩
        have HK3 : Hid (Kept (fun _ => False) wr w3) := hHeld.trans hk3
        clear hk3 HAL
        refine hK.out _ _ HK3.out (fun hHeld => ?_)
        clear hK K
        try simp only [Act.put, tdy]
        refine tkp (v := ?_) 9 rfl ?_ ?_; rotate_left 1
        · intro w hSw; obtain ⟨s1, s2⟩ := HGS.out w hSw; go_simp; try with_reducible rfl
        try simp only [Act.put, tdy]
        refine tkp (v := ?_) 10 rfl ?_ ?_; rotate_left 1
        · intro w hSw; obtain ⟨s1, s2⟩ := HGS.out w hSw; go_simp; try with_reducible rfl
        try simp only [Act.put, tdy]
        refine tkp (v := ?_) 11 rfl ?_ ?_; rotate_left 1
        · intro w hSw; obtain ⟨s1, s2⟩ := HGS.out w hSw; go_simp; try with_reducible rfl
        try simp only [Act.put, tdy]
        refine tkp (v := ?_) 12 rfl ?_ ?_; rotate_left 1
        · intro w hSw; obtain ⟨s1, s2⟩ := HGS.out w hSw; go_simp; try with_reducible rfl
        try simp only [Act.put, tdy]
        refine tkp (v := ?_) 13 rfl ?_ ?_; rotate_left 1
        · intro w hSw; obtain ⟨s1, s2⟩ := HGS.out w hSw; go_simp; try with_reducible rfl
        try simp only [Act.put, tdy]
        refine tkp (v := ?_) 15 rfl ?_ ?_; rotate_left 1
        · intro w hSw; obtain ⟨s1, s2⟩ := HGS.out w hSw; go_simp; try with_reducible rfl
        try simp only [Act.put, tdy]
        refine tkp (v := ?_) 16 rfl ?_ ?_; rotate_left 1
        · intro w hSw; obtain ⟨s1, s2⟩ := HGS.out w hSw; go_simp; try with_reducible rfl
        try simp only [Act.put, tdy]
        refine tkp (v := ?_) 17 rfl ?_ ?_; rotate_left 1
        · intro w hSw; obtain ⟨s1, s2⟩ := HGS.out w hSw; go_simp; try with_reducible rfl
        try simp only [Act.put, tdy]
        refine tkp (v := ?_) 18 rfl ?_ ?_; rotate_left 1
        · intro w hSw; obtain ⟨s1, s2⟩ := HGS.out w hSw; go_simp; try with_reducible rfl
        try simp only [Act.put, tdy]
        refine tkp (v := ?_) 19 rfl ?_ ?_; rotate_left 1
        · intro w hSw; obtain ⟨s1, s2⟩ := HGS.out w hSw; go_simp; try with_reducible rfl
        try simp only [Act.put, tdy]
        refine tkp (v := ?_) 20 rfl ?_ ?_; rotate_left 1
        · intro w hSw; obtain ⟨s1, s2⟩ := HGS.out w hSw; go_simp; try with_reducible rfl
        try simp only [Act.put, tdy]
        refine tkg 21 (.agg la) rfl (by rw [← HLA.out]; exact yieldsIf_load_mid (by rfl) 38 _ rfl r 4 rfl ls _ (fun w hSw => HMI.out w hSw) Tryz.underlying38 rfl hsl) ?_
        try simp only [Act.put, tdy]
        refine wpAnyH_ready (rs := [14]) (by kernel_rfl) (by simp) ?_
        refine AllReadyH.cons rfl (fun K hK => ?_) AllReadyH.nil
        go_simp
        refine (HCO.out _ HK3.out).mono ?_
        rintro e w4 ⟨rfl, hk4⟩
        have HK4 : Hid (Kept (fun _ => False) wr w4) := HK3.out.trans hk4
        clear hk4 HCO HK3
        refine hK.out _ _ HK4.out (fun hHeld => ?_)
        clear hK K
        try simp only [Act.put, tdy]
        refine tkp (v := ?_) 22 rfl ?_ ?_; rotate_left 1
        · intro w hSw; have hq := HEQ w; go_simp; try with_reducible rfl
        try simp only [Act.put, tdy]
        refine tkp (v := ?_) 23 rfl ?_ ?_; rotate_left 1
        · intro w hSw; obtain ⟨s1, s2⟩ := HGS.out w hSw; go_simp; try with_reducible rfl
        try simp only [Act.put, tdy]
        refine tkp (v := ?_) 24 rfl ?_ ?_; rotate_left 1
        · intro w hSw; obtain ⟨s1, s2⟩ := HGS.out w hSw; go_simp; try with_reducible rfl
        try simp only [Act.put, tdy]
        refine wpAnyH_ready (rs := [25]) (by kernel_rfl) (by simp) ?_
        refine AllReadyH.cons rfl (fun K hK => ?_) AllReadyH.nil
        go_simp
        refine (HHD.out _ HK4.out).mono ?_
        rintro e w6 ⟨rfl, hk6⟩
        have HK6 : Hid (Kept (fun _ => False) wr w6) := HK4.out.trans hk6
        clear hk6 HHD HK4
        refine hK.out _ _ HK6.out (fun hHeld => ?_)
        clear hK K
        try simp only [Act.put, tdy]
        refine tkp (v := ?_) 26 rfl ?_ ?_; rotate_left 1
        · intro w hSw; obtain ⟨s1, s2⟩ := HGS.out w hSw; go_simp; try with_reducible rfl
        try simp only [Act.put, tdy]
        refine tkp (v := ?_) 27 rfl ?_ ?_; rotate_left 1
        · intro w hSw; obtain ⟨s1, s2⟩ := HGS.out w hSw; go_simp; try with_reducible rfl
        try simp only [Act.put, tdy]
        refine wpAnyH_done (by kernel_rfl) ?_ _
        clear hHeld
        have HFI := hid_of (HKP.out.trans HK6.out)
        go_wp2
        go_ret
        exact ⟨rfl, HFI.out⟩
set_option maxHeartbeats 2000000 in
theorem plays_bad (wd cp : Int) (v : Value) (ts : List Stp) (W : World) (h : ¬ ((1 ≤ wd ∧ wd ≤ 32) ∧ 0 ≤ cp ∧ cp ≤ 67108864)) (hL : Laid W) (ht : TIs W v ts) :
    Calls Tryz.prog 3 #[.int .i64 wd, .int .i64 cp, v] W fun e w' => e = .returned (.bool true) ∧ Kept (fun _ => False) W w' := by
  obtain ⟨ao, cap, hv, hlm, _⟩ := id ht
  subst hv
  have HMA := hid_of (made_bad wd cp W hL h)
  clear h hL ht
  go_enter Tryz.func3, Tryz.ntmps3
  go_wp2_with fail
  refine HMA.out.mono ?_
  rintro e w1 ⟨rfl, hk⟩
  have HK := hid_of hk
  clear hk HMA
  go_wp2
  go_ret
  exact ⟨rfl, HK.out⟩
theorem plays_any (wd cp : Int) (v : Value) (ts : List Stp) (W : World) (hL : Laid W) (ht : TIs W v ts) :
    Calls Tryz.prog 3 #[.int .i64 wd, .int .i64 cp, v] W fun e w' => e = .returned (.bool true) ∧ Kept (fun _ => False) W w' := by
  by_cases h : (1 ≤ wd ∧ wd ≤ 32) ∧ 0 ≤ cp ∧ cp ≤ 67108864
  · exact plays_ok wd cp v ts W h.1.1 h.1.2 h.2.1 h.2.2 hL ht
  · exact plays_bad wd cp v ts W h hL ht
end Go.Proofs.YtjdbmjkidljhpaaGreatDoor
