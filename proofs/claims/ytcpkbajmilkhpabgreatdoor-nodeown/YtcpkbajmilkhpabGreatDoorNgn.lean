/-
  Ngm: Nga, Ngb, Ngc, Ngw.
-/
import Derived.Test.YtcpkbajmilkhpabGreatDoorNrz
import Derived.Test.YtcpkbajmilkhpabGreatDoorNop
import Derived.Test.YtcpkbajmilkhpabGreatDoorNea
import Derived.Test.YtcpkbajmilkhpabGreatDoorNbz
namespace Go.Proofs.YtcpkbajmilkhpabGreatDoor
open Go.RowKit
set_option linter.unusedVariables false
set_option linter.unusedSimpArgs false
set_option maxRecDepth 100000

theorem with_mem {x : EV} : ∀ (p : Bool) (ys : List EV), ∀ y ∈ withL x p ys, y = x ∨ y ∈ ys
  | p, [], y, hy => by
    unfold withL at hy
    cases p
    · left; simpa using hy
    · simp at hy
  | p, z :: zs, y, hy => by
    rw [withL] at hy
    rcases List.mem_append.1 hy with h | h
    · left
      split at h
      · simpa using h
      · cases h
    · rcases List.mem_append.1 h with h | h
      · split at h
        · cases h
        · right; rw [List.mem_singleton] at h; subst h; exact List.mem_cons_self ..
      · rcases with_mem _ zs y h with h | h
        · exact .inl h
        · exact .inr (List.mem_cons_of_mem _ h)
theorem with_lenL {x : EV} : ∀ (p : Bool) (ys : List EV), (withL x p ys).length ≤ 2 * ys.length + 1
  | p, [] => by unfold withL; cases p <;> simp
  | p, z :: zs => by
    rw [withL]
    have h1 := with_lenL (x := x) (p || !lessB z.nm x.nm) zs
    simp only [List.length_append, List.length_cons]
    split <;> split <;> simp <;> omega

theorem good_name {P : List Int → Bool} : ∀ (ys : List EV) (ah : List Int), goodE P ah ys = true → ∀ y ∈ ys, P y.nm = true
  | [], _, _, y, h => by cases h
  | z :: zs, ah, h, y, hy => by
    rw [goodE, Bool.and_eq_true, Bool.and_eq_true, Bool.and_eq_true] at h
    rcases List.mem_cons.1 hy with rfl | hy
    · exact h.2.1.1
    · exact good_name zs z.nm h.2.2 y hy

theorem good_all {ys : List EV} (h : checkD nameP ys = 0) : ys.length ≤ 1024 ∧ Up ys ∧ ∀ y ∈ ys, y.nm.length ≤ 1000 := by
  obtain ⟨h1, h2⟩ := checkD_zero h
  refine ⟨h1, (good_up ys [] h2).1, fun y hy => ?_⟩
  have := nameP_len _ (good_name ys [] h2 y hy)
  omega

/-- One entry as it should be. -/
def okE (y : EV) : Bool := decide (y.k = 1 ∨ y.k = 2) && (nameP y.nm && lessB [] y.nm)

theorem good_iff : ∀ (ys : List EV) (ah : List Int), goodE nameP ah ys = true ↔ (Up ys ∧ (∀ y ∈ ys, decide (y.k = 1 ∨ y.k = 2) = true ∧ nameP y.nm = true) ∧ ∀ y ∈ ys, lessB ah y.nm = true)
  | [], ah => by simp [goodE, Up]
  | z :: zs, ah => by
    rw [goodE, Bool.and_eq_true, Bool.and_eq_true, Bool.and_eq_true, good_iff zs z.nm]
    constructor
    · rintro ⟨h1, ⟨h2, h3⟩, h4, h5, h6⟩
      refine ⟨List.Pairwise.cons h6 h4, fun y hy => ?_, fun y hy => ?_⟩
      · rcases List.mem_cons.1 hy with rfl | hy
        · exact ⟨h1, h2⟩
        · exact h5 y hy
      · rcases List.mem_cons.1 hy with rfl | hy
        · exact h3
        · exact blt_trans _ _ _ h3 (h6 y hy)
    · rintro ⟨h1, h2, h3⟩
      have hc := List.pairwise_cons.1 h1
      exact ⟨(h2 z (List.mem_cons_self ..)).1, ⟨(h2 z (List.mem_cons_self ..)).2, h3 z (List.mem_cons_self ..)⟩, hc.2, fun y hy => h2 y (List.mem_cons_of_mem _ hy), hc.1⟩

/-- A directory as it should be. -/
structure Dir (ys : List EV) : Prop where
  up : Up ys
  ok : ∀ y ∈ ys, okE y = true
  fr : ∀ y ∈ ys, y.Ok

theorem Dir.good {ys : List EV} (h : Dir ys) (hl : ys.length ≤ 1024) : checkD nameP ys = 0 := by
  unfold checkD
  rw [if_neg (by omega), if_pos]
  rw [good_iff]
  refine ⟨h.up, fun y hy => ?_, fun y hy => ?_⟩
  · have := h.ok y hy
    unfold okE at this
    rw [Bool.and_eq_true, Bool.and_eq_true] at this
    exact ⟨this.1, this.2.1⟩
  · have := h.ok y hy
    unfold okE at this
    rw [Bool.and_eq_true, Bool.and_eq_true] at this
    exact this.2.2
theorem ok_one {x : EV} (h : checkD nameP [x] = 0) : okE x = true := by
  obtain ⟨_, h2⟩ := checkD_zero h
  rw [good_iff] at h2
  unfold okE
  rw [Bool.and_eq_true, Bool.and_eq_true]
  exact ⟨(h2.2.1 x (List.mem_singleton.2 rfl)).1, (h2.2.1 x (List.mem_singleton.2 rfl)).2, h2.2.2 x (List.mem_singleton.2 rfl)⟩
theorem Dir.nil : Dir [] := ⟨List.Pairwise.nil, (fun y h => by cases h), (fun y h => by cases h)⟩

/-- The cut of a list at a name. -/
theorem cut_at : ∀ (ys : List EV), Up ys → ∀ s : List Int, ∃ i f A M B, Cut3 ys s i f A M B
  | [], _, s => ⟨0, false, [], [], [], ⟨rfl, rfl, .inr ⟨rfl, rfl⟩, (fun y h => by cases h), (fun y h => by cases h)⟩⟩
  | z :: zs, h, s => by
    have hc := List.pairwise_cons.1 h
    by_cases c1 : lessB z.nm s = true
    · obtain ⟨i, f, A, M, B, hcut⟩ := cut_at zs hc.2 s
      refine ⟨i + 1, f, z :: A, M, B, ⟨by rw [hcut.whole]; simp, by simp [hcut.len], hcut.mid, fun y hy => ?_, hcut.high⟩⟩
      rcases List.mem_cons.1 hy with rfl | hy
      · exact c1
      · exact hcut.low y hy
    · by_cases c2 : nmEq z s = true
      · refine ⟨0, true, [], [z], zs, ⟨rfl, rfl, .inl ⟨rfl, z, rfl, c2⟩, (fun y h => by cases h), fun b hb => ?_⟩⟩
        have := hc.1 b hb
        unfold lessB at this ⊢
        rw [← nmEq_list c2]
        exact this
      · have c3 : lessB s z.nm = true := by
          refine blt_total _ _ (by simpa [lessB] using c1) (fun e => c2 ?_)
          unfold nmEq
          rw [e]
          simp
        refine ⟨0, false, [], [], z :: zs, ⟨rfl, rfl, .inr ⟨rfl, rfl⟩, (fun y h => by cases h), fun b hb => ?_⟩⟩
        rcases List.mem_cons.1 hb with rfl | hb
        · exact c3
        · exact blt_trans _ _ _ c3 (hc.1 b hb)

theorem up_cut {ys A M B : List EV} {x : EV} {i : Nat} {f : Bool} (h : Cut3 ys x.nm i f A M B) (hu : Up ys) : Up (A ++ [x] ++ B) := by
  have hw := h.whole
  unfold Up at hu ⊢
  rw [hw] at hu
  have h1 := List.pairwise_append.1 hu
  have h2 := List.pairwise_append.1 h1.1
  rw [List.pairwise_append, List.pairwise_append]
  refine ⟨⟨h2.1, List.pairwise_singleton _ _, fun a ha b hb => ?_⟩, h1.2.1, fun a ha b hb => ?_⟩
  · rw [List.mem_singleton] at hb; subst hb; exact h.low a ha
  · rcases List.mem_append.1 ha with ha | ha
    · exact h1.2.2 a (List.mem_append_left _ ha) b hb
    · rw [List.mem_singleton] at ha; subst ha; exact h.high b hb

section
variable {ys : List EV} {x : EV}
theorem Dir.with (h : Dir ys) (hx : okE x = true) (hxo : x.Ok) : Dir (withL x false ys) := by
  obtain ⟨i, f, A, M, B, hc⟩ := cut_at ys h.up x.nm
  refine ⟨by rw [hc.with']; exact up_cut hc h.up, fun y hy => ?_, fun y hy => ?_⟩
  · rcases with_mem false ys y hy with rfl | hy
    · exact hx
    · exact h.ok y hy
  · rcases with_mem false ys y hy with rfl | hy
    · exact hxo
    · exact h.fr y hy
theorem Dir.with_len (h : Dir ys) : (withL x false ys).length ≤ ys.length + 1 := by
  obtain ⟨i, f, A, M, B, hc⟩ := cut_at ys h.up x.nm
  rw [hc.with']
  have := congrArg List.length hc.whole
  simp only [List.length_append, List.length_singleton] at this ⊢
  omega
theorem Dir.again (h : Dir ys) : withL x false (withL x false ys) = withL x false ys ∧ findL (withL x false ys) x.nm = some x := by
  obtain ⟨i, f, A, M, B, hc⟩ := cut_at ys h.up x.nm
  have hc2 : Cut3 (A ++ [x] ++ B) x.nm i true A [x] B := ⟨rfl, hc.len, .inl ⟨rfl, x, rfl, by simp [nmEq]⟩, hc.low, hc.high⟩
  rw [hc.with']
  exact ⟨hc2.with', hc2.find⟩
theorem Dir.find_with (h : Dir ys) (s : List Int) (hs : ((str s).toList == (str x.nm).toList) = false) : findL (withL x false ys) s = findL ys s := by
  obtain ⟨i, f, A, M, B, hc⟩ := cut_at ys h.up x.nm
  have hne : (str s).toList ≠ (str x.nm).toList := by simpa using hs
  have hx : nmEq x s = false := by
    unfold nmEq
    simpa using fun e => hne e.symm
  rw [hc.with', hc.whole]
  unfold findL
  rw [List.find?_append, List.find?_append, List.find?_append, List.find?_append]
  have h1 : List.find? (fun y => nmEq y s) [x] = none := by simp [hx]
  have h2 : List.find? (fun y => nmEq y s) M = none := by
    rcases hc.mid with ⟨_, y, rfl, hy⟩ | ⟨_, rfl⟩
    · have e := nmEq_list hy
      have : nmEq y s = false := by
        unfold nmEq
        rw [e]
        simpa using fun e => hne e.symm
      simp [this]
    · rfl
  rw [h1, h2]
theorem Dir.without (h : Dir ys) (s : List Int) : Dir (withoutL ys s) := by
  refine ⟨List.Pairwise.filter _ h.up, fun y hy => h.ok y (List.mem_filter.1 hy).1, fun y hy => h.fr y (List.mem_filter.1 hy).1⟩
theorem find_without (ys : List EV) (s : List Int) : findL (withoutL ys s) s = none := by
  unfold findL withoutL
  rw [List.find?_eq_none]
  intro y hy
  have := (List.mem_filter.1 hy).2
  simpa using this
theorem Dir.found (h : Dir ys) (s : List Int) (y : EV) (hf : findL ys s = some y) : (withoutL ys s).length + 1 = ys.length ∧ withL y false (withoutL ys s) = ys ∧ y ∈ ys := by
  obtain ⟨i, f, A, M, B, hc⟩ := cut_at ys h.up s
  rw [hc.find] at hf
  rcases hc.mid with ⟨_, z, rfl, hz⟩ | ⟨_, rfl⟩
  · obtain rfl : z = y := by simpa using hf
    have e := nmEq_list hz
    have hc2 : Cut3 (A ++ B) z.nm i false A [] B := ⟨by simp, hc.len, .inr ⟨rfl, rfl⟩, fun y hy => by have := hc.low y hy; unfold lessB at this ⊢; rw [e]; exact this, fun y hy => by have := hc.high y hy; unfold lessB at this ⊢; rw [e]; exact this⟩
    rw [hc.without]
    refine ⟨?_, ?_, ?_⟩
    · rw [hc.whole]; simp; omega
    · rw [hc2.with', hc.whole]
    · rw [hc.whole]; simp
  · cases hf
theorem Dir.lost (h : Dir ys) (s : List Int) (hf : findL ys s = none) : withoutL ys s = ys := by
  unfold withoutL
  unfold findL at hf
  rw [List.find?_eq_none] at hf
  rw [List.filter_eq_self]
  intro y hy
  have := hf y hy
  simpa using this
end
end Go.Proofs.YtcpkbajmilkhpabGreatDoor

namespace Go.Proofs.YtcpkbajmilkhpabGreatDoor
open Go.RowKit
set_option linter.unusedVariables false
set_option linter.unusedSimpArgs false
set_option maxRecDepth 100000

set_option maxHeartbeats 4000000 in
theorem with_nil (x : EV) (w : World) (hx32 : x.fr.length ≤ 32) (hxs : (str x.nm).size ≤ 281474976710656) :
    Calls Tryz.prog 11 #[.slice none 0 0, .agg x.cells.toArray] w fun e w' => RowOut w (withL x false []) e w' := by
  have hb := heap_alloc_new w (.cells x.cells.toArray 41)
  have hkA : Kept (fun _ => False) w (w.alloc (.cells x.cells.toArray 41)) := (Kept.refl _ _).alloc _
  have HXLn := hid_of (EV.clen x hx32)
  have HXS : Hid ((Tryz.prog.info? 41).map (·.size) = some x.cells.length) := by unfold Hid; rw [size47, HXLn.out]
  have hv : ∀ W, RowE W (.slice none ([] : List EV).length 0) [] := fun W => .inl ⟨rfl, none, 0, rfl⟩
  have hpl := place_any none 0 [] x.nm (w.alloc (.cells x.cells.toArray 41)) (hv _) (fun y h => by cases h) (by simp) (up_rising List.Pairwise.nil x.nm)
  have hb0 : (w.alloc (.cells x.cells.toArray 41)).cell? ⟨w.heap.size, 0, none⟩ = some (.string (str x.nm)) := by rw [cell_block _ _ _ _ _ _ hb]; rfl
  have hbr : (w.alloc (.cells x.cells.toArray 41)).rangeAt w.heap.size 0 x.cells := fun j u hj => by
    rw [cell_block _ _ _ _ _ _ hb, Nat.zero_add]
    simpa using hj
  have HX32 := hid_of hx32
  have HXZ := hid_of hxs
  have HV := hid_of hv
  rw [List.length_nil] at hpl
  clear hx32 hxs hv
  go_enter Tryz.func11, Tryz.ntmps11
  go_upto_region 1 with (refine Go.Great.wpList_boxTo rfl 41 _ rfl _ rfl w.heap.size rfl x.cells.toArray rfl ?_)
  generalize w.alloc (.cells x.cells.toArray 41) = wB at *
  have HP := hid_of hpl
  have HBR := hid_of hbr
  have HKB := hid_of hkA
  clear hb hkA hpl hbr
  have xl : w.heap.size < wB.heap.size := World.block_lt_of_cell? wB _ hb0
  go_wp2_with fail
  refine HP.out.mono ?_
  rintro e w1 ⟨⟨i, f, rfl, hf⟩, hk1⟩
  obtain ⟨A, M, B, hcut⟩ := found_cut hf List.Pairwise.nil
  have hwh := hcut.whole
  obtain ⟨hAM, rfl⟩ := List.append_eq_nil_iff.1 hwh.symm
  obtain ⟨rfl, rfl⟩ := List.append_eq_nil_iff.1 hAM
  obtain rfl : i = 0 := hcut.len.symm
  obtain rfl : f = false := by
    rcases hcut.mid with ⟨_, y, e, _⟩ | ⟨e, _⟩
    · cases e
    · exact e
  have HK1 := hid_of hk1
  have HWL : Hid (withL x false [] = [] ++ [x] ++ []) := rfl
  have HRX : Hid (∀ W, Kept (fun _ => False) w1 W → W.rangeAt w.heap.size 0 x.cells) := fun W hW j u hj => hW.cell (hk1.cell (HBR.out j u hj) (fun f => f)) (fun f => f)
  have HD : Hid (Kept (fun _ => False) w1 w1.drew) := (Kept.refl _ _).drew
  have hj := with_join w1.drew ⟨none, 0, []⟩ ⟨none, 0, []⟩ x (HV.out _) (HV.out _) (fun z hz => by cases hz) (fun z hz => by cases hz) HX32.out (by simp) (fun z hz => by cases hz) (fun z hz => by cases hz) HXZ.out
  unfold LV.v at hj
  dsimp only at hj
  rw [List.length_nil] at hj
  have HJ := hid_of hj
  clear hf hk1 HP HBR hcut hwh hAM hj
  go_upto_region 5 with fail
  have HKA : Hid (Kept (fun _ => False) w1 (w1.drew.alloc (.cells x.cells.toArray 41))) := HD.out.alloc _
  have HKB2 : Hid (Kept (fun _ => False) w1 ((w1.drew.alloc (.cells x.cells.toArray 41)).alloc (.cells #[.slice none 0 0, .slice (some ⟨w1.drew.heap.size, 0, none⟩) 1 1, .slice none 0 0] 22))) := (HD.out.alloc _).alloc _
  refine wp_region_held_drew (S := fun w' => Kept (fun _ => False) w1 w') (by kernel_rfl) HD.out (fun hHeld => ?_)
  refine wpAnyH_take (i := 0) (v := ?_) rfl (by kernel_rfl) (by kernel_rfl) (by kernel_rfl) (fun _ _ _ h => h) (Or.inl ⟨by rfl, ?_⟩) (by assumption) ?_
  rotate_left 1
  · intro w hSw
    go_simp
    try with_reducible rfl
  try simp only [Act.put, List.getElem_toArray, List.getElem_cons_zero, List.getElem_cons_succ, List.setIfInBounds_toArray, List.set_cons_zero, List.set_cons_succ]
  refine wpAnyH_take (i := 1) (v := ?_) rfl (by kernel_rfl) (by kernel_rfl) (by kernel_rfl) (fun _ _ _ h => h) (Or.inl ⟨by rfl, ?_⟩) (by assumption) ?_
  rotate_left 1
  · intro w hSw
    go_simp
    try with_reducible rfl
  try simp only [Act.put, List.getElem_toArray, List.getElem_cons_zero, List.getElem_cons_succ, List.setIfInBounds_toArray, List.set_cons_zero, List.set_cons_succ]
  refine wpAnyH_take (i := 2) (v := ?_) rfl (by kernel_rfl) (by kernel_rfl) (by kernel_rfl) (fun _ _ _ h => h) (Or.inl ⟨by rfl, ?_⟩) (by assumption) ?_
  rotate_left 1
  · intro w hSw
    go_simp
    try with_reducible rfl
  try simp only [Act.put, List.getElem_toArray, List.getElem_cons_zero, List.getElem_cons_succ, List.setIfInBounds_toArray, List.set_cons_zero, List.set_cons_succ]
  refine wpAnyH_take (i := 3) (v := .agg x.cells.toArray) rfl (by kernel_rfl) (by kernel_rfl) (by kernel_rfl) (fun _ _ _ h => h) (yieldsIf_load_mid (by rfl) 41 _ rfl w.heap.size 0 rfl x.cells _ (fun W hW => HRX.out W hW) Tryz.underlying41 rfl HXS.out) (by assumption) ?_
  try simp only [Act.put, List.getElem_toArray, List.getElem_cons_zero, List.getElem_cons_succ, List.setIfInBounds_toArray, List.set_cons_zero, List.set_cons_succ]
  refine wpAnyH_take (i := 5) (v := ?_) rfl (by kernel_rfl) (by kernel_rfl) (by kernel_rfl) (fun _ _ _ h => h) (Or.inl ⟨by rfl, ?_⟩) (by assumption) ?_
  rotate_left 1
  · intro w hSw
    go_simp
    try with_reducible rfl
  try simp only [Act.put, List.getElem_toArray, List.getElem_cons_zero, List.getElem_cons_succ, List.setIfInBounds_toArray, List.set_cons_zero, List.set_cons_succ]
  refine wpAnyH_ready (rs := [4]) (by kernel_rfl) (by simp) ?_
  refine AllReadyH.cons rfl (fun K hK => ?_) AllReadyH.nil
  refine stp_build47 rfl _ rfl x.cells rfl HXLn.out ?_
  refine hK.out _ _ HKA.out (fun hHeld => ?_)
  clear hK K
  try simp only [Act.put, List.getElem_toArray, List.getElem_cons_zero, List.getElem_cons_succ, List.setIfInBounds_toArray, List.set_cons_zero, List.set_cons_succ]
  refine wpAnyH_ready (rs := [6]) (by kernel_rfl) (by simp) ?_
  refine AllReadyH.cons rfl (fun K hK => ?_) AllReadyH.nil
  go_simp
  refine hK.out _ _ HKB2.out (fun hHeld => ?_)
  clear hK K
  try simp only [Act.put, List.getElem_toArray, List.getElem_cons_zero, List.getElem_cons_succ, List.setIfInBounds_toArray, List.set_cons_zero, List.set_cons_succ]
  refine wpAnyH_ready (rs := [7]) (by kernel_rfl) (by simp) ?_
  refine AllReadyH.cons rfl (fun K hK => ?_) AllReadyH.nil
  go_simp
  refine HJ.out.mono ?_
  rintro e w2 ⟨u, rfl, hr⟩
  have HKC : Hid (Kept (fun _ => False) w1 w2) := HD.out.trans hr.2
  have HRO : Hid (RowOut w (withL x false []) (.returned u) w2) := by
      have := ((RowOut.from ⟨u, rfl, hr⟩ HD.out).from HK1.out).from HKB.out
      rw [HWL.out]
      exact this
  clear hr HJ
  refine hK.out _ _ HKC.out (fun hHeld => ?_)
  clear hK K
  try simp only [Act.put, List.getElem_toArray, List.getElem_cons_zero, List.getElem_cons_succ, List.setIfInBounds_toArray, List.set_cons_zero, List.set_cons_succ]
  refine wpAnyH_take (i := 8) (v := ?_) rfl (by kernel_rfl) (by kernel_rfl) (by kernel_rfl) (fun _ _ _ h => h) (Or.inl ⟨by rfl, ?_⟩) (by assumption) ?_
  rotate_left 1
  · intro w hSw
    go_simp
    try with_reducible rfl
  try simp only [Act.put, List.getElem_toArray, List.getElem_cons_zero, List.getElem_cons_succ, List.setIfInBounds_toArray, List.set_cons_zero, List.set_cons_succ]
  refine wpAnyH_done (by kernel_rfl) ?_ _
  go_wp2
  go_ret
  exact HRO.out

/-- A list of one's own, or none. -/
def Now (w : World) (v : Value) (ys : List EV) : Prop := RowE w v ys ∧ ((v = .slice none 0 0 ∧ ys = []) ∨ ∃ g c, v = .slice (some ⟨g, 0, none⟩) ys.length c ∧ ys.length ≤ c ∧ c ≤ 9223372036854775807)
theorem Now.kept {S : Nat → Prop} {w w' : World} {v : Value} {ys : List EV} (h : Now w v ys) (hk : Kept S w w') (hS : ∀ g, v.ownBlock = some g → ¬ S g) : Now w' v ys := ⟨h.1.kept hk hS, h.2⟩
theorem now_own {w : World} {base : Nat} {v : Value} {ys : List EV} (h : w.ownsRow base 41 34 v ys.length (ents ys)) (hy : ∀ y ∈ ys, y.fr.length ≤ 32) : Now w v ys := by
  refine ⟨rowE_own h hy, ?_⟩
  rcases h.2 with ⟨e, hn⟩ | ⟨g, cap, cur, e, _, _, h1, h2, _⟩
  · exact .inl ⟨e, List.length_eq_zero_iff.1 hn⟩
  · exact .inr ⟨g, cap, e, h1, by unfold maxLen at h2; omega⟩
theorem with_any (v : Value) (ys : List EV) (x : EV) (w : World) (hv : Now w v ys) (hy : ∀ y ∈ ys, y.fr.length ≤ 32) (hs : ∀ y ∈ ys, (str y.nm).size ≤ 281474976710656) (hn : ys.length ≤ 999999) (hu : Up ys) (hx32 : x.fr.length ≤ 32) (hxs : (str x.nm).size ≤ 281474976710656) :
    Calls Tryz.prog 11 #[v, .agg x.cells.toArray] w fun e w' => RowOut w (withL x false ys) e w' := by
  rcases hv.2 with ⟨rfl, rfl⟩ | ⟨g, c, rfl, h1, h2⟩
  · exact with_nil x w hx32 hxs
  · exact with_some g 0 c ys x w hv.1 hy hs hn h1 h2 hu hx32 hxs
theorem find_now (v : Value) (ys : List EV) (s : List Int) (w : World) (hv : Now w v ys) (hy : ∀ y ∈ ys, y.fr.length ≤ 32) (hs : ∀ y ∈ ys, (str y.nm).size ≤ 281474976710656) (hn : ys.length ≤ 1000000) (hu : Up ys) :
    Calls Tryz.prog 57 #[v, .string (str s)] w fun e w' => e = .returned (.tuple #[.agg (foundE (findL ys s)).cells.toArray, .bool (findL ys s).isSome]) ∧ Kept (fun _ => False) w w' := by
  rcases hv.2 with ⟨rfl, rfl⟩ | ⟨g, c, rfl, h1, h2⟩
  · exact find_any none 0 [] s w hv.1 hy hs hn hu
  · exact find_any (some ⟨g, 0, none⟩) c ys s w hv.1 hy hs hn hu
theorem without_now (v : Value) (ys : List EV) (s : List Int) (w : World) (hv : Now w v ys) (hy : ∀ y ∈ ys, y.fr.length ≤ 32) (hs : ∀ y ∈ ys, (str y.nm).size ≤ 281474976710656) (hn : ys.length ≤ 1000000) (hu : Up ys) :
    Calls Tryz.prog 10 #[v, .string (str s)] w fun e w' => RowOut w (withoutL ys s) e w' := by
  rcases hv.2 with ⟨rfl, rfl⟩ | ⟨g, c, rfl, h1, h2⟩
  · exact without_any none 0 [] s w hv.1 hy hs hn hu (Nat.le_refl _) (by omega)
  · exact without_any (some ⟨g, 0, none⟩) c ys s w hv.1 hy hs hn hu h1 h2
theorem ok_fr {ys : List EV} (h : ∀ y ∈ ys, y.Ok) : ∀ y ∈ ys, y.fr.length ≤ 32 := fun y hy => (h y hy).fr.1
theorem Dir.size {ys : List EV} (h : Dir ys) : ∀ y ∈ ys, (str y.nm).size ≤ 281474976710656 := fun y hy => by
  have := h.ok y hy
  unfold okE at this
  rw [Bool.and_eq_true, Bool.and_eq_true] at this
  have := nameP_len _ this.2.1
  rw [str_size]; omega
theorem ok_size {x : EV} (h : okE x = true) : (str x.nm).size ≤ 281474976710656 := by
  unfold okE at h
  rw [Bool.and_eq_true, Bool.and_eq_true] at h
  have := nameP_len _ h.2.1
  rw [str_size]; omega
end Go.Proofs.YtcpkbajmilkhpabGreatDoor
