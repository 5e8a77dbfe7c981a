/-
  Ngm: Nga, Ngb, Ngc, Ngw.
-/
import Derived.Test.YtcpkbajmilkhpaaDoorNei
import Derived.Test.YtcpkbajmilkhpaaDoorNea
namespace Go.Proofs.YtcpkbajmilkhpaaDoor
open Go.RowKit
set_option linter.unusedVariables false
set_option linter.unusedSimpArgs false
set_option maxRecDepth 100000

/-- One entry as it should be. -/
def okE (y : EV) : Bool := decide (y.k = 1 ∨ y.k = 2) && (nameP y.nm && lessB [] y.nm)

theorem good_iff : ∀ (ys : List EV) (ah : List Int), goodE nameP ah ys = true ↔ (Up ys ∧ (∀ y ∈ ys, decide (y.k = 1 ∨ y.k = 2) = true ∧ nameP y.nm = true) ∧ ∀ y ∈ ys, lessB ah y.nm = true)
  | [], ah => by simp [goodE, Up]
  | z :: zs, ah => by
    rw [goodE, Bool.and_eq_true, Bool.and_eq_true, Bool.and_eq_true, good_iff zs z.nm]
    constructor
    · rintro ⟨h1, ⟨h2, h3⟩, h4, h5, h6⟩
      refine ⟨List.Pairwise.cons h6 h4, fun y hy => ?_, fun y hy => ?_⟩
      · rcases List.mem_cons.1 hy with rfl | hy
        · exact ⟨h1, h2⟩
        · exact h5 y hy
      · rcases List.mem_cons.1 hy with rfl | hy
        · exact h3
        · exact blt_trans _ _ _ h3 (h6 y hy)
    · rintro ⟨h1, h2, h3⟩
      have hc := List.pairwise_cons.1 h1
      exact ⟨(h2 z (List.mem_cons_self ..)).1, ⟨(h2 z (List.mem_cons_self ..)).2, h3 z (List.mem_cons_self ..)⟩, hc.2, fun y hy => h2 y (List.mem_cons_of_mem _ hy), hc.1⟩

/-- A directory as it should be. -/
structure Dir (ys : List EV) : Prop where
  up : Up ys
  ok : ∀ y ∈ ys, okE y = true
  fr : ∀ y ∈ ys, y.Ok

theorem Dir.good {ys : List EV} (h : Dir ys) (hl : ys.length ≤ 1024) : checkD nameP ys = 0 := by
  unfold checkD
  rw [if_neg (by omega), if_pos]
  rw [good_iff]
  refine ⟨h.up, fun y hy => ?_, fun y hy => ?_⟩
  · have := h.ok y hy
    unfold okE at this
    rw [Bool.and_eq_true, Bool.and_eq_true] at this
    exact ⟨this.1, this.2.1⟩
  · have := h.ok y hy
    unfold okE at this
    rw [Bool.and_eq_true, Bool.and_eq_true] at this
    exact this.2.2
theorem ok_one {x : EV} (h : checkD nameP [x] = 0) : okE x = true := by
  obtain ⟨_, h2⟩ := checkD_zero h
  rw [good_iff] at h2
  unfold okE
  rw [Bool.and_eq_true, Bool.and_eq_true]
  exact ⟨(h2.2.1 x (List.mem_singleton.2 rfl)).1, (h2.2.1 x (List.mem_singleton.2 rfl)).2, h2.2.2 x (List.mem_singleton.2 rfl)⟩
theorem Dir.nil : Dir [] := ⟨List.Pairwise.nil, (fun y h => by cases h), (fun y h => by cases h)⟩

/-- The cut of a list at a name. -/
theorem cut_at : ∀ (ys : List EV), Up ys → ∀ s : List Int, ∃ i f A M B, Cut3 ys s i f A M B
  | [], _, s => ⟨0, false, [], [], [], ⟨rfl, rfl, .inr ⟨rfl, rfl⟩, (fun y h => by cases h), (fun y h => by cases h)⟩⟩
  | z :: zs, h, s => by
    have hc := List.pairwise_cons.1 h
    by_cases c1 : lessB z.nm s = true
    · obtain ⟨i, f, A, M, B, hcut⟩ := cut_at zs hc.2 s
      refine ⟨i + 1, f, z :: A, M, B, ⟨by rw [hcut.whole]; simp, by simp [hcut.len], hcut.mid, fun y hy => ?_, hcut.high⟩⟩
      rcases List.mem_cons.1 hy with rfl | hy
      · exact c1
      · exact hcut.low y hy
    · by_cases c2 : nmEq z s = true
      · refine ⟨0, true, [], [z], zs, ⟨rfl, rfl, .inl ⟨rfl, z, rfl, c2⟩, (fun y h => by cases h), fun b hb => ?_⟩⟩
        have := hc.1 b hb
        unfold lessB at this ⊢
        rw [← nmEq_list c2]
        exact this
      · have c3 : lessB s z.nm = true := by
          refine blt_total _ _ (by simpa [lessB] using c1) (fun e => c2 ?_)
          unfold nmEq
          rw [e]
          simp
        refine ⟨0, false, [], [], z :: zs, ⟨rfl, rfl, .inr ⟨rfl, rfl⟩, (fun y h => by cases h), fun b hb => ?_⟩⟩
        rcases List.mem_cons.1 hb with rfl | hb
        · exact c3
        · exact blt_trans _ _ _ c3 (hc.1 b hb)

theorem up_cut {ys A M B : List EV} {x : EV} {i : Nat} {f : Bool} (h : Cut3 ys x.nm i f A M B) (hu : Up ys) : Up (A ++ [x] ++ B) := by
  have hw := h.whole
  unfold Up at hu ⊢
  rw [hw] at hu
  have h1 := List.pairwise_append.1 hu
  have h2 := List.pairwise_append.1 h1.1
  rw [List.pairwise_append, List.pairwise_append]
  refine ⟨⟨h2.1, List.pairwise_singleton _ _, fun a ha b hb => ?_⟩, h1.2.1, fun a ha b hb => ?_⟩
  · rw [List.mem_singleton] at hb; subst hb; exact h.low a ha
  · rcases List.mem_append.1 ha with ha | ha
    · exact h1.2.2 a (List.mem_append_left _ ha) b hb
    · rw [List.mem_singleton] at ha; subst ha; exact h.high b hb

section
variable {ys : List EV} {x : EV}
theorem Dir.with (h : Dir ys) (hx : okE x = true) (hxo : x.Ok) : Dir (withL x false ys) := by
  obtain ⟨i, f, A, M, B, hc⟩ := cut_at ys h.up x.nm
  refine ⟨by rw [hc.with']; exact up_cut hc h.up, fun y hy => ?_, fun y hy => ?_⟩
  · rcases with_mem false ys y hy with rfl | hy
    · exact hx
    · exact h.ok y hy
  · rcases with_mem false ys y hy with rfl | hy
    · exact hxo
    · exact h.fr y hy
theorem Dir.with_len (h : Dir ys) : (withL x false ys).length ≤ ys.length + 1 := by
  obtain ⟨i, f, A, M, B, hc⟩ := cut_at ys h.up x.nm
  rw [hc.with']
  have := congrArg List.length hc.whole
  simp only [List.length_append, List.length_singleton] at this ⊢
  omega
theorem Dir.again (h : Dir ys) : withL x false (withL x false ys) = withL x false ys ∧ findL (withL x false ys) x.nm = some x := by
  obtain ⟨i, f, A, M, B, hc⟩ := cut_at ys h.up x.nm
  have hc2 : Cut3 (A ++ [x] ++ B) x.nm i true A [x] B := ⟨rfl, hc.len, .inl ⟨rfl, x, rfl, by simp [nmEq]⟩, hc.low, hc.high⟩
  rw [hc.with']
  exact ⟨hc2.with', hc2.find⟩
theorem Dir.find_with (h : Dir ys) (s : List Int) (hs : ((str s).toList == (str x.nm).toList) = false) : findL (withL x false ys) s = findL ys s := by
  obtain ⟨i, f, A, M, B, hc⟩ := cut_at ys h.up x.nm
  have hne : (str s).toList ≠ (str x.nm).toList := by simpa using hs
  have hx : nmEq x s = false := by
    unfold nmEq
    simpa using fun e => hne e.symm
  rw [hc.with', hc.whole]
  unfold findL
  rw [List.find?_append, List.find?_append, List.find?_append, List.find?_append]
  have h1 : List.find? (fun y => nmEq y s) [x] = none := by simp [hx]
  have h2 : List.find? (fun y => nmEq y s) M = none := by
    rcases hc.mid with ⟨_, y, rfl, hy⟩ | ⟨_, rfl⟩
    · have e := nmEq_list hy
      have : nmEq y s = false := by
        unfold nmEq
        rw [e]
        simpa using fun e => hne e.symm
      simp [this]
    · rfl
  rw [h1, h2]
theorem Dir.without (h : Dir ys) (s : List Int) : Dir (withoutL ys s) := by
  refine ⟨List.Pairwise.filter _ h.up, fun y hy => h.ok y (List.mem_filter.1 hy).1, fun y hy => h.fr y (List.mem_filter.1 hy).1⟩
theorem find_without (ys : List EV) (s : List Int) : findL (withoutL ys s) s = none := by
  unfold findL withoutL
  rw [List.find?_eq_none]
  intro y hy
  have := (List.mem_filter.1 hy).2
  simpa using this
theorem Dir.found (h : Dir ys) (s : List Int) (y : EV) (hf : findL ys s = some y) : (withoutL ys s).length + 1 = ys.length ∧ withL y false (withoutL ys s) = ys ∧ y ∈ ys := by
  obtain ⟨i, f, A, M, B, hc⟩ := cut_at ys h.up s
  rw [hc.find] at hf
  rcases hc.mid with ⟨_, z, rfl, hz⟩ | ⟨_, rfl⟩
  · obtain rfl : z = y := by simpa using hf
    have e := nmEq_list hz
    have hc2 : Cut3 (A ++ B) z.nm i false A [] B := ⟨by simp, hc.len, .inr ⟨rfl, rfl⟩, fun y hy => by have := hc.low y hy; unfold lessB at this ⊢; rw [e]; exact this, fun y hy => by have := hc.high y hy; unfold lessB at this ⊢; rw [e]; exact this⟩
    rw [hc.without]
    refine ⟨?_, ?_, ?_⟩
    · rw [hc.whole]; simp; omega
    · rw [hc2.with', hc.whole]
    · rw [hc.whole]; simp
  · cases hf
theorem Dir.lost (h : Dir ys) (s : List Int) (hf : findL ys s = none) : withoutL ys s = ys := by
  unfold withoutL
  unfold findL at hf
  rw [List.find?_eq_none] at hf
  rw [List.filter_eq_self]
  intro y hy
  have := hf y hy
  simpa using this
end
end Go.Proofs.YtcpkbajmilkhpaaDoor

namespace Go.Proofs.YtcpkbajmilkhpaaDoor
open Go.RowKit
set_option linter.unusedVariables false
set_option linter.unusedSimpArgs false
set_option maxRecDepth 100000

set_option maxHeartbeats 4000000 in
theorem with_nil (x : EV) (w : World) (hx32 : x.fr.length ≤ 32) (hxs : (str x.nm).size ≤ 281474976710656) :
    Calls Tryd.prog 26 #[.slice none 0 0, .agg x.cells.toArray] w fun e w' => RowOut w (withL x false []) e w' := by
  have hb := heap_alloc_new w (.cells x.cells.toArray 47)
  have hkA : Kept (fun _ => False) w (w.alloc (.cells x.cells.toArray 47)) := (Kept.refl _ _).alloc _
  have HXLn := hid_of (EV.clen x hx32)
  have HXS : Hid ((Tryd.prog.info? 47).map (·.size) = some x.cells.length) := by unfold Hid; rw [size47, HXLn.out]
  have hv : ∀ W, RowE W (.slice none ([] : List EV).length 0) [] := fun W => .inl ⟨rfl, none, 0, rfl⟩
  have hpl := place_any none 0 [] x.nm (w.alloc (.cells x.cells.toArray 47)) (hv _) (fun y h => by cases h) (by simp) (up_rising List.Pairwise.nil x.nm)
  have hb0 : (w.alloc (.cells x.cells.toArray 47)).cell? ⟨w.heap.size, 0, none⟩ = some (.string (str x.nm)) := by rw [cell_block _ _ _ _ _ _ hb]; rfl
  have hbr : (w.alloc (.cells x.cells.toArray 47)).rangeAt w.heap.size 0 x.cells := fun j u hj => by
    rw [cell_block _ _ _ _ _ _ hb, Nat.zero_add]
    simpa using hj
  have HX32 := hid_of hx32
  have HXZ := hid_of hxs
  have HV := hid_of hv
  rw [List.length_nil] at hpl
  clear hx32 hxs hv
  go_enter Tryd.func26, Tryd.ntmps26
  go_upto_region 1 with (refine Go.Great.wpList_boxTo rfl 47 _ rfl _ rfl w.heap.size rfl x.cells.toArray rfl ?_)
  generalize w.alloc (.cells x.cells.toArray 47) = wB at *
  have HP := hid_of hpl
  have HBR := hid_of hbr
  have HKB := hid_of hkA
  clear hb hkA hpl hbr
  have xl : w.heap.size < wB.heap.size := World.block_lt_of_cell? wB _ hb0
  go_wp2_with fail
  refine HP.out.mono ?_
  rintro e w1 ⟨⟨i, f, rfl, hf⟩, hk1⟩
  obtain ⟨A, M, B, hcut⟩ := found_cut hf List.Pairwise.nil
  have hwh := hcut.whole
  obtain ⟨hAM, rfl⟩ := List.append_eq_nil_iff.1 hwh.symm
  obtain ⟨rfl, rfl⟩ := List.append_eq_nil_iff.1 hAM
  obtain rfl : i = 0 := hcut.len.symm
  obtain rfl : f = false := by
    rcases hcut.mid with ⟨_, y, e, _⟩ | ⟨e, _⟩
    · cases e
    · exact e
  have HK1 := hid_of hk1
  have HWL : Hid (withL x false [] = [] ++ [x] ++ []) := rfl
  have HRX : Hid (∀ W, Kept (fun _ => False) w1 W → W.rangeAt w.heap.size 0 x.cells) := fun W hW j u hj => hW.cell (hk1.cell (HBR.out j u hj) (fun f => f)) (fun f => f)
  have HD : Hid (Kept (fun _ => False) w1 w1.drew) := (Kept.refl _ _).drew
  have hj := with_join w1.drew ⟨none, 0, []⟩ ⟨none, 0, []⟩ x (HV.out _) (HV.out _) (fun z hz => by cases hz) (fun z hz => by cases hz) HX32.out (by simp) (fun z hz => by cases hz) (fun z hz => by cases hz) HXZ.out
  unfold LV.v at hj
  dsimp only at hj
  rw [List.length_nil] at hj
  have HJ := hid_of hj
  clear hf hk1 HP HBR hcut hwh hAM hj
  go_upto_region 5 with fail
  have HKA : Hid (Kept (fun _ => False) w1 (w1.drew.alloc (.cells x.cells.toArray 47))) := HD.out.alloc _
  have HKB2 : Hid (Kept (fun _ => False) w1 ((w1.drew.alloc (.cells x.cells.toArray 47)).alloc (.cells #[.slice none 0 0, .slice (some ⟨w1.drew.heap.size, 0, none⟩) 1 1, .slice none 0 0] 22))) := (HD.out.alloc _).alloc _
  refine wp_region_held_drew (S := fun w' => Kept (fun _ => False) w1 w') (by kernel_rfl) HD.out (fun hHeld => ?_)
  refine wpAnyH_take (i := 0) (v := ?_) rfl (by kernel_rfl) (by kernel_rfl) (by kernel_rfl) (fun _ _ _ h => h) (Or.inl ⟨by rfl, ?_⟩) (by assumption) ?_
  rotate_left 1
  · intro w hSw
    go_simp
    try with_reducible rfl
  try simp only [Act.put, List.getElem_toArray, List.getElem_cons_zero, List.getElem_cons_succ, List.setIfInBounds_toArray, List.set_cons_zero, List.set_cons_succ]
  refine wpAnyH_take (i := 1) (v := ?_) rfl (by kernel_rfl) (by kernel_rfl) (by kernel_rfl) (fun _ _ _ h => h) (Or.inl ⟨by rfl, ?_⟩) (by assumption) ?_
  rotate_left 1
  · intro w hSw
    go_simp
    try with_reducible rfl
  try simp only [Act.put, List.getElem_toArray, List.getElem_cons_zero, List.getElem_cons_succ, List.setIfInBounds_toArray, List.set_cons_zero, List.set_cons_succ]
  refine wpAnyH_take (i := 2) (v := ?_) rfl (by kernel_rfl) (by kernel_rfl) (by kernel_rfl) (fun _ _ _ h => h) (Or.inl ⟨by rfl, ?_⟩) (by assumption) ?_
  rotate_left 1
  · intro w hSw
    go_simp
    try with_reducible rfl
  try simp only [Act.put, List.getElem_toArray, List.getElem_cons_zero, List.getElem_cons_succ, List.setIfInBounds_toArray, List.set_cons_zero, List.set_cons_succ]
  refine wpAnyH_take (i := 3) (v := .agg x.cells.toArray) rfl (by kernel_rfl) (by kernel_rfl) (by kernel_rfl) (fun _ _ _ h => h) (yieldsIf_load_mid (by rfl) 47 _ rfl w.heap.size 0 rfl x.cells _ (fun W hW => HRX.out W hW) Tryd.underlying47 rfl HXS.out) (by assumption) ?_
  try simp only [Act.put, List.getElem_toArray, List.getElem_cons_zero, List.getElem_cons_succ, List.setIfInBounds_toArray, List.set_cons_zero, List.set_cons_succ]
  refine wpAnyH_take (i := 5) (v := ?_) rfl (by kernel_rfl) (by kernel_rfl) (by kernel_rfl) (fun _ _ _ h => h) (Or.inl ⟨by rfl, ?_⟩) (by assumption) ?_
  rotate_left 1
  · intro w hSw
    go_simp
    try with_reducible rfl
  try simp only [Act.put, List.getElem_toArray, List.getElem_cons_zero, List.getElem_cons_succ, List.setIfInBounds_toArray, List.set_cons_zero, List.set_cons_succ]
  refine wpAnyH_ready (rs := [4]) (by kernel_rfl) (by simp) ?_
  refine AllReadyH.cons rfl (fun K hK => ?_) AllReadyH.nil
  refine stp_build47 rfl _ rfl x.cells rfl HXLn.out ?_
  refine hK.out _ _ HKA.out (fun hHeld => ?_)
  clear hK K
  try simp only [Act.put, List.getElem_toArray, List.getElem_cons_zero, List.getElem_cons_succ, List.setIfInBounds_toArray, List.set_cons_zero, List.set_cons_succ]
  refine wpAnyH_ready (rs := [6]) (by kernel_rfl) (by simp) ?_
  refine AllReadyH.cons rfl (fun K hK => ?_) AllReadyH.nil
  go_simp
  refine hK.out _ _ HKB2.out (fun hHeld => ?_)
  clear hK K
  try simp only [Act.put, List.getElem_toArray, List.getElem_cons_zero, List.getElem_cons_succ, List.setIfInBounds_toArray, List.set_cons_zero, List.set_cons_succ]
  refine wpAnyH_ready (rs := [7]) (by kernel_rfl) (by simp) ?_
  refine AllReadyH.cons rfl (fun K hK => ?_) AllReadyH.nil
  go_simp
  refine HJ.out.mono ?_
  rintro e w2 ⟨u, rfl, hr⟩
  have HKC : Hid (Kept (fun _ => False) w1 w2) := HD.out.trans hr.2
  have HRO : Hid (RowOut w (withL x false []) (.returned u) w2) := by
      have := ((RowOut.from ⟨u, rfl, hr⟩ HD.out).from HK1.out).from HKB.out
      rw [HWL.out]
      exact this
  clear hr HJ
  refine hK.out _ _ HKC.out (fun hHeld => ?_)
  clear hK K
  try simp only [Act.put, List.getElem_toArray, List.getElem_cons_zero, List.getElem_cons_succ, List.setIfInBounds_toArray, List.set_cons_zero, List.set_cons_succ]
  refine wpAnyH_take (i := 8) (v := ?_) rfl (by kernel_rfl) (by kernel_rfl) (by kernel_rfl) (fun _ _ _ h => h) (Or.inl ⟨by rfl, ?_⟩) (by assumption) ?_
  rotate_left 1
  · intro w hSw
    go_simp
    try with_reducible rfl
  try simp only [Act.put, List.getElem_toArray, List.getElem_cons_zero, List.getElem_cons_succ, List.setIfInBounds_toArray, List.set_cons_zero, List.set_cons_succ]
  refine wpAnyH_done (by kernel_rfl) ?_ _
  go_wp2
  go_ret
  exact HRO.out

/-- A list of one's own, or none. -/
def Now (w : World) (v : Value) (ys : List EV) : Prop := RowE w v ys ∧ ((v = .slice none 0 0 ∧ ys = []) ∨ ∃ g c, v = .slice (some ⟨g, 0, none⟩) ys.length c ∧ ys.length ≤ c ∧ c ≤ 9223372036854775807)
theorem Now.kept {S : Nat → Prop} {w w' : World} {v : Value} {ys : List EV} (h : Now w v ys) (hk : Kept S w w') (hS : ∀ g, v.ownBlock = some g → ¬ S g) : Now w' v ys := ⟨h.1.kept hk hS, h.2⟩
theorem now_own {w : World} {base : Nat} {v : Value} {ys : List EV} (h : w.ownsRow base 47 34 v ys.length (ents ys)) (hy : ∀ y ∈ ys, y.fr.length ≤ 32) : Now w v ys := by
  refine ⟨rowE_own h hy, ?_⟩
  rcases h.2 with ⟨e, hn⟩ | ⟨g, cap, cur, e, _, _, h1, h2, _⟩
  · exact .inl ⟨e, List.length_eq_zero_iff.1 hn⟩
  · exact .inr ⟨g, cap, e, h1, by unfold maxLen at h2; omega⟩
theorem with_any (v : Value) (ys : List EV) (x : EV) (w : World) (hv : Now w v ys) (hy : ∀ y ∈ ys, y.fr.length ≤ 32) (hs : ∀ y ∈ ys, (str y.nm).size ≤ 281474976710656) (hn : ys.length ≤ 999999) (hu : Up ys) (hx32 : x.fr.length ≤ 32) (hxs : (str x.nm).size ≤ 281474976710656) :
    Calls Tryd.prog 26 #[v, .agg x.cells.toArray] w fun e w' => RowOut w (withL x false ys) e w' := by
  rcases hv.2 with ⟨rfl, rfl⟩ | ⟨g, c, rfl, h1, h2⟩
  · exact with_nil x w hx32 hxs
  · exact with_some g 0 c ys x w hv.1 hy hs hn h1 h2 hu hx32 hxs
theorem find_now (v : Value) (ys : List EV) (s : List Int) (w : World) (hv : Now w v ys) (hy : ∀ y ∈ ys, y.fr.length ≤ 32) (hs : ∀ y ∈ ys, (str y.nm).size ≤ 281474976710656) (hn : ys.length ≤ 1000000) (hu : Up ys) :
    Calls Tryd.prog 24 #[v, .string (str s)] w fun e w' => e = .returned (.tuple #[.agg (foundE (findL ys s)).cells.toArray, .bool (findL ys s).isSome]) ∧ Kept (fun _ => False) w w' := by
  rcases hv.2 with ⟨rfl, rfl⟩ | ⟨g, c, rfl, h1, h2⟩
  · exact find_any none 0 [] s w hv.1 hy hs hn hu
  · exact find_any (some ⟨g, 0, none⟩) c ys s w hv.1 hy hs hn hu
theorem without_now (v : Value) (ys : List EV) (s : List Int) (w : World) (hv : Now w v ys) (hy : ∀ y ∈ ys, y.fr.length ≤ 32) (hs : ∀ y ∈ ys, (str y.nm).size ≤ 281474976710656) (hn : ys.length ≤ 1000000) (hu : Up ys) :
    Calls Tryd.prog 22 #[v, .string (str s)] w fun e w' => RowOut w (withoutL ys s) e w' := by
  rcases hv.2 with ⟨rfl, rfl⟩ | ⟨g, c, rfl, h1, h2⟩
  · exact without_any none 0 [] s w hv.1 hy hs hn hu (Nat.le_refl _) (by omega)
  · exact without_any (some ⟨g, 0, none⟩) c ys s w hv.1 hy hs hn hu h1 h2
end Go.Proofs.YtcpkbajmilkhpaaDoor

namespace Go.Proofs.YtcpkbajmilkhpaaDoor
open Go.ChangeShapes Go.WideShapes Go.ChangeAt Go.RowKit Go.Deep
set_option linter.unusedVariables false
set_option linter.unusedSimpArgs false
set_option maxRecDepth 100000

def strV (s : List Int) : Value := .string (str s)
/-- A value is a slice of these texts. -/
def TxtIs (w : World) (v : Value) (ss : List (List Int)) : Prop :=
  ∃ ao cap, v = .slice ao ss.length cap ∧ ss.length ≤ maxLen ∧ ∀ i s, ss[i]? = some s → ∃ g o, ao = some ⟨g, o, none⟩ ∧ w.cell? ⟨g, o + i, none⟩ = some (strV s)
theorem TxtIs.kept {S : Nat → Prop} {w w' : World} {v : Value} {ss : List (List Int)} (h : TxtIs w v ss) (hk : Kept S w w') (hS : ∀ g, v.ownBlock = some g → ¬ S g) : TxtIs w' v ss := by
  obtain ⟨ao, cap, rfl, hl, hf⟩ := h
  refine ⟨ao, cap, rfl, hl, fun i s hs => ?_⟩
  obtain ⟨g, o, rfl, hc⟩ := hf i s hs
  exact ⟨g, o, rfl, hk.cell hc (hS g rfl)⟩
theorem txt_own {w : World} {base : Nat} {v : Value} {ss : List (List Int)} (h : w.ownsRow base 9 1 v ss.length (ss.map strV)) : TxtIs w v ss := by
  rcases h.2 with ⟨rfl, hn⟩ | ⟨g, cap, cur, rfl, _, hb, h1, h2, h3, h4⟩
  · obtain rfl := List.length_eq_zero_iff.1 hn
    exact ⟨none, 0, rfl, Nat.zero_le _, fun i s hs => by cases hs⟩
  · refine ⟨_, cap, rfl, by omega, fun i s hs => ⟨g, 0, rfl, ?_⟩⟩
    have hi := (List.getElem?_eq_some_iff.1 hs).1
    rw [cell_block _ _ _ _ _ _ hb, Nat.zero_add]
    have := congrArg (fun l => l[i]?) h4
    simp only [Nat.mul_one, List.getElem?_map, hs, Option.map_some] at this
    rw [List.getElem?_take, if_pos hi] at this
    simpa using this

theorem info9 : (Tryd.prog.info? 9).map (fun i => (i.zero, i.size, i.bytes)) = some (some (.string ⟨#[]⟩), 1, 16) := by kernel_rfl

theorem app_txt (W : World) (v : Value) (base : Nat) (ss : List (List Int)) (s : List Int) (hown : W.ownsRow base 9 1 v ss.length (ss.map strV)) (hb : base ≤ W.heap.size) (hsz : (ss.length + 1) * 16 ≤ 140737488355328) :
    ∃ v' w', (Builtin.append_ #[54, 54] 54 #[v, .slice (some ⟨W.heap.size, 0, none⟩) 1 1]).run Tryd.prog (W.alloc (.cells #[.string (str s)] 9)) = .ok v' w' ∧ w'.ownsRow base 9 1 v' (ss ++ [s]).length ((ss ++ [s]).map strV) ∧ Kept (fun k => v.ownBlock = some k) W w' := by
  obtain ⟨i0, hi, hz0, hz1, hz2⟩ := info_parts info9
  obtain ⟨v', w', hr, h2, h3, _⟩ := run_append_own (P := Tryd.prog) (W.alloc (.cells #[.string (str s)] 9)) base 54 54 9 i0 _ 1 16 Tryd.underlying54 hi hz0 hz1 hz2 rfl (by decide) v ss.length (ss.map strV) (hown.alloc _) ⟨W.heap.size, 0, none⟩ 1 1 [strV s] (by simp) (fun j u hj => by
    rw [Addr.add_lit, cell_block _ _ _ _ _ _ (heap_alloc_new W _), Nat.zero_add]
    simpa [strV] using hj) (fun u hu => by rw [List.mem_singleton] at hu; subst hu; rfl) (by unfold maxLen; omega) hsz (by simp; omega)
  refine ⟨v', w', hr, by rw [List.length_append, List.map_append]; exact h2, ?_⟩
  exact ((Kept.refl (fun k => v.ownBlock = some k) W).alloc _).grown h3 (fun k hk => .inr hk)

section
variable {H : Type} {enc : TypeId × Value → H} {W : World} {base : Nat} {spare : Nat → Bool} {held : Bool}
theorem open_txts {fuel : Nat} {v : Value} {x : DataW H × List MemPlace} (h : DataW.trod enc Tryd.prog W base spare held fuel 54 [v] = some x) : ∃ ss : List (List Int), TxtIs W v ss := by
  rcases open_slice Tryd.underlying54 h with ⟨hcs, _⟩ | ⟨a, len, cap, m, n, D, Pl, hcs, hb, hl, hm, hm', _, hel⟩
  · cases hcs
    exact ⟨[], none, 0, rfl, Nat.zero_le _, fun i t ht => by cases ht⟩
  · cases hcs
    by_cases h0 : len = 0
    · exact ⟨[], some a, cap, by rw [h0]; rfl, Nat.zero_le _, fun i t ht => by cases ht⟩
    · have hlm : len ≤ m := by rw [hm']; split <;> omega
      rw [cells9] at hel
      have hin : Inhabited (List Int) := ⟨[]⟩
      obtain ⟨f, hf⟩ := choose_lt (n := len) (p := fun i (y : List Int) => W.cells? base (a.add (i * 1)) 1 = some [strV y]) (fun i hi => by
        obtain ⟨cs', h1, h2⟩ := hel i (by omega)
        obtain ⟨s, e0, _, _⟩ := DataW.trod_string Tryd.underlying9 h2
        refine ⟨nums s, ?_⟩
        rw [h1, e0]
        unfold strV
        rw [str_back])
      have hcell : ∀ i, i < len → ∀ j, j < 1 → W.cell? ((a.add (i * 1)).add j) = [strV (f i)][j]? := fun i hi => (World.cells?_some (hf i hi)).2.2
      obtain ⟨b, off, spot⟩ := a
      have hc0 : W.cell? (((⟨b, off, spot⟩ : Addr).add (0 * 1)).add 0) = some (strV (f 0)) := hcell 0 (by omega) 0 (by omega)
      have hspot : spot = none := by simpa [Addr.add] using World.cell?_spot hc0
      subst hspot
      refine ⟨(List.range len).map f, some ⟨b, off, none⟩, cap, by simp, by simp; omega, fun i t ht => ?_⟩
      have hi : i < len := by
        have := (List.getElem?_eq_some_iff.1 ht).1
        simpa using this
      obtain rfl : f i = t := by simpa [hi] using ht
      refine ⟨b, off, rfl, ?_⟩
      have := hcell i hi 0 (by omega)
      rw [Addr.add_mid, Addr.add_mid, Nat.mul_one, Nat.add_zero] at this
      exact this
end
end Go.Proofs.YtcpkbajmilkhpaaDoor

namespace Go.Proofs.YtcpkbajmilkhpaaDoor
open Go.RowKit
set_option linter.unusedVariables false
set_option linter.unusedSimpArgs false
set_option maxRecDepth 100000

theorem own_apart {w : World} {b b' : Nat} {u v : Value} {n m : Nat} {xs ys : List Value} (hu : w.ownsRow b 47 34 u n xs) (hv : w.ownsRow b' 9 1 v m ys) : ∀ g, u.ownBlock = some g → ¬ v.ownBlock = some g := by
  intro g h1 h2
  rcases hu.2 with ⟨rfl, _⟩ | ⟨g1, c1, r1, rfl, _, e1, _⟩
  · cases h1
  · rcases hv.2 with ⟨rfl, _⟩ | ⟨g2, c2, r2, rfl, _, e2, _⟩
    · cases h2
    · have a1 : g1 = g := Option.some.inj h1
      have a2 : g2 = g := Option.some.inj h2
      subst a1
      subst a2
      rw [e1] at e2
      cases e2

theorem own_low {w : World} {b b' : Nat} {e : TypeId} {sz : Nat} {v : Value} {n : Nat} {xs : List Value} (h : w.ownsRow b e sz v n xs) (hb : b' ≤ b) : w.ownsRow b' e sz v n xs := by
  refine ⟨h.1, ?_⟩
  rcases h.2 with h | ⟨g, cap, cur, e, hg, r⟩
  · exact .inl h
  · exact .inr ⟨g, cap, cur, e, by omega, r⟩
theorem own_shape {w : World} {b : Nat} {e : TypeId} {sz : Nat} {v : Value} {n : Nat} {xs : List Value} (h : w.ownsRow b e sz v n xs) : ∃ so sc, v = .slice so n sc := by
  rcases h.2 with ⟨e, hn⟩ | ⟨g1, c1, r1, e, _⟩
  · exact ⟨none, 0, by rw [e, hn]⟩
  · exact ⟨_, _, e⟩

theorem ok_fr {ys : List EV} (h : ∀ y ∈ ys, y.Ok) : ∀ y ∈ ys, y.fr.length ≤ 32 := fun y hy => (h y hy).fr.1
theorem Dir.size {ys : List EV} (h : Dir ys) : ∀ y ∈ ys, (str y.nm).size ≤ 281474976710656 := fun y hy => by
  have := h.ok y hy
  unfold okE at this
  rw [Bool.and_eq_true, Bool.and_eq_true] at this
  have := nameP_len _ this.2.1
  rw [str_size]; omega
theorem ok_size {x : EV} (h : okE x = true) : (str x.nm).size ≤ 281474976710656 := by
  unfold okE at h
  rw [Bool.and_eq_true, Bool.and_eq_true] at h
  have := nameP_len _ h.2.1
  rw [str_size]; omega

theorem geq_less {a b : ByteArray} (h : Op.bytesLess a.toList b.toList = true) : binOp .geq 9 (.string a) (.string b) = pure (.bool false) := by simp [binOp, Op.stringOp, h]

set_option maxHeartbeats 8000000 in
theorem made_walk (ao : Option Addr) (c : Nat) (ys : List EV) (ov : Value) (outs : List (List Int)) (w : World) (hv : RowE w (.slice ao ys.length c) ys) (hcap : ys.length ≤ c) (hcm : c ≤ 9223372036854775807) (hyok : ∀ y ∈ ys, y.Ok) (ho : TxtIs w ov outs) :
    Calls Tryd.prog 8 #[.slice ao ys.length c, ov] w fun e w' => e = .returned (.bool true) ∧ Kept (fun _ => False) w w' := by
  have HKN := hid_of (known_any w)
  have HV := hid_of hv
  have HYO := hid_of hyok
  have HO := hid_of ho
  obtain ⟨bo, bc, rfl, hol, _⟩ := ho
  obtain ⟨n, hN⟩ : ∃ n, n = ys.length := ⟨_, rfl⟩
  obtain ⟨m, hM⟩ : ∃ m, m = outs.length := ⟨_, rfl⟩
  have HN := hid_of hN
  have HM := hid_of hM
  rw [← hN] at hcap ⊢
  rw [← hM] at hol ⊢
  have hnm : n ≤ 9223372036854775807 := by omega
  have hmm : m ≤ 9223372036854775807 := by unfold maxLen at hol; omega
  clear hv hyok hN hM hol
  go_enter Tryd.func8, Tryd.ntmps8
  go_wp2_with fail
  refine HKN.out.mono ?_
  rintro e w1 ⟨rfl, hk1⟩
  have HK1 := hid_of hk1
  clear hk1 HKN
  go_wp2
  go_loopw [5, 6, 7] (fun nv sv iv wr => ∃ (i : Nat) (ds : List EV) (ss : List (List Int)), i ≤ 300 ∧ ds.length ≤ i ∧ ss.length ≤ 2 * i ∧ iv = .int .i64 i ∧ Dir ds ∧ wr.ownsRow w.heap.size 47 34 nv ds.length (ents ds) ∧ wr.ownsRow w.heap.size 9 1 sv ss.length (ss.map strV) ∧ Kept (fun _ => False) w wr) (fun nv sv iv _ => 300 - (intOf iv).toNat)
  case atStart => exact ⟨0, [], [], by omega, Nat.le_refl _, Nat.le_refl _, rfl, Dir.nil, World.ownsRow_nil _ _ _ _, World.ownsRow_nil _ _ _ _, HK1.out⟩
  case round =>
    obtain ⟨i, ds, ss, hi300, hdl, hsl, rfl, hD, hod, hos, hkr⟩ := hrel
    have HD0 := hid_of hD
    have HOD := hid_of hod
    have HOS := hid_of hos
    have HKR := hid_of hkr
    have HSZR := hid_of hkr.size
    clear hD hod hos hkr HK1
    by_cases hin : i < n ∧ i < 300
    · obtain ⟨hin1, hin2⟩ := hin
      have hi1 : (i : Int) < (n : Int) := by omega
      have hi2 : (i : Int) < 300 := by omega
      have hi0 : (0 : Int) ≤ (i : Int) := by omega
      have hi3 : (i : Int) + 1 ≤ (c : Int) := by omega
      have hi4 : (n : Int) ≤ (c : Int) := by omega
      have hci : ¬ c = i := by omega
      have hly : i < ys.length := by rw [← HN.out]; exact hin1
      obtain ⟨y, hyi⟩ : ∃ y, ys[i]? = some y := ⟨_, List.getElem?_eq_getElem hly⟩
      have HYK := hid_of (HYO.out y (List.mem_of_getElem? hyi))
      have hyl := EV.clen y HYK.out.fr.1
      obtain ⟨g, o, e1, r1⟩ : ∃ g o, ao = some ⟨g, o, none⟩ ∧ w.rangeAt g (o + i * 34) y.cells := by
        rcases HV.out with ⟨e, _⟩ | ⟨g, o, c2, e, hc⟩
        · rw [e] at hly; simp at hly
        · cases e; exact ⟨g, o, rfl, hc i y hyi⟩
      subst e1
      have HSZ : Hid ((Tryd.prog.info? 47).map (·.size) = some y.cells.length) := by unfold Hid; rw [size47, hyl]
      have HSZA : Hid ((Tryd.prog.info? 47).map (·.size) = some y.cells.toArray.size) := by unfold Hid; rw [size47, List.size_toArray, hyl]
      have HRW : Hid (∀ W, Kept (fun _ => False) w W → W.rangeAt g (o + i * 34) y.cells) := fun W hW j u hj => hW.cell (r1 j u hj) (fun f => f)
      have HNW : Hid (∀ W, Kept (fun _ => False) w W → W.cell? ⟨g, o + i * 34, none⟩ = some (.string (str y.nm))) := fun W hW => HRW.out W hW 0 _ rfl
      have hrow1 : RowE wr (.slice (some ⟨g, o + i * 34, none⟩) [y].length (c - i)) [y] := .inr ⟨g, o + i * 34, c - i, rfl, fun k z hz => by
        have hk0 : k = 0 := by have := (List.getElem?_eq_some_iff.1 hz).1; simpa using this
        subst hk0
        obtain rfl : y = z := by simpa using hz
        rw [Nat.zero_mul, Nat.add_zero]
        exact HRW.out wr HKR.out⟩
      have hCR := check_ref nameP nameRC nameP_nil (some ⟨g, o + i * 34, none⟩) (c - i) [y] wr hrow1 (by simp; omega) (by omega) (fun z hz => by rw [List.mem_singleton] at hz; subst hz; exact HYK.out.fr.1) (fun z hz => by rw [List.mem_singleton] at hz; subst hz; exact ⟨HYK.out.nm, HYK.out.nl⟩)
      have HCR := hid_of hCR
      clear hCR hrow1 r1 hyi hly hyl
      go_wp2_with fail
      refine HCR.out.mono ?_
      rintro e w2 ⟨rfl, hk2⟩
      have hK2 := HKR.out.trans hk2
      have HOD2 := hid_of (hk2.ownsRow HOD.out (fun _ _ f => f))
      have HOS2 := hid_of (hk2.ownsRow HOS.out (fun _ _ f => f))
      have HK2 := hid_of hK2
      obtain ⟨cd, hcd⟩ : ∃ cd, cd = checkD nameP [y] := ⟨_, rfl⟩
      rw [← hcd]
      clear hk2 hK2 HCR HOD HOS HKR
      by_cases hc0 : cd = 0
      · subst hc0
        have hok := ok_one hcd.symm
        have HOK := hid_of hok
        have hld1 := HRW.out w2 HK2.out
        have HW := hid_of (with_any u5 ds y w2 (now_own HOD2.out (ok_fr HD0.out.fr)) (ok_fr HD0.out.fr) HD0.out.size (by omega) HD0.out.up HYK.out.fr.1 (ok_size hok))
        have HDN := hid_of (HD0.out.with hok HYK.out)
        have HLN := hid_of (HD0.out.with_len (x := y))
        have HAG := hid_of (HD0.out.again (x := y))
        have HFW := hid_of (fun s => HD0.out.find_with (x := y) s)
        obtain ⟨es, hes⟩ : ∃ es, es = withL y false ds := ⟨_, rfl⟩
        rw [← hes] at HW HDN HLN HAG
        have HES := hid_of hes
        clear hcd hok hes
        go_wp2_with (refine wpList_load_mid rfl 47 _ rfl g (o + i * 34) rfl y.cells _ hld1 Tryd.underlying47 rfl HSZ.out ?_)
        refine HW.out.mono ?_
        rintro e w3 ⟨u8', rfl, ho3, hk3⟩
        have hK3 := HK2.out.trans hk3
        have HK2S := hid_of HK2.out.size
        have HO3 := hid_of ho3
        have HK3 := hid_of hK3
        have HOD3 := hid_of (hk3.ownsRow HOD2.out (fun _ _ f => f))
        have HOS3 := hid_of (hk3.ownsRow HOS2.out (fun _ _ f => f))
        have hld2 := HRW.out w3 hK3
        have HW2 := hid_of (with_any u8' es y w3 (now_own ho3 (ok_fr HDN.out.fr)) (ok_fr HDN.out.fr) HDN.out.size (by have := HLN.out; omega) HDN.out.up HYK.out.fr.1 (ok_size HOK.out))
        rw [HAG.out.1] at HW2
        clear ho3 hk3 hK3 hld1 HW HK2 HOD2 HOS2
        go_wp2_with (refine wpList_load_mid rfl 47 _ rfl g (o + i * 34) rfl y.cells _ hld2 Tryd.underlying47 rfl HSZ.out ?_)
        refine HW2.out.mono ?_
        rintro e w4 ⟨u9', rfl, ho4, hk4⟩
        have hK4 := HK3.out.trans hk4
        have HO4 := hid_of ho4
        have HK4 := hid_of hK4
        have HN4 := hid_of (hk4.ownsRow HO3.out (fun _ _ f => f))
        have HOD4 := hid_of (hk4.ownsRow HOD3.out (fun _ _ f => f))
        have HOS4 := hid_of (hk4.ownsRow HOS3.out (fun _ _ f => f))
        have hnm4 := HNW.out w4 hK4
        have hF := find_now u8' es y.nm w4 (now_own HN4.out (ok_fr HDN.out.fr)) (ok_fr HDN.out.fr) HDN.out.size (by have := HLN.out; omega) HDN.out.up
        rw [HAG.out.2] at hF
        have HF := hid_of hF
        clear ho4 hk4 hK4 hld2 hF HW2 HK3 HO3 HOD3 HOS3
        go_wp2_with fail
        refine HF.out.mono ?_
        rintro e w5 ⟨rfl, hk5⟩
        have HK5 := hid_of (HK4.out.trans hk5)
        have HA5 := hid_of (hk5.ownsRow HO4.out (fun _ _ f => f))
        have HN5 := hid_of (hk5.ownsRow HN4.out (fun _ _ f => f))
        have HOD5 := hid_of (hk5.ownsRow HOD4.out (fun _ _ f => f))
        have HOS5 := hid_of (hk5.ownsRow HOS4.out (fun _ _ f => f))
        clear hk5 HF HK4 HO4 HN4 HOD4 HOS4 hnm4
        have h1f : y.cells.toArray.all (·.oneCell') = true := entA_cells (str y.nm) y.k y.fr
        obtain ⟨Z, hZ, hZs, hO9, hX9, hkX9⟩ := new_var w5 y HYK.out.fr.1
        rw [entA_new] at hZ
        subst hZ
        have hfe : foundE (some y) = y := rfl
        rw [hfe]
        have hsza := HSZA.out
        go_upto_region 12 with (refine wpList_store_row rfl 47 _ _ rfl w5.heap.size y.cells.toArray rfl rfl 47 _ hO9 hsza hZs h1f ?_)
        clear hO9 hsza
        generalize (w5.alloc (.cells _ 47)).setRow w5.heap.size y.cells.toArray = w6 at *
        have HX6 := hid_of hX9
        have HK6 := hid_of (HK5.out.trans hkX9)
        have HA6 := hid_of (hkX9.ownsRow HA5.out (fun _ _ f => f))
        have HN6 := hid_of (hkX9.ownsRow HN5.out (fun _ _ f => f))
        have HOD6 := hid_of (hkX9.ownsRow HOD5.out (fun _ _ f => f))
        have HOS6 := hid_of (hkX9.ownsRow HOS5.out (fun _ _ f => f))
        have hs6 : w5.heap.size < w6.heap.size := (Array.getElem?_eq_some_iff.1 hX9).1
        clear hX9 hkX9 hZs HK5 HA5 HN5 HOD5 HOS5 hfe
        have HD6 : Hid (Kept (fun _ => False) w6 w6.drew) := (Kept.refl _ _).drew
        have HRX6 : Hid (∀ W, Kept (fun _ => False) w6 W → W.rangeAt w5.heap.size 0 y.cells) := fun W hW j u hj => by
          rw [cell_block _ _ _ _ _ _ (box_kept hW HX6.out (fun f => f)), Nat.zero_add]
          simpa using hj
        have HRL6 : Hid (∀ W, Kept (fun _ => False) w6 W → W.rangeAt g (o + i * 34) y.cells) := fun W hW => HRW.out W (HK6.out.trans hW)
        have hSA := same_any u8' u9' es es w6.drew ((rowE_own HN6.out (ok_fr HDN.out.fr)).kept HD6.out (fun _ _ f => f)) ((rowE_own HA6.out (ok_fr HDN.out.fr)).kept HD6.out (fun _ _ f => f)) (ok_fr HDN.out.fr) (ok_fr HDN.out.fr) (by have := HLN.out; omega)
        rw [sameL_refl] at hSA
        have HSA := hid_of hSA
        have HCH : Hid (∀ W, Kept (fun _ => False) w6 W → Calls Tryd.prog 11 #[u8'] W fun e w' => e = .returned (.int .i64 0) ∧ Kept (fun _ => False) W w') := fun W hW => by
          have := check_any nameP nameC u8' es W ((rowE_own HN6.out (ok_fr HDN.out.fr)).kept hW (fun _ _ f => f)) (ok_fr HDN.out.fr) (fun z hz => (HDN.out.fr z hz).nm)
          rw [HDN.out.good (by have := HLN.out; omega)] at this
          exact this
        have HEQ : Hid ((!eqE y y) = false) := by unfold Hid; rw [eqE_refl]; rfl
        clear hSA
        refine wp_region_held_drew (S := fun w' => Kept (fun _ => False) w6 w') (by kernel_rfl) HD6.out (fun hHeld => ?_)
        refine wpAnyH_take (i := 0) (v := ?_) rfl (by kernel_rfl) (by kernel_rfl) (by kernel_rfl) (fun _ _ _ h => h) (Or.inl ⟨by rfl, ?_⟩) (by assumption) ?_
        rotate_left 1
        · intro w hSw
          go_simp
          try with_reducible rfl
        try simp only [Act.put, List.getElem_toArray, List.getElem_cons_zero, List.getElem_cons_succ, List.setIfInBounds_toArray, List.set_cons_zero, List.set_cons_succ]
        refine wpAnyH_take (i := 1) (v := ?_) rfl (by kernel_rfl) (by kernel_rfl) (by kernel_rfl) (fun _ _ _ h => h) (Or.inl ⟨by rfl, ?_⟩) (by assumption) ?_
        rotate_left 1
        · intro w hSw
          go_simp
          try with_reducible rfl
        try simp only [Act.put, List.getElem_toArray, List.getElem_cons_zero, List.getElem_cons_succ, List.setIfInBounds_toArray, List.set_cons_zero, List.set_cons_succ]
        refine wpAnyH_ready (rs := [2]) (by kernel_rfl) (by simp) ?_
        refine AllReadyH.cons rfl (fun K hK => ?_) AllReadyH.nil
        go_simp
        refine (HSA.out).mono ?_
        rintro e w7 ⟨rfl, hk7⟩
        have HK67 : Hid (Kept (fun _ => False) w6 w7) := HD6.out.trans hk7
        clear hk7 HSA
        refine hK.out _ _ HK67.out (fun hHeld => ?_)
        clear hK K
        try simp only [Act.put, List.getElem_toArray, List.getElem_cons_zero, List.getElem_cons_succ, List.setIfInBounds_toArray, List.set_cons_zero, List.set_cons_succ]
        refine wpAnyH_take (i := 3) (v := ?_) rfl (by kernel_rfl) (by kernel_rfl) (by kernel_rfl) (fun _ _ _ h => h) (Or.inl ⟨by rfl, ?_⟩) (by assumption) ?_
        rotate_left 1
        · intro w hSw
          go_simp
          try with_reducible rfl
        try simp only [Act.put, List.getElem_toArray, List.getElem_cons_zero, List.getElem_cons_succ, List.setIfInBounds_toArray, List.set_cons_zero, List.set_cons_succ]
        refine wpAnyH_take (i := 4) (v := ?_) rfl (by kernel_rfl) (by kernel_rfl) (by kernel_rfl) (fun _ _ _ h => h) (Or.inl ⟨by rfl, ?_⟩) (by assumption) ?_
        rotate_left 1
        · intro w hSw
          go_simp
          try with_reducible rfl
        try simp only [Act.put, List.getElem_toArray, List.getElem_cons_zero, List.getElem_cons_succ, List.setIfInBounds_toArray, List.set_cons_zero, List.set_cons_succ]
        refine wpAnyH_take (i := 5) (v := ?_) rfl (by kernel_rfl) (by kernel_rfl) (by kernel_rfl) (fun _ _ _ h => h) (Or.inl ⟨by rfl, ?_⟩) (by assumption) ?_
        rotate_left 1
        · intro w hSw
          go_simp
          try with_reducible rfl
        try simp only [Act.put, List.getElem_toArray, List.getElem_cons_zero, List.getElem_cons_succ, List.setIfInBounds_toArray, List.set_cons_zero, List.set_cons_succ]
        refine wpAnyH_take (i := 6) (v := ?_) rfl (by kernel_rfl) (by kernel_rfl) (by kernel_rfl) (fun _ _ _ h => h) (Or.inl ⟨by rfl, ?_⟩) (by assumption) ?_
        rotate_left 1
        · intro w hSw
          go_simp
          try with_reducible rfl
        try simp only [Act.put, List.getElem_toArray, List.getElem_cons_zero, List.getElem_cons_succ, List.setIfInBounds_toArray, List.set_cons_zero, List.set_cons_succ]
        refine wpAnyH_take (i := 7) (v := ?_) rfl (by kernel_rfl) (by kernel_rfl) (by kernel_rfl) (fun _ _ _ h => h) (Or.inl ⟨by rfl, ?_⟩) (by assumption) ?_
        rotate_left 1
        · intro w hSw
          go_simp
          try with_reducible rfl
        try simp only [Act.put, List.getElem_toArray, List.getElem_cons_zero, List.getElem_cons_succ, List.setIfInBounds_toArray, List.set_cons_zero, List.set_cons_succ]
        refine wpAnyH_take (i := 8) (v := ?_) rfl (by kernel_rfl) (by kernel_rfl) (by kernel_rfl) (fun _ _ _ h => h) (Or.inl ⟨by rfl, ?_⟩) (by assumption) ?_
        rotate_left 1
        · intro w hSw
          go_simp
          try with_reducible rfl
        try simp only [Act.put, List.getElem_toArray, List.getElem_cons_zero, List.getElem_cons_succ, List.setIfInBounds_toArray, List.set_cons_zero, List.set_cons_succ]
        refine wpAnyH_take (i := 9) (v := .agg y.cells.toArray) rfl (by kernel_rfl) (by kernel_rfl) (by kernel_rfl) (fun _ _ _ h => h) (yieldsIf_load_mid (by rfl) 47 _ rfl w5.heap.size 0 rfl y.cells _ (fun W hW => HRX6.out W hW) Tryd.underlying47 rfl HSZ.out) (by assumption) ?_
        try simp only [Act.put, List.getElem_toArray, List.getElem_cons_zero, List.getElem_cons_succ, List.setIfInBounds_toArray, List.set_cons_zero, List.set_cons_succ]
        refine wpAnyH_take (i := 10) (v := ?_) rfl (by kernel_rfl) (by kernel_rfl) (by kernel_rfl) (fun _ _ _ h => h) (Or.inl ⟨by rfl, ?_⟩) (by assumption) ?_
        rotate_left 1
        · intro w hSw
          go_simp
          try with_reducible rfl
        try simp only [Act.put, List.getElem_toArray, List.getElem_cons_zero, List.getElem_cons_succ, List.setIfInBounds_toArray, List.set_cons_zero, List.set_cons_succ]
        refine wpAnyH_take (i := 11) (v := ?_) rfl (by kernel_rfl) (by kernel_rfl) (by kernel_rfl) (fun _ _ _ h => h) (Or.inl ⟨by rfl, ?_⟩) (by assumption) ?_
        rotate_left 1
        · intro w hSw
          go_simp
          try with_reducible rfl
        try simp only [Act.put, List.getElem_toArray, List.getElem_cons_zero, List.getElem_cons_succ, List.setIfInBounds_toArray, List.set_cons_zero, List.set_cons_succ]
        refine wpAnyH_take (i := 12) (v := ?_) rfl (by kernel_rfl) (by kernel_rfl) (by kernel_rfl) (fun _ _ _ h => h) (Or.inl ⟨by rfl, ?_⟩) (by assumption) ?_
        rotate_left 1
        · intro w hSw
          go_simp
          try with_reducible rfl
        try simp only [Act.put, List.getElem_toArray, List.getElem_cons_zero, List.getElem_cons_succ, List.setIfInBounds_toArray, List.set_cons_zero, List.set_cons_succ]
        refine wpAnyH_take (i := 13) (v := .agg y.cells.toArray) rfl (by kernel_rfl) (by kernel_rfl) (by kernel_rfl) (fun _ _ _ h => h) (yieldsIf_load_mid (by rfl) 47 _ rfl g (o + i * 34) rfl y.cells _ (fun W hW => HRL6.out W hW) Tryd.underlying47 rfl HSZ.out) (by assumption) ?_
        try simp only [Act.put, List.getElem_toArray, List.getElem_cons_zero, List.getElem_cons_succ, List.setIfInBounds_toArray, List.set_cons_zero, List.set_cons_succ]
        refine wpAnyH_take (i := 14) (v := .bool (!eqE y y)) rfl (by kernel_rfl) (by kernel_rfl) (by kernel_rfl) (fun _ _ _ h => h) (yields_neq47 (by rfl) _ _ rfl y y HYK.out.fr.1 HYK.out.fr.1 rfl rfl) (by assumption) ?_
        try simp only [Act.put, List.getElem_toArray, List.getElem_cons_zero, List.getElem_cons_succ, List.setIfInBounds_toArray, List.set_cons_zero, List.set_cons_succ]
        rw [HEQ.out]
        refine wpAnyH_take (i := 15) (v := ?_) rfl (by kernel_rfl) (by kernel_rfl) (by kernel_rfl) (fun _ _ _ h => h) (Or.inl ⟨by rfl, ?_⟩) (by assumption) ?_
        rotate_left 1
        · intro w hSw
          go_simp
          try with_reducible rfl
        try simp only [Act.put, List.getElem_toArray, List.getElem_cons_zero, List.getElem_cons_succ, List.setIfInBounds_toArray, List.set_cons_zero, List.set_cons_succ]
        refine wpAnyH_take (i := 16) (v := ?_) rfl (by kernel_rfl) (by kernel_rfl) (by kernel_rfl) (fun _ _ _ h => h) (Or.inl ⟨by rfl, ?_⟩) (by assumption) ?_
        rotate_left 1
        · intro w hSw
          go_simp
          try with_reducible rfl
        try simp only [Act.put, List.getElem_toArray, List.getElem_cons_zero, List.getElem_cons_succ, List.setIfInBounds_toArray, List.set_cons_zero, List.set_cons_succ]
        refine wpAnyH_take (i := 17) (v := ?_) rfl (by kernel_rfl) (by kernel_rfl) (by kernel_rfl) (fun _ _ _ h => h) (Or.inl ⟨by rfl, ?_⟩) (by assumption) ?_
        rotate_left 1
        · intro w hSw
          go_simp
          try with_reducible rfl
        try simp only [Act.put, List.getElem_toArray, List.getElem_cons_zero, List.getElem_cons_succ, List.setIfInBounds_toArray, List.set_cons_zero, List.set_cons_succ]
        refine wpAnyH_ready (rs := [18]) (by kernel_rfl) (by simp) ?_
        refine AllReadyH.cons rfl (fun K hK => ?_) AllReadyH.nil
        go_simp
        refine (HCH.out _ HK67.out).mono ?_
        rintro e w8 ⟨rfl, hk8⟩
        have HK68 : Hid (Kept (fun _ => False) w6 w8) := HK67.out.trans hk8
        clear hk8 HCH
        refine hK.out _ _ HK68.out (fun hHeld => ?_)
        clear hK K
        try simp only [Act.put, List.getElem_toArray, List.getElem_cons_zero, List.getElem_cons_succ, List.setIfInBounds_toArray, List.set_cons_zero, List.set_cons_succ]
        refine wpAnyH_take (i := 19) (v := ?_) rfl (by kernel_rfl) (by kernel_rfl) (by kernel_rfl) (fun _ _ _ h => h) (Or.inl ⟨by rfl, ?_⟩) (by assumption) ?_
        rotate_left 1
        · intro w hSw
          go_simp
          try with_reducible rfl
        try simp only [Act.put, List.getElem_toArray, List.getElem_cons_zero, List.getElem_cons_succ, List.setIfInBounds_toArray, List.set_cons_zero, List.set_cons_succ]
        refine wpAnyH_take (i := 20) (v := ?_) rfl (by kernel_rfl) (by kernel_rfl) (by kernel_rfl) (fun _ _ _ h => h) (Or.inl ⟨by rfl, ?_⟩) (by assumption) ?_
        rotate_left 1
        · intro w hSw
          go_simp
          try with_reducible rfl
        try simp only [Act.put, List.getElem_toArray, List.getElem_cons_zero, List.getElem_cons_succ, List.setIfInBounds_toArray, List.set_cons_zero, List.set_cons_succ]
        refine wpAnyH_done (by kernel_rfl) ?_ _
        have HX8 := hid_of (box_kept HK68.out HX6.out (fun f => f))
        have HK8 := hid_of (HK6.out.trans HK68.out)
        have HN8 := hid_of (HK68.out.ownsRow HN6.out (fun _ _ f => f))
        have HOD8 := hid_of (HK68.out.ownsRow HOD6.out (fun _ _ f => f))
        have HOS8 := hid_of (HK68.out.ownsRow HOS6.out (fun _ _ f => f))
        have hs8 : w6.heap.size ≤ w8.heap.size := HK68.out.size
        clear HRX6 HRL6 HD6 HEQ HK67 HK68 HX6 HK6 HA6 HN6 HOD6 HOS6
        obtain ⟨so, sc, hu6, HSCM⟩ : ∃ so sc, u6 = .slice so ss.length sc ∧ Hid (sc ≤ 9223372036854775807) := by
          rcases HOS8.out.2 with ⟨e, hn⟩ | ⟨g1, c1, r1, e, _, _, _, h2, _⟩
          · exact ⟨none, 0, by rw [e, hn], by unfold Hid; omega⟩
          · exact ⟨_, _, e, by unfold Hid; unfold maxLen at h2; omega⟩
        obtain ⟨q, hQ⟩ : ∃ q, q = ss.length := ⟨_, rfl⟩
        have HQ := hid_of hQ
        rw [← hQ] at hu6 hsl
        subst hu6
        have HTX := hid_of (txt_own HOS8.out)
        clear hQ
        go_wp2
        go_loopw [12] (fun kv w9 => ∃ k : Nat, k ≤ q ∧ kv = .int .i64 k ∧ Kept (fun _ => False) w8 w9) (fun kv _ => q - (intOf kv).toNat)
        case atStart => exact ⟨0, Nat.zero_le _, rfl, Kept.refl _ _⟩
        case round =>
          obtain ⟨k, hkq, rfl, hk9⟩ := hrel
          have HK89 := hid_of hk9
          clear hk9
          by_cases hk1 : k < q
          · have hk1' : (k : Int) < (q : Int) := by omega
            have hk0' : (0 : Int) ≤ (k : Int) := by omega
            have hks : k < ss.length := by rw [← HQ.out]; exact hk1
            obtain ⟨s, hsk⟩ : ∃ s, ss[k]? = some s := ⟨_, List.getElem?_eq_getElem hks⟩
            obtain ⟨gs, os, e2, hcs⟩ : ∃ gs os, so = some ⟨gs, os, none⟩ ∧ w8.cell? ⟨gs, os + k, none⟩ = some (.string (str s)) := by
              obtain ⟨ao', cap', he, _, hf⟩ := HTX.out
              obtain ⟨rfl, _, _⟩ : so = ao' ∧ q = ss.length ∧ sc = cap' := by simpa using he
              exact hf k s hsk
            subst e2
            have hcs9 := HK89.out.cell hcs (fun f => f)
            have HCS := hid_of hcs
            have HNX : Hid (((str s).toList == (str y.nm).toList) = false → findL es s = findL ds s) := fun h => by rw [HES.out]; exact HFW.out s h
            have hF1 := find_now u5 ds s wr (now_own (HK89.out.ownsRow HOD8.out (fun _ _ f => f)) (ok_fr HD0.out.fr)) (ok_fr HD0.out.fr) HD0.out.size (by omega) HD0.out.up
            have hF2 : ∀ W, Kept (fun _ => False) w8 W → _ := fun W hW => find_now u8' es s W (now_own (hW.ownsRow HN8.out (fun _ _ f => f)) (ok_fr HDN.out.fr)) (ok_fr HDN.out.fr) HDN.out.size (by have := HLN.out; omega) HDN.out.up
            have HFA : Hid ((foundE (findL ds s)).fr.length ≤ 32) := found_fr (ok_fr HD0.out.fr)
            have HFB : Hid ((foundE (findL es s)).fr.length ≤ 32) := found_fr (ok_fr HDN.out.fr)
            have HEE : Hid (((str s).toList == (str y.nm).toList) = false → foundE (findL es s) = foundE (findL ds s) ∧ (findL es s).isSome = (findL ds s).isSome) := fun h => by rw [HNX.out h]; exact ⟨rfl, rfl⟩
            have HF1 := hid_of hF1
            have HF2 := hid_of hF2
            clear hF1 hF2 hcs HNX hks hsk
            generalize foundE (findL ds s) = fa at *
            generalize foundE (findL es s) = fb at *
            generalize (findL ds s).isSome = oa at *
            generalize (findL es s).isSome = ob at *
            have hsza : (Tryd.prog.info? 47).map (·.size) = some fa.cells.toArray.size := by rw [size47, List.size_toArray, EV.clen fa HFA.out]
            have h1a : fa.cells.toArray.all (·.oneCell') = true := entA_cells (str fa.nm) fa.k fa.fr
            have hszb : (Tryd.prog.info? 47).map (·.size) = some fb.cells.toArray.size := by rw [size47, List.size_toArray, EV.clen fb HFB.out]
            have h1b : fb.cells.toArray.all (·.oneCell') = true := entA_cells (str fb.nm) fb.k fb.fr
            have HSA1 : Hid ((Tryd.prog.info? 47).map (·.size) = some fa.cells.length) := by unfold Hid; rw [size47, EV.clen fa HFA.out]
            have HSB1 : Hid ((Tryd.prog.info? 47).map (·.size) = some fb.cells.length) := by unfold Hid; rw [size47, EV.clen fb HFB.out]
            go_wp2_with fail
            refine HF1.out.mono ?_
            rintro e w10 ⟨rfl, hk10⟩
            obtain ⟨Z, hZ, hZs, hO9, hX9, hkX9⟩ := new_var w10 fa HFA.out
            rw [entA_new] at hZ
            subst hZ
            go_upto_region 18 with (refine wpList_store_row rfl 47 _ _ rfl w10.heap.size fa.cells.toArray rfl rfl 47 _ hO9 hsza hZs h1a ?_)
            clear hO9
            generalize (w10.alloc (.cells _ 47)).setRow w10.heap.size fa.cells.toArray = w11 at *
            have HXA := hid_of hX9
            have HK11 := hid_of ((HK89.out.trans hk10).trans hkX9)
            have hcs11 := HK11.out.cell HCS.out (fun f => f)
            clear hX9 hkX9 hZs hk10 HF1 HK89 hcs9
            go_wp2_with fail
            refine (HF2.out _ HK11.out).mono ?_
            rintro e w12 ⟨rfl, hk12⟩
            obtain ⟨Z, hZ, hZs, hO9, hX9, hkX9⟩ := new_var w12 fb HFB.out
            rw [entA_new] at hZ
            subst hZ
            go_upto_region 19 with (refine wpList_store_row rfl 47 _ _ rfl w12.heap.size fb.cells.toArray rfl rfl 47 _ hO9 hszb hZs h1b ?_)
            clear hO9
            generalize (w12.alloc (.cells _ 47)).setRow w12.heap.size fb.cells.toArray = w13 at *
            have HXB := hid_of hX9
            have HXA13 := hid_of (box_kept hkX9 (box_kept hk12 HXA.out (fun f => f)) (fun f => f))
            have HK13 := hid_of ((HK11.out.trans hk12).trans hkX9)
            clear hX9 hkX9 hZs hk12 HF2 HK11 HXA hcs11 hsza h1a hszb h1b
            have HD13 : Hid (Kept (fun _ => False) w13 w13.drew) := (Kept.refl _ _).drew
            have HSX : Hid (∀ W, Kept (fun _ => False) w13 W → W.cell? ⟨gs, os + k, none⟩ = some (.string (str s)) ∧ W.cell? ⟨g, o + i * 34, none⟩ = some (.string (str y.nm))) := fun W hW => ⟨(HK13.out.trans hW).cell HCS.out (fun f => f), HNW.out W ((HK8.out.trans HK13.out).trans hW)⟩
            have HRA : Hid (∀ W, Kept (fun _ => False) w13 W → W.rangeAt w10.heap.size 0 fa.cells) := fun W hW j u hj => by
              rw [cell_block _ _ _ _ _ _ (box_kept hW HXA13.out (fun f => f)), Nat.zero_add]
              simpa using hj
            have HRB : Hid (∀ W, Kept (fun _ => False) w13 W → W.rangeAt w12.heap.size 0 fb.cells) := fun W hW j u hj => by
              rw [cell_block _ _ _ _ _ _ (box_kept hW HXB.out (fun f => f)), Nat.zero_add]
              simpa using hj
            obtain ⟨eq, heq⟩ : ∃ eq, ((str s).toList == (str y.nm).toList) = eq := ⟨_, rfl⟩
            rw [heq] at HEE
            cases eq
            · obtain ⟨h1, h2⟩ := HEE.out rfl
              subst h1
              subst h2
              have HEQ : Hid ((!eqE fb fb) = false) := by unfold Hid; rw [eqE_refl]; rfl
              refine wp_region_held_drew (S := fun w' => Kept (fun _ => False) w13 w') (by kernel_rfl) HD13.out (fun hHeld => ?_)
              refine wpAnyH_take (i := 0) (v := ?_) rfl (by kernel_rfl) (by kernel_rfl) (by kernel_rfl) (fun _ _ _ h => h) (Or.inl ⟨by rfl, ?_⟩) (by assumption) ?_
              rotate_left 1
              · intro w hSw
                obtain ⟨hs1, hs2⟩ := HSX.out w hSw
                go_simp
                try with_reducible rfl
              try simp only [Act.put, List.getElem_toArray, List.getElem_cons_zero, List.getElem_cons_succ, List.setIfInBounds_toArray, List.set_cons_zero, List.set_cons_succ]
              refine wpAnyH_take (i := 1) (v := ?_) rfl (by kernel_rfl) (by kernel_rfl) (by kernel_rfl) (fun _ _ _ h => h) (Or.inl ⟨by rfl, ?_⟩) (by assumption) ?_
              rotate_left 1
              · intro w hSw
                obtain ⟨hs1, hs2⟩ := HSX.out w hSw
                go_simp
                try with_reducible rfl
              try simp only [Act.put, List.getElem_toArray, List.getElem_cons_zero, List.getElem_cons_succ, List.setIfInBounds_toArray, List.set_cons_zero, List.set_cons_succ]
              refine wpAnyH_take (i := 2) (v := ?_) rfl (by kernel_rfl) (by kernel_rfl) (by kernel_rfl) (fun _ _ _ h => h) (Or.inl ⟨by rfl, ?_⟩) (by assumption) ?_
              rotate_left 1
              · intro w hSw
                obtain ⟨hs1, hs2⟩ := HSX.out w hSw
                go_simp
                try with_reducible rfl
              try simp only [Act.put, List.getElem_toArray, List.getElem_cons_zero, List.getElem_cons_succ, List.setIfInBounds_toArray, List.set_cons_zero, List.set_cons_succ]
              refine wpAnyH_take (i := 3) (v := ?_) rfl (by kernel_rfl) (by kernel_rfl) (by kernel_rfl) (fun _ _ _ h => h) (Or.inl ⟨by rfl, ?_⟩) (by assumption) ?_
              rotate_left 1
              · intro w hSw
                obtain ⟨hs1, hs2⟩ := HSX.out w hSw
                go_simp
                try with_reducible rfl
              try simp only [Act.put, List.getElem_toArray, List.getElem_cons_zero, List.getElem_cons_succ, List.setIfInBounds_toArray, List.set_cons_zero, List.set_cons_succ]
              refine wpAnyH_take (i := 4) (v := ?_) rfl (by kernel_rfl) (by kernel_rfl) (by kernel_rfl) (fun _ _ _ h => h) (Or.inl ⟨by rfl, ?_⟩) (by assumption) ?_
              rotate_left 1
              · intro w hSw
                obtain ⟨hs1, hs2⟩ := HSX.out w hSw
                go_simp
                try with_reducible rfl
              try simp only [Act.put, List.getElem_toArray, List.getElem_cons_zero, List.getElem_cons_succ, List.setIfInBounds_toArray, List.set_cons_zero, List.set_cons_succ]
              refine wpAnyH_take (i := 5) (v := ?_) rfl (by kernel_rfl) (by kernel_rfl) (by kernel_rfl) (fun _ _ _ h => h) (Or.inl ⟨by rfl, ?_⟩) (by assumption) ?_
              rotate_left 1
              · intro w hSw
                obtain ⟨hs1, hs2⟩ := HSX.out w hSw
                go_simp
                try with_reducible rfl
              try simp only [Act.put, List.getElem_toArray, List.getElem_cons_zero, List.getElem_cons_succ, List.setIfInBounds_toArray, List.set_cons_zero, List.set_cons_succ]
              refine wpAnyH_take (i := 6) (v := ?_) rfl (by kernel_rfl) (by kernel_rfl) (by kernel_rfl) (fun _ _ _ h => h) (Or.inl ⟨by rfl, ?_⟩) (by assumption) ?_
              rotate_left 1
              · intro w hSw
                obtain ⟨hs1, hs2⟩ := HSX.out w hSw
                go_simp
                try with_reducible rfl
              try simp only [Act.put, List.getElem_toArray, List.getElem_cons_zero, List.getElem_cons_succ, List.setIfInBounds_toArray, List.set_cons_zero, List.set_cons_succ]
              refine wpAnyH_take (i := 7) (v := ?_) rfl (by kernel_rfl) (by kernel_rfl) (by kernel_rfl) (fun _ _ _ h => h) (Or.inl ⟨by rfl, ?_⟩) (by assumption) ?_
              rotate_left 1
              · intro w hSw
                obtain ⟨hs1, hs2⟩ := HSX.out w hSw
                go_simp
                try with_reducible rfl
              try simp only [Act.put, List.getElem_toArray, List.getElem_cons_zero, List.getElem_cons_succ, List.setIfInBounds_toArray, List.set_cons_zero, List.set_cons_succ]
              refine wpAnyH_take (i := 8) (v := ?_) rfl (by kernel_rfl) (by kernel_rfl) (by kernel_rfl) (fun _ _ _ h => h) (Or.inl ⟨by rfl, ?_⟩) (by assumption) ?_
              rotate_left 1
              · intro w hSw
                obtain ⟨hs1, hs2⟩ := HSX.out w hSw
                go_simp
                try with_reducible rfl
              try simp only [Act.put, List.getElem_toArray, List.getElem_cons_zero, List.getElem_cons_succ, List.setIfInBounds_toArray, List.set_cons_zero, List.set_cons_succ]
              refine wpAnyH_take (i := 9) (v := ?_) rfl (by kernel_rfl) (by kernel_rfl) (by kernel_rfl) (fun _ _ _ h => h) (Or.inl ⟨by rfl, ?_⟩) (by assumption) ?_
              rotate_left 1
              · intro w hSw
                obtain ⟨hs1, hs2⟩ := HSX.out w hSw
                go_simp
                try with_reducible rfl
              try simp only [Act.put, List.getElem_toArray, List.getElem_cons_zero, List.getElem_cons_succ, List.setIfInBounds_toArray, List.set_cons_zero, List.set_cons_succ]
              refine wpAnyH_take (i := 10) (v := ?_) rfl (by kernel_rfl) (by kernel_rfl) (by kernel_rfl) (fun _ _ _ h => h) (Or.inl ⟨by rfl, ?_⟩) (by assumption) ?_
              rotate_left 1
              · intro w hSw
                obtain ⟨hs1, hs2⟩ := HSX.out w hSw
                go_simp
                try with_reducible rfl
              try simp only [Act.put, List.getElem_toArray, List.getElem_cons_zero, List.getElem_cons_succ, List.setIfInBounds_toArray, List.set_cons_zero, List.set_cons_succ]
              refine wpAnyH_take (i := 11) (v := .agg fb.cells.toArray) rfl (by kernel_rfl) (by kernel_rfl) (by kernel_rfl) (fun _ _ _ h => h) (yieldsIf_load_mid (by rfl) 47 _ rfl w10.heap.size 0 rfl fb.cells _ (fun W hW => HRA.out W hW) Tryd.underlying47 rfl HSB1.out) (by assumption) ?_
              try simp only [Act.put, List.getElem_toArray, List.getElem_cons_zero, List.getElem_cons_succ, List.setIfInBounds_toArray, List.set_cons_zero, List.set_cons_succ]
              refine wpAnyH_take (i := 12) (v := .agg fb.cells.toArray) rfl (by kernel_rfl) (by kernel_rfl) (by kernel_rfl) (fun _ _ _ h => h) (yieldsIf_load_mid (by rfl) 47 _ rfl w12.heap.size 0 rfl fb.cells _ (fun W hW => HRB.out W hW) Tryd.underlying47 rfl HSB1.out) (by assumption) ?_
              try simp only [Act.put, List.getElem_toArray, List.getElem_cons_zero, List.getElem_cons_succ, List.setIfInBounds_toArray, List.set_cons_zero, List.set_cons_succ]
              refine wpAnyH_take (i := 13) (v := .bool (!eqE fb fb)) rfl (by kernel_rfl) (by kernel_rfl) (by kernel_rfl) (fun _ _ _ h => h) (yields_neq47 (by rfl) _ _ rfl fb fb HFB.out HFB.out rfl rfl) (by assumption) ?_
              try simp only [Act.put, List.getElem_toArray, List.getElem_cons_zero, List.getElem_cons_succ, List.setIfInBounds_toArray, List.set_cons_zero, List.set_cons_succ]
              rw [HEQ.out]
              refine wpAnyH_take (i := 14) (v := ?_) rfl (by kernel_rfl) (by kernel_rfl) (by kernel_rfl) (fun _ _ _ h => h) (Or.inl ⟨by rfl, ?_⟩) (by assumption) ?_
              rotate_left 1
              · intro w hSw
                obtain ⟨hs1, hs2⟩ := HSX.out w hSw
                go_simp
                try with_reducible rfl
              try simp only [Act.put, List.getElem_toArray, List.getElem_cons_zero, List.getElem_cons_succ, List.setIfInBounds_toArray, List.set_cons_zero, List.set_cons_succ]
              refine wpAnyH_take (i := 15) (v := ?_) rfl (by kernel_rfl) (by kernel_rfl) (by kernel_rfl) (fun _ _ _ h => h) (Or.inl ⟨by rfl, ?_⟩) (by assumption) ?_
              rotate_left 1
              · intro w hSw
                obtain ⟨hs1, hs2⟩ := HSX.out w hSw
                go_simp
                try with_reducible rfl
              try simp only [Act.put, List.getElem_toArray, List.getElem_cons_zero, List.getElem_cons_succ, List.setIfInBounds_toArray, List.set_cons_zero, List.set_cons_succ]
              refine wpAnyH_take (i := 16) (v := ?_) rfl (by kernel_rfl) (by kernel_rfl) (by kernel_rfl) (fun _ _ _ h => h) (Or.inl ⟨by rfl, ?_⟩) (by assumption) ?_
              rotate_left 1
              · intro w hSw
                obtain ⟨hs1, hs2⟩ := HSX.out w hSw
                go_simp
                try with_reducible rfl
              try simp only [Act.put, List.getElem_toArray, List.getElem_cons_zero, List.getElem_cons_succ, List.setIfInBounds_toArray, List.set_cons_zero, List.set_cons_succ]
              refine wpAnyH_take (i := 17) (v := ?_) rfl (by kernel_rfl) (by kernel_rfl) (by kernel_rfl) (fun _ _ _ h => h) (Or.inl ⟨by rfl, ?_⟩) (by assumption) ?_
              rotate_left 1
              · intro w hSw
                obtain ⟨hs1, hs2⟩ := HSX.out w hSw
                go_simp
                try with_reducible rfl
              try simp only [Act.put, List.getElem_toArray, List.getElem_cons_zero, List.getElem_cons_succ, List.setIfInBounds_toArray, List.set_cons_zero, List.set_cons_succ]
              refine wpAnyH_take (i := 18) (v := ?_) rfl (by kernel_rfl) (by kernel_rfl) (by kernel_rfl) (fun _ _ _ h => h) (Or.inl ⟨by rfl, ?_⟩) (by assumption) ?_
              rotate_left 1
              · intro w hSw
                obtain ⟨hs1, hs2⟩ := HSX.out w hSw
                go_simp
                try with_reducible rfl
              try simp only [Act.put, List.getElem_toArray, List.getElem_cons_zero, List.getElem_cons_succ, List.setIfInBounds_toArray, List.set_cons_zero, List.set_cons_succ]
              refine wpAnyH_take (i := 19) (v := ?_) rfl (by kernel_rfl) (by kernel_rfl) (by kernel_rfl) (fun _ _ _ h => h) (Or.inl ⟨by rfl, ?_⟩) (by assumption) ?_
              rotate_left 1
              · intro w hSw
                obtain ⟨hs1, hs2⟩ := HSX.out w hSw
                go_simp
                try with_reducible rfl
              try simp only [Act.put, List.getElem_toArray, List.getElem_cons_zero, List.getElem_cons_succ, List.setIfInBounds_toArray, List.set_cons_zero, List.set_cons_succ]
              refine wpAnyH_done (by kernel_rfl) ?_ _
              have HKE := hid_of (HK13.out.trans HD13.out)
              clear HD13 HSX HRA HRB
              generalize w13.drew = w14 at *
              go_wp2
              go_roundw
              case rel => exact ⟨k + 1, by omega, by go_num, HKE.out⟩
              case measure => simp [intOf]; omega
            · clear HEE
              refine wp_region_held_drew (S := fun w' => Kept (fun _ => False) w13 w') (by kernel_rfl) HD13.out (fun hHeld => ?_)
              refine wpAnyH_take (i := 0) (v := ?_) rfl (by kernel_rfl) (by kernel_rfl) (by kernel_rfl) (fun _ _ _ h => h) (Or.inl ⟨by rfl, ?_⟩) (by assumption) ?_
              rotate_left 1
              · intro w hSw
                obtain ⟨hs1, hs2⟩ := HSX.out w hSw
                go_simp
                try with_reducible rfl
              try simp only [Act.put, List.getElem_toArray, List.getElem_cons_zero, List.getElem_cons_succ, List.setIfInBounds_toArray, List.set_cons_zero, List.set_cons_succ]
              refine wpAnyH_take (i := 1) (v := ?_) rfl (by kernel_rfl) (by kernel_rfl) (by kernel_rfl) (fun _ _ _ h => h) (Or.inl ⟨by rfl, ?_⟩) (by assumption) ?_
              rotate_left 1
              · intro w hSw
                obtain ⟨hs1, hs2⟩ := HSX.out w hSw
                go_simp
                try with_reducible rfl
              try simp only [Act.put, List.getElem_toArray, List.getElem_cons_zero, List.getElem_cons_succ, List.setIfInBounds_toArray, List.set_cons_zero, List.set_cons_succ]
              refine wpAnyH_take (i := 2) (v := ?_) rfl (by kernel_rfl) (by kernel_rfl) (by kernel_rfl) (fun _ _ _ h => h) (Or.inl ⟨by rfl, ?_⟩) (by assumption) ?_
              rotate_left 1
              · intro w hSw
                obtain ⟨hs1, hs2⟩ := HSX.out w hSw
                go_simp
                try with_reducible rfl
              try simp only [Act.put, List.getElem_toArray, List.getElem_cons_zero, List.getElem_cons_succ, List.setIfInBounds_toArray, List.set_cons_zero, List.set_cons_succ]
              refine wpAnyH_take (i := 3) (v := ?_) rfl (by kernel_rfl) (by kernel_rfl) (by kernel_rfl) (fun _ _ _ h => h) (Or.inl ⟨by rfl, ?_⟩) (by assumption) ?_
              rotate_left 1
              · intro w hSw
                obtain ⟨hs1, hs2⟩ := HSX.out w hSw
                go_simp
                try with_reducible rfl
              try simp only [Act.put, List.getElem_toArray, List.getElem_cons_zero, List.getElem_cons_succ, List.setIfInBounds_toArray, List.set_cons_zero, List.set_cons_succ]
              refine wpAnyH_take (i := 4) (v := ?_) rfl (by kernel_rfl) (by kernel_rfl) (by kernel_rfl) (fun _ _ _ h => h) (Or.inl ⟨by rfl, ?_⟩) (by assumption) ?_
              rotate_left 1
              · intro w hSw
                obtain ⟨hs1, hs2⟩ := HSX.out w hSw
                go_simp
                try with_reducible rfl
              try simp only [Act.put, List.getElem_toArray, List.getElem_cons_zero, List.getElem_cons_succ, List.setIfInBounds_toArray, List.set_cons_zero, List.set_cons_succ]
              refine wpAnyH_take (i := 5) (v := ?_) rfl (by kernel_rfl) (by kernel_rfl) (by kernel_rfl) (fun _ _ _ h => h) (Or.inl ⟨by rfl, ?_⟩) (by assumption) ?_
              rotate_left 1
              · intro w hSw
                obtain ⟨hs1, hs2⟩ := HSX.out w hSw
                go_simp
                try with_reducible rfl
              try simp only [Act.put, List.getElem_toArray, List.getElem_cons_zero, List.getElem_cons_succ, List.setIfInBounds_toArray, List.set_cons_zero, List.set_cons_succ]
              refine wpAnyH_take (i := 6) (v := ?_) rfl (by kernel_rfl) (by kernel_rfl) (by kernel_rfl) (fun _ _ _ h => h) (Or.inl ⟨by rfl, ?_⟩) (by assumption) ?_
              rotate_left 1
              · intro w hSw
                obtain ⟨hs1, hs2⟩ := HSX.out w hSw
                go_simp
                try with_reducible rfl
              try simp only [Act.put, List.getElem_toArray, List.getElem_cons_zero, List.getElem_cons_succ, List.setIfInBounds_toArray, List.set_cons_zero, List.set_cons_succ]
              refine wpAnyH_take (i := 7) (v := ?_) rfl (by kernel_rfl) (by kernel_rfl) (by kernel_rfl) (fun _ _ _ h => h) (Or.inl ⟨by rfl, ?_⟩) (by assumption) ?_
              rotate_left 1
              · intro w hSw
                obtain ⟨hs1, hs2⟩ := HSX.out w hSw
                go_simp
                try with_reducible rfl
              try simp only [Act.put, List.getElem_toArray, List.getElem_cons_zero, List.getElem_cons_succ, List.setIfInBounds_toArray, List.set_cons_zero, List.set_cons_succ]
              refine wpAnyH_take (i := 8) (v := ?_) rfl (by kernel_rfl) (by kernel_rfl) (by kernel_rfl) (fun _ _ _ h => h) (Or.inl ⟨by rfl, ?_⟩) (by assumption) ?_
              rotate_left 1
              · intro w hSw
                obtain ⟨hs1, hs2⟩ := HSX.out w hSw
                go_simp
                try with_reducible rfl
              try simp only [Act.put, List.getElem_toArray, List.getElem_cons_zero, List.getElem_cons_succ, List.setIfInBounds_toArray, List.set_cons_zero, List.set_cons_succ]
              refine wpAnyH_take (i := 9) (v := ?_) rfl (by kernel_rfl) (by kernel_rfl) (by kernel_rfl) (fun _ _ _ h => h) (Or.inl ⟨by rfl, ?_⟩) (by assumption) ?_
              rotate_left 1
              · intro w hSw
                obtain ⟨hs1, hs2⟩ := HSX.out w hSw
                go_simp
                try with_reducible rfl
              try simp only [Act.put, List.getElem_toArray, List.getElem_cons_zero, List.getElem_cons_succ, List.setIfInBounds_toArray, List.set_cons_zero, List.set_cons_succ]
              refine wpAnyH_take (i := 10) (v := ?_) rfl (by kernel_rfl) (by kernel_rfl) (by kernel_rfl) (fun _ _ _ h => h) (Or.inl ⟨by rfl, ?_⟩) (by assumption) ?_
              rotate_left 1
              · intro w hSw
                obtain ⟨hs1, hs2⟩ := HSX.out w hSw
                go_simp
                try with_reducible rfl
              try simp only [Act.put, List.getElem_toArray, List.getElem_cons_zero, List.getElem_cons_succ, List.setIfInBounds_toArray, List.set_cons_zero, List.set_cons_succ]
              refine wpAnyH_take (i := 11) (v := undef) rfl (by kernel_rfl) (by kernel_rfl) (by kernel_rfl) (fun _ _ _ h => h) (Or.inr ⟨by rfl, rfl⟩) (by assumption) ?_
              try simp only [Act.put, List.getElem_toArray, List.getElem_cons_zero, List.getElem_cons_succ, List.setIfInBounds_toArray, List.set_cons_zero, List.set_cons_succ]
              refine wpAnyH_take (i := 12) (v := undef) rfl (by kernel_rfl) (by kernel_rfl) (by kernel_rfl) (fun _ _ _ h => h) (Or.inr ⟨by rfl, rfl⟩) (by assumption) ?_
              try simp only [Act.put, List.getElem_toArray, List.getElem_cons_zero, List.getElem_cons_succ, List.setIfInBounds_toArray, List.set_cons_zero, List.set_cons_succ]
              refine wpAnyH_take (i := 13) (v := undef) rfl (by kernel_rfl) (by kernel_rfl) (by kernel_rfl) (fun _ _ _ h => h) (Or.inr ⟨by rfl, rfl⟩) (by assumption) ?_
              try simp only [Act.put, List.getElem_toArray, List.getElem_cons_zero, List.getElem_cons_succ, List.setIfInBounds_toArray, List.set_cons_zero, List.set_cons_succ]
              refine wpAnyH_take (i := 14) (v := undef) rfl (by kernel_rfl) (by kernel_rfl) (by kernel_rfl) (fun _ _ _ h => h) (Or.inr ⟨by rfl, rfl⟩) (by assumption) ?_
              try simp only [Act.put, List.getElem_toArray, List.getElem_cons_zero, List.getElem_cons_succ, List.setIfInBounds_toArray, List.set_cons_zero, List.set_cons_succ]
              refine wpAnyH_take (i := 15) (v := undef) rfl (by kernel_rfl) (by kernel_rfl) (by kernel_rfl) (fun _ _ _ h => h) (Or.inr ⟨by rfl, rfl⟩) (by assumption) ?_
              try simp only [Act.put, List.getElem_toArray, List.getElem_cons_zero, List.getElem_cons_succ, List.setIfInBounds_toArray, List.set_cons_zero, List.set_cons_succ]
              refine wpAnyH_take (i := 16) (v := undef) rfl (by kernel_rfl) (by kernel_rfl) (by kernel_rfl) (fun _ _ _ h => h) (Or.inr ⟨by rfl, rfl⟩) (by assumption) ?_
              try simp only [Act.put, List.getElem_toArray, List.getElem_cons_zero, List.getElem_cons_succ, List.setIfInBounds_toArray, List.set_cons_zero, List.set_cons_succ]
              refine wpAnyH_take (i := 17) (v := undef) rfl (by kernel_rfl) (by kernel_rfl) (by kernel_rfl) (fun _ _ _ h => h) (Or.inr ⟨by rfl, rfl⟩) (by assumption) ?_
              try simp only [Act.put, List.getElem_toArray, List.getElem_cons_zero, List.getElem_cons_succ, List.setIfInBounds_toArray, List.set_cons_zero, List.set_cons_succ]
              refine wpAnyH_take (i := 18) (v := undef) rfl (by kernel_rfl) (by kernel_rfl) (by kernel_rfl) (fun _ _ _ h => h) (Or.inr ⟨by rfl, rfl⟩) (by assumption) ?_
              try simp only [Act.put, List.getElem_toArray, List.getElem_cons_zero, List.getElem_cons_succ, List.setIfInBounds_toArray, List.set_cons_zero, List.set_cons_succ]
              refine wpAnyH_take (i := 19) (v := ?_) rfl (by kernel_rfl) (by kernel_rfl) (by kernel_rfl) (fun _ _ _ h => h) (Or.inl ⟨by rfl, ?_⟩) (by assumption) ?_
              rotate_left 1
              · intro w hSw
                obtain ⟨hs1, hs2⟩ := HSX.out w hSw
                go_simp
                try with_reducible rfl
              try simp only [Act.put, List.getElem_toArray, List.getElem_cons_zero, List.getElem_cons_succ, List.setIfInBounds_toArray, List.set_cons_zero, List.set_cons_succ]
              refine wpAnyH_done (by kernel_rfl) ?_ _
              have HKE := hid_of (HK13.out.trans HD13.out)
              clear HD13 HSX HRA HRB
              generalize w13.drew = w14 at *
              go_wp2
              go_roundw
              case rel => exact ⟨k + 1, by omega, by go_num, HKE.out⟩
              case measure => simp [intOf]; omega
          · obtain rfl : k = q := by omega
            have hK9 := HK8.out.trans HK89.out
            have HOS9 := hid_of (HK89.out.ownsRow HOS8.out (fun _ _ f => f))
            have HN9 := hid_of (HK89.out.ownsRow HN8.out (fun _ _ f => f))
            obtain ⟨v', w15, hr, ho15, hk15⟩ := app_txt wr (.slice so k sc) w.heap.size ss y.nm HOS9.out hK9.size (by have := HQ.out; omega)
            have hap := own_apart HN9.out HOS9.out
            have hlt := HOS9.out.lt
            have HN15 := hid_of (own_low (hk15.ownsRow HN9.out hap) HK2S.out)
            have HO15 := hid_of ho15
            have HK15 := hid_of (hK9.step hk15 (fun q hq e => by have := (hlt q e).1; omega))
            have HR := hid_of hr
            have hnm9 := HNW.out wr hK9
            have hqs : (ss ++ [y.nm]).length = k + 1 := by rw [List.length_append, ← HQ.out]; rfl
            have HQS := hid_of hqs
            clear hap hlt ho15 hk15 hr hqs hK9 HK89 HOS9 HN9 HOD8 HTX
            go_upto_region 23 with (refine wp_app2 rfl (.tmp 129) (.tmp 135) 54 54 ?_ _ _ rfl rfl v' w15 ?_ ?_; rfl; exact HR.out)
            clear HR hnm9 HK8 HOS8 HN8
            by_cases him : i < m
            · have him1 : (i : Int) < (m : Int) := by omega
              have hli : i < outs.length := by rw [← HM.out]; exact him
              obtain ⟨s2, hsi⟩ : ∃ s, outs[i]? = some s := ⟨_, List.getElem?_eq_getElem hli⟩
              obtain ⟨go, oo, e3, hco⟩ : ∃ go oo, bo = some ⟨go, oo, none⟩ ∧ w.cell? ⟨go, oo + i, none⟩ = some (.string (str s2)) := by
                obtain ⟨ao', cap', he, _, hf⟩ := HO.out
                obtain ⟨rfl, _⟩ : bo = ao' ∧ bc = cap' := by simpa using he
                exact hf i s2 hsi
              subst e3
              have HCO : Hid (∀ W, Kept (fun _ => False) w W → W.cell? ⟨go, oo + i, none⟩ = some (.string (str s2))) := fun W hW => hW.cell hco (fun f => f)
              have hco15 := HCO.out w15 HK15.out
              have HW := hid_of (without_now u8' es s2 w15 (now_own HN15.out (ok_fr HDN.out.fr)) (ok_fr HDN.out.fr) HDN.out.size (by have := HLN.out; omega) HDN.out.up)
              have HDL := hid_of (HDN.out.without s2)
              have HLL := hid_of (without_len es s2)
              have HFN : Hid (findL (withoutL es s2) s2 = none) := find_without es s2
              have HFS : Hid (∀ z, findL es s2 = some z → (withoutL es s2).length + 1 = es.length ∧ withL z false (withoutL es s2) = es ∧ z ∈ es) := fun z hz => HDN.out.found s2 z hz
              have HFO : Hid (findL es s2 = none → withoutL es s2 = es) := fun hz => HDN.out.lost s2 hz
              have HS15 := hid_of HK15.out.size
              obtain ⟨ls, hls⟩ : ∃ ls, ls = withoutL es s2 := ⟨_, rfl⟩
              rw [← hls] at HW HDL HLL HFN HFS HFO
              clear hls hli hsi hco
              go_wp2_with fail
              refine HW.out.mono ?_
              rintro e w16 ⟨u17', rfl, ho16, hk16⟩
              have HK16 := hid_of (HK15.out.trans hk16)
              have HL16 := hid_of (own_low ho16 HS15.out)
              have HN16 := hid_of (hk16.ownsRow HN15.out (fun _ _ f => f))
              have HO16 := hid_of (hk16.ownsRow HO15.out (fun _ _ f => f))
              have hco16 := HCO.out w16 HK16.out
              have hF := find_now u8' es s2 w16 (now_own HN16.out (ok_fr HDN.out.fr)) (ok_fr HDN.out.fr) HDN.out.size (by have := HLN.out; omega) HDN.out.up
              have HFY : Hid ((foundE (findL es s2)).fr.length ≤ 32) := found_fr (ok_fr HDN.out.fr)
              obtain ⟨o2, ho2⟩ : ∃ o2, findL es s2 = o2 := ⟨_, rfl⟩
              rw [ho2] at hF HFY HFS HFO
              have HF := hid_of hF
              clear hco15 ho16 hk16 hF HW HK15 HN15 HO15 ho2
              obtain ⟨fy, hfy⟩ : ∃ fy, foundE o2 = fy := ⟨_, rfl⟩
              rw [hfy] at HF HFY
              have HFYE := hid_of hfy
              clear hfy
              have hszy : (Tryd.prog.info? 47).map (·.size) = some fy.cells.toArray.size := by rw [size47, List.size_toArray, EV.clen fy HFY.out]
              have h1y : fy.cells.toArray.all (·.oneCell') = true := entA_cells (str fy.nm) fy.k fy.fr
              go_wp2_with fail
              refine HF.out.mono ?_
              rintro e w17 ⟨rfl, hk17⟩
              obtain ⟨Z, hZ, hZs, hO9, hX9, hkX9⟩ := new_var w17 fy HFY.out
              rw [entA_new] at hZ
              subst hZ
              go_upto_region 26 with (refine wpList_store_row rfl 47 _ _ rfl w17.heap.size fy.cells.toArray rfl rfl 47 _ hO9 hszy hZs h1y ?_)
              clear hO9
              generalize (w17.alloc (.cells _ 47)).setRow w17.heap.size fy.cells.toArray = w18 at *
              have HXY := hid_of hX9
              have hk618 := hk17.trans hkX9
              have HK18 := hid_of (HK16.out.trans hk618)
              have HL18 := hid_of (hk618.ownsRow HL16.out (fun _ _ f => f))
              have HN18 := hid_of (hk618.ownsRow HN16.out (fun _ _ f => f))
              have HO18 := hid_of (hk618.ownsRow HO16.out (fun _ _ f => f))
              have hco18 := HCO.out w18 HK18.out
              have hF := find_now u17' ls s2 w18 (now_own HL18.out (ok_fr HDL.out.fr)) (ok_fr HDL.out.fr) HDL.out.size (by have := HLN.out; have := HLL.out; omega) HDL.out.up
              rw [HFN.out] at hF
              have HF2 := hid_of hF
              clear hX9 hkX9 hZs hk17 hk618 hF HF HK16 HL16 HN16 HO16 hco16
              obtain ⟨fz, hfz⟩ : ∃ fz, foundE none = fz := ⟨_, rfl⟩
              have HFZ : Hid (fz.fr.length ≤ 32) := by rw [← hfz]; exact Nat.zero_le _
              rw [hfz] at HF2
              clear hfz
              have hszz : (Tryd.prog.info? 47).map (·.size) = some fz.cells.toArray.size := by rw [size47, List.size_toArray, EV.clen fz HFZ.out]
              have h1z : fz.cells.toArray.all (·.oneCell') = true := entA_cells (str fz.nm) fz.k fz.fr
              go_wp2_with fail
              refine HF2.out.mono ?_
              rintro e w19 ⟨rfl, hk19⟩
              obtain ⟨Z, hZ, hZs, hO9, hX9, hkX9⟩ := new_var w19 fz HFZ.out
              rw [entA_new] at hZ
              subst hZ
              go_upto_region 27 with (refine wpList_store_row rfl 47 _ _ rfl w19.heap.size fz.cells.toArray rfl rfl 47 _ hO9 hszz hZs h1z ?_)
              clear hO9
              generalize (w19.alloc (.cells _ 47)).setRow w19.heap.size fz.cells.toArray = w20 at *
              have hk820 := hk19.trans hkX9
              have HXY20 := hid_of (box_kept hk820 HXY.out (fun f => f))
              have HK20 := hid_of (HK18.out.trans hk820)
              have HL20 := hid_of (hk820.ownsRow HL18.out (fun _ _ f => f))
              have HN20 := hid_of (hk820.ownsRow HN18.out (fun _ _ f => f))
              have HO20 := hid_of (hk820.ownsRow HO18.out (fun _ _ f => f))
              have hCH := check_any nameP nameC u17' ls w20 (rowE_own HL20.out (ok_fr HDL.out.fr)) (ok_fr HDL.out.fr) (fun z hz => (HDL.out.fr z hz).nm)
              rw [HDL.out.good (by have := HLN.out; have := HLL.out; omega)] at hCH
              have HCH := hid_of hCH
              clear hX9 hkX9 hZs hk19 hk820 hCH HF2 HXY HK18 HL18 HN18 HO18 hco18 hszz h1z
              obtain ⟨a17, c17, hu17⟩ := own_shape HL20.out
              obtain ⟨a8, c8, hu8⟩ := own_shape HN20.out
              obtain ⟨l17, hl17⟩ : ∃ l, l = ls.length := ⟨_, rfl⟩
              obtain ⟨l8, hl8⟩ : ∃ l, l = es.length := ⟨_, rfl⟩
              rw [← hl17] at hu17
              rw [← hl8] at hu8
              have HL17E := hid_of hl17
              have HL8E := hid_of hl8
              have hb8 : l8 ≤ 301 := by have := HLN.out; omega
              subst hu17
              subst hu8
              clear hl17 hl8
              cases o2 with
              | none =>
                have hle : ls = es := HFO.out rfl
                have HSE : Hid (∀ W, Kept (fun _ => False) w20 W → Calls Tryd.prog 20 #[.slice a17 l17 c17, .slice a8 l8 c8] W fun e w' => e = .returned (.bool true) ∧ Kept (fun _ => False) W w') := fun W hW => by
                  have := same_any (.slice a17 l17 c17) (.slice a8 l8 c8) ls es W ((rowE_own HL20.out (ok_fr HDL.out.fr)).kept hW (fun _ _ f => f)) ((rowE_own HN20.out (ok_fr HDN.out.fr)).kept hW (fun _ _ f => f)) (ok_fr HDL.out.fr) (ok_fr HDN.out.fr) (by have := HLN.out; have := HLL.out; omega)
                  rw [hle, sameL_refl] at this
                  exact this
                clear hle
                go_wp2_with fail
                refine HCH.out.mono ?_
                rintro e w21 ⟨rfl, hk21⟩
                have HK21 := hid_of hk21
                clear hk21 HCH
                go_wp2_with fail
                refine (HSE.out _ HK21.out).mono ?_
                rintro e w23 ⟨rfl, hk23⟩
                have HK23 := hid_of (HK21.out.trans hk23)
                clear hk23 HSE HK21
                have hK23 := HK20.out.trans HK23.out
                have HOS9 := hid_of (HK23.out.ownsRow HO20.out (fun _ _ f => f))
                have HL23 := hid_of (HK23.out.ownsRow HL20.out (fun _ _ f => f))
                obtain ⟨v2, w24, hr, ho24, hk24⟩ := app_txt w23 v' w.heap.size (ss ++ [y.nm]) s2 HOS9.out hK23.size (by have := HQS.out; omega)
                have hap := own_apart HL23.out HOS9.out
                have hlt := HOS9.out.lt
                have HL24 := hid_of (hk24.ownsRow HL23.out hap)
                have HO24 := hid_of ho24
                have HK24 := hid_of (hK23.step hk24 (fun q hq e => by have := (hlt q e).1; omega))
                have HR := hid_of hr
                have hco23 := HCO.out w23 hK23
                have hqs2 : ((ss ++ [y.nm]) ++ [s2]).length = k + 1 + 1 := by rw [List.length_append, HQS.out]; rfl
                have HQS2 := hid_of hqs2
                clear hap hlt ho24 hk24 hr hqs2 hK23 HK23 HOS9 HL23
                go_upto_region 30 with (refine wp_app2 rfl (.tmp 201) (.tmp 206) 54 54 ?_ _ _ rfl rfl v2 w24 ?_ ?_; rfl; exact HR.out)
                clear HR hco23
                go_wp2
                go_roundw
                case rel => exact ⟨i + 1, ls, (ss ++ [y.nm]) ++ [s2], by omega, by have := HLN.out; have := HLL.out; omega, by have := HQS2.out; omega, by go_num, HDL.out, HL24.out, HO24.out, HK24.out⟩
                case measure => simp [intOf]; omega
              | some z =>
                obtain ⟨hlen, hwz, hmem⟩ := HFS.out z rfl
                have hfz2 : z = fy := HFYE.out
                subst hfz2
                obtain rfl : l8 = l17 + 1 := by rw [HL17E.out, HL8E.out]; exact hlen.symm
                have hXY20 := HXY20.out
                have HWI : Hid (∀ W, Kept (fun _ => False) w20 W → Calls Tryd.prog 26 #[.slice a17 l17 c17, .agg z.cells.toArray] W fun e w' => RowOut W es e w') := fun W hW => by
                  have := with_any (.slice a17 l17 c17) ls z W ((now_own HL20.out (ok_fr HDL.out.fr)).kept hW (fun _ _ f => f)) (ok_fr HDL.out.fr) HDL.out.size (by have := HLN.out; have := HLL.out; omega) HDL.out.up HFY.out (HDN.out.size z hmem)
                  rw [hwz] at this
                  exact this
                clear hlen hwz hmem
                go_wp2_with fail
                refine HCH.out.mono ?_
                rintro e w21 ⟨rfl, hk21⟩
                have HK21 := hid_of hk21
                have hXY21 := box_kept hk21 hXY20 (fun f => f)
                clear hk21 HCH hXY20
                go_wp2_with (refine wpList_row_wanted (by rfl) _ rfl w17.heap.size rfl z.cells.toArray hXY21 hszy ?_)
                refine (HWI.out _ HK21.out).mono ?_
                rintro e w22 ⟨u22, rfl, ho22, hk22⟩
                have HK22 := hid_of (HK21.out.trans hk22)
                have hSE := same_any u22 (.slice a8 (l17 + 1) c8) es es w22 (rowE_own ho22 (ok_fr HDN.out.fr)) ((rowE_own HN20.out (ok_fr HDN.out.fr)).kept HK22.out (fun _ _ f => f)) (ok_fr HDN.out.fr) (ok_fr HDN.out.fr) (by have := HLN.out; omega)
                rw [sameL_refl] at hSE
                have HSE := hid_of hSE
                clear hSE ho22 hk22 hXY21 HWI HK21
                go_wp2_with fail
                refine HSE.out.mono ?_
                rintro e w23 ⟨rfl, hk23⟩
                have HK23 := hid_of (HK22.out.trans hk23)
                clear hk23 HSE HK22
                have hK23 := HK20.out.trans HK23.out
                have HOS9 := hid_of (HK23.out.ownsRow HO20.out (fun _ _ f => f))
                have HL23 := hid_of (HK23.out.ownsRow HL20.out (fun _ _ f => f))
                obtain ⟨v2, w24, hr, ho24, hk24⟩ := app_txt w23 v' w.heap.size (ss ++ [y.nm]) s2 HOS9.out hK23.size (by have := HQS.out; omega)
                have hap := own_apart HL23.out HOS9.out
                have hlt := HOS9.out.lt
                have HL24 := hid_of (hk24.ownsRow HL23.out hap)
                have HO24 := hid_of ho24
                have HK24 := hid_of (hK23.step hk24 (fun q hq e => by have := (hlt q e).1; omega))
                have HR := hid_of hr
                have hco23 := HCO.out w23 hK23
                have hqs2 : ((ss ++ [y.nm]) ++ [s2]).length = k + 1 + 1 := by rw [List.length_append, HQS.out]; rfl
                have HQS2 := hid_of hqs2
                clear hap hlt ho24 hk24 hr hqs2 hK23 HK23 HOS9 HL23
                go_upto_region 30 with (refine wp_app2 rfl (.tmp 201) (.tmp 206) 54 54 ?_ _ _ rfl rfl v2 w24 ?_ ?_; rfl; exact HR.out)
                clear HR hco23
                go_wp2
                go_roundw
                case rel => exact ⟨i + 1, ls, (ss ++ [y.nm]) ++ [s2], by omega, by have := HLN.out; have := HLL.out; omega, by have := HQS2.out; omega, by go_num, HDL.out, HL24.out, HO24.out, HK24.out⟩
                case measure => simp [intOf]; omega
            · have him1 : ¬ ((i : Int) < (m : Int)) := by omega
              have him2 : decide ((i : Int) < (m : Int)) = false := decide_eq_false him1
              go_wp2
              go_roundw
              case rel => exact ⟨i + 1, es, ss ++ [y.nm], by omega, by have := HLN.out; omega, by have := HQS.out; omega, by go_num, HDN.out, HN15.out, HO15.out, HK15.out⟩
              case measure => simp [intOf]; omega
      · have hc1 : (cd == 0) = false := by simpa using hc0
        have hc2 : (cd != 0) = true := by simpa using hc0
        clear hcd
        go_wp2
        all_goals go_roundw
        case rel => exact ⟨i + 1, ds, ss, by omega, by omega, by omega, by go_num, HD0.out, HOD2.out, HOS2.out, HK2.out⟩
        case measure => simp [intOf]; omega
    · obtain ⟨x5, c5, hu5⟩ := own_shape HOD.out
      obtain ⟨d, hd⟩ : ∃ d, d = ds.length := ⟨_, rfl⟩
      have HDE := hid_of hd
      have HRC : Hid (∀ W, Kept (fun _ => False) wr W → RowE W u5 ds) := fun W hW => (rowE_own HOD.out (ok_fr HD0.out.fr)).kept hW (fun _ _ f => f)
      rw [← hd] at hu5 hdl
      subst hu5
      have hd300 : d ≤ 300 := by omega
      clear hd HOS HSZR HOD HV HYO HO
      by_cases h1 : i < n
      · obtain rfl : i = 300 := by omega
        have h1' : ((300 : Nat) : Int) < (n : Int) := by omega
        have h1'' : ((300 : Int) < (n : Int)) := by omega
        go_wp2
        go_loopw [22] (fun kv w9 => ∃ k : Nat, 1 ≤ k ∧ k ≤ d + 1 ∧ kv = .int .i64 k ∧ Kept (fun _ => False) wr w9) (fun kv _ => d + 1 - (intOf kv).toNat)
        case atStart => exact ⟨1, by omega, by omega, rfl, Kept.refl _ _⟩
        case round =>
          obtain ⟨k, hk1, hkd, rfl, hk9⟩ := hrel
          have HK9 := hid_of hk9
          have HRR := hid_of (HRC.out _ hk9)
          clear hk9
          by_cases hkk : k < d
          · obtain ⟨j, rfl⟩ : ∃ j, k = j + 1 := ⟨k - 1, by omega⟩
            have hkk1 : ((j + 1 : Nat) : Int) < (d : Int) := by omega
            have hkk2 : (j : Int) + 1 < (d : Int) := by omega
            have hkk3 : (j : Int) < (d : Int) := by omega
            have hj0 : (0 : Int) ≤ (j : Int) := by omega
            have hj1 : (0 : Int) ≤ (j : Int) + 1 := by omega
            obtain ⟨ya, hya⟩ : ∃ y, ds[j]? = some y := ⟨_, List.getElem?_eq_getElem (by rw [← HDE.out]; omega)⟩
            obtain ⟨yb, hyb⟩ : ∃ y, ds[j + 1]? = some y := ⟨_, List.getElem?_eq_getElem (by rw [← HDE.out]; omega)⟩
            have HLT : Hid (Op.bytesLess (str ya.nm).toList (str yb.nm).toList = true) := by
              obtain ⟨ha, hae⟩ := List.getElem?_eq_some_iff.1 hya
              obtain ⟨hb, hbe⟩ := List.getElem?_eq_some_iff.1 hyb
              have := List.pairwise_iff_getElem.1 HD0.out.up j (j + 1) ha hb (Nat.lt_succ_self _)
              rw [hae, hbe] at this
              exact this
            obtain ⟨g5, o5, e5, hca, hcb⟩ : ∃ g o, x5 = some ⟨g, o, none⟩ ∧ wr.cell? ⟨g, o + j * 34, none⟩ = some (.string (str ya.nm)) ∧ wr.cell? ⟨g, o + (j + 1) * 34, none⟩ = some (.string (str yb.nm)) := by
              rcases HRR.out with ⟨e, _⟩ | ⟨g, o, c2, e, hc⟩
              · rw [e] at hya; simp at hya
              · cases e; exact ⟨g, o, rfl, hc j ya hya 0 _ rfl, hc (j + 1) yb hyb 0 _ rfl⟩
            subst e5
            have HSX : Hid (∀ W, Kept (fun _ => False) wr W → W.cell? ⟨g5, o5 + j * 34, none⟩ = some (.string (str ya.nm)) ∧ W.cell? ⟨g5, o5 + (j + 1) * 34, none⟩ = some (.string (str yb.nm))) := fun W hW => ⟨hW.cell hca (fun f => f), hW.cell hcb (fun f => f)⟩
            have HDW : Hid (Kept (fun _ => False) wr wr.drew) := (Kept.refl _ _).drew
            clear hya hyb hca hcb HRR
            go_wp2_with fail
            refine wp_region_held_drew (S := fun w' => Kept (fun _ => False) wr w') (by kernel_rfl) HDW.out (fun hHeld => ?_)
            refine wpAnyH_take (i := 0) (v := ?_) rfl (by kernel_rfl) (by kernel_rfl) (by kernel_rfl) (fun _ _ _ h => h) (Or.inl ⟨by rfl, ?_⟩) (by assumption) ?_
            rotate_left 1
            · intro w hSw
              obtain ⟨hs1, hs2⟩ := HSX.out w hSw
              go_simp
              try with_reducible rfl
            try simp only [Act.put, List.getElem_toArray, List.getElem_cons_zero, List.getElem_cons_succ, List.setIfInBounds_toArray, List.set_cons_zero, List.set_cons_succ]
            refine wpAnyH_take (i := 1) (v := ?_) rfl (by kernel_rfl) (by kernel_rfl) (by kernel_rfl) (fun _ _ _ h => h) (Or.inl ⟨by rfl, ?_⟩) (by assumption) ?_
            rotate_left 1
            · intro w hSw
              obtain ⟨hs1, hs2⟩ := HSX.out w hSw
              go_simp
              try with_reducible rfl
            try simp only [Act.put, List.getElem_toArray, List.getElem_cons_zero, List.getElem_cons_succ, List.setIfInBounds_toArray, List.set_cons_zero, List.set_cons_succ]
            refine wpAnyH_take (i := 2) (v := (.int .i64 (j : Int))) rfl (by kernel_rfl) (by kernel_rfl) (by kernel_rfl) (fun _ _ _ h => h) (Or.inl ⟨by rfl, ?_⟩) (by assumption) ?_
            · intro w hSw
              go_simp
              exact IntWalk.i64_in _ ⟨by omega, by omega⟩
            try simp only [Act.put, List.getElem_toArray, List.getElem_cons_zero, List.getElem_cons_succ, List.setIfInBounds_toArray, List.set_cons_zero, List.set_cons_succ]
            refine wpAnyH_take (i := 3) (v := ?_) rfl (by kernel_rfl) (by kernel_rfl) (by kernel_rfl) (fun _ _ _ h => h) (Or.inl ⟨by rfl, ?_⟩) (by assumption) ?_
            rotate_left 1
            · intro w hSw
              obtain ⟨hs1, hs2⟩ := HSX.out w hSw
              go_simp
              try with_reducible rfl
            try simp only [Act.put, List.getElem_toArray, List.getElem_cons_zero, List.getElem_cons_succ, List.setIfInBounds_toArray, List.set_cons_zero, List.set_cons_succ]
            refine wpAnyH_take (i := 4) (v := ?_) rfl (by kernel_rfl) (by kernel_rfl) (by kernel_rfl) (fun _ _ _ h => h) (Or.inl ⟨by rfl, ?_⟩) (by assumption) ?_
            rotate_left 1
            · intro w hSw
              obtain ⟨hs1, hs2⟩ := HSX.out w hSw
              go_simp
              try with_reducible rfl
            try simp only [Act.put, List.getElem_toArray, List.getElem_cons_zero, List.getElem_cons_succ, List.setIfInBounds_toArray, List.set_cons_zero, List.set_cons_succ]
            refine wpAnyH_take (i := 5) (v := ?_) rfl (by kernel_rfl) (by kernel_rfl) (by kernel_rfl) (fun _ _ _ h => h) (Or.inl ⟨by rfl, ?_⟩) (by assumption) ?_
            rotate_left 1
            · intro w hSw
              obtain ⟨hs1, hs2⟩ := HSX.out w hSw
              go_simp
              try with_reducible rfl
            try simp only [Act.put, List.getElem_toArray, List.getElem_cons_zero, List.getElem_cons_succ, List.setIfInBounds_toArray, List.set_cons_zero, List.set_cons_succ]
            refine wpAnyH_take (i := 6) (v := ?_) rfl (by kernel_rfl) (by kernel_rfl) (by kernel_rfl) (fun _ _ _ h => h) (Or.inl ⟨by rfl, ?_⟩) (by assumption) ?_
            rotate_left 1
            · intro w hSw
              obtain ⟨hs1, hs2⟩ := HSX.out w hSw
              go_simp
              try with_reducible rfl
            try simp only [Act.put, List.getElem_toArray, List.getElem_cons_zero, List.getElem_cons_succ, List.setIfInBounds_toArray, List.set_cons_zero, List.set_cons_succ]
            refine wpAnyH_take (i := 7) (v := ?_) rfl (by kernel_rfl) (by kernel_rfl) (by kernel_rfl) (fun _ _ _ h => h) (Or.inl ⟨by rfl, ?_⟩) (by assumption) ?_
            rotate_left 1
            · intro w hSw
              obtain ⟨hs1, hs2⟩ := HSX.out w hSw
              go_simp
              try with_reducible rfl
            try simp only [Act.put, List.getElem_toArray, List.getElem_cons_zero, List.getElem_cons_succ, List.setIfInBounds_toArray, List.set_cons_zero, List.set_cons_succ]
            refine wpAnyH_take (i := 8) (v := ?_) rfl (by kernel_rfl) (by kernel_rfl) (by kernel_rfl) (fun _ _ _ h => h) (Or.inl ⟨by rfl, ?_⟩) (by assumption) ?_
            rotate_left 1
            · intro w hSw
              obtain ⟨hs1, hs2⟩ := HSX.out w hSw
              go_simp
              try with_reducible rfl
            try simp only [Act.put, List.getElem_toArray, List.getElem_cons_zero, List.getElem_cons_succ, List.setIfInBounds_toArray, List.set_cons_zero, List.set_cons_succ]
            refine wpAnyH_take (i := 9) (v := ?_) rfl (by kernel_rfl) (by kernel_rfl) (by kernel_rfl) (fun _ _ _ h => h) (Or.inl ⟨by rfl, ?_⟩) (by assumption) ?_
            rotate_left 1
            · intro w hSw
              obtain ⟨hs1, hs2⟩ := HSX.out w hSw
              go_simp
              try with_reducible rfl
            try simp only [Act.put, List.getElem_toArray, List.getElem_cons_zero, List.getElem_cons_succ, List.setIfInBounds_toArray, List.set_cons_zero, List.set_cons_succ]
            refine wpAnyH_take (i := 10) (v := ?_) rfl (by kernel_rfl) (by kernel_rfl) (by kernel_rfl) (fun _ _ _ h => h) (Or.inl ⟨by rfl, ?_⟩) (by assumption) ?_
            rotate_left 1
            · intro w hSw
              obtain ⟨hs1, hs2⟩ := HSX.out w hSw
              go_simp
              try with_reducible rfl
            try simp only [Act.put, List.getElem_toArray, List.getElem_cons_zero, List.getElem_cons_succ, List.setIfInBounds_toArray, List.set_cons_zero, List.set_cons_succ]
            refine wpAnyH_take (i := 11) (v := (.bool false)) rfl (by kernel_rfl) (by kernel_rfl) (by kernel_rfl) (fun _ _ _ h => h) (Or.inl ⟨by rfl, ?_⟩) (by assumption) ?_
            · intro w hSw
              go_simp
              rw [geq_less HLT.out]
              rfl
            try simp only [Act.put, List.getElem_toArray, List.getElem_cons_zero, List.getElem_cons_succ, List.setIfInBounds_toArray, List.set_cons_zero, List.set_cons_succ]
            refine wpAnyH_done (by kernel_rfl) ?_ _
            have HKE := hid_of (HK9.out.trans HDW.out)
            have hlt := HLT.out
            clear HDW HSX
            generalize wr.drew = w14 at *
            go_wp2
            go_roundw
            case rel => exact ⟨j + 1 + 1, by omega, by omega, by go_num, HKE.out⟩
            case measure => simp [intOf]; omega
          · have hkk1 : ¬ ((k : Int) < (d : Int)) := by omega
            have hkk2 : decide ((k : Int) < (d : Int)) = false := decide_eq_false hkk1
            have HKE := hid_of (HKR.out.trans HK9.out)
            go_wp2
            all_goals go_ret
            all_goals exact ⟨rfl, HKE.out⟩
      · have h1' : ¬ ((i : Int) < (n : Int)) := by omega
        have h1'' : decide ((i : Int) < (n : Int)) = false := decide_eq_false h1'
        go_wp2
        go_loopw [22] (fun kv w9 => ∃ k : Nat, 1 ≤ k ∧ k ≤ d + 1 ∧ kv = .int .i64 k ∧ Kept (fun _ => False) wr w9) (fun kv _ => d + 1 - (intOf kv).toNat)
        case atStart => exact ⟨1, by omega, by omega, rfl, Kept.refl _ _⟩
        case round =>
          obtain ⟨k, hk1, hkd, rfl, hk9⟩ := hrel
          have HK9 := hid_of hk9
          have HRR := hid_of (HRC.out _ hk9)
          clear hk9
          by_cases hkk : k < d
          · obtain ⟨j, rfl⟩ : ∃ j, k = j + 1 := ⟨k - 1, by omega⟩
            have hkk1 : ((j + 1 : Nat) : Int) < (d : Int) := by omega
            have hkk2 : (j : Int) + 1 < (d : Int) := by omega
            have hkk3 : (j : Int) < (d : Int) := by omega
            have hj0 : (0 : Int) ≤ (j : Int) := by omega
            have hj1 : (0 : Int) ≤ (j : Int) + 1 := by omega
            obtain ⟨ya, hya⟩ : ∃ y, ds[j]? = some y := ⟨_, List.getElem?_eq_getElem (by rw [← HDE.out]; omega)⟩
            obtain ⟨yb, hyb⟩ : ∃ y, ds[j + 1]? = some y := ⟨_, List.getElem?_eq_getElem (by rw [← HDE.out]; omega)⟩
            have HLT : Hid (Op.bytesLess (str ya.nm).toList (str yb.nm).toList = true) := by
              obtain ⟨ha, hae⟩ := List.getElem?_eq_some_iff.1 hya
              obtain ⟨hb, hbe⟩ := List.getElem?_eq_some_iff.1 hyb
              have := List.pairwise_iff_getElem.1 HD0.out.up j (j + 1) ha hb (Nat.lt_succ_self _)
              rw [hae, hbe] at this
              exact this
            obtain ⟨g5, o5, e5, hca, hcb⟩ : ∃ g o, x5 = some ⟨g, o, none⟩ ∧ wr.cell? ⟨g, o + j * 34, none⟩ = some (.string (str ya.nm)) ∧ wr.cell? ⟨g, o + (j + 1) * 34, none⟩ = some (.string (str yb.nm)) := by
              rcases HRR.out with ⟨e, _⟩ | ⟨g, o, c2, e, hc⟩
              · rw [e] at hya; simp at hya
              · cases e; exact ⟨g, o, rfl, hc j ya hya 0 _ rfl, hc (j + 1) yb hyb 0 _ rfl⟩
            subst e5
            have HSX : Hid (∀ W, Kept (fun _ => False) wr W → W.cell? ⟨g5, o5 + j * 34, none⟩ = some (.string (str ya.nm)) ∧ W.cell? ⟨g5, o5 + (j + 1) * 34, none⟩ = some (.string (str yb.nm))) := fun W hW => ⟨hW.cell hca (fun f => f), hW.cell hcb (fun f => f)⟩
            have HDW : Hid (Kept (fun _ => False) wr wr.drew) := (Kept.refl _ _).drew
            clear hya hyb hca hcb HRR
            go_wp2_with fail
            refine wp_region_held_drew (S := fun w' => Kept (fun _ => False) wr w') (by kernel_rfl) HDW.out (fun hHeld => ?_)
            refine wpAnyH_take (i := 0) (v := ?_) rfl (by kernel_rfl) (by kernel_rfl) (by kernel_rfl) (fun _ _ _ h => h) (Or.inl ⟨by rfl, ?_⟩) (by assumption) ?_
            rotate_left 1
            · intro w hSw
              obtain ⟨hs1, hs2⟩ := HSX.out w hSw
              go_simp
              try with_reducible rfl
            try simp only [Act.put, List.getElem_toArray, List.getElem_cons_zero, List.getElem_cons_succ, List.setIfInBounds_toArray, List.set_cons_zero, List.set_cons_succ]
            refine wpAnyH_take (i := 1) (v := ?_) rfl (by kernel_rfl) (by kernel_rfl) (by kernel_rfl) (fun _ _ _ h => h) (Or.inl ⟨by rfl, ?_⟩) (by assumption) ?_
            rotate_left 1
            · intro w hSw
              obtain ⟨hs1, hs2⟩ := HSX.out w hSw
              go_simp
              try with_reducible rfl
            try simp only [Act.put, List.getElem_toArray, List.getElem_cons_zero, List.getElem_cons_succ, List.setIfInBounds_toArray, List.set_cons_zero, List.set_cons_succ]
            refine wpAnyH_take (i := 2) (v := (.int .i64 (j : Int))) rfl (by kernel_rfl) (by kernel_rfl) (by kernel_rfl) (fun _ _ _ h => h) (Or.inl ⟨by rfl, ?_⟩) (by assumption) ?_
            · intro w hSw
              go_simp
              exact IntWalk.i64_in _ ⟨by omega, by omega⟩
            try simp only [Act.put, List.getElem_toArray, List.getElem_cons_zero, List.getElem_cons_succ, List.setIfInBounds_toArray, List.set_cons_zero, List.set_cons_succ]
            refine wpAnyH_take (i := 3) (v := ?_) rfl (by kernel_rfl) (by kernel_rfl) (by kernel_rfl) (fun _ _ _ h => h) (Or.inl ⟨by rfl, ?_⟩) (by assumption) ?_
            rotate_left 1
            · intro w hSw
              obtain ⟨hs1, hs2⟩ := HSX.out w hSw
              go_simp
              try with_reducible rfl
            try simp only [Act.put, List.getElem_toArray, List.getElem_cons_zero, List.getElem_cons_succ, List.setIfInBounds_toArray, List.set_cons_zero, List.set_cons_succ]
            refine wpAnyH_take (i := 4) (v := ?_) rfl (by kernel_rfl) (by kernel_rfl) (by kernel_rfl) (fun _ _ _ h => h) (Or.inl ⟨by rfl, ?_⟩) (by assumption) ?_
            rotate_left 1
            · intro w hSw
              obtain ⟨hs1, hs2⟩ := HSX.out w hSw
              go_simp
              try with_reducible rfl
            try simp only [Act.put, List.getElem_toArray, List.getElem_cons_zero, List.getElem_cons_succ, List.setIfInBounds_toArray, List.set_cons_zero, List.set_cons_succ]
            refine wpAnyH_take (i := 5) (v := ?_) rfl (by kernel_rfl) (by kernel_rfl) (by kernel_rfl) (fun _ _ _ h => h) (Or.inl ⟨by rfl, ?_⟩) (by assumption) ?_
            rotate_left 1
            · intro w hSw
              obtain ⟨hs1, hs2⟩ := HSX.out w hSw
              go_simp
              try with_reducible rfl
            try simp only [Act.put, List.getElem_toArray, List.getElem_cons_zero, List.getElem_cons_succ, List.setIfInBounds_toArray, List.set_cons_zero, List.set_cons_succ]
            refine wpAnyH_take (i := 6) (v := ?_) rfl (by kernel_rfl) (by kernel_rfl) (by kernel_rfl) (fun _ _ _ h => h) (Or.inl ⟨by rfl, ?_⟩) (by assumption) ?_
            rotate_left 1
            · intro w hSw
              obtain ⟨hs1, hs2⟩ := HSX.out w hSw
              go_simp
              try with_reducible rfl
            try simp only [Act.put, List.getElem_toArray, List.getElem_cons_zero, List.getElem_cons_succ, List.setIfInBounds_toArray, List.set_cons_zero, List.set_cons_succ]
            refine wpAnyH_take (i := 7) (v := ?_) rfl (by kernel_rfl) (by kernel_rfl) (by kernel_rfl) (fun _ _ _ h => h) (Or.inl ⟨by rfl, ?_⟩) (by assumption) ?_
            rotate_left 1
            · intro w hSw
              obtain ⟨hs1, hs2⟩ := HSX.out w hSw
              go_simp
              try with_reducible rfl
            try simp only [Act.put, List.getElem_toArray, List.getElem_cons_zero, List.getElem_cons_succ, List.setIfInBounds_toArray, List.set_cons_zero, List.set_cons_succ]
            refine wpAnyH_take (i := 8) (v := ?_) rfl (by kernel_rfl) (by kernel_rfl) (by kernel_rfl) (fun _ _ _ h => h) (Or.inl ⟨by rfl, ?_⟩) (by assumption) ?_
            rotate_left 1
            · intro w hSw
              obtain ⟨hs1, hs2⟩ := HSX.out w hSw
              go_simp
              try with_reducible rfl
            try simp only [Act.put, List.getElem_toArray, List.getElem_cons_zero, List.getElem_cons_succ, List.setIfInBounds_toArray, List.set_cons_zero, List.set_cons_succ]
            refine wpAnyH_take (i := 9) (v := ?_) rfl (by kernel_rfl) (by kernel_rfl) (by kernel_rfl) (fun _ _ _ h => h) (Or.inl ⟨by rfl, ?_⟩) (by assumption) ?_
            rotate_left 1
            · intro w hSw
              obtain ⟨hs1, hs2⟩ := HSX.out w hSw
              go_simp
              try with_reducible rfl
            try simp only [Act.put, List.getElem_toArray, List.getElem_cons_zero, List.getElem_cons_succ, List.setIfInBounds_toArray, List.set_cons_zero, List.set_cons_succ]
            refine wpAnyH_take (i := 10) (v := ?_) rfl (by kernel_rfl) (by kernel_rfl) (by kernel_rfl) (fun _ _ _ h => h) (Or.inl ⟨by rfl, ?_⟩) (by assumption) ?_
            rotate_left 1
            · intro w hSw
              obtain ⟨hs1, hs2⟩ := HSX.out w hSw
              go_simp
              try with_reducible rfl
            try simp only [Act.put, List.getElem_toArray, List.getElem_cons_zero, List.getElem_cons_succ, List.setIfInBounds_toArray, List.set_cons_zero, List.set_cons_succ]
            refine wpAnyH_take (i := 11) (v := (.bool false)) rfl (by kernel_rfl) (by kernel_rfl) (by kernel_rfl) (fun _ _ _ h => h) (Or.inl ⟨by rfl, ?_⟩) (by assumption) ?_
            · intro w hSw
              go_simp
              rw [geq_less HLT.out]
              rfl
            try simp only [Act.put, List.getElem_toArray, List.getElem_cons_zero, List.getElem_cons_succ, List.setIfInBounds_toArray, List.set_cons_zero, List.set_cons_succ]
            refine wpAnyH_done (by kernel_rfl) ?_ _
            have HKE := hid_of (HK9.out.trans HDW.out)
            have hlt := HLT.out
            clear HDW HSX
            generalize wr.drew = w14 at *
            go_wp2
            go_roundw
            case rel => exact ⟨j + 1 + 1, by omega, by omega, by go_num, HKE.out⟩
            case measure => simp [intOf]; omega
          · have hkk1 : ¬ ((k : Int) < (d : Int)) := by omega
            have hkk2 : decide ((k : Int) < (d : Int)) = false := decide_eq_false hkk1
            have HKE := hid_of (HKR.out.trans HK9.out)
            go_wp2
            all_goals go_ret
            all_goals exact ⟨rfl, HKE.out⟩
end Go.Proofs.YtcpkbajmilkhpaaDoor
