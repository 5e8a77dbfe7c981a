/-
  The reader: names, a line that begins a function.
-/
import Derived.Test.YtkilngknklpadaaGreatDoorAf
import Derived.Test.YtkilngknklpadaaGreatDoorGm
namespace Go.Proofs.YtkilngknklpadaaGreatDoor
open Go.RowKit
set_option linter.unusedVariables false
set_option linter.unusedSimpArgs false
set_option maxRecDepth 100000

theorem obj_kept2 {S : Nat → Prop} {w w' : World} {g : Nat} {o : Obj} (hk : Kept S w w') (h : w.heap[g]? = some o) (hn : ¬ S g) : w'.heap[g]? = some o := obj_kept hk h hn
theorem strB_eq (a b : List UInt8) : ((⟨a.toArray⟩ : ByteArray) == ⟨b.toArray⟩) = decide (a = b) := by
  have h := Go.MapKept.bytes_beq (⟨a.toArray⟩ : ByteArray) ⟨b.toArray⟩
  by_cases e : a = b
  · rw [decide_eq_true e, h, e]
  · rw [decide_eq_false e]
    cases hb : ((⟨a.toArray⟩ : ByteArray) == ⟨b.toArray⟩) with
    | false => rfl
    | true =>
      rw [h] at hb
      injection hb with hb
      exact absurd (List.toArray_inj hb) e
theorem check9 (w : World) (b : Bool) (n : Nat) (x : ByteArray) : (Instr.checkKey b (n + 1) 9 (.string x)).run Tryz.prog w = .ok () w := by
  unfold Instr.checkKey
  simp [run_underlying Tryz.underlying9, Sem.run_pure]
theorem bits9 (x : ByteArray) : Instr.sameBits 10000 (.string x) (.string x) = true := by
  have h := Go.MapKept.bytes_beq x x
  unfold Instr.sameBits
  first | exact h.2 rfl | simp [h]
def cN : Cod (List UInt8) Int := ⟨fun l => .string ⟨l.toArray⟩, .int .i64⟩
theorem fitsN : cN.Fits Tryz.prog 57 (.int .i64 0) :=
  ⟨⟨9, 3, _, Tryz.underlying57, Tryz.underlying9, fun a b => by show some (_ == _) = _; rw [strB_eq], fun a b n w => check9 w b n _, fun w => by kernel_rfl⟩, fun a => bits9 _⟩
theorem kept_over (w : World) (r : Nat) (o : Obj) : Kept (fun k => k = r) w (World.over w r o) :=
  ⟨rfl, rfl, rfl, by simp [World.over], fun k _ hn => by
    show (w.heap.setIfInBounds r o)[k]? = _
    rw [Array.getElem?_setIfInBounds, if_neg (fun h => hn h.symm)]⟩
set_option maxHeartbeats 4000000 in
/-- A word that stood for nothing is given a number. -/
theorem name_new (r clk : Nat) (s : ByteArray) (n : Int) (w : World) (h : w.heap[r]? = some (.map #[] clk)) :
    Calls Tryz.prog 60 #[.map (some r), .string s, .int .i64 n] w fun e w' => e = .returned (.bool true) ∧ Kept (fun q => q = r) w w' := by
  have hs : s = ⟨s.data.toList.toArray⟩ := by cases s; simp
  have hL := run_look fitsN w r clk [] h s.data.toList true
  obtain ⟨clk', hU⟩ := run_lay fitsN w r clk [] h s.data.toList n
  have hk := kept_over w r (.map ((lays [] s.data.toList n clk).map cN.ent).toArray clk')
  have HK := hid_of hk
  rw [show cN.enc s.data.toList = .string s by show Value.string _ = _; rw [← hs]] at hL hU
  rw [show cN.val n = .int .i64 n from rfl] at hU
  simp only [lookV, look, Option.isSome_none, if_true] at hL
  generalize World.over w r (.map ((lays [] s.data.toList n clk).map cN.ent).toArray clk') = w' at *
  clear hs h hk
  go_enter Tryz.func60, Tryz.ntmps60
  go_wp2
  go_ret
  exact ⟨rfl, HK.out⟩
theorem aeInfo54 : (Tryz.prog.info? 54).map (fun i => (i.zero, i.size, i.bytes)) = some (some (.agg #[.int .i64 0, .int .i64 0, .int .i64 0, .slice none 0 0]), 4, 48) := by kernel_rfl
theorem push_func {w0 W : World} {v : Value} {k : Nat} {xs : List Value} (h : W.ownsRow w0.heap.size 54 4 v k xs) (x0 x1 x2 x3 : Value) (h0 : x0.oneCell' = true) (h1 : x1.oneCell' = true) (h2 : x2.oneCell' = true) (h3 : x3.oneCell' = true) (hk : Kept (fun _ => False) w0 W) (hl : k ≤ 90000) :
    ∃ v' w', (Builtin.append_ #[35, 35] 35 #[v, .slice (some ⟨W.heap.size, 0, none⟩) 1 1]).run Tryz.prog (W.alloc (.cells #[x0, x1, x2, x3] 54)) = .ok v' w' ∧ w'.ownsRow w0.heap.size 54 4 v' (k + 1) (xs ++ [x0, x1, x2, x3]) ∧ Kept (fun _ => False) w0 w' ∧ Kept (fun q => v.ownBlock = some q) W w' ∧ NewB W v v' := by
  obtain ⟨i0, hi, hz0, hz1, hz2⟩ := info_parts aeInfo54
  obtain ⟨v', w', hr, h2', h3', h4, _⟩ := append_old (P := Tryz.prog) (W.alloc (.cells #[x0, x1, x2, x3] 54)) w0.heap.size 35 35 54 i0 _ 4 48 Tryz.underlying35 hi hz0 hz1 hz2 rfl (by decide) v k xs (h.alloc _) ⟨W.heap.size, 0, none⟩ 1 1 [x0, x1, x2, x3] (by simp) (fun j u hj => by
    have hjl := (List.getElem?_eq_some_iff.1 hj).1
    rw [Addr.add_lit, Nat.zero_add, cell_block _ _ _ _ _ _ (heap_alloc_new W _)]
    simpa using hj) (fun u hu => by
      simp at hu
      rcases hu with rfl | rfl | rfl | rfl <;> assumption) (by unfold maxLen; omega) (by omega) (by have := hk.size; simp; omega)
  have hk1 : Kept (fun k => v.ownBlock = some k) W w' := ((Kept.refl _ W).alloc _).grown h3' (fun k hk => .inr hk)
  exact ⟨v', w', hr, h2', hk.step hk1 (fun i hi e => by have := (h.lt i e).1; omega), hk1, by simpa [NewB] using h4⟩
theorem aeInfo57 : (Tryz.prog.info? 57).map (fun i => (i.zero, i.size, i.bytes)) = some (some (.map none), 1, 8) := by kernel_rfl
theorem push_map {w0 W : World} {v : Value} {k : Nat} {xs : List Value} (h : W.ownsRow w0.heap.size 57 1 v k xs) (x0 : Value) (h0 : x0.oneCell' = true) (hk : Kept (fun _ => False) w0 W) (hl : k ≤ 90000) :
    ∃ v' w', (Builtin.append_ #[58, 58] 58 #[v, .slice (some ⟨W.heap.size, 0, none⟩) 1 1]).run Tryz.prog (W.alloc (.cells #[x0] 57)) = .ok v' w' ∧ w'.ownsRow w0.heap.size 57 1 v' (k + 1) (xs ++ [x0]) ∧ Kept (fun _ => False) w0 w' ∧ Kept (fun q => v.ownBlock = some q) W w' ∧ NewB W v v' := by
  obtain ⟨i0, hi, hz0, hz1, hz2⟩ := info_parts aeInfo57
  obtain ⟨v', w', hr, h2', h3', h4, _⟩ := append_old (P := Tryz.prog) (W.alloc (.cells #[x0] 57)) w0.heap.size 58 58 57 i0 _ 1 8 Tryz.underlying58 hi hz0 hz1 hz2 rfl (by decide) v k xs (h.alloc _) ⟨W.heap.size, 0, none⟩ 1 1 [x0] (by simp) (fun j u hj => by
    have hjl := (List.getElem?_eq_some_iff.1 hj).1
    rw [Addr.add_lit, Nat.zero_add, cell_block _ _ _ _ _ _ (heap_alloc_new W _)]
    simpa using hj) (fun u hu => by
      simp at hu
      subst hu; exact h0) (by unfold maxLen; omega) (by omega) (by have := hk.size; simp; omega)
  have hk1 : Kept (fun k => v.ownBlock = some k) W w' := ((Kept.refl _ W).alloc _).grown h3' (fun k hk => .inr hk)
  exact ⟨v', w', hr, h2', hk.step hk1 (fun i hi e => by have := (h.lt i e).1; omega), hk1, by simpa [NewB] using h4⟩
theorem aeInfo51 : (Tryz.prog.info? 51).map (fun i => (i.zero, i.size, i.bytes)) = some (some (.agg #[.int .i64 0, .int .i64 0]), 2, 16) := by kernel_rfl
theorem push_ins {w0 W : World} {v : Value} {k : Nat} {xs : List Value} (h : W.ownsRow w0.heap.size 51 2 v k xs) (x0 x1 : Value) (h0 : x0.oneCell' = true) (h1 : x1.oneCell' = true) (hk : Kept (fun _ => False) w0 W) (hl : k ≤ 90000) :
    ∃ v' w', (Builtin.append_ #[52, 52] 52 #[v, .slice (some ⟨W.heap.size, 0, none⟩) 1 1]).run Tryz.prog (W.alloc (.cells #[x0, x1] 51)) = .ok v' w' ∧ w'.ownsRow w0.heap.size 51 2 v' (k + 1) (xs ++ [x0, x1]) ∧ Kept (fun _ => False) w0 w' ∧ Kept (fun q => v.ownBlock = some q) W w' ∧ NewB W v v' := by
  obtain ⟨i0, hi, hz0, hz1, hz2⟩ := info_parts aeInfo51
  obtain ⟨v', w', hr, h2', h3', h4, _⟩ := append_old (P := Tryz.prog) (W.alloc (.cells #[x0, x1] 51)) w0.heap.size 52 52 51 i0 _ 2 16 Tryz.underlying52 hi hz0 hz1 hz2 rfl (by decide) v k xs (h.alloc _) ⟨W.heap.size, 0, none⟩ 1 1 [x0, x1] (by simp) (fun j u hj => by
    have hjl := (List.getElem?_eq_some_iff.1 hj).1
    rw [Addr.add_lit, Nat.zero_add, cell_block _ _ _ _ _ _ (heap_alloc_new W _)]
    simpa using hj) (fun u hu => by
      simp at hu
      rcases hu with rfl | rfl <;> assumption) (by unfold maxLen; omega) (by omega) (by have := hk.size; simp; omega)
  have hk1 : Kept (fun k => v.ownBlock = some k) W w' := ((Kept.refl _ W).alloc _).grown h3' (fun k hk => .inr hk)
  exact ⟨v', w', hr, h2', hk.step hk1 (fun i hi e => by have := (h.lt i e).1; omega), hk1, by simpa [NewB] using h4⟩
/-- A reader of which nothing is read yet. -/
structure RdA (w : World) (r gm : Nat) : Prop where
  box : w.heap[r]? = some (.cells #[.int .i64 0, .slice none 0 0, .slice none 0 0, .bool false, .map (some gm), .slice none 0 0, .slice none 0 0] 61 (0, 0))
  mp : ∃ clk, w.heap[gm]? = some (.map #[] clk)
theorem RdA.kept {S : Nat → Prop} {w w' : World} {r gm : Nat} (h : RdA w r gm) (hk : Kept S w w') (h1 : ¬ S r) (h2 : ¬ S gm) : RdA w' r gm := by
  obtain ⟨clk, hm⟩ := h.mp
  exact ⟨box_kept hk h.box h1, clk, box_kept hk hm h2⟩
theorem look7 {w : World} {g : Nat} {t : TypeId} {a0 a1 a2 a3 a4 a5 a6 : Value} (h : w.heap[g]? = some (.cells #[a0, a1, a2, a3, a4, a5, a6] t (0, 0))) : w.cell? ⟨g, 0, none⟩ = some a0 ∧ w.cell? ⟨g, 1, none⟩ = some a1 ∧ w.cell? ⟨g, 2, none⟩ = some a2 ∧ w.cell? ⟨g, 3, none⟩ = some a3 ∧ w.cell? ⟨g, 4, none⟩ = some a4 ∧ w.cell? ⟨g, 5, none⟩ = some a5 ∧ w.cell? ⟨g, 6, none⟩ = some a6 ∧ w.frozen? ⟨g, 2, none⟩ = false ∧ w.frozen? ⟨g, 5, none⟩ = false :=
  ⟨cell_block _ _ 0 _ _ _ h, cell_block _ _ 1 _ _ _ h, cell_block _ _ 2 _ _ _ h, cell_block _ _ 3 _ _ _ h, cell_block _ _ 4 _ _ _ h, cell_block _ _ 5 _ _ _ h, cell_block _ _ 6 _ _ _ h, frozen_block _ _ 2 _ _ h, frozen_block _ _ 5 _ _ h⟩
/-- All else that lies there stays. -/
def Oth (w w' : World) : Prop := ∀ (q : Nat) (cs : Array Value) (t : TypeId), w.heap[q]? = some (.cells cs t (0, 0)) → t ≠ 61 → t ≠ 54 → w'.heap[q]? = some (.cells cs t (0, 0))
theorem Oth.trans {a b c : World} (h : Oth a b) (k : Oth b c) : Oth a c := fun q cs t hq h1 h2 => k q cs t (h q cs t hq h1 h2) h1 h2
theorem Kept.oth {w w' : World} (h : Kept (fun _ => False) w w') : Oth w w' := fun q cs t hq _ _ => box_kept h hq (fun f => f)
theorem Kept.othS {S : Nat → Prop} {w w' : World} (h : Kept S w w') (hS : ∀ q, S q → ∀ (cs : Array Value) (t : TypeId), w.heap[q]? = some (.cells cs t (0, 0)) → t = 61 ∨ t = 54) : Oth w w' := fun q cs t hq h1 h2 => box_kept h hq (fun e => by rcases hS q e cs t hq with h | h; exact h1 h; exact h2 h)
/-- A reader with one function in it, its code cv. -/
structure RdB (w0 w : World) (r : Nat) (a b d : Int) (cv : Value) : Prop where
  ex : ∃ fv lv mv, w.heap[r]? = some (.cells #[.int .i64 0, .slice none 0 0, fv, .bool false, mv, lv, .slice none 0 0] 61 (0, 0)) ∧ w.ownsRow w0.heap.size 54 4 fv 1 [.int .i64 a, .int .i64 b, .int .i64 d, cv]
  kept : Kept (fun _ => False) w0 w
  lo : w0.heap.size ≤ r
set_option maxHeartbeats 16000000 in
theorem function_new (r gm g o c : Nat) (tx t1 t2 t3 : ByteArray) (n0 a b d : Int) (w0 w : World) (hR : RdA w r gm) (hP : PsAt w g o [⟨0, tx, n0⟩, ⟨1, t1, a⟩, ⟨1, t2, b⟩, ⟨1, t3, d⟩]) (hk0 : Kept (fun _ => False) w0 w) (hr : w0.heap.size ≤ r) (hm : w0.heap.size ≤ gm) (hgr : g ≠ r) (hgm : g ≠ gm) :
    Calls Tryz.prog 36 #[.pointer (some ⟨r, 0, none⟩), .slice (some ⟨g, o, none⟩) 4 c] w fun e w' => e = .returned (.int .i64 0) ∧ RdB w0 w' r a b d (.slice none 0 0) ∧ Oth w w' := by
  have hka : Kept (fun _ => False) w (w.alloc (.cells #[.int .i64 0, .int .i64 1, .int .i64 1, .int .i64 1] 3)) := (Kept.refl _ _).alloc _
  have hba := heap_alloc_new w (.cells #[.int .i64 0, .int .i64 1, .int .i64 1, .int .i64 1] 3)
  have HF := hid_of (fits_any g o 4 c w.heap.size 4 4 _ [0, 1, 1, 1] (w.alloc (.cells #[.int .i64 0, .int .i64 1, .int .i64 1, .int .i64 1] 3)) (hP.kept hka (fun f => f)) (fun i x hx => by
    rw [cell_block _ _ i _ _ _ hba]
    rcases i with _ | _ | _ | _ | i <;> simp at hx ⊢ <;> exact hx) rfl rfl (by omega) (by omega))
  rw [show decide (([⟨0, tx, n0⟩, ⟨1, t1, a⟩, ⟨1, t2, b⟩, ⟨1, t3, d⟩] : List Pc).map Pc.k = [0, 1, 1, 1]) = true from rfl] at HF
  have HKA := hid_of (hk0.trans hka)
  have HOA := hid_of hka
  have HRA := hid_of (hR.kept hka (fun f => f) (fun f => f))
  have HPA := hid_of (hP.kept hka (fun f => f))
  have HLO : Hid (w0.heap.size ≤ r ∧ w0.heap.size ≤ gm ∧ g ≠ r ∧ g ≠ gm) := ⟨hr, hm, hgr, hgm⟩
  clear hka hba hR hP hk0 hr hm hgr hgm
  go_enter Tryz.func36, Tryz.ntmps36
  go_wp2_with fail
  refine HF.out.mono ?_
  rintro e w2 ⟨rfl, hk2⟩
  have HK2 := hid_of (HKA.out.trans hk2)
  have HO2 := hid_of (HOA.out.trans hk2)
  have HR2 := hid_of (HRA.out.kept hk2 (fun f => f) (fun f => f))
  have HP2 := hid_of (HPA.out.kept hk2 (fun f => f))
  have HFA := hid_of (far_any g o 4 c _ w2 HP2.out rfl (by omega))
  clear hk2 HF HKA HRA HPA
  go_wp2_with fail
  refine HFA.out.mono ?_
  rintro e w3 ⟨rfl, hk3⟩
  have HK3 := hid_of (HK2.out.trans hk3)
  have HO3 := hid_of (HO2.out.trans hk3)
  have HR3 := hid_of (HR2.out.kept hk3 (fun f => f) (fun f => f))
  have HP3 := hid_of (HP2.out.kept hk3 (fun f => f))
  clear hk3 HFA HK2 HR2 HP2
  go_upto_region 5 with fail
  have hKwd : Kept (fun _ => False) w3 w3.drew := (Kept.refl _ _).drew
  have HNM : Hid (r ≠ gm) := fun e => by
    obtain ⟨clk, h1⟩ := HR3.out.mp
    rw [← e, HR3.out.box] at h1
    cases h1
  have HSM : Hid (∀ w', Kept (fun q => q = gm) w3 w' → w'.cell? ⟨r, 4, none⟩ = some (.map (some gm)) ∧ w'.cell? ⟨g, o + 1, none⟩ = some (.string tx) ∧ w'.cell? ⟨r, 2, none⟩ = some (.slice none 0 0)) := fun w' hw =>
    ⟨hw.cell (cell_block _ _ 4 _ _ _ HR3.out.box) HNM.out, hw.cell (HP3.out 0 _ rfl 1 _ rfl) HLO.out.2.2.2, hw.cell (cell_block _ _ 2 _ _ _ HR3.out.box) HNM.out⟩
  refine wp_region_held_drew (S := fun w' => Kept (fun q => q = gm) w3 w') (by kernel_rfl) ((Kept.refl _ _).drew) (fun hHeld => ?_)
  generalize w3.drew = wd at *
  have HN : Hid (Calls Tryz.prog 60 #[.map (some gm), .string tx, .int .i64 0] wd fun e w' => e = .returned (.bool true) ∧ Kept (fun q => q = gm) wd w') := by
    obtain ⟨clk, h1⟩ := HR3.out.mp
    exact name_new gm clk tx 0 wd (box_kept hKwd h1 (fun f => f))
  iterate 14
    refine tkn (v := ?_) 0 rfl ?_ ?_; rotate_left 1
    · intro w hSw; obtain ⟨s0, s1, s2⟩ := HSM.out w hSw; go_simp; try with_reducible rfl
    try simp only [Act.put, tdy]
  refine wpAnyH_ready (rs := [14]) (by kernel_rfl) (by simp) ?_
  refine AllReadyH.cons rfl (fun K hK => ?_) AllReadyH.nil
  go_simp
  refine HN.out.mono ?_
  rintro e w4 ⟨rfl, hk4⟩
  refine hK.out _ _ ((hKwd.mono (T := fun q => q = gm) (fun _ _ f => f.elim)).trans hk4) (fun hHeld => ?_)
  clear hK K
  try simp only [Act.put, tdy]
  iterate 1
    refine tkn (v := ?_) 15 rfl ?_ ?_; rotate_left 1
    · intro w hSw; go_simp; try with_reducible rfl
    try simp only [Act.put, tdy]
  refine wpAnyH_ready (rs := [16]) (by kernel_rfl) (by simp) ?_
  refine AllReadyH.cons rfl (fun K hK => ?_) AllReadyH.nil
  go_simp
  refine hK.out _ _ hHeld (fun hHeld => ?_)
  clear hK K
  try simp only [Act.put, tdy]
  refine wpAnyH_done (by kernel_rfl) ?_ _
  have HK4 : Hid (Kept (fun _ => False) w0 w4) := (HK3.out.trans hKwd).step hk4 (fun i hi e => by have := HLO.out.2.1; omega)
  have HO4 := hid_of ((HO3.out.trans hKwd).oth.trans (hk4.othS (fun q e cs t hq => by
    obtain ⟨clk, h1⟩ := HR3.out.mp
    have h2 := box_kept hKwd h1 (fun f => f)
    rw [e, h2] at hq
    cases hq)))
  have HB4 := hid_of (box_kept hk4 (box_kept hKwd HR3.out.box (fun f => f)) HNM.out)
  have HP4 := hid_of ((HP3.out.kept hKwd (fun f => f)).kept hk4 HLO.out.2.2.2)
  have HGR := hid_of HLO.out.2.2.1
  have HRL := hid_of HLO.out.1
  clear hHeld hKwd hk4 HN HSM HNM HR3 HP3 HK3 HLO
  go_upto_region 7 with fail
  have hKwd : Kept (fun _ => False) w4 w4.drew := (Kept.refl _ _).drew
  have HSM : Hid (∀ w', Kept (fun q => q = r) w4 w' → w'.cell? ⟨g, o + 6, none⟩ = some (.int .i64 a) ∧ w'.cell? ⟨g, o + 10, none⟩ = some (.int .i64 b) ∧ w'.cell? ⟨g, o + 14, none⟩ = some (.int .i64 d)) := fun w' hw =>
    ⟨hw.cell (HP4.out 1 _ rfl 2 _ rfl) HGR.out, hw.cell (HP4.out 2 _ rfl 2 _ rfl) HGR.out, hw.cell (HP4.out 3 _ rfl 2 _ rfl) HGR.out⟩
  refine wp_region_held_drew (S := fun w' => Kept (fun q => q = r) w4 w') (by kernel_rfl) ((Kept.refl _ _).drew) (fun hHeld => ?_)
  generalize w4.drew = wd at *
  obtain ⟨v', w5, hr5, ho, hk0, hk1, hn⟩ := push_func (World.ownsRow_nil wd w0.heap.size 54 4) (.int .i64 a) (.int .i64 b) (.int .i64 d) (.slice none 0 0) rfl rfl rfl rfl (HK4.out.trans hKwd) (by omega)
  have hk1' : Kept (fun _ => False) wd w5 := hk1.mono (fun q _ e => by cases e)
  have hbd := box_kept hKwd HB4.out (fun f => f)
  have l0 := cell_block _ _ 2 _ _ _ hbd
  have hb5 := box_kept hk1' hbd (fun f => f)
  have HKS5 := hid_of ((hKwd.trans hk1').mono (T := fun q => q = r) (fun _ _ f => f.elim))
  have hs := kept_set w5 r 2 v'
  have HKS6 := hid_of (HKS5.out.setCell (p := ⟨r, 2, none⟩) (.inr rfl) v')
  have HG1 := hid_of (And.intro (cell_block _ _ 2 _ _ _ hb5) (frozen_block _ _ 2 _ _ hb5))
  have HB6 := hid_of (set_block _ _ 2 _ _ _ hb5 v')
  have HP6 := hid_of (hs.ownsRow ho (fun q hq e => own_box2 ho hb5 (by decide) (by rw [hq, e])))
  have HK6 := hid_of (hk0.setCell (p := ⟨r, 2, none⟩) (.inl HRL.out) v')
  have HO6 := hid_of (HO4.out.trans ((hKwd.trans hk1').oth.trans (hs.othS (fun q e cs t hq => by rw [e, hb5] at hq; cases hq; exact .inl rfl))))
  obtain ⟨a2, c2, hv2⟩ := ownsRow_shape ho
  obtain ⟨n2, hn2⟩ : ∃ n, n = 0 + 1 := ⟨_, rfl⟩
  rw [← hn2] at hv2
  subst hv2
  have HR := hid_of hr5
  clear hr5 ho hk0 hk1 hk1' hn hbd hb5 hs hn2
  iterate 5
    refine tkn (v := ?_) 0 rfl ?_ ?_; rotate_left 1
    · intro w hSw; go_simp; try with_reducible rfl
    try simp only [Act.put, tdy]
  iterate 13
    refine tkn (v := ?_) 6 rfl ?_ ?_; rotate_left 1
    · intro w hSw; obtain ⟨s0, s1, s2⟩ := HSM.out w hSw; go_simp; try with_reducible rfl
    try simp only [Act.put, tdy]
  refine (fun (hfin : ?G) => ?main) ?fin
  case main =>
    refine wpAnyH_ready (rs := [5, 19]) (by kernel_rfl) (by simp) ?_
    refine AllReadyH.cons rfl (fun K hK => ?_) (AllReadyH.cons rfl (fun K hK => ?_) AllReadyH.nil)
    · have l1 := l0
      go_simp
      refine hK.out _ _ hHeld (fun hHeld => ?_)
      clear hK K
      try simp only [Act.put, tdy]
      clear l1
      refine wpAnyH_ready (rs := [19]) (by kernel_rfl) (by simp) ?_
      refine AllReadyH.cons rfl (fun K hK => ?_) AllReadyH.nil
      go_simp
      refine hK.out _ _ (hHeld.alloc _) (fun hHeld => ?_)
      clear hK K
      try simp only [Act.put, tdy]
      refine wpAnyH_ready (rs := [20]) (by kernel_rfl) (by simp) ?_
      refine AllReadyH.cons rfl (fun K hK => ?_) AllReadyH.nil
      refine step_app rfl (.tmp 35) (.tmp 49) 35 35 rfl _ _ rfl rfl (.slice a2 n2 c2) w5 HR.out ?_
      refine hK.out _ _ HKS5.out (fun hHeld => ?_)
      clear hK K
      try simp only [Act.put, tdy]
      iterate 3
        refine tkn (v := ?_) 21 rfl ?_ ?_; rotate_left 1
        · intro w hSw; go_simp; try with_reducible rfl
        try simp only [Act.put, tdy]
      obtain ⟨g1, gf1⟩ := HG1.out
      refine wpAnyH_ready (rs := [24]) (by kernel_rfl) (by simp) ?_
      refine AllReadyH.cons rfl (fun K hK => ?_) AllReadyH.nil
      go_simp
      refine hK.out _ _ HKS6.out (fun hHeld => ?_)
      clear hK K
      try simp only [Act.put, tdy]
      refine wpAnyH_done (by kernel_rfl) ?_ _
      exact hfin
    · go_simp
      refine hK.out _ _ (hHeld.alloc _) (fun hHeld => ?_)
      clear hK K
      try simp only [Act.put, tdy]
      have l1 : (wd.alloc (.cells #[.int .i64 a, .int .i64 b, .int .i64 d, .slice none 0 0] 54)).cell? ⟨r, 2, none⟩ = some (.slice none 0 0) := ((Kept.refl (fun _ => False) wd).alloc _).cell l0 (fun f => f)
      refine wpAnyH_ready (rs := [5]) (by kernel_rfl) (by simp) ?_
      refine AllReadyH.cons rfl (fun K hK => ?_) AllReadyH.nil
      go_simp
      refine hK.out _ _ hHeld (fun hHeld => ?_)
      clear hK K
      try simp only [Act.put, tdy]
      clear l1
      refine wpAnyH_ready (rs := [20]) (by kernel_rfl) (by simp) ?_
      refine AllReadyH.cons rfl (fun K hK => ?_) AllReadyH.nil
      refine step_app rfl (.tmp 35) (.tmp 49) 35 35 rfl _ _ rfl rfl (.slice a2 n2 c2) w5 HR.out ?_
      refine hK.out _ _ HKS5.out (fun hHeld => ?_)
      clear hK K
      try simp only [Act.put, tdy]
      iterate 3
        refine tkn (v := ?_) 21 rfl ?_ ?_; rotate_left 1
        · intro w hSw; go_simp; try with_reducible rfl
        try simp only [Act.put, tdy]
      obtain ⟨g1, gf1⟩ := HG1.out
      refine wpAnyH_ready (rs := [24]) (by kernel_rfl) (by simp) ?_
      refine AllReadyH.cons rfl (fun K hK => ?_) AllReadyH.nil
      go_simp
      refine hK.out _ _ HKS6.out (fun hHeld => ?_)
      clear hK K
      try simp only [Act.put, tdy]
      refine wpAnyH_done (by kernel_rfl) ?_ _
      exact hfin
  clear l0 HSM HKS5 HKS6 HG1 HR hKwd hHeld HB4 HK4 HP4
  generalize w5.setCell ⟨r, 2, none⟩ (.slice a2 n2 c2) = w6 at *
  have hmm := @run_makeMap Tryz.prog
  have hka : Kept (fun _ => False) w6 (w6.alloc (.map #[] 0)) := (Kept.refl _ _).alloc _
  obtain ⟨v', w7, hr7, ho7, hk07, hk17, hn7⟩ := push_map (World.ownsRow_nil (w6.alloc (.map #[] 0)) w0.heap.size 57 1) (.map (some w6.heap.size)) rfl (HK6.out.trans hka) (by omega)
  have hk17' : Kept (fun _ => False) (w6.alloc (.map #[] 0)) w7 := hk17.mono (fun q _ e => by cases e)
  have hb7 := box_kept (hka.trans hk17') HB6.out (fun f => f)
  have hp7 := (hka.trans hk17').ownsRow HP6.out (fun _ _ f => f)
  have hs := kept_set w7 r 5 v'
  have H : Hid (RdB w0 (w7.setCell ⟨r, 5, none⟩ v') r a b d (.slice none 0 0)) :=
    ⟨⟨_, _, _, set_block _ _ 5 _ _ _ hb7 v', hs.ownsRow hp7 (fun q hq e => own_box2 hp7 hb7 (by decide) (by rw [hq, e]))⟩, hk07.setCell (.inl HRL.out) _, HRL.out⟩
  have HO8 := hid_of (HO6.out.trans ((hka.trans hk17').oth.trans (hs.othS (fun q e cs t hq => by rw [e, hb7] at hq; cases hq; exact .inl rfl))))
  have q0 := cell_block _ _ 5 _ _ _ HB6.out
  have q1 := cell_block _ _ 5 _ _ _ hb7
  have q2 := frozen_block _ _ 5 _ _ hb7
  obtain ⟨a3, c3, hv3⟩ := ownsRow_shape ho7
  obtain ⟨n3, hn3⟩ : ∃ n, n = 0 + 1 := ⟨_, rfl⟩
  rw [← hn3] at hv3
  subst hv3
  rw [show (w6.alloc (.map #[] 0)).heap.size = w6.heap.size + 1 by simp] at hr7
  have HR7 := hid_of hr7
  clear hka hr7 ho7 hk07 hk17 hk17' hn7 hb7 hp7 hs hn3 HB6 HP6 HK6
  go_wp2_with (at_builtin; refine wp_app2 rfl (.tmp 58) (.tmp 60) 58 58 rfl _ _ rfl rfl _ w7 HR7.out ?_)
  go_ret
  exact ⟨rfl, H.out, HO8.out⟩
end Go.Proofs.YtkilngknklpadaaGreatDoor
