/-
  A spot taken into a directory with nothing in it.
-/
import Derived.Test.YtmkfjdfpcjkmnaaVk
namespace Go.Proofs.Ytmkfjdfpcjkmnaa
open Go.RowKit
set_option linter.unusedVariables false
set_option linter.unusedSimpArgs false
set_option maxRecDepth 100000

theorem two_ways {A : Prop} {α : Type} (R : α → Prop) {G : α → Prop} (main : (∀ x, R x → G x) → A) (fin : ∀ x, R x → G x) : A := main fin
theorem info97 : (Try.prog.info? 97).map (fun i => (i.zero, i.size, i.bytes)) = some (some (.agg #[.string ⟨#[]⟩, .string ⟨#[]⟩, .bool false]), 3, 40) := by kernel_rfl
set_option maxHeartbeats 4000000 in
theorem search0 (ao : Option Addr) (c : Nat) (a b : ByteArray) (d : Bool) (fv : Value) (w : World) :
    Calls Try.prog 91 #[.slice ao 0 c, .agg #[.string a, .string b, .bool d], fv] w fun e w' => e = .returned (.tuple #[.int .i64 0, .bool false]) ∧ Kept (fun _ => False) w w' := by
  have HK1 : Hid (Kept (fun _ => False) w (w.alloc (.cells #[.string a, .string b, .bool d] 97))) := (Kept.refl _ w).alloc _
  go_enter Try.func91, Try.ntmps91
  go_wp2
  generalize w.alloc (.cells #[.string a, .string b, .bool d] 97) = w1 at *
  go_loopw [9, 10] (fun i j wr => i = .int .i64 0 ∧ j = .int .i64 0 ∧ wr = w1) (fun _ _ _ => 0)
  case atStart => exact ⟨rfl, rfl, rfl⟩
  case round =>
    obtain ⟨rfl, rfl, rfl⟩ := hrel
    have HK2 := hid_of HK1.out.drew
    go_upto_region 8 with fail
    refine wp_region_held_drew (S := fun w' => True) (by kernel_rfl) trivial (fun hHeld => ?_)
    iterate 5
      refine tkn (v := ?_) 0 rfl ?_ ?_; rotate_left 1
      · intro w hSw; go_simp; try with_reducible rfl
      try simp only [Act.put, tdy]
    iterate 6
      refine tkm 5 rfl ?_
      try simp only [Act.put, tdy]
    refine wpAnyH_ready (rs := [11]) (by kernel_rfl) (by simp) ?_
    refine AllReadyH.cons rfl (fun K hK => ?_) AllReadyH.nil
    go_simp
    refine hK.out _ _ (by assumption) (fun hHeld => ?_)
    clear hK K
    try simp only [Act.put, tdy]
    iterate 1
      refine tkm 12 rfl ?_
      try simp only [Act.put, tdy]
    iterate 3
      refine tkn (v := ?_) 13 rfl ?_ ?_; rotate_left 1
      · intro w hSw; go_simp; try with_reducible rfl
      try simp only [Act.put, tdy]
    refine wpAnyH_done (by kernel_rfl) ?_ _
    clear hHeld
    go_wp2
    exact bodyPost_ret (v := .tuple #[.int .i64 0, .bool false]) (by simp [results, Try.results91, go_sem]) rfl ⟨rfl, HK2.out⟩
theorem spots_len : ∀ l : List Sp, (spots l).length = l.length * 3
  | [] => rfl
  | x :: l => by
    show (x.cells ++ spots l).length = _
    rw [List.length_append, spots_len l, List.length_cons]
    show 3 + _ = _
    omega
theorem spots_app (l : List Sp) (x : Sp) : spots (l ++ [x]) = spots l ++ x.cells := by simp [spots, List.flatMap_append]
theorem slice101 (ao : Option Addr) (L cap : Nat) : ∃ ao' : Option Addr, ∀ W, (Instr.slice 101 (.slice ao L cap) (some (.int .i64 (L : Int))) none none).run Try.prog W = .ok (.slice ao' 0 (cap - L)) W := by
  refine ⟨if cap = L then ao else ao.map (·.add (L * 3)), fun W => ?_⟩
  simp [Instr.slice, Instr.sliceBounds, Instr.sliceBound, run_underlying Try.underlying101, asIntOf, sizeOf, typeInfo]
  obtain ⟨i, hi, hz, hs, hby⟩ := info_parts info97
  simp [hi, hs]
/-- slices.Insert at the end. -/
def InsR (w : World) (v : Value) (l : List Sp) (e : Ending) (w' : World) : Prop :=
  ∃ v', e = .returned v' ∧ w'.ownsRow 0 97 3 v' l.length (spots l) ∧ (v'.ownBlock = v.ownBlock ∨ v'.ownBlock = some w.heap.size) ∧ Kept (fun k => v.ownBlock = some k) w w'
set_option maxHeartbeats 4000000 in
theorem insert_end (w : World) (v : Value) (bl : List Sp) (sp : Sp) (ho : w.ownsRow 0 97 3 v bl.length (spots bl)) (ab ac : Nat) (hsrc : ∀ j u, sp.cells[j]? = some u → w.cell? ⟨ab, j, none⟩ = some u) (hl : bl.length ≤ 1048576) :
    Calls Try.prog 94 #[v, .int .i64 bl.length, .slice (some ⟨ab, 0, none⟩) 1 ac] w fun e w' => InsR w v (bl ++ [sp]) e w' := by
  obtain ⟨i, hi, hz, hs, hby⟩ := info_parts info97
  obtain ⟨v', w', hr, h2, h3, _, h4⟩ := run_append_own_at (P := Try.prog) w 0 101 101 97 i _ 3 40 Try.underlying101 hi hz hs hby rfl (by decide) v bl.length (spots bl) ho ⟨ab, 0, none⟩ 1 ac sp.cells rfl (fun j u hu => by rw [Addr.add_lit, Nat.zero_add]; exact hsrc j u hu) (fun u hu => by
    simp only [Sp.cells, List.mem_cons, List.not_mem_nil, or_false] at hu
    rcases hu with rfl | rfl | rfl <;> rfl) (by unfold maxLen; omega) (by omega) (Nat.zero_le _)
  obtain ⟨ao, c, hv⟩ := row_slice ho
  subst hv
  have HE : Hid (InsR w (.slice ao bl.length c) (bl ++ [sp]) (.returned v') w') := ⟨v', rfl, by rw [List.length_append, spots_app]; exact h2, h4, grown_kept h3 (fun k h => h)⟩
  obtain ⟨ao2, hsl⟩ := slice101 ao bl.length c
  have HR := hid_of hr
  clear hr h2 h3 h4 ho hsrc
  generalize bl.length = n at *
  go_enter Try.func94, Try.ntmps94
  go_wp2_with (at_builtin; refine wp_app rfl (.tmp 23) (.tmp 24) 101 101 ?_ _ _ rfl rfl _ _ HR.out ?_; rfl)
  exact bodyPost_ret (v := v') (by simp [results, Try.results94, go_sem]) rfl HE.out

/-- What take leaves of a directory's box. -/
def TakeR (w : World) (q : Nat) (a b : ByteArray) (d : Bool) (bv : Value) (l : List Sp) (e : Ending) (w' : World) : Prop :=
  e = .returned (.tuple #[]) ∧ ∃ bv', w'.heap[q]? = some (.cells #[.string a, .string b, .bool d, bv'] 103 (0, 0)) ∧ w'.ownsRow 0 97 3 bv' l.length (spots l) ∧ (bv'.ownBlock = bv.ownBlock ∨ ∃ g, bv'.ownBlock = some g ∧ w.heap.size ≤ g) ∧ Kept (fun k => k = q ∨ bv.ownBlock = some k) w w'
theorem not_boxD {w : World} {q : Nat} {cs : Array Value} {t : Nat} (ht : t ≠ 97) (hb : w.heap[q]? = some (.cells cs t (0, 0))) {v : Value} {n : Nat} {xs : List Value} (ho : w.ownsRow 0 97 3 v n xs) : v.ownBlock ≠ some q := fun e => by
  obtain ⟨_, ⟨rfl, _⟩ | ⟨g, cap, cur, rfl, _, hg, _⟩⟩ := ho
  · cases e
  · cases e
    rw [hb] at hg
    injection hg with hg
    injection hg with _ h2 _
    exact ht h2
set_option maxHeartbeats 4000000 in
theorem take0 (w : World) (q : Nat) (a b : ByteArray) (d : Bool) (bv : Value) (sp : Sp) (hb : w.heap[q]? = some (.cells #[.string a, .string b, .bool d, bv] 103 (0, 0))) (ho : w.ownsRow 0 97 3 bv 0 []) :
    Calls Try.prog 85 #[.pointer (some ⟨q, 0, none⟩), .agg #[.string ⟨sp.p.toArray⟩, .string ⟨sp.nm.toArray⟩, .bool sp.d]] w fun e w' => TakeR w q a b d bv [sp] e w' := by
  obtain ⟨ao, c, hv⟩ := row_slice ho
  subst hv
  obtain ⟨p1, hp1⟩ : ∃ q : ByteArray, q = ⟨sp.p.toArray⟩ := ⟨_, rfl⟩
  obtain ⟨p2, hp2⟩ : ∃ q : ByteArray, q = ⟨sp.nm.toArray⟩ := ⟨_, rfl⟩
  obtain ⟨p3, hp3⟩ : ∃ q : Bool, q = sp.d := ⟨_, rfl⟩
  have hcells : sp.cells = [.string p1, .string p2, .bool p3] := by rw [hp1, hp2, hp3]; rfl
  rw [← hp1, ← hp2, ← hp3]
  have hqd := not_boxD (by decide) hb ho
  have hk1 : Kept (fun _ => False) w (w.alloc (.cells #[.string p1, .string p2, .bool p3] 97)) := (Kept.refl _ w).alloc _
  have hb1 : (w.alloc (.cells #[.string p1, .string p2, .bool p3] 97)).heap[w.heap.size]? = some (.cells #[.string p1, .string p2, .bool p3] 97 (0, 0)) := alloc_new _ _ rfl
  have hql := heap_lt hb
  have HBX := hid_of hb
  have HO := hid_of ho
  have HQD := hid_of hqd
  have HCE := hid_of hcells
  clear hb ho hqd hp1 hp2 hp3 hcells
  go_enter Try.func85, Try.ntmps85
  go_upto_region 1 with fail
  generalize w.alloc (.cells #[.string p1, .string p2, .bool p3] 97) = w1 at *
  have HK1 := hid_of hk1
  have HB1 := hid_of hb1
  have HS3 : Hid (∀ w', Kept (fun _ => False) w1 w' → w'.cell? ⟨q, 3, none⟩ = some (.slice ao 0 c) ∧ w'.cell? ⟨w.heap.size, 0, none⟩ = some (.string p1) ∧ w'.cell? ⟨w.heap.size, 1, none⟩ = some (.string p2) ∧ w'.cell? ⟨w.heap.size, 2, none⟩ = some (.bool p3)) := fun w' hw =>
    ⟨(HK1.out.trans hw).cell ((cell_block _ _ 3 _ _ _ HBX.out).trans rfl) (fun f => f), hw.cell ((cell_block _ _ 0 _ _ _ HB1.out).trans rfl) (fun f => f), hw.cell ((cell_block _ _ 1 _ _ _ HB1.out).trans rfl) (fun f => f), hw.cell ((cell_block _ _ 2 _ _ _ HB1.out).trans rfl) (fun f => f)⟩
  have hkd1 : Kept (fun _ => False) w1 w1.drew := (Kept.refl _ w1).drew
  have HSE := hid_of (search0 ao c p1 p2 p3 (.func (.func 92) #[] #[]) w1.drew)
  clear hk1 hb1
  refine wp_region_held_drew (S := fun w' => Kept (fun _ => False) w1 w') (by kernel_rfl) hkd1 (fun hHeld => ?_)
  iterate 5
    refine tkn (v := ?_) 0 rfl ?_ ?_; rotate_left 1
    · intro w hSw; obtain ⟨s1, s2, s3, s4⟩ := HS3.out w hSw; go_simp; try with_reducible rfl
    try simp only [Act.put, tdy]
  refine wpAnyH_ready (rs := [5]) (by kernel_rfl) (by simp) ?_
  refine AllReadyH.cons rfl (fun K hK => ?_) AllReadyH.nil
  go_simp
  refine (HSE.out).mono ?_
  rintro e w2 ⟨rfl, hk2⟩
  have hk12 : Kept (fun _ => False) w1 w2 := hkd1.trans hk2
  have HK12 := hid_of hk12
  clear hk2 HSE
  refine hK.out _ _ hk12 (fun hHeld => ?_)
  clear hK K
  try simp only [Act.put, tdy]
  iterate 5
    refine tkn (v := ?_) 6 rfl ?_ ?_; rotate_left 1
    · intro w hSw; go_simp; try with_reducible rfl
    try simp only [Act.put, tdy]
  refine wpAnyH_done (by kernel_rfl) ?_ _
  clear hHeld hkd1 HS3 hk12
  have hK02 := HK1.out.trans HK12.out
  have hbq : w2.heap[q]? = some (.cells #[.string a, .string b, .bool d, .slice ao 0 c] 103 (0, 0)) := (hK02.block q hql (fun f => f)).trans HBX.out
  have hbr : w2.heap[w.heap.size]? = some (.cells #[.string p1, .string p2, .bool p3] 97 (0, 0)) := (HK12.out.block _ (heap_lt HB1.out) (fun f => f)).trans HB1.out
  have c23 : w2.cell? ⟨q, 3, none⟩ = some (.slice ao 0 c) := (cell_block _ _ 3 _ _ _ hbq).trans rfl
  have HSB : Hid (∀ w', Kept (fun k => k = q ∨ (Value.slice ao 0 c).ownBlock = some k) w2 w' → w'.cell? ⟨w.heap.size, 0, none⟩ = some (.string p1) ∧ w'.cell? ⟨w.heap.size, 1, none⟩ = some (.string p2) ∧ w'.cell? ⟨w.heap.size, 2, none⟩ = some (.bool p3)) := fun w' hw => by
    have hn : ¬ (w.heap.size = q ∨ (Value.slice ao 0 c).ownBlock = some w.heap.size) := fun e => by
      rcases e with e | e
      · omega
      · have := (HO.out.lt _ e).2
        omega
    exact ⟨hw.cell ((cell_block _ _ 0 _ _ _ hbr).trans rfl) hn, hw.cell ((cell_block _ _ 1 _ _ _ hbr).trans rfl) hn, hw.cell ((cell_block _ _ 2 _ _ _ hbr).trans rfl) hn⟩
  have hkd2 : Kept (fun k => k = q ∨ (Value.slice ao 0 c).ownBlock = some k) w2 w2.drew := (Kept.refl _ w2).drew
  have hkA : Kept (fun _ => False) w2 (w2.alloc (.cells #[.string p1, .string p2, .bool p3] 97)).drew := ((Kept.refl _ w2).alloc _).drew
  have hbA : (w2.alloc (.cells #[.string p1, .string p2, .bool p3] 97)).drew.heap[w2.heap.size]? = some (.cells #[.string p1, .string p2, .bool p3] 97 (0, 0)) := alloc_new _ _ rfl
  have hkA2 : Kept (fun k => k = q ∨ (Value.slice ao 0 c).ownBlock = some k) w2 (w2.alloc (.cells #[.string p1, .string p2, .bool p3] 97)).drew := hkA.mono (fun _ _ f => f.elim)
  obtain ⟨WA, hWA⟩ : ∃ W, W = (w2.alloc (.cells #[.string p1, .string p2, .bool p3] 97)).drew := ⟨_, rfl⟩
  rw [← hWA] at hkA hbA hkA2
  have hoA : WA.ownsRow 0 97 3 (.slice ao 0 c) ([] : List Sp).length (spots []) := hkA.ownsRow (hK02.ownsRow HO.out (fun _ _ f => f)) (fun _ _ f => f)
  have HIN : Hid (Calls Try.prog 94 #[.slice ao 0 c, .int .i64 0, .slice (some ⟨w2.heap.size, 0, none⟩) 1 1] WA fun e w' => InsR WA (.slice ao 0 c) [sp] e w') := insert_end WA (.slice ao 0 c) [] sp hoA w2.heap.size 1 (fun j u hu => by
    rw [HCE.out] at hu
    exact (cell_block _ _ j _ _ _ hbA).trans (by simpa using hu)) (by simp)
  have HWA := hid_of hWA
  have HKA := hid_of hkA
  have HKA2 := hid_of hkA2
  have HBQ := hid_of hbq
  have HK02 := hid_of hK02
  have hs02 := hK02.size
  have hsA := hkA.size
  clear hWA hkA hbA hkA2 hoA hbq hK02 hbr
  go_upto_region 2 with fail
  refine wp_region_held_drew (S := fun w' => Kept (fun k => k = q ∨ (Value.slice ao 0 c).ownBlock = some k) w2 w') (by kernel_rfl) hkd2 (fun hHeld => ?_)
  iterate 4
    refine tkn (v := ?_) 0 rfl ?_ ?_; rotate_left 1
    · intro w hSw; obtain ⟨s1, s2, s3⟩ := HSB.out w hSw; go_simp; try with_reducible rfl
    try simp only [Act.put, tdy]
  iterate 2
    refine tkn (v := ?_) 5 rfl ?_ ?_; rotate_left 1
    · intro w hSw; obtain ⟨s1, s2, s3⟩ := HSB.out w hSw; go_simp; try with_reducible rfl
    try simp only [Act.put, tdy]
  refine wpAnyH_ready (rs := [4, 7]) (by kernel_rfl) (by simp) ?_
  refine AllReadyH.cons rfl (fun K hK => ?_) (AllReadyH.cons rfl (fun K hK => ?_) AllReadyH.nil)
  · go_simp
    refine hK.out _ _ hkd2 (fun hHeld => ?_)
    clear hK K
    try simp only [Act.put, tdy]
    refine wpAnyH_ready (rs := [7]) (by kernel_rfl) (by simp) ?_
    refine AllReadyH.cons rfl (fun K hK => ?_) AllReadyH.nil
    go_simp
    rw [← HWA.out]
    refine hK.out _ _ HKA2.out (fun hHeld => ?_)
    clear hK K
    try simp only [Act.put, tdy]
    refine wpAnyH_ready (rs := [8]) (by kernel_rfl) (by simp) ?_
    refine AllReadyH.cons rfl (fun K hK => ?_) AllReadyH.nil
    go_simp
    refine (HIN.out).mono ?_
    rintro e w5 ⟨v5, rfl, ho5, hb5, hk5⟩
    obtain ⟨ao5, c5, hv5⟩ := row_slice ho5
    subst hv5
    have hkT : Kept (fun k => k = q ∨ (Value.slice ao 0 c).ownBlock = some k) w2 w5 := HKA2.out.trans (hk5.mono (fun k _ e => .inr e))
    have hbq5 : w5.heap[q]? = some (.cells #[.string a, .string b, .bool d, .slice ao 0 c] 103 (0, 0)) := (hk5.block q (by omega) HQD.out).trans ((HKA.out.block q (by omega) (fun f => f)).trans HBQ.out)
    have hkE : Kept (fun k => k = q ∨ (Value.slice ao 0 c).ownBlock = some k) w2 (w5.setCell ⟨q, 3, none⟩ (.slice ao5 1 c5)) := Kept.setCell (p := ⟨q, 3, none⟩) hkT (.inr (.inl rfl)) _
    have f53 : w5.frozen? ⟨q, 3, none⟩ = false := frozen_block _ _ 3 _ _ hbq5
    have c53 : w5.cell? ⟨q, 3, none⟩ = some (.slice ao 0 c) := (cell_block _ _ 3 _ _ _ hbq5).trans rfl
    have hq5 := not_boxD (by decide) hbq5 ho5
    have HEND : Hid (TakeR w q a b d (.slice ao 0 c) [sp] (.returned (.tuple #[])) (w5.setCell ⟨q, 3, none⟩ (.slice ao5 1 c5))) := by
      refine ⟨rfl, .slice ao5 1 c5, set_block w5 q 3 _ 103 (0, 0) hbq5 _, (kept_set w5 ⟨q, 3, none⟩ (.slice ao5 1 c5)).ownsRow ho5 (fun g hg e => hq5 (hg.trans (congrArg some e))), ?_, (HK02.out.mono (fun _ _ f => f.elim)).trans hkE⟩
      rcases hb5 with e | e
      · exact .inl e
      · exact .inr ⟨_, e, by omega⟩
    have HKE := hid_of hkE
    clear hk5 ho5 hb5 hbq5 hkE hq5
    refine hK.out _ _ hkT (fun hHeld => ?_)
    clear hK K
    try simp only [Act.put, tdy]
    iterate 2
      refine tkn (v := ?_) 9 rfl ?_ ?_; rotate_left 1
      · intro w hSw; go_simp; try with_reducible rfl
      try simp only [Act.put, tdy]
    refine wpAnyH_ready (rs := [11]) (by kernel_rfl) (by simp) ?_
    refine AllReadyH.cons rfl (fun K hK => ?_) AllReadyH.nil
    go_simp
    refine hK.out _ _ HKE.out (fun hHeld => ?_)
    clear hK K
    try simp only [Act.put, tdy]
    refine wpAnyH_done (by kernel_rfl) ?_ _
    clear hHeld
    go_wp2
    exact bodyPost_end (results_none rfl _ _ _) rfl HEND.out
  · go_simp
    rw [← HWA.out]
    refine hK.out _ _ HKA2.out (fun hHeld => ?_)
    clear hK K
    try simp only [Act.put, tdy]
    have cA : WA.cell? ⟨q, 3, none⟩ = some (.slice ao 0 c) := HKA.out.cell c23 (fun f => f)
    refine wpAnyH_ready (rs := [4]) (by kernel_rfl) (by simp) ?_
    refine AllReadyH.cons rfl (fun K hK => ?_) AllReadyH.nil
    go_simp
    refine hK.out _ _ HKA2.out (fun hHeld => ?_)
    clear hK K
    try simp only [Act.put, tdy]
    refine wpAnyH_ready (rs := [8]) (by kernel_rfl) (by simp) ?_
    refine AllReadyH.cons rfl (fun K hK => ?_) AllReadyH.nil
    go_simp
    refine (HIN.out).mono ?_
    rintro e w5 ⟨v5, rfl, ho5, hb5, hk5⟩
    obtain ⟨ao5, c5, hv5⟩ := row_slice ho5
    subst hv5
    have hkT : Kept (fun k => k = q ∨ (Value.slice ao 0 c).ownBlock = some k) w2 w5 := HKA2.out.trans (hk5.mono (fun k _ e => .inr e))
    have hbq5 : w5.heap[q]? = some (.cells #[.string a, .string b, .bool d, .slice ao 0 c] 103 (0, 0)) := (hk5.block q (by omega) HQD.out).trans ((HKA.out.block q (by omega) (fun f => f)).trans HBQ.out)
    have hkE : Kept (fun k => k = q ∨ (Value.slice ao 0 c).ownBlock = some k) w2 (w5.setCell ⟨q, 3, none⟩ (.slice ao5 1 c5)) := Kept.setCell (p := ⟨q, 3, none⟩) hkT (.inr (.inl rfl)) _
    have f53 : w5.frozen? ⟨q, 3, none⟩ = false := frozen_block _ _ 3 _ _ hbq5
    have c53 : w5.cell? ⟨q, 3, none⟩ = some (.slice ao 0 c) := (cell_block _ _ 3 _ _ _ hbq5).trans rfl
    have hq5 := not_boxD (by decide) hbq5 ho5
    have HEND : Hid (TakeR w q a b d (.slice ao 0 c) [sp] (.returned (.tuple #[])) (w5.setCell ⟨q, 3, none⟩ (.slice ao5 1 c5))) := by
      refine ⟨rfl, .slice ao5 1 c5, set_block w5 q 3 _ 103 (0, 0) hbq5 _, (kept_set w5 ⟨q, 3, none⟩ (.slice ao5 1 c5)).ownsRow ho5 (fun g hg e => hq5 (hg.trans (congrArg some e))), ?_, (HK02.out.mono (fun _ _ f => f.elim)).trans hkE⟩
      rcases hb5 with e | e
      · exact .inl e
      · exact .inr ⟨_, e, by omega⟩
    have HKE := hid_of hkE
    clear hk5 ho5 hb5 hbq5 hkE hq5
    refine hK.out _ _ hkT (fun hHeld => ?_)
    clear hK K
    try simp only [Act.put, tdy]
    iterate 2
      refine tkn (v := ?_) 9 rfl ?_ ?_; rotate_left 1
      · intro w hSw; go_simp; try with_reducible rfl
      try simp only [Act.put, tdy]
    refine wpAnyH_ready (rs := [11]) (by kernel_rfl) (by simp) ?_
    refine AllReadyH.cons rfl (fun K hK => ?_) AllReadyH.nil
    go_simp
    refine hK.out _ _ HKE.out (fun hHeld => ?_)
    clear hK K
    try simp only [Act.put, tdy]
    refine wpAnyH_done (by kernel_rfl) ?_ _
    clear hHeld
    go_wp2
    exact bodyPost_end (results_none rfl _ _ _) rfl HEND.out
end Go.Proofs.Ytmkfjdfpcjkmnaa
