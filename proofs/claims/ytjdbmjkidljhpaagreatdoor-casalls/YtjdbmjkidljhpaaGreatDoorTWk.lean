/-
 alike, by contract.
-/
import Derived.Test.YtjdbmjkidljhpaaGreatDoorTMt
import Derived.Test.YtjdbmjkidljhpaaGreatDoorTWq
import Derived.Test.YtjdbmjkidljhpaaGreatDoorTRpl
namespace Go.Proofs.YtjdbmjkidljhpaaGreatDoor
open Go.RowKit
set_option linter.unusedVariables false
set_option linter.unusedSimpArgs false
set_option maxRecDepth 100000
attribute [local go_sem] Oper.semAt_some
theorem look_self {es : List En} (hnd : (es.map En.k).Nodup) {x : En} (hx : x ∈ es) : look es x.k = some x := by
 obtain ⟨e, he⟩ := look_of_mem es x.k (List.mem_map.2 ⟨x, hx, rfl⟩)
 obtain ⟨h1, h2⟩ := look_mem _ _ _ he
 rw [he, key_inj hnd h1 hx h2]
/-- What stands at a place of the document's list is what comes there. -/
theorem Two.place {w : World} {lo k n s : Nat} {mv : Value} {σ : Sg} {r : Nat} {lv : Value} {ρ : Rg} (h : Two w lo k n s mv σ r lv ρ) {ds : List Dg} (hp : (ds.map (·.1)).Perm (σ.es.map En.k)) (hu : (ds.map (·.1)).Pairwise (fun x y => ltB x y = true)) {x : En} (hx : x ∈ σ.es) {i : Nat} {d : Dg} (hd : ds[i]? = some d) (hk : d.1 = x.k) :
  ∃ b, ρ.l[i]? = some b ∧ b.d = x.k ∧ b.xs = x.xs ∧ b.st = x.st ∧ stampOf σ.es x.k = b.st := by
 have hkeys := h.alk.keys (fun e he => (h.st.key e he).1) (ds.map (·.1)) hp hu
 have h1 : (ρ.l.map Bl.d)[i]? = some x.k := by rw [← hkeys, List.getElem?_map, hd, ← hk]; rfl
 rw [List.getElem?_map] at h1
 cases hb : ρ.l[i]? with
 | none => rw [hb] at h1; cases h1
 | some b =>
  rw [hb] at h1
  have hbd : b.d = x.k := Option.some.inj h1
  have h2 := h.alk.lk x.k (h.st.key x hx).1
  have h3 := look_self h.st.keys hx
  have h4 := findB_get _ _ _ h.alk.up hb
  rw [hbd] at h4
  rw [h3, h4] at h2
  have h5 := Option.some.inj h2
  refine ⟨b, rfl, hbd, (congrArg Prod.fst h5).symm, (congrArg Prod.snd h5).symm, ?_⟩
  unfold stampOf
  rw [h3]
  exact congrArg Prod.snd h5
theorem bin_loop {v : Value} {xs : List Int} {A B : World} {q : Nat} {L : Loop} (hl : A.heap[q]? = some (.loop L)) (ho : ∀ k, k ≠ q → B.heap[k]? = A.heap[k]?) (h : BIn A v xs) : BIn B v xs := by
 obtain ⟨ao, c, rfl, hc, h1⟩ := h
 refine ⟨ao, c, rfl, hc, ?_⟩
 rcases h1 with h1 | ⟨b, o, rfl, h1⟩
 ·exact .inl h1
 ·by_cases h0 : xs = []
  ·exact .inl h0
  ·refine .inr ⟨b, o, rfl, fun i hi => ?_⟩
   rw [← h1 i hi]
   refine World.cell?_of_block (a := ⟨b, o + i, none⟩) (ho b (fun e => ?_))
   obtain ⟨cs, t, f, h2⟩ := cell_cells (h1 i hi)
   rw [e, hl] at h2
   cases h2
set_option maxHeartbeats 16000000 in
theorem alike_any {w : World} {lo k n s : Nat} {mv : Value} {σ : Sg} {r : Nat} {lv : Value} {ρ : Rg} (h : Two w lo k n s mv σ r lv ρ) (hn : n ≤ 900000) :
  Calls Tryz.prog 7 #[.pointer (some ⟨s, 0, none⟩), .pointer (some ⟨r, 0, none⟩)] w fun e w' => e = .returned (.bool true) ∧ Kept (fun _ => False) w w' := by
 obtain ⟨ao, c, hlv⟩ := row_form h.rs.row
 subst hlv
 have HT := hid_of h
 have hes := h.alk.len
 have hcnt := h.cnt
 obtain ⟨m, hm⟩ : ∃ m, m = ρ.l.length := ⟨_, rfl⟩
 have HM := hid_of hm
 have hm6 : m ≤ 900000 := by omega
 have hmI : (m : Int) ≤ 900000 := by omega
 obtain ⟨tot, htot⟩ : ∃ t, t = totB ρ.l := ⟨_, rfl⟩
 obtain ⟨cap, hcap⟩ : ∃ t, t = σ.cp := ⟨_, rfl⟩
 have HA0 : Hid (∀ W, Kept (fun _ => False) w W → Calls Tryz.prog 11 #[.pointer (some ⟨s, 0, none⟩)] W fun e w' => ∃ B0 B1 B2 r clock ds ao cap, e = .returned (.func (.func 29) #[] #[.pointer (some ⟨B0, 0, none⟩)]) ∧ RowOf W w' σ.es B1 B2 r clock ds ao cap ∧ w'.cell? ⟨B0, 0, none⟩ = some (.func (.func 55) #[] #[.pointer (some ⟨B1, 0, none⟩), .pointer (some ⟨B2, 0, none⟩)]) ∧ B0 < w'.heap.size) := fun W hW => all_full (HT.out.same hW).st (by omega)
 have HL0 : Hid (∀ W, Kept (fun _ => False) w W → Calls Tryz.prog 19 #[.pointer (some ⟨s, 0, none⟩)] W fun e w' => e = .returned (.int .i64 (m : Int)) ∧ w' = W) := fun W hW => by
  have := len_full (HT.out.same hW).st
  rw [hes, ← hm] at this
  exact this
 have HU10 : Hid (∀ W, Kept (fun _ => False) w W → Calls Tryz.prog 20 #[.pointer (some ⟨s, 0, none⟩)] W fun e w' => e = .returned (.int .i64 tot) ∧ w' = W) := fun W hW => by
  have := used_any (HT.out.same hW).st
  rw [HT.out.sane.us, HT.out.alk.tot, ← htot] at this
  exact this
 have HU20 : Hid (∀ W, Kept (fun _ => False) w W → Calls Tryz.prog 21 #[.pointer (some ⟨r, 0, none⟩)] W fun e w' => e = .returned (.int .i64 tot) ∧ w' = W) := fun W hW => by
  have := used_ref (HT.out.same hW).rs
  rw [← htot] at this
  exact this
 have HC10 : Hid (∀ W, Kept (fun _ => False) w W → Calls Tryz.prog 22 #[.pointer (some ⟨s, 0, none⟩)] W fun e w' => e = .returned (.int .i64 cap) ∧ w' = W) := fun W hW => by
  have := cap_any (HT.out.same hW).st
  rw [← hcap] at this
  exact this
 have HW10 : Hid (∀ W, Kept (fun _ => False) w W → Calls Tryz.prog 23 #[.pointer (some ⟨s, 0, none⟩)] W fun e w' => e = .returned (.int .i64 (k : Int)) ∧ w' = W) := fun W hW => by
  have := width_any (HT.out.same hW).st
  rw [HT.out.sane.wd] at this
  exact this
 have HR0 : Hid (∀ W, Kept (fun _ => False) w W → W.cell? ⟨r, 3, none⟩ = some (.slice ao m c) ∧ W.cell? ⟨r, 1, none⟩ = some (.int .i64 cap) ∧ W.cell? ⟨r, 0, none⟩ = some (.int .i64 (k : Int))) := fun W hW => by
  have h3 := (HT.out.same hW).rs.cell 3
  have h1 := (HT.out.same hW).rs.cell 1
  have h0 := (HT.out.same hW).rs.cell 0
  refine ⟨?_, ?_, ?_⟩
  ·rw [h3, hm]; rfl
  ·rw [h1, hcap, ← HT.out.num.2.1]; rfl
  ·rw [h0, ← HT.out.num.1]; rfl
 have HKA : Hid (Kept (fun _ => False) w (((w.alloc (.cells #[.pointer (some ⟨s, 0, none⟩)] 33)).alloc (.cells #[.pointer (some ⟨r, 0, none⟩)] 34)).alloc (.cells #[.bool false] 4))) := (((Kept.refl _ w).alloc _).alloc _).alloc _
 have HP2 : Hid ((((w.alloc (.cells #[.pointer (some ⟨s, 0, none⟩)] 33)).alloc (.cells #[.pointer (some ⟨r, 0, none⟩)] 34)).alloc (.cells #[.bool false] 4)).heap[w.heap.size]? = some (.cells #[.pointer (some ⟨s, 0, none⟩)] 33 (0, 0))) := alloc_old (alloc_old (alloc_new _ _ rfl))
 have HP3 : Hid ((((w.alloc (.cells #[.pointer (some ⟨s, 0, none⟩)] 33)).alloc (.cells #[.pointer (some ⟨r, 0, none⟩)] 34)).alloc (.cells #[.bool false] 4)).heap[w.heap.size + 1]? = some (.cells #[.pointer (some ⟨r, 0, none⟩)] 34 (0, 0))) := alloc_old (alloc_new _ _ (by simp))
 have HP4 : Hid ((((w.alloc (.cells #[.pointer (some ⟨s, 0, none⟩)] 33)).alloc (.cells #[.pointer (some ⟨r, 0, none⟩)] 34)).alloc (.cells #[.bool false] 4)).heap[w.heap.size + 1 + 1]? = some (.cells #[.bool false] 4 (0, 0))) := alloc_new _ _ (by simp)
 have c2 := (cell_block _ _ 0 _ _ _ HP2.out)
 have HTOT := hid_of htot
 have HCAP := hid_of hcap
 clear h hm htot hcap hes hcnt
 refine (callsIn_wide (n := 8)).1 ?_
 refine callsIn_of_wp_marks Tryz.func7 rfl trivial ?_ rfl
 simp only [Tryz.ntmps7, List.size_toArray, List.length_cons, List.length_nil, Nat.reduceAdd, Nat.reduceSub, Array.replicate_succ, Array.replicate_zero, List.push_toArray, List.append_toArray, List.nil_append, List.cons_append]
 gi_wp2_with fail
 generalize ((w.alloc (.cells #[.pointer (some ⟨s, 0, none⟩)] 33)).alloc (.cells #[.pointer (some ⟨r, 0, none⟩)] 34)).alloc (.cells #[.bool false] 4) = wA at *
 refine ⟨trivial, (callsIn_wide.2 (HA0.out _ HKA.out)).mono ?_⟩
 rintro e w1 ⟨B0, B1, B2, rr, clock, ds, ao', cap', rfl, hro, hf, hB0⟩
 have HRO := hid_of hro
 have HF := hid_of hf
 have HB0 := hid_of hB0
 have HK1 : Hid (Kept (fun _ => False) w w1) := HKA.out.trans hro.kp
 have HQ2 : Hid (w1.heap[w.heap.size]? = some (.cells #[.pointer (some ⟨s, 0, none⟩)] 33 (0, 0))) := (hro.kp.block _ (heap_lt HP2.out) (fun f => f)).trans HP2.out
 have HQ3 : Hid (w1.heap[w.heap.size + 1]? = some (.cells #[.pointer (some ⟨r, 0, none⟩)] 34 (0, 0))) := (hro.kp.block _ (heap_lt HP3.out) (fun f => f)).trans HP3.out
 have HQ4 : Hid (w1.heap[w.heap.size + 1 + 1]? = some (.cells #[.bool false] 4 (0, 0))) := (hro.kp.block _ (heap_lt HP4.out) (fun f => f)).trans HP4.out
 clear hro hf hB0 HA0 c2 HP2 HP3 HP4
 have HQ : ∀ (W : World), (binOp .eql 47 (.func (.func 29) #[] #[.pointer (some ⟨B0, 0, none⟩)]) Value.nilFunc).run Tryz.prog W = .ok (.bool false) W := fun W => rfl
 have HL : Hid (∀ W, Kept (fun _ => False) w1 W → _) := fun W hW => HL0.out W (HK1.out.trans hW)
 have HU1 : Hid (∀ W, Kept (fun _ => False) w1 W → _) := fun W hW => HU10.out W (HK1.out.trans hW)
 have HU2 : Hid (∀ W, Kept (fun _ => False) w1 W → _) := fun W hW => HU20.out W (HK1.out.trans hW)
 have HC1 : Hid (∀ W, Kept (fun _ => False) w1 W → _) := fun W hW => HC10.out W (HK1.out.trans hW)
 have HW1 : Hid (∀ W, Kept (fun _ => False) w1 W → _) := fun W hW => HW10.out W (HK1.out.trans hW)
 have HS : Hid (∀ W, Kept (fun _ => False) w1 W → W.cell? ⟨w.heap.size, 0, none⟩ = some (.pointer (some ⟨s, 0, none⟩)) ∧ W.cell? ⟨w.heap.size + 1, 0, none⟩ = some (.pointer (some ⟨r, 0, none⟩)) ∧ W.cell? ⟨r, 3, none⟩ = some (.slice ao m c) ∧ W.cell? ⟨r, 1, none⟩ = some (.int .i64 cap) ∧ W.cell? ⟨r, 0, none⟩ = some (.int .i64 (k : Int))) := fun W hW =>
  ⟨hW.cell ((cell_block _ _ 0 _ _ _ HQ2.out).trans rfl) (fun f => f), hW.cell ((cell_block _ _ 0 _ _ _ HQ3.out).trans rfl) (fun f => f), HR0.out W (HK1.out.trans hW)⟩
 gi_wp2
 refine wpIn_wide.2 ?_
 refine wp_region_noPanic ?_
 refine wp_region_held_drew (S := fun w' => Kept (fun _ => False) w1 w') (by kernel_rfl) ((Kept.refl _ _).drew) (fun hHeld => ?_)
 refine tkp (v := ?_) 0 rfl ?_ ?_; rotate_left 1
 ·intro w hSw; obtain ⟨s1, s2, s3, s4, s5⟩ := HS.out w hSw; go_simp; try with_reducible rfl
 try simp only [Act.put, tdy]
 refine tkp (v := ?_) 1 rfl ?_ ?_; rotate_left 1
 ·intro w hSw; have hq := HQ w; go_simp; try with_reducible rfl
 try simp only [Act.put, tdy]
 iterate 2
  refine tkn (v := ?_) 2 rfl ?_ ?_; rotate_left 1
  ·intro w hSw; obtain ⟨s1, s2, s3, s4, s5⟩ := HS.out w hSw; go_simp; try with_reducible rfl
  try simp only [Act.put, tdy]
 iterate 5
  refine tkn (v := ?_) 5 rfl ?_ ?_; rotate_left 1
  ·intro w hSw; obtain ⟨s1, s2, s3, s4, s5⟩ := HS.out w hSw; go_simp; try with_reducible rfl
  try simp only [Act.put, tdy]
 refine wpAnyH_ready (rs := [4]) (by kernel_rfl) (by simp) ?_
 refine AllReadyH.cons rfl (fun K hK => ?_) .nil
 go_simp
 refine (HL.out _ hHeld).mono ?_
 rintro e w5 ⟨rfl, rfl⟩
 refine hK.out _ _ hHeld (fun hHeld => ?_)
 clear hK K
 try simp only [Act.put, tdy]
 iterate 4
  refine tkn (v := ?_) 10 rfl ?_ ?_; rotate_left 1
  ·intro w hSw; obtain ⟨s1, s2, s3, s4, s5⟩ := HS.out w hSw; go_simp; try with_reducible rfl
  try simp only [Act.put, tdy]
 refine tkp (v := ?_) 15 rfl ?_ ?_; rotate_left 1
 ·intro w hSw; obtain ⟨s1, s2, s3, s4, s5⟩ := HS.out w hSw; go_simp; try with_reducible rfl
 try simp only [Act.put, tdy]
 refine wpAnyH_ready (rs := [14]) (by kernel_rfl) (by simp) ?_
 refine AllReadyH.cons rfl (fun K hK => ?_) .nil
 go_simp
 refine (HU1.out _ hHeld).mono ?_
 rintro e w5 ⟨rfl, rfl⟩
 refine hK.out _ _ hHeld (fun hHeld => ?_)
 clear hK K
 try simp only [Act.put, tdy]
 refine wpAnyH_ready (rs := [16]) (by kernel_rfl) (by simp) ?_
 refine AllReadyH.cons rfl (fun K hK => ?_) .nil
 go_simp
 refine (HU2.out _ hHeld).mono ?_
 rintro e w5 ⟨rfl, rfl⟩
 refine hK.out _ _ hHeld (fun hHeld => ?_)
 clear hK K
 try simp only [Act.put, tdy]
 iterate 4
  refine tkn (v := ?_) 17 rfl ?_ ?_; rotate_left 1
  ·intro w hSw; obtain ⟨s1, s2, s3, s4, s5⟩ := HS.out w hSw; go_simp; try with_reducible rfl
  try simp only [Act.put, tdy]
 iterate 4
  refine tkn (v := ?_) 22 rfl ?_ ?_; rotate_left 1
  ·intro w hSw; obtain ⟨s1, s2, s3, s4, s5⟩ := HS.out w hSw; go_simp; try with_reducible rfl
  try simp only [Act.put, tdy]
 refine wpAnyH_ready (rs := [21]) (by kernel_rfl) (by simp) ?_
 refine AllReadyH.cons rfl (fun K hK => ?_) .nil
 go_simp
 refine (HC1.out _ hHeld).mono ?_
 rintro e w5 ⟨rfl, rfl⟩
 refine hK.out _ _ hHeld (fun hHeld => ?_)
 clear hK K
 try simp only [Act.put, tdy]
 iterate 4
  refine tkn (v := ?_) 26 rfl ?_ ?_; rotate_left 1
  ·intro w hSw; obtain ⟨s1, s2, s3, s4, s5⟩ := HS.out w hSw; go_simp; try with_reducible rfl
  try simp only [Act.put, tdy]
 iterate 4
  refine tkn (v := ?_) 31 rfl ?_ ?_; rotate_left 1
  ·intro w hSw; obtain ⟨s1, s2, s3, s4, s5⟩ := HS.out w hSw; go_simp; try with_reducible rfl
  try simp only [Act.put, tdy]
 refine wpAnyH_ready (rs := [30]) (by kernel_rfl) (by simp) ?_
 refine AllReadyH.cons rfl (fun K hK => ?_) .nil
 go_simp
 refine (HW1.out _ hHeld).mono ?_
 rintro e w5 ⟨rfl, rfl⟩
 refine hK.out _ _ hHeld (fun hHeld => ?_)
 clear hK K
 try simp only [Act.put, tdy]
 iterate 2
  refine tkn (v := ?_) 35 rfl ?_ ?_; rotate_left 1
  ·intro w hSw; obtain ⟨s1, s2, s3, s4, s5⟩ := HS.out w hSw; go_simp; try with_reducible rfl
  try simp only [Act.put, tdy]
 refine wpAnyH_done (by kernel_rfl) ?_ _
 refine NoPanic.normal ?_
 clear hHeld HL HU1 HU2 HC1 HW1 HL0 HU10 HU20 HC10 HW10 HQ HKA
 have HK12 : Hid (Kept (fun _ => False) w1 w1.drew) := (Kept.refl _ _).drew
 generalize w1.drew = w2 at *
 gi_wp2
 have hb6 : Boxed (w2.alloc (.cells #[.int .i64 0] 3)) w2.heap.size 3 (.int .i64 0) := Boxed.new w2 3 _
 have hbl : Below w2.heap.size w2 (w2.alloc (.cells #[.int .i64 0] 3)) := (Below.refl _ w2).alloc (Nat.le_refl _) _
 have hsz : (w2.alloc (.cells #[.int .i64 0] 3)).heap.size = w2.heap.size + 1 := by simp
 generalize w2.alloc (.cells #[.int .i64 0] 3) = w3 at *
 have HK2 : Hid (Kept (fun _ => False) w w2) := HK1.out.trans HK12.out
 have HDL : Hid (ds.length = m) := by
  have h5 := HRO.out.perm.length_eq
  rw [List.length_map, List.length_map, HT.out.alk.len, ← HM.out] at h5
  exact h5
 have hw12 := HK12.out.size
 have HSEQ : Hid (SeqOwn 7 29 #[.pointer (some ⟨B0, 0, none⟩)] (fun x : Eb σ.es => #[dv x.1.1.1.k, x.1.2]) (fun q => q = w2.heap.size) (fun pre x W => BIn W x.1.2 x.1.1.1.xs ∧ ∃ d, ds[pre.length]? = some d ∧ d.1 = x.1.1.1.k) (fun ys => ys.map (·.1.1.1.k) = ds.map (·.1)) ds.length w2) :=
  all1_seq _ (fun q => q < w2.heap.size) (fun q hq e => by omega) 7 (by omega) B0 B1 B2 rr clock σ.es ds ao' cap' w2 (HRO.out.at_.keep (Z := fun _ => True) (KeepsB.of_kept HK12.out) trivial trivial trivial (fun _ _ _ => trivial)) (by have := HRO.out.n1.2; show B1 < _; omega) (by have := HRO.out.n2.2; show B2 < _; omega) (by have := HRO.out.n3.2; show rr < _; omega) (fun g o e => by have := (HRO.out.n4 g o e).2; show g < _; omega) (fun q hq => hq) (by rw [HDL.out]; omega) (by have := HB0.out; omega) (HK12.out.cell HF.out (fun f => f)) (fun e he => by
   obtain ⟨h1, h2, h3, h4⟩ := HT.out.st.blob e he
   exact ⟨h1.kept2 HK2.out (fun _ _ _ f => f), h3, fun h0 g hg => by have := HT.out.st.bytelt he h0 g hg; have := HK2.out.size; show g < _; omega⟩)
 have HB := hid_of (And.intro hb6 hbl)
 have hps := HT.out.st.key
 have HPS := hid_of hps
 clear hb6 hbl hps HF HB0
 refine range_seqE (by omega) (gf := 29) (lb := #[.pointer (some ⟨B0, 0, none⟩)]) rfl (enters_of Tryz.func29 (by kernel_rfl) rfl) (fun pre x A C q L hl ho hc => ⟨bin_loop hl ho hc.1, hc.2⟩) (fun pre x A C hk hc => ⟨hc.1.kept2 hk (fun _ _ _ f => f), hc.2⟩) HSEQ.out (fun q hq => by omega) HB.out.2 (fun x => by rfl)
  (fun pre W => Boxed W w2.heap.size 3 (.int .i64 (pre.length : Int)) ∧ Below w2.heap.size w2 W ∧ w2.heap.size + 1 ≤ W.heap.size) ?hI ?h0 (fun x => (x.1.1.1.k.map (Value.int .u8)).toArray)
  (fun x B => #[.pointer (some ⟨s, 0, none⟩), .pointer (some ⟨r, 0, none⟩), .pointer (some ⟨w.heap.size, 0, none⟩), .pointer (some ⟨w.heap.size + 1, 0, none⟩), .pointer (some ⟨w.heap.size + 1 + 1, 0, none⟩), .func (.func 29) #[] #[.pointer (some ⟨B0, 0, none⟩)], .pointer (some ⟨w2.heap.size, 0, none⟩), .pointer (some ⟨B, 0, none⟩), x.1.2, .pointer (some ⟨s, 0, none⟩), .func (.func 29) #[] #[.pointer (some ⟨B0, 0, none⟩)], .func (.func 29) #[] #[.pointer (some ⟨B0, 0, none⟩)], .bool false, .bool false, .pointer (some ⟨s, 0, none⟩), .int .i64 (m : Int), .pointer (some ⟨r, 0, none⟩), .pointer (some ⟨r, 0, none⟩), .pointer (some ⟨r, 3, none⟩), .slice ao m c, .int .i64 (m : Int), .bool false, .bool false, .bool false, .pointer (some ⟨s, 0, none⟩), .int .i64 tot, .pointer (some ⟨r, 0, none⟩), .int .i64 tot, .bool false, .bool false, .bool false, .pointer (some ⟨s, 0, none⟩), .int .i64 cap, .pointer (some ⟨r, 0, none⟩), .pointer (some ⟨r, 0, none⟩), .pointer (some ⟨r, 1, none⟩), .int .i64 cap, .bool false, .bool false, .bool false, .pointer (some ⟨s, 0, none⟩), .int .i64 (k : Int), .pointer (some ⟨r, 0, none⟩), .pointer (some ⟨r, 0, none⟩), .pointer (some ⟨r, 0, none⟩), .int .i64 (k : Int), .bool false, .bool false, .func (.func 29) #[] #[.pointer (some ⟨B0, 0, none⟩)], .agg (x.1.1.1.k.map (Value.int .u8)).toArray, x.1.2, undef, undef, undef, undef, undef, undef, undef, undef, undef, undef, undef, undef, undef, undef, undef, undef, undef, undef, undef, undef, undef, undef, undef, undef, undef, undef, undef, undef, undef, undef, undef, undef, undef, undef, undef, undef, undef, undef, undef, undef, undef, undef, undef, undef, undef, undef, undef, undef, undef, undef, undef, undef, undef, undef, undef])
  ?assign ?body ?done
 case hI =>
  rintro pre A C rw ⟨h1, h3, h4⟩ hg hr
  exact ⟨box_stay h1 hg hr, h3.grown hg h3.size (fun k e => by have := (hr k e).1; omega), Nat.le_trans h4 hg.size⟩
 case h0 => exact ⟨HB.out.1, HB.out.2, by omega⟩
 case assign =>
  intro l x W K hK
  have hkl := (HPS.out x.1.1.1 x.1.1.2).1
  have hds := size28_of x.1.1.1.k hkl
  have honed := oneCells .u8 x.1.1.1.k
  have HOD : Hid (32 = (x.1.1.1.k.map (Value.int .u8)).toArray.size) := by show 32 = _; simp [hkl]
  unfold dv
  gi_wp2_with (refine inList_store_row rfl 29 _ _ rfl W.heap.size (x.1.1.1.k.map (Value.int .u8)).toArray rfl rfl 29 _ (alloc_new _ _ rfl) hds HOD.out honed ?_; rw [setRow_new _ _ _ _ rfl])
  exact hK
 case body =>
  rintro l pre x B W ⟨h1, h3, h4⟩ ⟨hbx, dd, hdd, hdk⟩ hB hBk hlt
  have hkW : Kept (fun _ => False) w W := HK2.out.step (T := fun q => w2.heap.size ≤ q) ⟨h3.os, h3.tape, h3.output, h3.size, fun q hq hn => h3.block q (by omega)⟩ (fun i hi e => by have := HK2.out.size; omega)
  have hk2W : Kept (fun q => w2.heap.size ≤ q) w2 W := ⟨h3.os, h3.tape, h3.output, h3.size, fun q hq hn => h3.block q (by omega)⟩
  have hTW := HT.out.same hkW
  obtain ⟨b, hbi, hbd, hbs, hbt, hso⟩ := hTW.place HRO.out.perm HRO.out.up x.1.1.2 hdd hdk
  have hxl := (HPS.out x.1.1.1 x.1.1.2).1
  have hpl : pre.length < m := by rw [← HDL.out]; exact hlt
  obtain ⟨gl, cc, hgl⟩ := row_some hTW.rs.row (by rw [← HM.out]; omega)
  have hbk := (hTW.rs.ok b (List.mem_of_getElem? hbi))
  obtain ⟨bo, bc, hbv⟩ := hbk.bin.form
  obtain ⟨ax, cx, hx⟩ := x.2
  have hrange : ∀ W', Kept (fun _ => False) W W' → W'.rangeAt gl (pre.length * 34) (b.d.map (Value.int .u8)) ∧ W'.cell? ⟨gl, pre.length * 34 + 32, none⟩ = some b.bv ∧ W'.cell? ⟨gl, pre.length * 34 + 33, none⟩ = some (.int .i64 b.st) := fun W' hW' => by
   have hrow := (hTW.same hW').rs.row
   rw [hgl] at hrow
   exact Bl.range hbk.len (row_get hrow (fun b hb => ((hTW.same hW').rs.ok b hb).len) hbi)
  have HSM : Hid (∀ W', Kept (fun _ => False) W W' → Calls Tryz.prog 12 #[.slice ax x.1.1.1.xs.length cx, .slice bo x.1.1.1.xs.length bc] W' fun e w' => e = .returned (.bool true) ∧ Kept (fun _ => False) W' w') := fun W' hW' => by
   rw [hx] at hbx
   have hb2 := hbk.bin
   rw [hbv, hbs] at hb2
   have hb3 := (HT.out.st.blob x.1.1.1 x.1.1.2).2.2.1
   have := same_any _ _ _ _ W' (hbx.kept2 hW' (fun _ _ _ f => f)) (hb2.kept2 hW' (fun _ _ _ f => f)) (by unfold maxLen; omega)
   rw [decide_eq_true rfl] at this
   exact this
  have HST : Hid (∀ W', Kept (fun _ => False) W W' → Calls Tryz.prog 25 #[.pointer (some ⟨s, 0, none⟩), .agg (x.1.1.1.k.map (Value.int .u8)).toArray] W' fun e w' => e = .returned (.int .i64 b.st) ∧ Kept (fun _ => False) W' w') := fun W' hW' => by
   have := stamp_any (hTW.same hW').st x.1.1.1.k hxl
   rw [hso] at this
   exact this
  have HNE : ∀ (W' : World), (binOp .neq 29 (.agg (x.1.1.1.k.map (Value.int .u8)).toArray) (.agg (x.1.1.1.k.map (Value.int .u8)).toArray)).run Tryz.prog W' = .ok (.bool false) W' := fun W' => by
   have := run_neq32 W' 29 x.1.1.1.k x.1.1.1.k Tryz.underlying29 hxl hxl
   rw [decide_eq_true rfl] at this
   exact this
  have hSW : ∀ W', Kept (fun _ => False) W W' → W'.cell? ⟨w.heap.size, 0, none⟩ = some (.pointer (some ⟨s, 0, none⟩)) ∧ W'.cell? ⟨w.heap.size + 1, 0, none⟩ = some (.pointer (some ⟨r, 0, none⟩)) ∧ W'.cell? ⟨r, 3, none⟩ = some (.slice ao m c) := fun W' hW' => by
   obtain ⟨s1, s2, s3, _, _⟩ := HS.out w2 HK12.out
   have l1 := World.block_lt_of_cell? _ _ s1
   have l2 := World.block_lt_of_cell? _ _ s2
   have l3 := World.block_lt_of_cell? _ _ s3
   exact ⟨hW'.cell (hk2W.cell s1 (fun e => by have e' : w2.heap.size ≤ w.heap.size := e; have l1' : w.heap.size < _ := l1; omega)) (fun f => f), hW'.cell (hk2W.cell s2 (fun e => by have e' : w2.heap.size ≤ w.heap.size + 1 := e; have l2' : w.heap.size + 1 < _ := l2; omega)) (fun f => f), hW'.cell (hk2W.cell s3 (fun e => by have e' : w2.heap.size ≤ r := e; have l3' : r < _ := l3; omega)) (fun f => f)⟩
  rw [hbs] at hbv
  rw [hbd] at hrange
  have hao : ao = some ⟨gl, 0, none⟩ := by injection hgl
  subst hao
  have HS8 : Hid (∀ W', Kept (fun _ => False) W W' → W'.cell? ⟨w.heap.size, 0, none⟩ = some (.pointer (some ⟨s, 0, none⟩)) ∧ W'.cell? ⟨w.heap.size + 1, 0, none⟩ = some (.pointer (some ⟨r, 0, none⟩)) ∧ W'.cell? ⟨r, 3, none⟩ = some (.slice (some ⟨gl, 0, none⟩) m c) ∧ W'.cell? ⟨w2.heap.size, 0, none⟩ = some (.int .i64 (pre.length : Int)) ∧ W'.cell? ⟨gl, pre.length * 34 + 32, none⟩ = some (.slice bo x.1.1.1.xs.length bc) ∧ W'.cell? ⟨gl, pre.length * 34 + 33, none⟩ = some (.int .i64 b.st) ∧ True) := fun W' hW' =>
   ⟨(hSW W' hW').1, (hSW W' hW').2.1, (hSW W' hW').2.2, hW'.cell h1.cell (fun f => f), by rw [← hbv]; exact (hrange W' hW').2.1, (hrange W' hW').2.2, trivial⟩
  have HBX : Hid (∀ W', Kept (fun _ => False) W W' → W'.heap[B]? = some (.cells (x.1.1.1.k.map (Value.int .u8)).toArray 29 (0, 0))) := fun W' hW' => (hW'.block _ (heap_lt hBk) (fun f => f)).trans hBk
  have HMID : Hid (∀ W', Kept (fun _ => False) W W' → W'.rangeAt gl (pre.length * 34) (x.1.1.1.k.map (Value.int .u8))) := fun W' hW' => (hrange W' hW').1
  have HDS := hid_of (size29_arr x.1.1.1.k hxl)
  have HDL2 := hid_of (size29_lst x.1.1.1.k hxl)
  have H1 := hid_of h1
  have H3 := hid_of h3
  have H4 := hid_of h4
  have hNI : (((pre ++ [x]).length : Nat) : Int) = (pre.length : Int) + 1 := by simp
  rw [hx, hNI]
  clear h1 h3 h4 hbx hdd hdk hB hBk hlt hkW hk2W hTW hbi hbd hbs hbt hso hgl hbk hbv hrange hSW hNI hx
  generalize pre.length = pl at *
  generalize x.1.1.1.xs.length = xl at *
  generalize x.1.1.1.k.map (Value.int .u8) = kl at *
  generalize hkkE : kl.toArray = kk at *
  have HKL := hid_of hkkE
  clear hkkE
  have hplI : (pl : Int) < (m : Int) := by omega
  have HPG : Hid (¬ ((m : Int) ≤ (pl : Int))) := by show ¬ _; omega
  have wr1 : IntKind.i64.wrap ((pl : Int) + 1) = (pl : Int) + 1 := by rw [IntKind.wrap_i64]; omega
  gi_wp2
  refine wpIn_region_held (IsWide.in_ l) (S := fun w' => Kept (fun _ => False) W w') (by kernel_rfl) (by kernel_rfl) (by rintro ⟨_, _, h9⟩; exact absurd h9.1 (by simp)) ((Kept.refl _ _).drew) (fun hHeld => ?_)
  iterate 6
   refine tkn (v := ?_) 0 rfl ?_ ?_; rotate_left 1
   ·intro w hSw; obtain ⟨s1, s2, s3, s4, s5, s6, s7⟩ := HS8.out w hSw; go_simp; try with_reducible rfl
   try simp only [Act.put, tdy]
  refine tkp (v := .bool false) 6 rfl ?_ ?_
  ·intro w hSw
   obtain ⟨s1, s2, s3, s4, s5, s6, s7⟩ := HS8.out w hSw
   go_simp
   all_goals (try omega)
  try simp only [Act.put, tdy]
  refine tkp (v := ?_) 7 rfl ?_ ?_; rotate_left 1
  ·intro w hSw; obtain ⟨s1, s2, s3, s4, s5, s6, s7⟩ := HS8.out w hSw; go_simp; try with_reducible rfl
  try simp only [Act.put, tdy]
  refine tkg 8 (.agg kk) rfl (yields_row (by rfl) 29 _ rfl B rfl _ _ _ _ (fun w hSw => HBX.out w hSw) Tryz.underlying29 rfl HDS.out) ?_
  try simp only [Act.put, tdy]
  iterate 7
   refine tkn (v := ?_) 9 rfl ?_ ?_; rotate_left 1
   ·intro w hSw; obtain ⟨s1, s2, s3, s4, s5, s6, s7⟩ := HS8.out w hSw; go_simp; try with_reducible rfl
   try simp only [Act.put, tdy]
  refine tkg 16 (.agg kk) rfl (by rw [← HKL.out]; exact yieldsIf_load_mid (by rfl) 29 _ rfl gl (pl * 34) rfl kl _ (fun w hSw => HMID.out w hSw) Tryz.underlying29 rfl HDL2.out) ?_
  try simp only [Act.put, tdy]
  refine tkp (v := ?_) 17 rfl ?_ ?_; rotate_left 1
  ·intro w hSw; have hq := HNE w; go_simp; try with_reducible rfl
  try simp only [Act.put, tdy]
  iterate 11
   refine tkn (v := ?_) 18 rfl ?_ ?_; rotate_left 1
   ·intro w hSw; obtain ⟨s1, s2, s3, s4, s5, s6, s7⟩ := HS8.out w hSw; go_simp; try with_reducible rfl
   try simp only [Act.put, tdy]
  refine wpAnyH_ready (rs := [29]) (by kernel_rfl) (by simp) ?_
  refine AllReadyH.cons rfl (fun K hK => ?_) .nil
  go_simp
  refine (HSM.out _ hHeld).mono ?_
  rintro e w5 ⟨rfl, hk5⟩
  have HK5 : Hid (Kept (fun _ => False) W w5) := hHeld.trans hk5
  clear hk5 HSM
  refine hK.out _ _ HK5.out (fun hHeld => ?_)
  clear hK K
  try simp only [Act.put, tdy]
  iterate 4
   refine tkn (v := ?_) 30 rfl ?_ ?_; rotate_left 1
   ·intro w hSw; obtain ⟨s1, s2, s3, s4, s5, s6, s7⟩ := HS8.out w hSw; go_simp; try with_reducible rfl
   try simp only [Act.put, tdy]
  refine tkg 34 (.agg kk) rfl (yields_row (by rfl) 29 _ rfl B rfl _ _ _ _ (fun w hSw => HBX.out w hSw) Tryz.underlying29 rfl HDS.out) ?_
  try simp only [Act.put, tdy]
  iterate 8
   refine tkn (v := ?_) 36 rfl ?_ ?_; rotate_left 1
   ·intro w hSw; obtain ⟨s1, s2, s3, s4, s5, s6, s7⟩ := HS8.out w hSw; go_simp; try with_reducible rfl
   try simp only [Act.put, tdy]
  refine wpAnyH_ready (rs := [35]) (by kernel_rfl) (by simp) ?_
  refine AllReadyH.cons rfl (fun K hK => ?_) .nil
  go_simp
  refine (HST.out _ HK5.out).mono ?_
  rintro e w6 ⟨rfl, hk6⟩
  have HK6 : Hid (Kept (fun _ => False) W w6) := HK5.out.trans hk6
  clear hk6 HST HK5
  refine hK.out _ _ HK6.out (fun hHeld => ?_)
  clear hK K
  try simp only [Act.put, tdy]
  iterate 2
   refine tkn (v := ?_) 44 rfl ?_ ?_; rotate_left 1
   ·intro w hSw; obtain ⟨s1, s2, s3, s4, s5, s6, s7⟩ := HS8.out w hSw; go_simp; try with_reducible rfl
   try simp only [Act.put, tdy]
  refine wpAnyH_done (by kernel_rfl) ?_ _
  clear hHeld HS8 HBX HMID HNE
  have hc6 : w6.cell? ⟨w2.heap.size, 0, none⟩ = some (.int .i64 (pl : Int)) := HK6.out.cell H1.out.cell (fun f => f)
  have hb6 : Boxed w6 w2.heap.size 3 (.int .i64 (pl : Int)) := (HK6.out.block _ (heap_lt H1.out) (fun f => f)).trans H1.out
  have hf6 := hb6.frozen
  have HB6 := hid_of hb6
  clear hb6
  gi_wp2
  refine ⟨(HK6.out.mono (fun _ _ f => f.elim)).trans (kept_set w6 ⟨w2.heap.size, 0, none⟩ _), HB6.out.set _, ?_, ?_⟩
  ·have h5 : Below w2.heap.size w2 w6 := H3.out.trans (HK6.out.below (by have := H4.out; omega) (fun _ f => f.elim))
   exact h5.setCell (p := ⟨w2.heap.size, 0, none⟩) (Nat.le_refl _) _
  ·have := HK6.out.size
   have := H4.out
   simp [World.setCell]
   omega
 case done =>
  rintro D ys W hD hS ⟨h1, h3, h4⟩ hKD
  have hys : ys.length = m := by
   have h5 := congrArg List.length hS
   rw [List.length_map, List.length_map, HDL.out] at h5
   exact h5
  rw [hys] at h1
  have hkW : Kept (fun _ => False) w W := HK2.out.step (T := fun q => w2.heap.size ≤ q) ⟨h3.os, h3.tape, h3.output, h3.size, fun q hq hn => h3.block q (by omega)⟩ (fun i hi e => by have := HK2.out.size; omega)
  have hk2W : Kept (fun q => w2.heap.size ≤ q) w2 W := ⟨h3.os, h3.tape, h3.output, h3.size, fun q hq hn => h3.block q (by omega)⟩
  have hq4 : w2.heap[w.heap.size + 1 + 1]? = some (.cells #[.bool false] 4 (0, 0)) := (HK12.out.block _ (heap_lt HQ4.out) (fun f => f)).trans HQ4.out
  have hl4 := heap_lt hq4
  have hW4 : W.heap[w.heap.size + 1 + 1]? = some (.cells #[.bool false] 4 (0, 0)) := (hk2W.block _ hl4 (fun e => by omega)).trans hq4
  obtain ⟨s1, s2, s3, _, _⟩ := HS.out w2 HK12.out
  have l2 := World.block_lt_of_cell? _ _ s2
  have l3 := World.block_lt_of_cell? _ _ s3
  have hrl : r < w.heap.size := HT.out.olt r (.inr (.inl rfl))
  have HS11 : Hid (∀ W', Kept (fun q => q = w.heap.size + 1 + 1) W W' → W'.cell? ⟨w.heap.size + 1, 0, none⟩ = some (.pointer (some ⟨r, 0, none⟩)) ∧ W'.cell? ⟨r, 3, none⟩ = some (.slice ao m c) ∧ W'.cell? ⟨w2.heap.size, 0, none⟩ = some (.int .i64 (m : Int))) := fun W' hW' =>
   ⟨hW'.cell (hk2W.cell s2 (fun e => by have e' : w2.heap.size ≤ w.heap.size + 1 := e; have l2' : w.heap.size + 1 < _ := l2; omega)) (fun e => by have e' : w.heap.size + 1 = w.heap.size + 1 + 1 := e; omega), hW'.cell (hk2W.cell s3 (fun e => by have e' : w2.heap.size ≤ r := e; have l3' : r < _ := l3; omega)) (fun e => by have e' : r = w.heap.size + 1 + 1 := e; omega), hW'.cell h1.cell (fun e => by have e' : w2.heap.size = w.heap.size + 1 + 1 := e; omega)⟩
  have c4 : W.drew.cell? ⟨w.heap.size + 1 + 1, 0, none⟩ = some (.bool false) := (cell_block W _ 0 _ _ _ hW4).trans rfl
  have f4 : W.drew.frozen? ⟨w.heap.size + 1 + 1, 0, none⟩ = false := frozen_block W _ 0 _ _ hW4
  have HK7 : Hid (Kept (fun q => q = w.heap.size + 1 + 1) W (W.drew.setCell ⟨w.heap.size + 1 + 1, 0, none⟩ (.bool true))) := Kept.setCell (S := fun q => q = w.heap.size + 1 + 1) (p := ⟨w.heap.size + 1 + 1, 0, none⟩) ((Kept.refl _ W).drew) (.inr rfl) _
  have HF7 : Hid ((W.drew.setCell ⟨w.heap.size + 1 + 1, 0, none⟩ (.bool true)).heap[w.heap.size + 1 + 1]? = some (.cells #[.bool true] 4 (0, 0))) := set_block W.drew _ _ _ _ _ hW4 _
  have HKD : Hid ((W.drew.setCell ⟨w.heap.size + 1 + 1, 0, none⟩ (.bool true)).heap[D]? = some (.deferred (some []))) := (HK7.out.block D (heap_lt hKD) (fun e => by have e' : D = w.heap.size + 1 + 1 := e; omega)).trans hKD
  have HKF : Hid (Kept (fun _ => False) w (W.drew.setCell ⟨w.heap.size + 1 + 1, 0, none⟩ (.bool true))) := hkW.step HK7.out (fun i hi e => by omega)
  have HDW : Hid (w.heap.size ≤ D ∧ D ≠ w.heap.size + 1 + 1) := ⟨by have := HK2.out.size; omega, by omega⟩
  clear hS h1 h3 h4 hKD hkW hk2W hq4 hW4 s1 s2 s3 l2 l3
  gi_wp2
  refine wpIn_wide.2 ?_
  refine wp_region_noPanic ?_
  refine wp_region_held_drew (S := fun w' => Kept (fun q => q = w.heap.size + 1 + 1) W w') (by kernel_rfl) ((Kept.refl _ _).drew) (fun hHeld => ?_)
  iterate 7
   refine tkn (v := ?_) 0 rfl ?_ ?_; rotate_left 1
   ·intro w hSw; obtain ⟨s1, s2, s3⟩ := HS11.out w hSw; go_simp; try with_reducible rfl
   try simp only [Act.put, tdy]
  refine wpAnyH_ready (rs := [7]) (by kernel_rfl) (by simp) ?_
  refine AllReadyH.cons rfl (fun K hK => ?_) .nil
  go_simp
  refine hK.out _ _ HK7.out (fun hHeld => ?_)
  clear hK K
  try simp only [Act.put, tdy]
  refine wpAnyH_done (by kernel_rfl) ?_ _
  refine NoPanic.normal ?_
  clear hHeld c4 f4
  try rw [show (W.setCell ⟨w.heap.size + 1 + 1, 0, none⟩ (.bool true)).drew = W.drew.setCell ⟨w.heap.size + 1 + 1, 0, none⟩ (.bool true) from rfl]
  generalize W.drew.setCell ⟨w.heap.size + 1 + 1, 0, none⟩ (.bool true) = w7 at *
  gi_wp2
  have c7 : (w7.putObj D (.deferred none)).cell? ⟨w.heap.size + 1 + 1, 0, none⟩ = some (.bool true) := by
   rw [World.cell?_of_block (w := w7) (World.putObj_heap_other (by have := HDW.out; exact fun e => this.2 e.symm)), cell_block _ _ 0 _ _ _ HF7.out]
   rfl
  refine ⟨by simp, .inl ⟨_, _, rfl, run_takeDeferred HKD.out, ?_⟩⟩
  refine ⟨.bool true, ?_, rfl, ?_⟩
  ·simp [results, go_sem, c7]
  ·have hk := HKF.out
   refine ⟨hk.os, hk.tape, hk.output, ?_, fun q hkk hn => (World.putObj_heap_other (by have := HDW.out; omega)).trans (hk.block q hkk hn)⟩
   have := hk.size
   simpa [World.putObj] using this
end Go.Proofs.YtjdbmjkidljhpaaGreatDoor
