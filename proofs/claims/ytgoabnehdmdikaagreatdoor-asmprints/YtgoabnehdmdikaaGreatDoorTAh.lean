/-
  TAh: Ah, Ai, Aj.
-/
import Derived.Test.YtgoabnehdmdikaaGreatDoorTAf
namespace Go.Proofs.YtgoabnehdmdikaaGreatDoor
open Go.RowKit
set_option linter.unusedVariables false
set_option linter.unusedSimpArgs false
set_option maxRecDepth 100000

set_option maxHeartbeats 4000000 in
theorem named_any (L : List Sh) (g t : Nat) (s : ByteArray) (w : World) (hg : w.heap[g]? = some (.cells (tcells L).toArray t (0, 0))) (hL : L.length ≤ 46) :
    Calls Tryz.prog 143 #[.slice (some ⟨g, 0, none⟩) L.length L.length, .string s] w fun e w' => e = .returned (namedV L s) ∧ Kept (fun _ => False) w w' := by
  have HG : Hid (∀ (wr : World) (k : Nat), Kept (fun _ => False) w wr → k < L.length → wr.rangeAt g (k * 4) (L.getD k Sh.none).cells) := fun wr k hk hl =>
    tab_range ((hk.block g (Array.getElem?_eq_some_iff.1 hg).1 (fun f => f)).trans hg) hl
  clear hg
  obtain ⟨N, hn⟩ : ∃ N, L.length = N := ⟨_, rfl⟩
  rw [hn]
  rw [hn] at hL
  have HN2 := hid_of hn
  clear hn
  go_enter Tryz.func143, Tryz.ntmps143
  go_wp2
  go_loopw [10] (fun i wr => ∃ k : Nat, k ≤ N ∧ i = .int .i64 (k : Int) ∧ (∀ j, j < k → (L.getD j Sh.none).nm ≠ s) ∧ Kept (fun _ => False) w wr) (fun i _ => N - (intOf i).toNat)
  case atStart => exact ⟨0, by omega, rfl, fun j hj => absurd hj (by omega), Kept.refl _ _⟩
  case round =>
    obtain ⟨k, hk, rfl, hno, hKe⟩ := hrel
    by_cases hlt : k < N
    · have hr := HG.out wr k hKe (by rw [HN2.out]; exact hlt)
      have HAT : Hid ((L.getD k Sh.none).nm = s → namedV L s = .tuple #[.int .i64 (k : Nat), .bool true]) := fun h => named_at (by rw [HN2.out]; exact hlt) hno h
      have HNO := hid_of hno
      generalize hx : L.getD k Sh.none = x at *
      have HX := hid_of hx
      have HK := hid_of (hKe.alloc (.cells x.cells.toArray 186))
      have hki : (k : Int) < (N : Int) := by omega
      clear hno hKe hx
      obtain ⟨nm, o, ta, gi⟩ := x
      go_wp2_with (refine wpList_load_mid rfl 186 _ rfl g (k * 4) rfl [.string nm, .int .i64 o, .int .i64 ta, .int .i64 gi] _ hr Tryz.underlying186 rfl size24 ?_)
      · have HQ := hid_of (HAT.out (txt_eq (by assumption)))
        go_ret2
        exact ⟨congrArg Ending.returned HQ.out.symm, HK.out⟩
      · rename_i hne
        refine ⟨⟨k + 1, by omega, by go_num, fun j hj => ?_, HK.out⟩, by simp [intOf]; omega⟩
        by_cases e : j = k
        · subst e
          rw [HX.out]
          exact txt_ne hne
        · exact HNO.out j (by omega)
    · obtain rfl : k = N := by omega
      have HK := hid_of hKe
      have HV := hid_of (named_none (L := L) (s := s) (by rw [HN2.out]; exact hno))
      clear hKe hno
      go_wp2
      go_ret2
      exact ⟨congrArg Ending.returned HV.out.symm, HK.out⟩

set_option maxHeartbeats 4000000 in
theorem byname_any (s : ByteArray) (w : World) :
    Calls Tryz.prog 116 #[.string s] w fun e w' => e = .returned (namedV insL s) ∧ Kept (fun _ => False) w w' := by
  go_enter Tryz.func116, Tryz.ntmps116
  go_wp2_with fail
  refine (ins_any _).mono ?_
  rintro e w1 ⟨rfl, hk1⟩
  have HK1 := hid_of hk1
  clear hk1
  obtain ⟨hO, hX, hK⟩ := new_row w1 z57 (tcells insL).toArray 205
  go_upto_region 2 with (first | refine wpList_to rfl (some 4) rfl (.pointer (some ⟨w1.heap.size, 0, none⟩)) (w1.alloc (.cells z57 205)) (by kernel_rfl) ?_ | refine wpList_store_row rfl 205 _ _ rfl w1.heap.size (tcells insL).toArray rfl rfl 205 _ hO size57 (by kernel_rfl) one57 ?_)
  clear hO
  generalize (w1.alloc (.cells z57 205)).setRow w1.heap.size (tcells insL).toArray = w2 at *
  have HK2 := hid_of (HK1.out.trans hK)
  have HR := hid_of (named_any insL w1.heap.size 205 s w2 hX (by decide))
  clear hK HK1
  go_wp2_with fail
  refine HR.out.mono ?_
  rintro e w3 ⟨rfl, hk3⟩
  have HK3 := hid_of (HK2.out.trans hk3)
  clear hk3 HR HK2 hX
  by_cases h : nameIx insL s < insL.length
  · have HV := hid_of (show namedV insL s = _ from if_pos h)
    rw [HV.out]
    generalize nameIx insL s = k at *
    clear h
    go_wp2
    go_ret2
    exact ⟨congrArg Ending.returned HV.out.symm, HK3.out⟩
  · have HV := hid_of (show namedV insL s = _ from if_neg h)
    rw [HV.out]
    clear h
    go_wp2
    go_ret2
    exact ⟨congrArg Ending.returned HV.out.symm, HK3.out⟩

def retB : ByteArray := ⟨#[114, 101, 116]⟩
theorem ret_named : ∃ k : Nat, namedV insL retB = .tuple #[.int .i64 (k : Int), .bool true] ∧ (k : Int) = 18 := ⟨18, by kernel_rfl, rfl⟩
theorem results_rowtt {P : Program} {fn : Func} {p u r : Tmp} {ty : TypeId} (h : fn.results = #[.cell p ty, .tmp u, .tmp r]) (tmps : Array Value) (w : World) (g : Nat) (t : TypeId) (cs : Array Value) (fr : Nat × Nat) (d : TypeDesc) (x y : Value)
    (hp : tmps.getD p undef = .pointer (some ⟨g, 0, none⟩)) (hx : tmps.getD u undef = x) (hy : tmps.getD r undef = y) (hg : w.heap[g]? = some (.cells cs t fr)) (hu : P.underlying ty = some d) (hd : (match d with | .struct _ | .array _ _ => true | _ => false) = true) (hi : (P.info? ty).map (·.size) = some cs.size) :
    (results fn tmps).run P w = .ok (.tuple #[.agg cs, x, y]) w := by
  have hp' : tmps[p]?.getD undef = .pointer (some ⟨g, 0, none⟩) := by simpa using hp
  have hx' : tmps[u]?.getD undef = x := by simpa using hx
  have hy' : tmps[r]?.getD undef = y := by simpa using hy
  simp [results, h, hp', hx', hy', asAddr, run_loadVar_row w g t ty cs fr d hg hu hd hi]
theorem size51' : (Tryz.prog.info? 75).map (·.size) = some 2 := by kernel_rfl
theorem size134' : (Tryz.prog.info? 186).map (·.size) = some 4 := by kernel_rfl
theorem look2 {w : World} {g : Nat} {t : TypeId} {a b : Value} (h : w.heap[g]? = some (.cells #[a, b] t (0, 0))) : w.cell? ⟨g, 0, none⟩ = some a ∧ w.cell? ⟨g, 1, none⟩ = some b ∧ w.frozen? ⟨g, 0, none⟩ = false ∧ w.frozen? ⟨g, 1, none⟩ = false :=
  ⟨cell_block _ _ 0 _ _ _ h, cell_block _ _ 1 _ _ _ h, frozen_block _ _ 0 _ _ h, frozen_block _ _ 1 _ _ h⟩
theorem ret_row : ∃ nm t g, (rowS insL 18).cells.toArray = #[.string nm, .int .i64 0, .int .i64 t, .int .i64 g] := ⟨(rowS insL 18).nm, (rowS insL 18).t, (rowS insL 18).g, by kernel_rfl⟩
theorem ret_named' : namedV insL retB = .tuple #[.int .i64 18, .bool true] := by kernel_rfl
attribute [irreducible] retB
set_option maxHeartbeats 8000000 in
theorem instr_ret (g o c : Nat) (n0 : Int) (w : World) (hP : PsAt w g o [⟨0, retB, n0⟩]) (hc : 1 ≤ c) :
    Calls Tryz.prog 84 #[.slice (some ⟨g, o, none⟩) 1 c] w fun e w' => e = .returned (.tuple #[.agg #[.int .i64 18, .int .i64 0], .string ⟨#[]⟩, .bool true]) ∧ Kept (fun _ => False) w w' := by
  have hka : Kept (fun _ => False) w (w.alloc (.cells #[.int .i64 0, .int .i64 0] 75)) := (Kept.refl _ _).alloc _
  have HB := hid_of (heap_alloc_new w (.cells #[.int .i64 0, .int .i64 0] 75))
  have HP := hid_of (hP.kept hka (fun f => f))
  have HK := hid_of hka
  have hcI : (1 : Int) ≤ (c : Int) := by omega
  clear hka hP
  go_enter Tryz.func84, Tryz.ntmps84
  go_upto_region 1 with fail
  generalize w.alloc (.cells #[.int .i64 0, .int .i64 0] 75) = w1 at *
  obtain ⟨x, hx⟩ : ∃ x, x = w.heap.size := ⟨_, rfl⟩
  rw [← hx] at HB ⊢
  have HXW : Hid (w.heap.size ≤ x) := by rw [hx]; exact Nat.le_refl _
  clear hx
  have p0 : w1.cell? ⟨g, o, none⟩ = some (.int .i64 0) := HP.out 0 _ rfl 0 _ rfl
  have p1 : w1.cell? ⟨g, o + 1, none⟩ = some (.string retB) := HP.out 0 _ rfl 1 _ rfl
  have HN := hid_of (byname_any retB w1)
  rw [ret_named'] at HN
  go_wp2_with fail
  refine HN.out.mono ?_
  rintro e w2 ⟨rfl, hk2⟩
  have HK2 := hid_of (HK.out.trans hk2)
  have hb2 := box_kept hk2 HB.out (fun f => f)
  have HB3 := hid_of (set_block _ _ 0 _ _ _ hb2 (.int .i64 18))
  have HK3 := hid_of (HK2.out.step (kept_set w2 x 0 (.int .i64 18)) (fun i hi e => by have := HXW.out; omega))
  obtain ⟨b0, b1, bf0, bf1⟩ := look2 hb2
  clear hb2 hk2 HN HP HB HK HK2 p0 p1
  go_upto_region 6 with fail
  clear b0 b1 bf0 bf1
  generalize w2.setCell ⟨x, 0, none⟩ (.int .i64 18) = w3 at *
  have HB3' : Hid (w3.heap[x]? = some (.cells #[.int .i64 18, .int .i64 0] 75 (0, 0))) := HB3.out
  clear HB3
  obtain ⟨b0, b1, bf0, bf1⟩ := look2 HB3'.out
  have HO := hid_of (of_any 18 w3 (by decide) (by decide))
  obtain ⟨nm, tt, gg, hrow⟩ := ret_row
  rw [hrow, show isRow insL 18 = true by kernel_rfl] at HO
  clear hrow
  go_wp2_with fail
  refine HO.out.mono ?_
  rintro e w4 ⟨rfl, hk4⟩
  have hka : Kept (fun _ => False) w4 (w4.alloc (.cells #[.string nm, .int .i64 0, .int .i64 tt, .int .i64 gg] 186)) := (Kept.refl _ _).alloc _
  have HBA := hid_of (heap_alloc_new w4 (.cells #[.string nm, .int .i64 0, .int .i64 tt, .int .i64 gg] 186))
  have HB5 := hid_of (box_kept (hk4.trans hka) HB3'.out (fun f => f))
  have HK5 := hid_of (HK3.out.trans (hk4.trans hka))
  clear hka hk4 HO HB3' HK3 b0 b1 bf0 bf1
  go_upto_region 7 with fail
  generalize w4.alloc (.cells #[.string nm, .int .i64 0, .int .i64 tt, .int .i64 gg] 186) = w5 at *
  generalize w4.heap.size = gs at *
  obtain ⟨b0, b1, bf0, bf1⟩ := look2 HB5.out
  have s1 := cell_block _ _ 1 _ _ _ HBA.out
  have hb6 := set_block _ _ 0 _ _ _ HB5.out (.int .i64 18)
  have hb7 := set_block _ _ 1 _ _ _ hb6 (.int .i64 0)
  have HB7 := hid_of hb7
  have HK7 := hid_of (HK5.out.step ((kept_set w5 x 0 (.int .i64 18)).trans (kept_set _ x 1 (.int .i64 0))) (fun i hi e => by have := HXW.out; omega))
  obtain ⟨d0, d1, df0, df1⟩ := look2 hb6
  clear hb6 hb7 HBA
  go_wp2
  all_goals
    refine bodyPost_ret (v := .tuple #[.agg #[.int .i64 18, .int .i64 0], .string ⟨#[]⟩, .bool true]) ?_ rfl ⟨rfl, HK7.out⟩
    exact results_rowtt (by rfl) _ _ x 75 _ (0, 0) _ _ _ (by rfl) (by rfl) (by rfl) HB7.out Tryz.underlying75 rfl size51'
set_option maxHeartbeats 4000000 in
theorem label_none (v : Value) (w : World) : Calls Tryz.prog 86 #[v, .slice none 0 0] w fun e w' => e = .returned (.bool true) ∧ w' = w := by
  go_enter Tryz.func86, Tryz.ntmps86
  go_wp2_with fail
  go_loopw [9] (fun iv wr => iv = .int .i64 0 ∧ wr = w) (fun _ _ => 0)
  case atStart => exact ⟨rfl, rfl⟩
  case round =>
    obtain ⟨rfl, hw⟩ := hrel
    have hw := hw.symm
    subst hw
    go_wp2
    go_ret
    exact ⟨rfl, rfl⟩
set_option maxHeartbeats 4000000 in
theorem last_one (r : Nat) (a0 a1 a3 a4 a5 a6 : Value) (fa : Option Addr) (fc : Nat) (w : World) (hb : w.heap[r]? = some (.cells #[a0, a1, .slice fa 1 fc, a3, a4, a5, a6] 99 (0, 0))) : Calls Tryz.prog 120 #[.pointer (some ⟨r, 0, none⟩)] w fun e w' => e = .returned (.int .i64 0) ∧ w' = w := by
  have c2 := cell_block _ _ 2 _ _ _ hb
  clear hb
  go_enter Tryz.func120, Tryz.ntmps120
  go_wp2
  go_ret
  exact ⟨rfl, rfl⟩
set_option maxHeartbeats 4000000 in
theorem begun_one (r : Nat) (a0 a1 a3 a4 a5 a6 : Value) (fa : Option Addr) (fc : Nat) (w : World) (hb : w.heap[r]? = some (.cells #[a0, a1, .slice fa 1 fc, a3, a4, a5, a6] 99 (0, 0))) : Calls Tryz.prog 83 #[.pointer (some ⟨r, 0, none⟩)] w fun e w' => e = .returned (.bool true) ∧ w' = w := by
  have c2 := cell_block _ _ 2 _ _ _ hb
  clear hb
  go_enter Tryz.func83, Tryz.ntmps83
  go_wp2
  go_ret
  exact ⟨rfl, rfl⟩
end Go.Proofs.YtgoabnehdmdikaaGreatDoor

namespace Go.Proofs.YtgoabnehdmdikaaGreatDoor
open Go.RowKit
set_option linter.unusedVariables false
set_option linter.unusedSimpArgs false
set_option maxRecDepth 100000

set_option maxHeartbeats 16000000 in
theorem add_ins (r : Nat) (ln x0 x1 a b d : Int) (w0 w : World) (h : RdB w0 w r a b d (.slice none 0 0)) :
    Calls Tryz.prog 87 #[.pointer (some ⟨r, 0, none⟩), .int .i64 ln, .agg #[.int .i64 x0, .int .i64 x1], .string ⟨#[]⟩] w fun e w' => (∃ v, e = .returned v) ∧ ∃ cv, RdB w0 w' r a b d cv ∧ w'.ownsRow w0.heap.size 75 2 cv 1 [.int .i64 x0, .int .i64 x1] ∧ Oth w w' := by
  have hka : Kept (fun _ => False) w (w.alloc (.cells #[.int .i64 x0, .int .i64 x1] 75)) := (Kept.refl _ _).alloc _
  obtain ⟨fv, lv, mv, hb, hf⟩ := h.ex
  have HB := hid_of (box_kept hka hb (fun f => f))
  have HF := hid_of (hka.ownsRow hf (fun _ _ f => f))
  have HK := hid_of (h.kept.trans hka)
  have HX := hid_of (heap_alloc_new w (.cells #[.int .i64 x0, .int .i64 x1] 75))
  have HLO := hid_of h.lo
  have HOA := hid_of hka
  have HXG : Hid (w0.heap.size ≤ w.heap.size) := h.kept.size
  have HNX : Hid (fv.ownBlock ≠ some w.heap.size) := fun e => by have := (hf.lt _ e).2; omega
  obtain ⟨gf, cf, hv⟩ := own_at hf (by decide)
  subst hv
  clear hka hb hf h
  go_enter Tryz.func87, Tryz.ntmps87
  go_upto_region 1 with fail
  generalize w.alloc (.cells #[.int .i64 x0, .int .i64 x1] 75) = w1 at *
  generalize w.heap.size = gx at *
  have hKwd : Kept (fun _ => False) w1 w1.drew := (Kept.refl _ _).drew
  have HSM : Hid (∀ w', Kept (fun _ => False) w1 w' → w'.cell? ⟨r, 2, none⟩ = some (.slice (some ⟨gf, 0, none⟩) 1 cf)) := fun w' hw => hw.cell (cell_block _ _ 2 _ _ _ HB.out) (fun f => f)
  refine wp_region_held_drew (S := fun w' => Kept (fun _ => False) w1 w') (by kernel_rfl) ((Kept.refl _ _).drew) (fun hHeld => ?_)
  generalize w1.drew = wd at *
  have HL := hid_of (last_one r _ _ _ _ _ _ (some ⟨gf, 0, none⟩) cf wd (box_kept hKwd HB.out (fun f => f)))
  iterate 6
    refine tkn (v := ?_) 0 rfl ?_ ?_; rotate_left 1
    · intro w hSw; have s0 := HSM.out w hSw; go_simp; try with_reducible rfl
    try simp only [Act.put, tdy]
  refine wpAnyH_ready (rs := [6]) (by kernel_rfl) (by simp) ?_
  refine AllReadyH.cons rfl (fun K hK => ?_) AllReadyH.nil
  go_simp
  refine HL.out.mono ?_
  rintro e w4 ⟨rfl, hw⟩
  have hw := hw.symm
  subst hw
  refine hK.out _ _ hHeld (fun hHeld => ?_)
  clear hK K
  try simp only [Act.put, tdy]
  iterate 1
    refine tkn (v := ?_) 7 rfl ?_ ?_; rotate_left 1
    · intro w hSw; go_simp; try with_reducible rfl
    try simp only [Act.put, tdy]
  refine wpAnyH_ready (rs := [8]) (by kernel_rfl) (by simp) ?_
  refine AllReadyH.cons rfl (fun K hK => ?_) AllReadyH.nil
  go_simp
  refine hK.out _ _ hHeld (fun hHeld => ?_)
  clear hK K
  try simp only [Act.put, tdy]
  refine wpAnyH_done (by kernel_rfl) ?_ _
  have HB2 := hid_of (box_kept hKwd HB.out (fun f => f))
  have HF2 := hid_of (hKwd.ownsRow HF.out (fun _ _ f => f))
  have HK2 := hid_of (HK.out.trans hKwd)
  have HO2 := hid_of (HOA.out.trans hKwd)
  have HX2 := hid_of (box_kept hKwd HX.out (fun f => f))
  clear hHeld HL HSM hKwd HB HF HK HX
  go_upto_region 7 with fail
  have hKwe : Kept (fun _ => False) wd wd.drew := (Kept.refl _ _).drew
  have HGX : Hid (¬ gx = gf) := fun e => HNX.out (by rw [e]; rfl)
  have HSM : Hid (∀ w', Kept (fun q => q = gf) wd w' → w'.cell? ⟨gx, 0, none⟩ = some (.int .i64 x0) ∧ w'.cell? ⟨gx, 1, none⟩ = some (.int .i64 x1)) := fun w' hw =>
    ⟨hw.cell (cell_block _ _ 0 _ _ _ HX2.out) HGX.out, hw.cell (cell_block _ _ 1 _ _ _ HX2.out) HGX.out⟩
  refine wp_region_held_drew (S := fun w' => Kept (fun q => q = gf) wd w') (by kernel_rfl) ((Kept.refl _ _).drew) (fun hHeld => ?_)
  generalize wd.drew = we at *
  obtain ⟨v', w5, hr5, ho, hk0, hk1, hn⟩ := push_ins (World.ownsRow_nil we w0.heap.size 75 2) (.int .i64 x0) (.int .i64 x1) rfl rfl (HK2.out.trans hKwe) (by omega)
  have hk1' : Kept (fun _ => False) we w5 := hk1.mono (fun q _ e => by cases e)
  have hfd := hKwe.ownsRow HF2.out (fun _ _ f => f)
  have l0 : we.cell? ⟨gf, 3, none⟩ = some (.slice none 0 0) := by
    have := hfd.cells (g := gf) rfl 3 _ rfl
    rw [Addr.add_lit, Nat.zero_add] at this
    exact this
  have hf5 := hk1'.ownsRow hfd (fun _ _ f => f)
  have HKS5 := hid_of ((hKwe.trans hk1').mono (T := fun q => q = gf) (fun _ _ f => f.elim))
  have hs := kept_set w5 gf 3 v'
  have HKS6 := hid_of (HKS5.out.setCell (p := ⟨gf, 3, none⟩) (.inr rfl) v')
  have HG1 : Hid (w5.cell? ⟨gf, 3, none⟩ = some (.slice none 0 0) ∧ w5.frozen? ⟨gf, 3, none⟩ = false) := by
    have := hf5.cells (g := gf) rfl 3 _ rfl
    rw [Addr.add_lit, Nat.zero_add] at this
    exact ⟨this, hf5.frozenAt 3⟩
  have hb5 := box_kept (hKwe.trans hk1') HB2.out (fun f => f)
  have hgl : w0.heap.size ≤ gf := (hf5.lt gf rfl).1
  have hrf : ¬ r = gf := fun e => own_box2 hf5 hb5 (by decide) (by rw [e]; rfl)
  have HF6 := hid_of ((hf5.stored 3 v').1)
  have HO6 := hid_of (hs.ownsRow ho (fun q hq e => own_two hf5 ho (by decide) gf rfl (by rw [hq, e])))
  have HB6 := hid_of (box_kept hs hb5 hrf)
  have HK6 := hid_of (hk0.setCell (p := ⟨gf, 3, none⟩) (.inl hgl) v')
  have HOO := hid_of ((HO2.out.trans (hKwe.trans hk1')).oth.trans (hs.othS (fun q e cs t hq => by
    by_cases h54 : t = 78
    · exact .inr h54
    · exact absurd (by rw [e]; rfl) (own_box2 hf5 hq h54))))
  obtain ⟨a2, c2, hv2⟩ := ownsRow_shape ho
  obtain ⟨n2, hn2⟩ : ∃ n, n = 0 + 1 := ⟨_, rfl⟩
  rw [← hn2] at hv2
  subst hv2
  have HR := hid_of hr5
  clear hr5 ho hk0 hk1 hk1' hn hs hn2 hfd hf5 hb5 hgl hrf
  iterate 4
    refine tkn (v := ?_) 0 rfl ?_ ?_; rotate_left 1
    · intro w hSw; go_simp; try with_reducible rfl
    try simp only [Act.put, tdy]
  iterate 1
    refine tkn (v := ?_) 5 rfl ?_ ?_; rotate_left 1
    · intro w hSw; obtain ⟨s0, s1⟩ := HSM.out w hSw; go_simp; try with_reducible rfl
    try simp only [Act.put, tdy]
  refine (fun (hfin : ?G) => ?main) ?fin
  case main =>
    refine wpAnyH_ready (rs := [4, 6]) (by kernel_rfl) (by simp) ?_
    refine AllReadyH.cons rfl (fun K hK => ?_) (AllReadyH.cons rfl (fun K hK => ?_) AllReadyH.nil)
    · have l1 := l0
      go_simp
      refine hK.out _ _ hHeld (fun hHeld => ?_)
      clear hK K
      try simp only [Act.put, tdy]
      clear l1
      refine wpAnyH_ready (rs := [6]) (by kernel_rfl) (by simp) ?_
      refine AllReadyH.cons rfl (fun K hK => ?_) AllReadyH.nil
      go_simp
      refine hK.out _ _ (hHeld.alloc _) (fun hHeld => ?_)
      clear hK K
      try simp only [Act.put, tdy]
      refine wpAnyH_ready (rs := [7]) (by kernel_rfl) (by simp) ?_
      refine AllReadyH.cons rfl (fun K hK => ?_) AllReadyH.nil
      refine step_app rfl (.tmp 60) (.tmp 62) 76 76 rfl _ _ rfl rfl (.slice a2 n2 c2) w5 HR.out ?_
      refine hK.out _ _ HKS5.out (fun hHeld => ?_)
      clear hK K
      try simp only [Act.put, tdy]
      iterate 2
        refine tkn (v := ?_) 8 rfl ?_ ?_; rotate_left 1
        · intro w hSw; go_simp; try with_reducible rfl
        try simp only [Act.put, tdy]
      obtain ⟨g1, gf1⟩ := HG1.out
      refine wpAnyH_ready (rs := [10]) (by kernel_rfl) (by simp) ?_
      refine AllReadyH.cons rfl (fun K hK => ?_) AllReadyH.nil
      go_simp
      refine hK.out _ _ HKS6.out (fun hHeld => ?_)
      clear hK K
      try simp only [Act.put, tdy]
      refine wpAnyH_done (by kernel_rfl) ?_ _
      exact hfin
    · go_simp
      refine hK.out _ _ (hHeld.alloc _) (fun hHeld => ?_)
      clear hK K
      try simp only [Act.put, tdy]
      have l1 : (we.alloc (.cells #[.int .i64 x0, .int .i64 x1] 75)).cell? ⟨gf, 3, none⟩ = some (.slice none 0 0) := ((Kept.refl (fun _ => False) we).alloc _).cell l0 (fun f => f)
      refine wpAnyH_ready (rs := [4]) (by kernel_rfl) (by simp) ?_
      refine AllReadyH.cons rfl (fun K hK => ?_) AllReadyH.nil
      go_simp
      refine hK.out _ _ hHeld (fun hHeld => ?_)
      clear hK K
      try simp only [Act.put, tdy]
      clear l1
      refine wpAnyH_ready (rs := [7]) (by kernel_rfl) (by simp) ?_
      refine AllReadyH.cons rfl (fun K hK => ?_) AllReadyH.nil
      refine step_app rfl (.tmp 60) (.tmp 62) 76 76 rfl _ _ rfl rfl (.slice a2 n2 c2) w5 HR.out ?_
      refine hK.out _ _ HKS5.out (fun hHeld => ?_)
      clear hK K
      try simp only [Act.put, tdy]
      iterate 2
        refine tkn (v := ?_) 8 rfl ?_ ?_; rotate_left 1
        · intro w hSw; go_simp; try with_reducible rfl
        try simp only [Act.put, tdy]
      obtain ⟨g1, gf1⟩ := HG1.out
      refine wpAnyH_ready (rs := [10]) (by kernel_rfl) (by simp) ?_
      refine AllReadyH.cons rfl (fun K hK => ?_) AllReadyH.nil
      go_simp
      refine hK.out _ _ HKS6.out (fun hHeld => ?_)
      clear hK K
      try simp only [Act.put, tdy]
      refine wpAnyH_done (by kernel_rfl) ?_ _
      exact hfin
  refine bodyPost_end (results_none rfl _ _ _) rfl ?_
  exact ⟨⟨_, rfl⟩, _, ⟨⟨_, _, _, HB6.out, HF6.out⟩, HK6.out, HLO.out⟩, HO6.out, HOO.out⟩
end Go.Proofs.YtgoabnehdmdikaaGreatDoor

namespace Go.Proofs.YtgoabnehdmdikaaGreatDoor
open Go.RowKit
set_option linter.unusedVariables false
set_option linter.unusedSimpArgs false
set_option maxRecDepth 100000

theorem RdB.same {w0 w w' : World} {r : Nat} {a b d : Int} {cv : Value} (h : RdB w0 w r a b d cv) (hk : Kept (fun _ => False) w w') : RdB w0 w' r a b d cv := by
  obtain ⟨fv, lv, mv, hb, hf⟩ := h.ex
  exact ⟨⟨fv, lv, mv, box_kept hk hb (fun f => f), hk.ownsRow hf (fun _ _ f => f)⟩, h.kept.trans hk, h.lo⟩
set_option maxHeartbeats 8000000 in
theorem code_ret (r g o c : Nat) (ln n0 a b d : Int) (w0 w : World) (h : RdB w0 w r a b d (.slice none 0 0)) (hP : PsAt w g o [⟨0, retB, n0⟩]) (hc : 1 ≤ c) :
    Calls Tryz.prog 54 #[.pointer (some ⟨r, 0, none⟩), .int .i64 ln, .slice none 0 0, .slice (some ⟨g, o, none⟩) 1 c] w fun e w' => e = .returned (.int .i64 0) ∧ ∃ cv, RdB w0 w' r a b d cv ∧ w'.ownsRow w0.heap.size 75 2 cv 1 [.int .i64 18, .int .i64 0] ∧ Oth w w' := by
  have HH := hid_of h
  have HP := hid_of hP
  have HC := hid_of hc
  have HBG : Hid (Calls Tryz.prog 83 #[.pointer (some ⟨r, 0, none⟩)] w fun e w' => e = .returned (.bool true) ∧ w' = w) := by
    obtain ⟨fv, lv, mv, hb, hf⟩ := h.ex
    obtain ⟨fa, fc, rfl⟩ := ownsRow_shape hf
    exact begun_one r _ _ _ _ _ _ fa fc w hb
  clear h hP hc
  go_enter Tryz.func54, Tryz.ntmps54
  go_wp2_with fail
  refine HBG.out.mono ?_
  rintro e w1 ⟨rfl, hw⟩
  have hw := hw.symm
  subst hw
  clear HBG
  go_wp2_with fail
  refine (instr_ret g o c n0 w HP.out HC.out).mono ?_
  rintro e w2 ⟨rfl, hk2⟩
  have hka : Kept (fun _ => False) w2 (w2.alloc (.cells #[.int .i64 18, .int .i64 0] 75)) := (Kept.refl _ _).alloc _
  have HX := hid_of (heap_alloc_new w2 (.cells #[.int .i64 18, .int .i64 0] 75))
  have HH3 := hid_of (HH.out.same (hk2.trans hka))
  have HO3 := hid_of (hk2.trans hka)
  have HP3 := hid_of (HP.out.kept (hk2.trans hka) (fun f => f))
  clear hk2 hka HH HP
  go_upto_region 4 with fail
  generalize w2.alloc (.cells #[.int .i64 18, .int .i64 0] 75) = w3 at *
  generalize w2.heap.size = gx at *
  go_wp2_with fail
  refine (far_any g o 1 c _ w3 HP3.out rfl (by omega)).mono ?_
  rintro e w4 ⟨rfl, hk4⟩
  have HH4 := hid_of (HH3.out.same hk4)
  have HO4 := hid_of (HO3.out.trans hk4)
  have HX4 := hid_of (box_kept hk4 HX.out (fun f => f))
  clear hk4 HH3 HP3 HX
  go_wp2_with fail
  refine (label_none _ w4).mono ?_
  rintro e w5 ⟨rfl, hw⟩
  have hw := hw.symm
  subst hw
  obtain ⟨b0, b1, _⟩ := look2 HX4.out
  go_wp2_with fail
  refine (add_ins r ln 18 0 a b d w0 w4 HH4.out).mono ?_
  rintro e w5 ⟨⟨v, rfl⟩, cv, h5, h5o, h5t⟩
  have H5 := hid_of h5
  have H5O := hid_of h5o
  have H5T := hid_of (HO4.out.oth.trans h5t)
  clear h5 h5o h5t b0 b1 HX4 HH4
  go_wp2
  go_ret
  exact ⟨rfl, _, H5.out, H5O.out, H5T.out⟩
/-- A line is cut into these pieces. -/
def CutR (s : ByteArray) (qs : List Pc) : Prop := ∀ w, Gl w → Calls Tryz.prog 52 #[.string s] w fun e w' => ∃ g c, e = .returned (.tuple #[.slice (some ⟨g, 0, none⟩) qs.length c, .bool true]) ∧ w'.ownsRow w.heap.size 130 4 (.slice (some ⟨g, 0, none⟩) qs.length c) qs.length (pcells qs) ∧ Kept (fun _ => False) w w'
theorem row_cap {w : World} {B e s g n c : Nat} {xs : List Value} {m : Nat} (h : w.ownsRow B e s (.slice (some ⟨g, 0, none⟩) n c) m xs) : n ≤ c := by
  rcases h.2 with ⟨h1, _⟩ | ⟨g', cap, cur, h1, _, _, hnc, _⟩
  · cases h1
  · cases h1; exact hnc
abbrev funcB : ByteArray := ⟨#[102, 117, 110, 99]⟩
abbrev mainB : ByteArray := ⟨#[109, 97, 105, 110]⟩
set_option maxHeartbeats 8000000 in
theorem line_func (r gm : Nat) (ln n0 n1 a b d : Int) (s mB t1 t2 t3 : ByteArray) (hcut : CutR s [⟨0, funcB, n0⟩, ⟨0, mB, n1⟩, ⟨1, t1, a⟩, ⟨1, t2, b⟩, ⟨1, t3, d⟩]) (w0 w : World) (hR : RdA w r gm) (hk0 : Kept (fun _ => False) w0 w) (hr : w0.heap.size ≤ r) (hm : w0.heap.size ≤ gm) (hG : Gl w) :
    Calls Tryz.prog 38 #[.pointer (some ⟨r, 0, none⟩), .int .i64 ln, .string s] w fun e w' => e = .returned (.int .i64 0) ∧ RdB w0 w' r a b d (.slice none 0 0) ∧ Oth w w' := by
  have HC := hid_of (hcut w hG)
  have HR := hid_of hR
  have HK := hid_of hk0
  have HLO : Hid (w0.heap.size ≤ r ∧ w0.heap.size ≤ gm) := ⟨hr, hm⟩
  have HRL : Hid (r < w.heap.size ∧ gm < w.heap.size) := by
    obtain ⟨clk, h1⟩ := hR.mp
    exact ⟨(Array.getElem?_eq_some_iff.1 hR.box).1, (Array.getElem?_eq_some_iff.1 h1).1⟩
  clear hcut hR hk0 hr hm hG
  go_enter Tryz.func38, Tryz.ntmps38
  go_wp2_with fail
  refine HC.out.mono ?_
  rintro e w2 ⟨g, c, rfl, ho, hk2⟩
  have HP2 := hid_of (psAt_own ho)
  have HCC := hid_of (row_cap ho)
  have HGG := hid_of (ho.lt g rfl).1
  have HR2 := hid_of (HR.out.kept hk2 (fun f => f) (fun f => f))
  have HK2 := hid_of (HK.out.trans hk2)
  have HO2 := hid_of hk2
  clear ho hk2 HC HR HK
  have hl5 : ([⟨0, funcB, n0⟩, ⟨0, mB, n1⟩, ⟨1, t1, a⟩, ⟨1, t2, b⟩, ⟨1, t3, d⟩] : List Pc).length = 5 := rfl
  rw [hl5] at HCC ⊢
  clear hl5
  go_wp2_with fail
  refine (labelled_none g 0 5 c _ w2 HP2.out rfl (by omega) HCC.out (by show ([0, 0] : List Int) ≠ [0, 3]; decide)).mono ?_
  rintro e w3 ⟨rfl, hk3⟩
  have HP3 := hid_of (HP2.out.kept hk3 (fun f => f))
  have HR3 := hid_of (HR2.out.kept hk3 (fun f => f) (fun f => f))
  have HK3 := hid_of (HK2.out.trans hk3)
  have HO3 := hid_of (HO2.out.trans hk3)
  clear hk3 HP2 HR2 HK2
  have p0 : w3.cell? ⟨g, 0, none⟩ = some (.int .i64 0) := HP3.out 0 _ rfl 0 _ rfl
  have p1 : w3.cell? ⟨g, 1, none⟩ = some (.string funcB) := HP3.out 0 _ rfl 1 _ rfl
  have hc5 : (5 : Int) ≤ (c : Int) := by have := HCC.out; omega
  have hc1 : (1 : Int) ≤ (c : Int) := by omega
  have hP4 := HP3.out.drop 1
  have HF := hid_of (function_new r gm g (0 + 1 * 4) (c - 1) mB t1 t2 t3 n1 a b d w0 w3 HR3.out hP4 HK3.out HLO.out.1 HLO.out.2 (by have := HGG.out; have := HRL.out.1; omega) (by have := HGG.out; have := HRL.out.2; omega))
  simp only [Nat.zero_add, Nat.one_mul] at HF
  clear hP4 HP3 HR3 HK3
  go_wp2_with fail
  refine HF.out.mono ?_
  rintro e w4 ⟨rfl, h4, h4t⟩
  have H4 := hid_of h4
  have H4T := hid_of (HO3.out.oth.trans h4t)
  clear h4 h4t HF p0 p1
  go_wp2
  go_ret
  exact ⟨rfl, H4.out, H4T.out⟩
theorem retB_is : retB = ⟨#[114, 101, 116]⟩ := by unfold retB; rfl
set_option maxHeartbeats 8000000 in
theorem line_ret (r : Nat) (ln n0 a b d : Int) (s : ByteArray) (hcut : CutR s [⟨0, ⟨#[114, 101, 116]⟩, n0⟩]) (w0 w : World) (h : RdB w0 w r a b d (.slice none 0 0)) (hG : Gl w) :
    Calls Tryz.prog 38 #[.pointer (some ⟨r, 0, none⟩), .int .i64 ln, .string s] w fun e w' => e = .returned (.int .i64 0) ∧ ∃ cv, RdB w0 w' r a b d cv ∧ w'.ownsRow w0.heap.size 75 2 cv 1 [.int .i64 18, .int .i64 0] ∧ Oth w w' := by
  have HC := hid_of (hcut w hG)
  have HH := hid_of h
  clear hcut h hG
  go_enter Tryz.func38, Tryz.ntmps38
  go_wp2_with fail
  refine HC.out.mono ?_
  rintro e w2 ⟨g, c, rfl, ho, hk2⟩
  have HP2 := hid_of (psAt_own ho)
  have HCC := hid_of (row_cap ho)
  have HH2 := hid_of (HH.out.same hk2)
  have HO2 := hid_of hk2
  clear ho hk2 HC HH
  have hl1 : ([⟨0, ⟨#[114, 101, 116]⟩, n0⟩] : List Pc).length = 1 := rfl
  rw [hl1] at HCC ⊢
  clear hl1
  go_wp2_with fail
  refine (labelled_none g 0 1 c _ w2 HP2.out rfl (by omega) HCC.out (by show ([0] : List Int) ≠ [0, 3]; decide)).mono ?_
  rintro e w3 ⟨rfl, hk3⟩
  have hP3 := HP2.out.kept hk3 (fun f => f)
  have HH3 := hid_of (HH2.out.same hk3)
  have p0 : w3.cell? ⟨g, 0, none⟩ = some (.int .i64 0) := hP3 0 _ rfl 0 _ rfl
  have p1 : w3.cell? ⟨g, 1, none⟩ = some (.string ⟨#[114, 101, 116]⟩) := hP3 0 _ rfl 1 _ rfl
  rw [← retB_is] at hP3
  have HO3 := hid_of (HO2.out.trans hk3)
  have HF := hid_of (code_ret r g 0 c ln n0 a b d w0 w3 HH3.out hP3 HCC.out)
  clear hk3 HP2 HH2 hP3
  go_wp2_with fail
  refine HF.out.mono ?_
  rintro e w4 ⟨rfl, cv, h4, h4o, h4t⟩
  have H4 := hid_of h4
  have H4O := hid_of h4o
  have H4T := hid_of (HO3.out.oth.trans h4t)
  clear h4 h4o h4t HF p0 p1
  go_wp2
  go_ret
  exact ⟨rfl, _, H4.out, H4O.out, H4T.out⟩
set_option maxHeartbeats 4000000 in
theorem settle_none (r : Nat) (a0 a1 a2 a3 a4 a5 : Value) (w : World) (hb : w.heap[r]? = some (.cells #[a0, a1, a2, a3, a4, a5, .slice none 0 0] 99 (0, 0))) :
    Calls Tryz.prog 39 #[.pointer (some ⟨r, 0, none⟩)] w fun e w' => e = .returned (.tuple #[.int .i64 0, .int .i64 0]) ∧ w' = w := by
  have c6 := cell_block _ _ 6 _ _ _ hb
  clear hb
  go_enter Tryz.func39, Tryz.ntmps39
  go_wp2_with fail
  go_loopw [13] (fun iv wr => iv = .int .i64 0 ∧ wr = w) (fun _ _ => 0)
  case atStart => exact ⟨rfl, rfl⟩
  case round =>
    obtain ⟨rfl, hw⟩ := hrel
    have hw := hw.symm
    subst hw
    go_wp2
    refine bodyPost_ret (results_tmp2 rfl _ _ _) rfl ?_
    exact ⟨rfl, rfl⟩
end Go.Proofs.YtgoabnehdmdikaaGreatDoor
