/-
  MintBig: the walk.
-/
import Derived.Test.YtffabihenhejfaaHead
namespace Go.Proofs.Ytffabihenhejfaa
open Go.RowKit
set_option linter.unusedVariables false

/-- So many bytes 0, as 'make' lays them. -/
def zer (n : Nat) : Array Value := madeCells (Value.int .u8 0).cells n

theorem zer_size (n : Nat) : (zer n).size = n := size_madeCells _ n
theorem zer_at (n i : Nat) (h : i < n) : (zer n)[i]? = some (.int .u8 0) := by
  simp [zer, madeCells, h, Value.cells, Nat.mod_one]

theorem make_any (W : World) (l : Nat) (h : l ≤ 140737488355328) : (Instr.makeSlice 25 (.int .i64 (l : Int)) (.int .i64 (l : Int))).run Try.prog W = .ok (.slice (some ⟨W.heap.size, 0, none⟩) l l) (W.alloc (.cells (zer l) 5)) := by
  obtain ⟨i0, hi, hz0, hz1, hz2⟩ := info_parts Try.info5
  have := run_make (P := Try.prog) W 25 5 i0 (.int .u8 0) Try.underlying25 hi hz0 .i64 .i64 (l : Int) (l : Int) (by omega) (by omega) (by rw [hz2]; omega) (by omega)
  simpa [zer, hz1] using this

/-- So many times one byte. -/
def rep (n : Nat) (x : Int) : List Int := List.replicate n x
theorem rep_length (n : Nat) (x : Int) : (rep n x).length = n := by simp [rep]
theorem rep_at (n : Nat) (x : Int) (i : Nat) (h : i < n) : (rep n x).getD i 0 = x := by simp [rep, List.getD, h]

/-- While 'front' is filled: its block, the first k bytes of it. -/
def Filled (W0 wr : World) (b N k : Nat) (x : Int) : Prop :=
  ∃ cur : Array Value, wr.heap[b]? = some (.cells cur 5 (0, 0)) ∧ cur.size = N ∧ (∀ i, i < k → cur[i]? = some (.int .u8 x)) ∧ Kept (fun q => q = b) W0 wr

theorem Filled.cells {W0 wr : World} {b N k : Nat} {x : Int} (h : Filled W0 wr b N k x) (hk : k < N) : (∃ u, wr.cell? ⟨b, k, none⟩ = some u) ∧ wr.frozen? ⟨b, k, none⟩ = false := by
  obtain ⟨cur, h0, h1, h2, h3⟩ := h
  refine ⟨⟨cur[k]'(by omega), ?_⟩, frozen_block _ _ _ _ _ h0⟩
  rw [cell_block _ _ _ _ _ _ h0]
  exact Array.getElem?_eq_getElem (by omega)

theorem Filled.step {W0 wr : World} {b N k : Nat} {x : Int} (h : Filled W0 wr b N k x) (hk : k < N) : Filled W0 (wr.setCell ⟨b, k, none⟩ (.int .u8 x)) b N (k + 1) x := by
  obtain ⟨cur, h0, h1, h2, h3⟩ := h
  refine ⟨_, set_block _ _ _ _ _ _ h0 _, by simp [h1], fun i hi => ?_, h3.trans (kept_set _ _ _ _)⟩
  rw [Array.getElem?_setIfInBounds]
  by_cases e : k = i
  · subst e
    rw [if_pos rfl, if_pos (by omega)]
  · rw [if_neg e]
    exact h2 i (by omega)

theorem Filled.done {W0 wr : World} {b N : Nat} {x : Int} (h : Filled W0 wr b N N x) : ∀ i, i < N → wr.cell? ((⟨b, 0, none⟩ : Addr).add i) = some (.int .u8 ((rep N x).getD i 0)) := by
  obtain ⟨cur, h0, h1, h2, h3⟩ := h
  intro i hi
  rw [rep_at N x i hi, Addr.add_lit, cell_block _ _ _ _ _ _ h0, Nat.zero_add]
  exact h2 i hi

theorem full_facts (N M : Nat) (x : Int) (h : N + M = 4194304) : ∃ L : List Int, rep N x ++ rep M 0 = L ∧ L.length = 4194304 ∧ (0 < N → L.getD 0 0 = x ∧ L.getD (N - 1) 0 = x) ∧ (N < 4194304 → L.getD N 0 = 0 ∧ L.getD 4194303 0 = 0) := by
  refine ⟨_, rfl, by simp [rep_length, h], fun h0 => ⟨?_, ?_⟩, fun h0 => ⟨?_, ?_⟩⟩
  · rw [List.getD, List.getElem?_append_left (by rw [rep_length]; omega)]
    exact rep_at N x 0 h0
  · rw [List.getD, List.getElem?_append_left (by rw [rep_length]; omega)]
    exact rep_at N x (N - 1) (by omega)
  · rw [List.getD, List.getElem?_append_right (by rw [rep_length]; omega), rep_length]
    exact rep_at M 0 _ (by omega)
  · rw [List.getD, List.getElem?_append_right (by rw [rep_length]; omega), rep_length]
    exact rep_at M 0 _ (by omega)

theorem put_ok (l m : List Int) (h : l.length + m.length ≤ 4194304) : St.put (.ok l) m = .ok (l ++ m) := by simp only [St.put, if_pos h]
theorem put_full (l m : List Int) (h : 4194304 < l.length + m.length) : St.put (.ok l) m = .error 2 := by simp only [St.put, if_neg (show ¬ l.length + m.length ≤ 4194304 by omega)]

set_option maxRecDepth 100000 in
set_option maxHeartbeats 1000000 in
/-- Bytes(nil), where there is no room for its number. -/
theorem bytes_nil (a : Nat) (v : Value) (s : St) (k : Int) (w : World) (hw : WS w a v s) (hk : s.put (Mth.form 0) = .error k) :
    Calls Try.prog 34 #[.pointer (some ⟨a, 0, none⟩), .slice none 0 0] w (PutS a v (.error k) w) := by
  have hn := num_s a v s 0 w hw (by decide) (by decide)
  unfold St.num at hn
  rw [if_neg (by decide), hk] at hn
  have HN := hid_of hn
  clear hn hw hk
  go_enter Try.func34, Try.ntmps34
  go_wp2_with fail
  refine HN.out.mono ?_
  rintro e w1 ⟨rfl, v1, hw1, hk1, ho1⟩
  have hraw := hid_of (raw_bad a k none 0 0 w1 hw1.1 hw1.2.1 (by decide))
  have HP := hid_of (PutS.next hk1 ho1 (PutS.same hw1))
  clear HN hw1 hk1 ho1
  go_wp2_with fail
  refine hraw.out.mono ?_
  rintro e w2 ⟨rfl, rfl⟩
  clear hraw
  go_wp2
  go_end0
  exact HP.out

theorem form_pos (u : Int) : 1 ≤ (Mth.form u).length := by
  unfold Mth.form
  split <;> simp

set_option maxRecDepth 100000 in
set_option maxHeartbeats 4000000 in
theorem big_walk (cut more x : Int) (w : World) (c0 : -9223372036854775808 ≤ cut) (c1 : cut ≤ 9223372036854775807) (m0 : -9223372036854775808 ≤ more) (m1 : more ≤ 9223372036854775807) :
    Calls Try.prog 8 #[.int .i64 cut, .int .i64 more, .int .u8 x] w fun e w' => e = .returned (.bool true) ∧ Below w.heap.size w w' := by
  have hrd := round_any cut 4194305 w c0 c1 (by decide) (by decide)
  obtain ⟨N, hN⟩ := Int.eq_ofNat_of_zero_le (Int.emod_nonneg cut (show (4194305 : Int) ≠ 0 by decide))
  have hN1 := Int.emod_lt_of_pos cut (show (0 : Int) < 4194305 by decide)
  rw [hN] at hrd hN1
  have HR := hid_of hrd
  clear hrd hN c0 c1
  have hN2 : N ≤ 4194304 := by omega
  obtain ⟨M, hM⟩ : ∃ M : Nat, N + M = 4194304 := ⟨4194304 - N, by omega⟩
  have HM := hid_of hM
  have mk1 := make_any (w.alloc (.cells #[.slice none 0 0, .int .i64 0] 78)) N (by omega)
  have mk2 := make_any ((w.alloc (.cells #[.slice none 0 0, .int .i64 0] 78)).alloc (.cells (zer N) 5)) M (by omega)
  rw [show (M : Int) = 4194304 - (N : Int) from by omega] at mk2
  clear hM
  have F0 : Filled (((w.alloc (.cells #[.slice none 0 0, .int .i64 0] 78)).alloc (.cells (zer N) 5)).alloc (.cells (zer M) 5)) (((w.alloc (.cells #[.slice none 0 0, .int .i64 0] 78)).alloc (.cells (zer N) 5)).alloc (.cells (zer M) 5)) (w.heap.size + 1) N 0 x :=
    ⟨zer N, by
      rw [Below.heap_alloc _ _ _ (by simp)]
      have := heap_alloc_new (w.alloc (.cells #[.slice none 0 0, .int .i64 0] 78)) (.cells (zer N) 5)
      simpa using this, zer_size N, fun i hi => absurd hi (by omega), Kept.refl _ _⟩
  have W0 : WS (((w.alloc (.cells #[.slice none 0 0, .int .i64 0] 78)).alloc (.cells (zer N) 5)).alloc (.cells (zer M) 5)) w.heap.size (.slice none 0 0) (.ok []) := (wr_new_s w).new (((Kept.refl _ _).alloc _).alloc _)
  have R0 : ∀ i, i < M → (((w.alloc (.cells #[.slice none 0 0, .int .i64 0] 78)).alloc (.cells (zer N) 5)).alloc (.cells (zer M) 5)).cell? ⟨w.heap.size + 2, i, none⟩ = some (.int .u8 0) := by
    intro i hi
    have := heap_alloc_new ((w.alloc (.cells #[.slice none 0 0, .int .i64 0] 78)).alloc (.cells (zer N) 5)) (.cells (zer M) 5)
    rw [cell_block _ _ _ _ _ _ (by simpa using this)]
    exact zer_at M i hi
  have B0 : Below w.heap.size w (((w.alloc (.cells #[.slice none 0 0, .int .i64 0] 78)).alloc (.cells (zer N) 5)).alloc (.cells (zer M) 5)) := ((((Below.refl _ w).alloc (Nat.le_refl _) _).alloc (by simp) _).alloc (by simp; omega) _)
  have HF0 := hid_of F0
  have HW0 := hid_of W0
  have HR0 := hid_of R0
  have HB0 := hid_of B0
  clear F0 W0 R0 B0
  go_enter Try.func8, Try.ntmps8
  go_wp2_with fail
  refine HR.out.mono ?_
  rintro e w1 ⟨rfl, rfl⟩
  go_wp2_with fail
  refine (new_any _).mono ?_
  rintro e w2 ⟨rfl, rfl⟩
  clear HR
  go_wp2
  clear mk1 mk2
  generalize hWW : ((w1.alloc (.cells #[.slice none 0 0, .int .i64 0] 78)).alloc (.cells (zer N) 5)).alloc (.cells (zer M) 5) = W0 at *
  go_loopw [11] (fun i wr => ∃ k : Nat, k ≤ N ∧ i = .int .i64 k ∧ Filled W0 wr (w1.heap.size + 1) N k x) (fun i _ => N - (intOf i).toNat)
  case atStart => exact ⟨0, Nat.zero_le _, rfl, HF0.out⟩
  case round =>
    clear hWW
    obtain ⟨k, hk, rfl, hF⟩ := hrel
    by_cases hlt : k < N
    · obtain ⟨⟨u, hu⟩, hfz⟩ := hF.cells hlt
      have HF := hid_of (hF.step hlt)
      clear hF
      go_wp2
      go_roundw
      case rel => exact ⟨k + 1, by omega, by go_num, HF.out⟩
      case measure => simp [intOf]; omega
    · obtain rfl : k = N := by omega
      have hk0 := hF.choose_spec.2.2.2
      have hws : WS wr w1.heap.size (.slice none 0 0) (.ok []) := HW0.out.kept hk0 (by omega) (fun g hg => by cases hg)
      have raw1 := raw_s w1.heap.size (.slice none 0 0) (.ok []) ⟨w1.heap.size + 1, 0, none⟩ k k (rep k x) wr hws (rep_length k x) (by unfold maxLen; omega) hF.done
      rw [put_ok _ _ (by rw [rep_length]; simpa using hN2), List.nil_append] at raw1
      have HRAW1 := hid_of raw1
      have HF := hid_of hF
      have HK0 := hid_of hk0
      clear raw1 hF hk0 hws hlt hk
      go_wp2_with fail
      refine HRAW1.out.mono ?_
      rintro e wa ⟨rfl, va, hwa, hka, hoa⟩
      have hrest : ∀ i, i < M → wa.cell? ((⟨w1.heap.size + 2, 0, none⟩ : Addr).add i) = some (.int .u8 ((rep M 0).getD i 0)) := by
        intro i hi
        rw [rep_at M 0 i hi, Addr.add_lit, Nat.zero_add]
        refine hka.cell (HK0.out.cell (HR0.out i hi) (by simp)) ?_
        intro h
        rcases h with h | h
        · simp at h
        · cases h
      have hfr : ∀ i, i < k → wa.cell? ((⟨w1.heap.size + 1, 0, none⟩ : Addr).add i) = some (.int .u8 ((rep k x).getD i 0)) := by
        intro i hi
        have := HF.out.done i hi
        rw [Addr.add_lit] at this ⊢
        refine hka.cell this ?_
        intro h
        rcases h with h | h
        · simp at h
        · cases h
      have hsz : w1.heap.size + 1 < wr.heap.size := by
        obtain ⟨cur, hc, _⟩ := HF.out
        exact (Array.getElem?_eq_some_iff.1 hc).1
      have raw2 := raw_s w1.heap.size va _ ⟨w1.heap.size + 2, 0, none⟩ M M (rep M 0) wa hwa (rep_length M 0) (by have := HM.out; unfold maxLen; omega) hrest
      rw [put_ok _ _ (by rw [rep_length, rep_length]; have := HM.out; omega)] at raw2
      obtain ⟨L, hL, hL1, hL2, hL3⟩ := full_facts k M x HM.out
      rw [hL] at raw2
      have HRAW2 := hid_of raw2
      have HB1 : Hid (Below w1.heap.size w1 wa) := (HB0.out.trans (HK0.out.below HB0.out.size (fun q h => by omega))).trans (hka.below (by omega) (fun q h => by rcases h with h | h; omega; cases h))
      have HFR := hid_of hfr
      have HVA : Hid (∀ g, va.ownBlock = some g → wr.heap.size ≤ g) := fun g hg => by rcases hoa g hg with h | h; cases h; exact h
      have HSA := hid_of hka.size
      clear raw2 hL HRAW1 HF0 HW0 HR0 HB0 HF HK0 hrest hfr hwa hka hoa HM
      go_wp2_with fail
      refine HRAW2.out.mono ?_
      rintro e wb ⟨rfl, vb, hwb, hkb, hob⟩
      have hfr : ∀ i, i < k → wb.cell? ((⟨w1.heap.size + 1, 0, none⟩ : Addr).add i) = some (.int .u8 ((rep k x).getD i 0)) := by
        intro i hi
        have := HFR.out i hi
        rw [Addr.add_lit] at this ⊢
        refine hkb.cell this ?_
        intro h
        rcases h with h | h
        · simp at h
        · have := HVA.out _ h; simp at this; omega
      have hd := hid_of (done_s w1.heap.size vb _ wb hwb)
      have HB2 : Hid (Below w1.heap.size w1 wb) := HB1.out.trans (hkb.below HB1.out.size (fun q h => by rcases h with h | h; omega; have := HVA.out q h; omega))
      have HFR2 := hid_of hfr
      have HWB := hid_of hwb
      have HVB : Hid (∀ g, vb.ownBlock = some g → wr.heap.size ≤ g) := fun g hg => by rcases hob g hg with h | h; exact HVA.out g h; have := HSA.out; omega
      clear hfr hwb hkb hob HFR HVA HSA HB1 HRAW2
      go_wp2_with fail
      refine hd.out.mono ?_
      rintro e wc ⟨vc, rfl, howc, hbc⟩
      simp only [St.err, St.bytes] at howc ⊢
      have HB3 : Hid (Below w1.heap.size w1 wc) := HB2.out.trans (hbc.mono HB2.out.size)
      have HWC : Hid (WS wc w1.heap.size vb (.ok L)) := HWB.out.kept (kept_of_below hbc) (by have := HWB.out.size; omega) (fun g hg => by have := (HWB.out.lt g hg).1; omega)
      have HFC : Hid (∀ i, i < k → wc.cell? ((⟨w1.heap.size + 1, 0, none⟩ : Addr).add i) = some (.int .u8 ((rep k x).getD i 0))) := fun i hi => by
        have h := HFR2.out i hi
        rw [hbc.cell (World.block_lt_of_cell? _ _ h)]
        exact h
      obtain ⟨g, cap, rfl⟩ : ∃ g cap, vc = .slice (some ⟨g, 0, none⟩) L.length cap := by
        rcases howc.2 with ⟨_, h⟩ | ⟨g, cap, _, h, _⟩
        · omega
        · exact ⟨g, cap, h⟩
      have hcs := own_cells howc
      clear howc hbc HWB HFR2 HB2 hd
      generalize hT : L.length = T at *
      have t1 : (T : Int) ≤ 4194304 := by omega
      have t2 : 4194304 ≤ (T : Int) := by omega
      have hTb : ((T : Int) != 4194304) = false := by simp; omega
      have HT := hid_of hT
      have HL1 := hid_of hL1
      have c0 : 0 < k → wc.cell? ⟨g, 0, none⟩ = some (.int .u8 x) := fun h => by
        have := hcs 0 (by omega)
        rw [Addr.add_lit, (hL2 h).1] at this
        exact this
      have c1 : 0 < k → wc.cell? ⟨g, k - 1, none⟩ = some (.int .u8 x) := fun h => by
        have := hcs (k - 1) (by omega)
        rw [Addr.add_lit, (hL2 h).2, Nat.zero_add] at this
        exact this
      have c2 : k < T → wc.cell? ⟨g, k, none⟩ = some (.int .u8 0) := fun h => by
        have := hcs k (by omega)
        rw [Addr.add_lit, (hL3 (by omega)).1, Nat.zero_add] at this
        exact this
      have c3 : k < T → wc.cell? ⟨g, T - 1, none⟩ = some (.int .u8 0) := fun h => by
        have := hcs (T - 1) (by omega)
        rw [Addr.add_lit, show T - 1 = 4194303 by omega, (hL3 (by omega)).2, Nat.zero_add] at this
        rw [show T - 1 = 4194303 by omega]
        exact this
      clear hT hL1 hL2 hL3 hcs
      have hxx : (x != x) = false := by simp
      have hrd := round_any more 5 wc m0 m1 (by decide) (by decide)
      have hr0 := Int.emod_nonneg more (show (5 : Int) ≠ 0 by decide)
      have hr1 := Int.emod_lt_of_pos more (show (0 : Int) < 5 by decide)
      generalize more % 5 = r at *
      have HRD := hid_of hrd
      have hLL : L.length = 4194304 := HT.out.trans HL1.out
      have C0 := num_s w1.heap.size vb (.ok L) 7 wc HWC.out (by decide) (by decide)
      unfold St.num at C0
      rw [if_neg (by decide), put_full _ _ (by have := form_pos 7; omega)] at C0
      have C1 := bool_s w1.heap.size vb (.ok L) true wc HWC.out
      rw [put_full _ _ (by simp [hLL])] at C1
      have C2 := raw_s w1.heap.size vb (.ok L) ⟨w1.heap.size + 1, 0, none⟩ k k (rep k x) wc HWC.out (rep_length k x) (by unfold maxLen; omega) HFC.out
      have C2' : Hid (∀ (v : Value) (w : World), WS w w1.heap.size v (St.put (.ok L) (rep k x)) → Calls Try.prog 32 #[.pointer (some ⟨w1.heap.size, 0, none⟩), .string { data := #[] }] w (PutS w1.heap.size v (.error 2) w)) := by
        intro v w hv
        have := text_s w1.heap.size v _ { data := #[] } w hv (by decide)
        rw [St.put_put, put_full _ _ (by rw [List.length_append, List.length_append]; have := form_pos ((ByteArray.mk #[]).size : Int); omega)] at this
        exact this
      have C3 := int_s w1.heap.size vb (.ok L) (-1) wc HWC.out (by decide) (by decide)
      rw [put_full _ _ (by have := form_pos (fold (-1)); omega)] at C3
      have C4 := bytes_nil w1.heap.size vb (.ok L) 2 wc HWC.out (put_full _ _ (by have := form_pos 0; omega))
      have HC0 := hid_of C0
      have HC1 := hid_of C1
      have HC2 := hid_of C2
      have HC3 := hid_of C3
      have HC4 := hid_of C4
      have HBB : Hid (∀ wd, Kept (fun q => q = w1.heap.size ∨ vb.ownBlock = some q) wc wd → Below w1.heap.size w1 wd) := fun wd h => HB3.out.trans (h.below HB3.out.size (fun q h => by rcases h with h | h; omega; have := HVB.out q h; omega))
      clear C0 C1 C2 C3 C4 hrd HT HL1 hLL HWC HFC HB3 HVB m0 m1
      rcases Nat.eq_zero_or_pos k with hk | hk
      · subst hk
        have hkt : 0 < T := by omega
        have d2 := c2 hkt
        have d3 := c3 hkt
        clear c0 c1 c2 c3
        go_wp2_with fail
        refine HRD.out.mono ?_
        rintro e wx ⟨rfl, rfl⟩
        clear HRD
        have hr : r = 0 ∨ r = 1 ∨ r = 2 ∨ r = 3 ∨ r = 4 := by omega
        clear hr0 hr1
        rcases hr with rfl | rfl | rfl | rfl | rfl
        go_wp2_with fail
        refine HC0.out.mono ?_
        rintro e wd ⟨rfl, vd, hwd, hkd, hod⟩
        rotate_left 1
        go_wp2_with fail
        refine HC1.out.mono ?_
        rintro e wd ⟨rfl, vd, hwd, hkd, hod⟩
        rotate_left 1
        go_wp2_with fail
        refine HC2.out.mono ?_
        rintro e we ⟨rfl, ve, hwe, hke, hoe⟩
        have HT2 := hid_of (C2'.out ve we hwe)
        have HKE := hid_of hke
        have HOE := hid_of hoe
        clear hwe hke hoe
        go_wp2_with fail
        refine HT2.out.mono ?_
        intro e wd hp
        obtain ⟨rfl, vd, hwd, hkd, hod⟩ := PutS.next HKE.out HOE.out hp
        clear hp HT2 HKE HOE
        rotate_left 1
        go_wp2_with fail
        refine HC3.out.mono ?_
        rintro e wd ⟨rfl, vd, hwd, hkd, hod⟩
        rotate_left 1
        go_wp2_with fail
        refine HC4.out.mono ?_
        rintro e wd ⟨rfl, vd, hwd, hkd, hod⟩
        rotate_left 1
        all_goals
          have HBD := hid_of (HBB.out wd hkd)
          have hd2 := hid_of (done_s w1.heap.size vd _ wd hwd)
          have HWD := hid_of hwd
          clear HC0 HC1 HC2 C2' HC3 HC4 HBB hwd hkd hod
          go_wp2_with fail
          refine hd2.out.mono ?_
          rintro e wf ⟨vf, rfl, hof, hbf⟩
          simp only [St.err, St.bytes] at hof ⊢
          obtain ⟨of, cf, rfl⟩ := ownsRow_shape hof
          have HBF : Hid (Below w1.heap.size w1 wf) := HBD.out.trans (hbf.mono HBD.out.size)
          have HWF : Hid (WS wf w1.heap.size vd (.error 2)) := HWD.out.kept (kept_of_below hbf) (by have := HWD.out.size; omega) (fun g hg => by have := (HWD.out.lt g hg).1; omega)
          have hnn := hid_of (num_s w1.heap.size vd (.error 2) (-1) wf HWF.out (by decide) (by decide))
          clear hd2 hof hbf HBD HWD
          go_wp2_with fail
          refine hnn.out.mono ?_
          rintro e wg ⟨rfl, vg, hwg, hkg, hog⟩
          have HBG : Hid (Below w1.heap.size w1 wg) := HBF.out.trans (hkg.below HBF.out.size (fun q h => by rcases h with h | h; omega; obtain ⟨_, _, rfl⟩ := HWF.out; cases h))
          have hd3 := hid_of (done_s w1.heap.size vg _ wg hwg)
          clear hnn hwg hkg hog HBF HWF
          go_wp2_with fail
          refine hd3.out.mono ?_
          rintro e wh ⟨vh, rfl, hoh, hbh⟩
          simp only [St.err, St.bytes, St.num, St.fail, if_pos (show (-1 : Int) < 0 by decide)] at hoh ⊢
          obtain ⟨oh, ch, rfl⟩ := ownsRow_shape hoh
          have HBH : Hid (Below w1.heap.size w1 wh) := HBG.out.trans (hbh.mono HBG.out.size)
          have hhd := hid_of (head_any wh)
          clear hd3 hoh hbh HBG
          go_wp2_with fail
          refine hhd.out.mono ?_
          rintro e wi ⟨rfl, hbi⟩
          have HBI : Hid (Below w1.heap.size w1 wi) := HBH.out.trans (hbi.mono HBH.out.size)
          clear hhd hbi HBH
          go_wp2
          go_ret
          exact ⟨rfl, HBI.out⟩
      · have d0 := c0 hk
        have d1 := c1 hk
        have hkI : (0 : Int) < (k : Int) := by omega
        by_cases hkt : k < T
        · have hktI : (k : Int) < (T : Int) := by omega
          have d2 := c2 hkt
          have d3 := c3 hkt
          clear c0 c1 c2 c3
          go_wp2_with fail
          refine HRD.out.mono ?_
          rintro e wx ⟨rfl, rfl⟩
          clear HRD
          have hr : r = 0 ∨ r = 1 ∨ r = 2 ∨ r = 3 ∨ r = 4 := by omega
          clear hr0 hr1
          rcases hr with rfl | rfl | rfl | rfl | rfl
          go_wp2_with fail
          refine HC0.out.mono ?_
          rintro e wd ⟨rfl, vd, hwd, hkd, hod⟩
          rotate_left 1
          go_wp2_with fail
          refine HC1.out.mono ?_
          rintro e wd ⟨rfl, vd, hwd, hkd, hod⟩
          rotate_left 1
          go_wp2_with fail
          refine HC2.out.mono ?_
          rintro e we ⟨rfl, ve, hwe, hke, hoe⟩
          have HT2 := hid_of (C2'.out ve we hwe)
          have HKE := hid_of hke
          have HOE := hid_of hoe
          clear hwe hke hoe
          go_wp2_with fail
          refine HT2.out.mono ?_
          intro e wd hp
          obtain ⟨rfl, vd, hwd, hkd, hod⟩ := PutS.next HKE.out HOE.out hp
          clear hp HT2 HKE HOE
          rotate_left 1
          go_wp2_with fail
          refine HC3.out.mono ?_
          rintro e wd ⟨rfl, vd, hwd, hkd, hod⟩
          rotate_left 1
          go_wp2_with fail
          refine HC4.out.mono ?_
          rintro e wd ⟨rfl, vd, hwd, hkd, hod⟩
          rotate_left 1
          all_goals
            have HBD := hid_of (HBB.out wd hkd)
            have hd2 := hid_of (done_s w1.heap.size vd _ wd hwd)
            have HWD := hid_of hwd
            clear HC0 HC1 HC2 C2' HC3 HC4 HBB hwd hkd hod
            go_wp2_with fail
            refine hd2.out.mono ?_
            rintro e wf ⟨vf, rfl, hof, hbf⟩
            simp only [St.err, St.bytes] at hof ⊢
            obtain ⟨of, cf, rfl⟩ := ownsRow_shape hof
            have HBF : Hid (Below w1.heap.size w1 wf) := HBD.out.trans (hbf.mono HBD.out.size)
            have HWF : Hid (WS wf w1.heap.size vd (.error 2)) := HWD.out.kept (kept_of_below hbf) (by have := HWD.out.size; omega) (fun g hg => by have := (HWD.out.lt g hg).1; omega)
            have hnn := hid_of (num_s w1.heap.size vd (.error 2) (-1) wf HWF.out (by decide) (by decide))
            clear hd2 hof hbf HBD HWD
            go_wp2_with fail
            refine hnn.out.mono ?_
            rintro e wg ⟨rfl, vg, hwg, hkg, hog⟩
            have HBG : Hid (Below w1.heap.size w1 wg) := HBF.out.trans (hkg.below HBF.out.size (fun q h => by rcases h with h | h; omega; obtain ⟨_, _, rfl⟩ := HWF.out; cases h))
            have hd3 := hid_of (done_s w1.heap.size vg _ wg hwg)
            clear hnn hwg hkg hog HBF HWF
            go_wp2_with fail
            refine hd3.out.mono ?_
            rintro e wh ⟨vh, rfl, hoh, hbh⟩
            simp only [St.err, St.bytes, St.num, St.fail, if_pos (show (-1 : Int) < 0 by decide)] at hoh ⊢
            obtain ⟨oh, ch, rfl⟩ := ownsRow_shape hoh
            have HBH : Hid (Below w1.heap.size w1 wh) := HBG.out.trans (hbh.mono HBG.out.size)
            have hhd := hid_of (head_any wh)
            clear hd3 hoh hbh HBG
            go_wp2_with fail
            refine hhd.out.mono ?_
            rintro e wi ⟨rfl, hbi⟩
            have HBI : Hid (Below w1.heap.size w1 wi) := HBH.out.trans (hbi.mono HBH.out.size)
            clear hhd hbi HBH
            go_wp2
            go_ret
            exact ⟨rfl, HBI.out⟩
        · have hktI : decide ((k : Int) < (T : Int)) = false := by simp; omega
          clear c0 c1 c2 c3
          go_wp2_with fail
          refine HRD.out.mono ?_
          rintro e wx ⟨rfl, rfl⟩
          clear HRD
          have hr : r = 0 ∨ r = 1 ∨ r = 2 ∨ r = 3 ∨ r = 4 := by omega
          clear hr0 hr1
          rcases hr with rfl | rfl | rfl | rfl | rfl
          go_wp2_with fail
          refine HC0.out.mono ?_
          rintro e wd ⟨rfl, vd, hwd, hkd, hod⟩
          rotate_left 1
          go_wp2_with fail
          refine HC1.out.mono ?_
          rintro e wd ⟨rfl, vd, hwd, hkd, hod⟩
          rotate_left 1
          go_wp2_with fail
          refine HC2.out.mono ?_
          rintro e we ⟨rfl, ve, hwe, hke, hoe⟩
          have HT2 := hid_of (C2'.out ve we hwe)
          have HKE := hid_of hke
          have HOE := hid_of hoe
          clear hwe hke hoe
          go_wp2_with fail
          refine HT2.out.mono ?_
          intro e wd hp
          obtain ⟨rfl, vd, hwd, hkd, hod⟩ := PutS.next HKE.out HOE.out hp
          clear hp HT2 HKE HOE
          rotate_left 1
          go_wp2_with fail
          refine HC3.out.mono ?_
          rintro e wd ⟨rfl, vd, hwd, hkd, hod⟩
          rotate_left 1
          go_wp2_with fail
          refine HC4.out.mono ?_
          rintro e wd ⟨rfl, vd, hwd, hkd, hod⟩
          rotate_left 1
          all_goals
            have HBD := hid_of (HBB.out wd hkd)
            have hd2 := hid_of (done_s w1.heap.size vd _ wd hwd)
            have HWD := hid_of hwd
            clear HC0 HC1 HC2 C2' HC3 HC4 HBB hwd hkd hod
            go_wp2_with fail
            refine hd2.out.mono ?_
            rintro e wf ⟨vf, rfl, hof, hbf⟩
            simp only [St.err, St.bytes] at hof ⊢
            obtain ⟨of, cf, rfl⟩ := ownsRow_shape hof
            have HBF : Hid (Below w1.heap.size w1 wf) := HBD.out.trans (hbf.mono HBD.out.size)
            have HWF : Hid (WS wf w1.heap.size vd (.error 2)) := HWD.out.kept (kept_of_below hbf) (by have := HWD.out.size; omega) (fun g hg => by have := (HWD.out.lt g hg).1; omega)
            have hnn := hid_of (num_s w1.heap.size vd (.error 2) (-1) wf HWF.out (by decide) (by decide))
            clear hd2 hof hbf HBD HWD
            go_wp2_with fail
            refine hnn.out.mono ?_
            rintro e wg ⟨rfl, vg, hwg, hkg, hog⟩
            have HBG : Hid (Below w1.heap.size w1 wg) := HBF.out.trans (hkg.below HBF.out.size (fun q h => by rcases h with h | h; omega; obtain ⟨_, _, rfl⟩ := HWF.out; cases h))
            have hd3 := hid_of (done_s w1.heap.size vg _ wg hwg)
            clear hnn hwg hkg hog HBF HWF
            go_wp2_with fail
            refine hd3.out.mono ?_
            rintro e wh ⟨vh, rfl, hoh, hbh⟩
            simp only [St.err, St.bytes, St.num, St.fail, if_pos (show (-1 : Int) < 0 by decide)] at hoh ⊢
            obtain ⟨oh, ch, rfl⟩ := ownsRow_shape hoh
            have HBH : Hid (Below w1.heap.size w1 wh) := HBG.out.trans (hbh.mono HBG.out.size)
            have hhd := hid_of (head_any wh)
            clear hd3 hoh hbh HBG
            go_wp2_with fail
            refine hhd.out.mono ?_
            rintro e wi ⟨rfl, hbi⟩
            have HBI : Hid (Below w1.heap.size w1 wi) := HBH.out.trans (hbi.mono HBH.out.size)
            clear hhd hbi HBH
            go_wp2
            go_ret
            exact ⟨rfl, HBI.out⟩
end Go.Proofs.Ytffabihenhejfaa
