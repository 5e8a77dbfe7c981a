import Derived.Test.YtcaadgcfceommaaGreatTKf
namespace Go.Proofs.YtcaadgcfceommaaGreat
open Go.RowKit
set_option linter.unusedVariables false
set_option linter.unusedSimpArgs false
set_option maxRecDepth 100000
structure STB (s : ST) : Prop where
 tk : 0 ≤ s.tk ∧ s.tk ≤ 1000
 gv : 0 ≤ s.gv ∧ s.gv ≤ 1000
 a : s.op = 5 → 0 ≤ s.a ∧ s.a ≤ 1000000
def wantsS (s : ST) : Int := if s.op = 5 then s.a + 1 else s.tk
def behindS (s : ST) (h : Int) : Int := h - s.tk + s.gv
def faultS (s : ST) (h n : Int) : Int := if s.op = 18 ∧ h ≠ s.tk then 138 else if h < wantsS s then 134 else if 256 < behindS s h then 135 else if n ∈ s.nx then 137 else 0
theorem index_any (v : Value) (l : List Int) (x : Int) (w : World) (base : Nat) (h : OwnN w base v l) (hl : l.length ≤ 10000) :
  Calls Tryz.prog 108 #[v, .int .i64 x] w fun e w' => (∃ k : Int, e = .returned (.int .i64 k) ∧ (0 ≤ k ↔ x ∈ l) ∧ -1 ≤ k ∧ k ≤ 10000) ∧ w' = w := by
 obtain ⟨ao, c, rfl⟩ := ownsRow_shape h
 have HC : Hid (∀ i, i < l.length → ∃ g, ao = some ⟨g, 0, none⟩ ∧ w.cell? ⟨g, i, none⟩ = some (.int .i64 (l.getD i 0))) := fun i hi => by
  rcases h.2 with ⟨e, h0⟩ | ⟨g, cap, cur, e, _⟩
  ·omega
  ·cases e
   refine ⟨g, rfl, ?_⟩
   have := h.cells rfl i (.int .i64 (l.getD i 0)) (by simp [ints, List.getD, List.getElem?_eq_getElem hi])
   rwa [Addr.add_lit, Nat.zero_add] at this
 obtain ⟨n, hn⟩ := nmd (l.length)
 rw [← hn] at HC hl ⊢
 have HN := hid_of hn
 clear h hn
 go_enter Tryz.func108, Tryz.ntmps108
 go_wp2
 go_loopw [8] (fun iv wr => ∃ k : Nat, k ≤ n ∧ iv = .int .i64 (k : Int) ∧ wr = w ∧ Hid (x ∉ l.take k)) (fun iv _ => n - (intOf iv).toNat)
 case atStart => exact ⟨0, by omega, rfl, rfl, by simp [Hid]⟩
 case round =>
  obtain ⟨k, hk, rfl, rfl, HT⟩ := hrel
  by_cases hlt : k < n
  ·have hltI : (k : Int) < (n : Int) := by omega
   obtain ⟨g, hao, hc⟩ := HC.out k hlt
   subst hao
   have hkl : k < l.length := by rw [← HN.out]; exact hlt
   have HE : Hid (l[k]? = some (l.getD k 0)) := by simp [Hid, List.getD, List.getElem?_eq_getElem hkl]
   by_cases hx : x = l.getD k 0
   ·have HX := hid_of hx
    have HM : Hid (x ∈ l) := by unfold Hid; rw [hx]; exact List.mem_of_getElem? HE.out
    rw [← hx] at hc
    clear hx
    go_wp2
    go_ret
    exact ⟨⟨k, rfl, ⟨fun _ => HM.out, fun _ => by omega⟩, by omega, by omega⟩, rfl⟩
   ·have hb : (x == l.getD k 0) = false := by simpa using hx
    have HT2 : Hid (x ∉ l.take (k + 1)) := by
     unfold Hid
     rw [List.take_add_one, HE.out]
     intro h
     rcases List.mem_append.1 h with h | h
     ·exact HT.out h
     ·simp at h; exact hx (by simpa using h)
    generalize l.getD k 0 = y at *
    clear hx
    go_wp2
    go_roundw
    case rel => exact ⟨k + 1, by omega, by go_num, trivial, HT2⟩
    case measure => simp [intOf]; omega
  ·have HM : Hid (x ∉ l) := by
    have := HT.out
    rw [List.take_of_length_le (by rw [← HN.out]; omega)] at this
    exact this
   go_wp2
   go_ret
   exact ⟨⟨-1, rfl, ⟨fun h => by omega, fun h => absurd h HM.out⟩, by omega, by omega⟩, rfl⟩
theorem contains_any (v : Value) (l : List Int) (x : Int) (w : World) (base : Nat) (h : OwnN w base v l) (hl : l.length ≤ 10000) :
  Calls Tryz.prog 90 #[v, .int .i64 x] w fun e w' => e = .returned (.bool (decide (x ∈ l))) ∧ w' = w := by
 have HI := hid_of (index_any v l x w base h hl)
 obtain ⟨ao, c, rfl⟩ := ownsRow_shape h
 clear h
 generalize l.length = n at *
 go_enter Tryz.func90, Tryz.ntmps90
 go_wp2_with fail
 refine HI.out.mono ?_
 rintro e w1 ⟨⟨k, rfl, hk, h1, h2⟩, rfl⟩
 have HK : Hid (decide (0 ≤ k) = decide (x ∈ l)) := by unfold Hid; exact decide_eq_decide.2 hk
 clear hk HI
 go_wp2
 go_ret
 exact ⟨by rw [← HK.out]; rfl, rfl⟩
theorem wants_any (s : ST) (hs : STB s) (nv : Value) (w : World) (hone : nv.oneCell' = true) :
  Calls Tryz.prog 105 #[.agg (s.cells nv).toArray] w fun e w' => e = .returned (.int .i64 (wantsS s)) ∧ KF w w' := by
 have ha := hs.a
 obtain ⟨op, a, tk, gv, nx⟩ := s
 simp only at ha
 have HK : Hid (KF w (w.alloc (.cells (ST.cells ⟨op, a, tk, gv, nx⟩ nv).toArray 115))) := (Kept.refl _ _).alloc _
 have hb := heap_alloc_new w (.cells (ST.cells ⟨op, a, tk, gv, nx⟩ nv).toArray 115)
 have c0 := cell_block _ _ 0 _ _ _ hb
 have c1 := cell_block _ _ 1 _ _ _ hb
 have c2 := cell_block _ _ 2 _ _ _ hb
 clear hb hs
 unfold ST.cells at *
 by_cases h5 : op = 5
 ·subst h5
  obtain ⟨h1, h2⟩ := ha rfl
  go_enter Tryz.func105, Tryz.ntmps105
  go_wp2
  go_ret
  exact ⟨rfl, HK.out⟩
 ·have e5 : (op == 5) = false := by simp [h5]
  have HW : Hid (wantsS ⟨op, a, tk, gv, nx⟩ = tk) := if_neg h5
  clear ha
  go_enter Tryz.func105, Tryz.ntmps105
  go_wp2
  go_ret
  exact ⟨by rw [HW.out]; rfl, HK.out⟩
theorem behind_any (s : ST) (hs : STB s) (h : Int) (h0 : 0 ≤ h ∧ h ≤ 1000) (nv : Value) (w : World) (hone : nv.oneCell' = true) :
  Calls Tryz.prog 86 #[.agg (s.cells nv).toArray, .int .i64 h] w fun e w' => e = .returned (.int .i64 (behindS s h)) ∧ KF w w' := by
 have h1 := hs.tk
 have h2 := hs.gv
 obtain ⟨op, a, tk, gv, nx⟩ := s
 simp only at h1 h2
 have HK : Hid (KF w (w.alloc (.cells (ST.cells ⟨op, a, tk, gv, nx⟩ nv).toArray 115))) := (Kept.refl _ _).alloc _
 have hb := heap_alloc_new w (.cells (ST.cells ⟨op, a, tk, gv, nx⟩ nv).toArray 115)
 have c2 := cell_block _ _ 2 _ _ _ hb
 have c3 := cell_block _ _ 3 _ _ _ hb
 clear hb hs
 unfold ST.cells at *
 unfold behindS
 simp only
 go_enter Tryz.func86, Tryz.ntmps86
 go_wp2
 go_ret
 exact ⟨rfl, HK.out⟩
set_option maxHeartbeats 4000000 in
theorem mul64_one (n : Nat) (hn : n ≤ 10000) (w : World) : Calls Tryz.prog 116 #[.int .u64 1, .int .u64 (n : Int)] w fun e w' => e = .returned (.tuple #[.int .u64 0, .int .u64 (n : Int)]) ∧ w' = w := by
 have h1 : bits .and .u64 (n : Int) 4294967295 = (n : Int) := by
  have : n &&& 4294967295 = n := by
   rw [show (4294967295 : Nat) = 2 ^ 32 - 1 by decide, Nat.and_two_pow_sub_one_eq_mod]
   exact Nat.mod_eq_of_lt (by omega)
  have e := u64_and_nat n 4294967295 (by omega) (by decide)
  rw [this] at e
  exact e
 have b1 : bits .and .u64 1 4294967295 = 1 := by decide
 have b0 : bits .and .u64 0 4294967295 = 0 := by decide
 have wn : IntKind.u64.wrap (n : Int) = (n : Int) := by simp [IntKind.wrap, IntKind.signed, IntKind.bits]; omega
 have w0 : IntKind.u64.wrap 0 = 0 := by decide
 have h2 : (n : Int) / 4294967296 = 0 := by omega
 go_enter Tryz.func116, Tryz.ntmps116
 go_wp2
 go_ret2
 exact ⟨rfl, rfl⟩
theorem mul_one (n : Nat) (hn : n ≤ 10000) (w : World) : Calls Tryz.prog 103 #[.int .u64 1, .int .u64 (n : Int)] w fun e w' => e = .returned (.tuple #[.int .u64 0, .int .u64 (n : Int)]) ∧ w' = w := by
 have HM := hid_of (fun W => mul64_one n hn W)
 go_enter Tryz.func103, Tryz.ntmps103
 go_wp2_with fail
 refine (HM.out _).mono ?_
 rintro e w1 ⟨rfl, rfl⟩
 go_wp2
 go_ret2
 exact ⟨rfl, rfl⟩
def zint (n : Nat) : Array Value := madeCells (Value.int .i64 0).cells n
theorem zint_size (n : Nat) : (zint n).size = n := size_madeCells _ n
theorem zint_at (n i : Nat) (h : i < n) : (zint n)[i]? = some (.int .i64 0) := by simp [zint, madeCells, h, Value.cells, Nat.mod_one]
theorem makeInt (W : World) (l : Nat) (h : l ≤ 10000) : (Instr.makeSlice 30 (.int .i64 (l : Int)) (.int .i64 (l : Int))).run Tryz.prog W = .ok (.slice (some ⟨W.heap.size, 0, none⟩) l l) (W.alloc (.cells (zint l) 3)) := by
 obtain ⟨i0, hi, hz0, hz1, hz2⟩ := info_parts Tryz.info3
 have := run_make (P := Tryz.prog) W 30 3 i0 _ Tryz.underlying30 hi hz0 .i64 .i64 (l : Int) (l : Int) (by omega) (by omega) (by rw [hz2]; omega) (by omega)
 simpa [zint, hz1] using this
theorem info3size : (Tryz.prog.info? 3).map (·.size) = some 1 := by kernel_rfl
structure RpK (w wr : World) (g n k : Nat) (x : Int) : Prop where
 row : ∃ cur : Array Value, wr.heap[g]? = some (.cells cur 3 (0, 0)) ∧ cur.size = n ∧ ∀ i, i < k → cur[i]? = some (.int .i64 x)
 kept : KF w wr
 low : w.heap.size ≤ g
theorem RpK.copy {w wr : World} {g n k : Nat} {x : Int} (h : RpK w wr g n k x) (a : Addr) (sL sC o d dC : Nat) (m : Nat) (hm : Nat.min sL d = m) (hsrc : ∀ j, j < m → wr.cell? (a.add j) = some (.int .i64 x)) (hok : o = k) (hod : o + d = n) (ty : TypeId) :
  ∃ W', (Builtin.copy_ #[30, 30] ty #[.slice (some ⟨g, o, none⟩) d dC, .slice (some a) sL sC]).run Tryz.prog wr = .ok (goInt (m : Int)) W' ∧ RpK w W' g n (k + m) x := by
 obtain ⟨cur, hc, hs, hat⟩ := h.row
 have hr := run_copy_row (P := Tryz.prog) wr 30 30 ty 3 g o d dC a sL sC cur 3 (List.replicate m (.int .i64 x)) Tryz.underlying30 info3size hc (by rw [List.length_replicate]; exact hm.symm) (fun j v hj => by
  have hj2 := (List.getElem?_eq_some_iff.1 hj).1
  rw [List.length_replicate] at hj2
  rw [List.getElem?_replicate, if_pos hj2] at hj
  cases hj
  exact hsrc j hj2) (by rw [List.length_replicate]; have := Nat.min_le_right sL d; have : Nat.min sL d ≤ d := this; omega) (fun v hv => by rw [List.eq_of_mem_replicate hv]; rfl)
 rw [List.length_replicate] at hr
 have hmd : m ≤ d := by have : Nat.min sL d ≤ d := Nat.min_le_right sL d; omega
 refine ⟨_, hr, ⟨⟨_, setRow_heap _ _ _ _ _ _ hc, ?_, fun i hi => ?_⟩, h.kept.step (kept_row _ _ _) (fun i hi e => by have := h.low; omega), h.low⟩⟩
 ·simp; omega
 ·subst hok
  by_cases hio : i < o
  ·have := hat i hio
   rw [List.getElem?_toArray, List.append_assoc, List.getElem?_append_left (by simp; omega), List.getElem?_take, if_pos hio]
   simpa using this
  ·rw [List.getElem?_toArray, List.append_assoc, List.getElem?_append_right (by simp; omega), List.getElem?_append_left (by simp; omega), List.getElem?_replicate, if_pos (by simp; omega)]
theorem RpK.same {w wr w' : World} {g n k : Nat} {x : Int} (h : RpK w wr g n k x) (hk : KF wr w') : RpK w w' g n k x := by
 obtain ⟨cur, hc, r⟩ := h.row
 exact ⟨⟨cur, box_kept hk hc id, r⟩, h.kept.trans hk, h.low⟩
theorem RpK.at {w wr : World} {g n k : Nat} {x : Int} (h : RpK w wr g n k x) (j : Nat) (hj : j < k) : wr.cell? ⟨g, j, none⟩ = some (.int .i64 x) := by
 obtain ⟨cur, hc, _, r⟩ := h.row
 rw [cell_block _ _ _ _ _ _ hc]
 exact r j hj
theorem RpK.done {w wr : World} {g n : Nat} {x : Int} (h : RpK w wr g n n x) (hn : n ≤ 10000) : OwnN wr w.heap.size (.slice (some ⟨g, 0, none⟩) n n) (List.replicate n x) := by
 obtain ⟨cur, hc, hs, hat⟩ := h.row
 unfold OwnN
 rw [List.length_replicate]
 refine ⟨by simp [ints], .inr ⟨g, n, cur, rfl, h.low, hc, by omega, by unfold maxLen; omega, by omega, ?_⟩⟩
 apply List.ext_getElem?
 intro i
 rw [List.getElem?_take]
 by_cases hi : i < n
 ·rw [if_pos (by omega)]
  have := hat i hi
  simp [ints, hi]
  simpa using this
 ·rw [if_neg (by omega)]
  simp [ints, hi]
set_option maxHeartbeats 4000000 in
theorem repeat_any (g1 : Nat) (x : Int) (n : Nat) (w : World) (h : w.heap[g1]? = some (.cells #[.int .i64 x] 3 (0, 0))) (hn : 1 ≤ n) (hl : n ≤ 10000) :
  Calls Tryz.prog 82 #[.slice (some ⟨g1, 0, none⟩) 1 1, .int .i64 (n : Int)] w fun e w' => ∃ g, e = .returned (.slice (some ⟨g, 0, none⟩) n n) ∧ OwnN w' w.heap.size (.slice (some ⟨g, 0, none⟩) n n) (List.replicate n x) ∧ KF w w' := by
 have HM := hid_of (fun W => mul_one n hl W)
 have hkA : KF w (w.alloc (.cells (zint n) 3)) := (Kept.refl _ _).alloc _
 have h0 : RpK w (w.alloc (.cells (zint n) 3)) w.heap.size n 0 x := ⟨⟨_, heap_alloc_new w _, zint_size n, fun i hi => absurd hi (by omega)⟩, hkA, Nat.le_refl _⟩
 obtain ⟨W1, hc1, h1⟩ := h0.copy ⟨g1, 0, none⟩ 1 1 0 n n 1 (by show min 1 n = 1; omega) (fun j hj => by
  have : j = 0 := by omega
  subst this
  rw [Addr.add_lit, cell_block _ _ _ _ _ _ (box_kept hkA h id)]
  rfl) rfl (by omega) 3
 have hmk := makeInt w n hl
 have hn0 : (1 : Int) ≤ (n : Int) := by omega
 have wn : IntKind.u64.wrap (n : Int) = (n : Int) := by simp [IntKind.wrap, IntKind.signed, IntKind.bits]; omega
 have H1 : Hid (RpK w W1 w.heap.size n 1 x) := h1
 have HMK := hid_of hmk
 have HC1 := hid_of hc1
 clear h hkA h0 h1 hmk hc1
 go_enter Tryz.func82, Tryz.ntmps82
 go_wp2_with fail
 refine (HM.out _).mono ?_
 rintro e w2 ⟨rfl, hw⟩
 have hw := hw.symm
 subst hw
 have hmk := HMK.out
 have hcp := HC1.out
 go_wp2
 clear hmk hcp HM HMK HC1
 generalize hgh : w.heap.size = gh at *
 have HGH := hid_of hgh
 clear hgh
 go_loopw [8] (fun kv wr => ∃ k : Nat, 1 ≤ k ∧ k ≤ n ∧ kv = .int .i64 (k : Int) ∧ Hid (RpK w wr gh n k x)) (fun kv _ => n - (intOf kv).toNat)
 case atStart => exact ⟨1, by omega, hn, rfl, H1⟩
 case round =>
  clear H1
  obtain ⟨k, hk1, hk, rfl, HR⟩ := hrel
  by_cases hlt : k < n
  ·have hltI : (k : Int) < (n : Int) := by omega
   have hne : n ≠ k := by omega
   have hd := HR.out.same ((Kept.refl (fun _ => False) wr).drew)
   obtain ⟨m, hm⟩ := nmd (Nat.min k (n - k))
   obtain ⟨W2, hc2, h2⟩ := hd.copy ⟨gh, 0, none⟩ k n k (n - k) (n - k) m hm.symm (fun j hj => by
    rw [Addr.add_lit, Nat.zero_add]
    exact hd.at j (by have : Nat.min k (n - k) ≤ k := Nat.min_le_left _ _; omega)) rfl (by omega) 3
   have HCP := hid_of hc2
   have H2 := hid_of h2
   have HMM : Hid (1 ≤ m ∧ k + m ≤ n) := by
    have h1 : Nat.min k (n - k) ≤ n - k := Nat.min_le_right _ _
    have h2 : 1 ≤ min k (n - k) := by omega
    have h3 : min k (n - k) = Nat.min k (n - k) := rfl
    exact ⟨by omega, by omega⟩
   clear hd hm hc2 h2 HR
   go_upto_region 9 with fail
   obtain ⟨hm1, hm2⟩ := HMM.out
   have hwk : IntKind.i64.wrap ((k : Int) + (m : Int)) = ((k + m : Nat) : Int) := by simp [IntKind.wrap, IntKind.signed, IntKind.bits]; omega
   refine wp_region_held_drew (S := fun w' => True) (by kernel_rfl) trivial (fun hHeld => ?_)
   generalize wr.drew = wd at *
   iterate 7
    refine tkn (v := ?_) 0 rfl ?_ ?_; rotate_left 1
    ·intro w hSw; go_simp; try with_reducible rfl
    try simp only [Act.put, tdy]
   have hcp := HCP.out
   refine rdy 7 rfl (fun K hK => ?_)
   go_simp
   refine hK.out _ _ trivial (fun hHeld => ?_)
   clear hK K
   try simp only [Act.put, tdy]
   clear hcp
   iterate 2
    refine tkn (v := ?_) 8 rfl ?_ ?_; rotate_left 1
    ·intro w hSw; go_simp; try with_reducible rfl
    try simp only [Act.put, tdy]
   refine wpAnyH_done (by kernel_rfl) ?_ _
   go_wp2
   go_roundw
   case rel => exact ⟨k + m, by omega, by omega, rfl, H2⟩
   case measure => simp [intOf]; omega
  ·have e : k = n := by omega
   subst e
   have HK := hid_of HR.out.kept
   have HO := hid_of (HR.out.done hl)
   rw [HGH.out] at HO
   clear HR
   go_wp2
   go_ret
   exact ⟨gh, rfl, by rw [HGH.out]; exact HO.out, HK.out⟩
set_option maxHeartbeats 8000000 in
theorem fault_any (s : ST) (hs : STB s) (h n : Int) (h0 : 0 ≤ h ∧ h ≤ 1000) (nv : Value) (w : World) (base : Nat) (hnv : OwnN w base nv s.nx) (hnl : s.nx.length ≤ 10000) :
  Calls Tryz.prog 85 #[.agg (s.cells nv).toArray, .int .i64 h, .int .i64 n] w fun e w' => e = .returned (.int .i64 (faultS s h n)) ∧ KF w w' := by
 have HCO : Hid (∀ W, KF w W → Calls Tryz.prog 90 #[nv, .int .i64 n] W fun e w' => e = .returned (.bool (decide (n ∈ s.nx))) ∧ w' = W) := fun W hW => contains_any nv s.nx n W base (hW.ownsRow hnv (fun _ _ f => f)) hnl
 obtain ⟨ao, c, rfl⟩ := ownsRow_shape hnv
 have HWA := hid_of (fun W => wants_any s hs (.slice ao s.nx.length c) W rfl)
 have HBE := hid_of (fun W => behind_any s hs h h0 (.slice ao s.nx.length c) W rfl)
 obtain ⟨op, a, tk, gv, nx⟩ := s
 simp only at HCO HWA HBE ⊢
 generalize hln : nx.length = ln at *
 unfold ST.cells at *
 simp only at HWA HBE ⊢
 have HK : Hid (KF w (w.alloc (.cells #[.int .i64 op, .int .i64 a, .int .i64 tk, .int .i64 gv, .slice ao ln c] 115))) := (Kept.refl _ _).alloc _
 have hb := heap_alloc_new w (.cells #[.int .i64 op, .int .i64 a, .int .i64 tk, .int .i64 gv, .slice ao ln c] 115)
 have HBX := hid_of hb
 have c0 := cell_block _ _ 0 _ _ _ hb
 have c1 := cell_block _ _ 1 _ _ _ hb
 have c2 := cell_block _ _ 2 _ _ _ hb
 have c3 := cell_block _ _ 3 _ _ _ hb
 have c4 := cell_block _ _ 4 _ _ _ hb
 clear hb hs hnv hln
 by_cases hA : op = 18 ∧ h ≠ tk
 ·obtain ⟨rfl, hne⟩ := hA
  have HF : Hid (faultS ⟨18, a, tk, gv, nx⟩ h n = 138) := by unfold Hid faultS; rw [if_pos ⟨rfl, hne⟩]
  have e1 : (h != tk) = true := by simp; exact hne
  clear HCO HWA HBE
  go_enter Tryz.func85, Tryz.ntmps85
  go_wp2
  go_ret
  exact ⟨by rw [HF.out]; rfl, HK.out⟩
 ·have HA := hid_of hA
  by_cases h18 : op = 18
  ·subst h18
   have e : h = tk := by
    by_cases e : h = tk
    ·exact e
    ·exact absurd ⟨rfl, e⟩ hA
   subst e
   clear hA
   by_cases hw : h < wantsS ⟨18, a, h, gv, nx⟩
   ·have HF : Hid (faultS ⟨18, a, h, gv, nx⟩ h n = 134) := by unfold Hid faultS; rw [if_neg HA.out, if_pos hw]
    generalize wantsS ⟨18, a, h, gv, nx⟩ = ws at *
    go_enter Tryz.func85, Tryz.ntmps85
    go_wp2_with fail
    refine (HWA.out _).mono ?_
    rintro e w1 ⟨rfl, hk1⟩
    have HK1 := hid_of (HK.out.trans hk1)
    clear hk1 c0 c1 c2 c3 c4 HWA HBE HCO
    go_wp2
    go_ret
    exact ⟨by rw [HF.out]; rfl, HK1.out⟩
   ·have hwn : ¬ (h < wantsS ⟨18, a, h, gv, nx⟩) := hw
    by_cases hb : 256 < behindS ⟨18, a, h, gv, nx⟩ h
    ·have HF : Hid (faultS ⟨18, a, h, gv, nx⟩ h n = 135) := by unfold Hid faultS; rw [if_neg HA.out, if_neg hw, if_pos hb]
     generalize wantsS ⟨18, a, h, gv, nx⟩ = ws at *
     generalize behindS ⟨18, a, h, gv, nx⟩ h = bs at *
     go_enter Tryz.func85, Tryz.ntmps85
     go_wp2_with fail
     refine (HWA.out _).mono ?_
     rintro e w1 ⟨rfl, hk1⟩
     have HK1 := hid_of (HK.out.trans hk1)
     have hb1 := box_kept hk1 HBX.out id
     have d0 := cell_block _ _ 0 _ _ _ hb1
     have d1 := cell_block _ _ 1 _ _ _ hb1
     have d2 := cell_block _ _ 2 _ _ _ hb1
     have d3 := cell_block _ _ 3 _ _ _ hb1
     have d4 := cell_block _ _ 4 _ _ _ hb1
     clear hb1 hk1 c0 c1 c2 c3 c4 HWA HCO
     go_wp2_with fail
     refine (HBE.out _).mono ?_
     rintro e w2 ⟨rfl, hk2⟩
     have HK2 := hid_of (HK1.out.trans hk2)
     clear hk2 d0 d1 d2 d3 d4 HBE HK1
     go_wp2
     go_ret
     exact ⟨by rw [HF.out]; rfl, HK2.out⟩
    ·have HF : Hid (faultS ⟨18, a, h, gv, nx⟩ h n = if decide (n ∈ nx) = true then 137 else 0) := by unfold Hid faultS; rw [if_neg HA.out, if_neg hw, if_neg hb]; simp
     generalize decide (n ∈ nx) = bn at *
     generalize wantsS ⟨18, a, h, gv, nx⟩ = ws at *
     generalize behindS ⟨18, a, h, gv, nx⟩ h = bs at *
     cases bn
     all_goals
      go_enter Tryz.func85, Tryz.ntmps85
      go_wp2_with fail
      refine (HWA.out _).mono ?_
      rintro e w1 ⟨rfl, hk1⟩
      have HK1 := hid_of (HK.out.trans hk1)
      have hb1 := box_kept hk1 HBX.out id
      have HB1 := hid_of hb1
      have d0 := cell_block _ _ 0 _ _ _ hb1
      have d1 := cell_block _ _ 1 _ _ _ hb1
      have d2 := cell_block _ _ 2 _ _ _ hb1
      have d3 := cell_block _ _ 3 _ _ _ hb1
      have d4 := cell_block _ _ 4 _ _ _ hb1
      clear hb1 hk1 c0 c1 c2 c3 c4 HWA
      go_wp2_with fail
      refine (HBE.out _).mono ?_
      rintro e w2 ⟨rfl, hk2⟩
      have HK2 := hid_of (HK1.out.trans hk2)
      have HC2 := hid_of (HCO.out _ HK2.out)
      have d4 := cell_block _ _ 4 _ _ _ (box_kept hk2 HB1.out id)
      clear hk2 d0 d1 d2 d3 HBE HK1 HCO
      go_wp2_with fail
      refine HC2.out.mono ?_
      rintro e w3 ⟨rfl, hw3⟩
      have hw3 := hw3.symm
      subst hw3
      clear HC2 d4
      go_wp2
      go_ret
      exact ⟨by rw [HF.out]; rfl, HK2.out⟩
  ·have e18 : (op == 18) = false := by simp [h18]
   clear hA
   by_cases hw : h < wantsS ⟨op, a, tk, gv, nx⟩
   ·have HF : Hid (faultS ⟨op, a, tk, gv, nx⟩ h n = 134) := by unfold Hid faultS; rw [if_neg HA.out, if_pos hw]
    generalize wantsS ⟨op, a, tk, gv, nx⟩ = ws at *
    go_enter Tryz.func85, Tryz.ntmps85
    go_wp2_with fail
    refine (HWA.out _).mono ?_
    rintro e w1 ⟨rfl, hk1⟩
    have HK1 := hid_of (HK.out.trans hk1)
    clear hk1 c0 c1 c2 c3 c4 HWA HBE HCO
    go_wp2
    go_ret
    exact ⟨by rw [HF.out]; rfl, HK1.out⟩
   ·have hwn : ¬ (h < wantsS ⟨op, a, tk, gv, nx⟩) := hw
    by_cases hb : 256 < behindS ⟨op, a, tk, gv, nx⟩ h
    ·have HF : Hid (faultS ⟨op, a, tk, gv, nx⟩ h n = 135) := by unfold Hid faultS; rw [if_neg HA.out, if_neg hw, if_pos hb]
     generalize wantsS ⟨op, a, tk, gv, nx⟩ = ws at *
     generalize behindS ⟨op, a, tk, gv, nx⟩ h = bs at *
     go_enter Tryz.func85, Tryz.ntmps85
     go_wp2_with fail
     refine (HWA.out _).mono ?_
     rintro e w1 ⟨rfl, hk1⟩
     have HK1 := hid_of (HK.out.trans hk1)
     have hb1 := box_kept hk1 HBX.out id
     have d0 := cell_block _ _ 0 _ _ _ hb1
     have d1 := cell_block _ _ 1 _ _ _ hb1
     have d2 := cell_block _ _ 2 _ _ _ hb1
     have d3 := cell_block _ _ 3 _ _ _ hb1
     have d4 := cell_block _ _ 4 _ _ _ hb1
     clear hb1 hk1 c0 c1 c2 c3 c4 HWA HCO
     go_wp2_with fail
     refine (HBE.out _).mono ?_
     rintro e w2 ⟨rfl, hk2⟩
     have HK2 := hid_of (HK1.out.trans hk2)
     clear hk2 d0 d1 d2 d3 d4 HBE HK1
     go_wp2
     go_ret
     exact ⟨by rw [HF.out]; rfl, HK2.out⟩
    ·have HF : Hid (faultS ⟨op, a, tk, gv, nx⟩ h n = if decide (n ∈ nx) = true then 137 else 0) := by unfold Hid faultS; rw [if_neg HA.out, if_neg hw, if_neg hb]; simp
     generalize decide (n ∈ nx) = bn at *
     generalize wantsS ⟨op, a, tk, gv, nx⟩ = ws at *
     generalize behindS ⟨op, a, tk, gv, nx⟩ h = bs at *
     cases bn
     all_goals
      go_enter Tryz.func85, Tryz.ntmps85
      go_wp2_with fail
      refine (HWA.out _).mono ?_
      rintro e w1 ⟨rfl, hk1⟩
      have HK1 := hid_of (HK.out.trans hk1)
      have hb1 := box_kept hk1 HBX.out id
      have HB1 := hid_of hb1
      have d0 := cell_block _ _ 0 _ _ _ hb1
      have d1 := cell_block _ _ 1 _ _ _ hb1
      have d2 := cell_block _ _ 2 _ _ _ hb1
      have d3 := cell_block _ _ 3 _ _ _ hb1
      have d4 := cell_block _ _ 4 _ _ _ hb1
      clear hb1 hk1 c0 c1 c2 c3 c4 HWA
      go_wp2_with fail
      refine (HBE.out _).mono ?_
      rintro e w2 ⟨rfl, hk2⟩
      have HK2 := hid_of (HK1.out.trans hk2)
      have HC2 := hid_of (HCO.out _ HK2.out)
      have d4 := cell_block _ _ 4 _ _ _ (box_kept hk2 HB1.out id)
      clear hk2 d0 d1 d2 d3 HBE HK1 HCO
      go_wp2_with fail
      refine HC2.out.mono ?_
      rintro e w3 ⟨rfl, hw3⟩
      have hw3 := hw3.symm
      subst hw3
      clear HC2 d4
      go_wp2
      go_ret
      exact ⟨by rw [HF.out]; rfl, HK2.out⟩
theorem getD_mem {l : List Int} {i : Nat} (h : i < l.length) : l.getD i 0 ∈ l := by
 simp [List.getD, List.getElem?_eq_getElem h]
theorem swp_mem {l : List Int} {i j : Nat} (hi : i < l.length) (hj : j < l.length) {x : Int} (h : x ∈ swp l i j) : x ∈ l := by
 unfold swp at h
 rcases List.mem_or_eq_of_mem_set h with h | rfl
 ·rcases List.mem_or_eq_of_mem_set h with h | rfl
  ·exact h
  ·exact getD_mem hj
 ·exact getD_mem hi
theorem upL_mem : ∀ (f : Nat) (l : List Int) (j : Nat) (x : Int), j < l.length → x ∈ upL f l j → x ∈ l
 | 0, l, j, x, _, h => h
 | f + 1, l, j, x, hj, h => by
  rw [upL] at h
  split at h
  ·exact h
  ·exact swp_mem (by omega) hj (upL_mem f _ _ x (by rw [swp_len]; omega) h)
theorem upL_len : ∀ (f : Nat) (l : List Int) (j : Nat), (upL f l j).length = l.length
 | 0, l, j => rfl
 | f + 1, l, j => by
  rw [upL]
  split
  ·rfl
  ·rw [upL_len, swp_len]
theorem lesser_lt {l : List Int} {j n : Nat} (h : j < n) : lesser l j n < n := by
 unfold lesser
 split <;> omega
theorem downL_mem : ∀ (f : Nat) (l : List Int) (i n : Nat) (x : Int), n ≤ l.length → x ∈ downL f l i n → x ∈ l
 | 0, l, i, n, x, _, h => h
 | f + 1, l, i, n, x, hn, h => by
  rw [downL] at h
  split at h
  ·exact h
  ·rename_i h1
   split at h
   ·exact h
   ·have h2 := lesser_lt (l := l) (show 2 * i + 1 < n by omega)
    exact swp_mem (by omega) (by omega) (downL_mem f _ _ n x (by rw [swp_len]; exact hn) h)
theorem popL_spec (l : List Int) (h : 0 < l.length) : (popL l).1 ∈ l ∧ (∀ x ∈ (popL l).2, x ∈ l) ∧ (popL l).2.length = l.length - 1 := by
 have h1 : ∀ x, x ∈ downL (l.length - 1 + 1) (swp l 0 (l.length - 1)) 0 (l.length - 1) → x ∈ l := fun x hx => swp_mem h (by omega) (downL_mem _ _ _ _ x (by rw [swp_len]; omega) hx)
 have h2 : (downL (l.length - 1 + 1) (swp l 0 (l.length - 1)) 0 (l.length - 1)).length = l.length := by rw [downL_len, swp_len]
 refine ⟨h1 _ (getD_mem (by rw [h2]; omega)), fun x hx => h1 x (List.mem_of_mem_take hx), ?_⟩
 show (List.take _ _).length = _
 rw [List.length_take, h2]
 omega
def joinH (b : Int) : List Int → List Int → List Int → Option (List Int × List Int)
 | [], hs, l => some (hs, l)
 | m :: ms, hs, l => if hs.getD m.toNat 0 = -1 then joinH b ms (hs.set m.toNat b) (upL (l.length + 1) (l ++ [m]) l.length) else if hs.getD m.toNat 0 = b then joinH b ms hs l else none
def runH (ss : List ST) (n : Nat) : Nat → List Int → List Int → Except (Int × Int) (List Int)
 | 0, hs, _ => .ok hs
 | f + 1, hs, l => if l.length = 0 then .ok hs else
  match ss[(popL l).1.toNat]? with
  | none => .ok hs
  | some s =>
   if faultS s (hs.getD (popL l).1.toNat 0) n ≠ 0 then .error ((popL l).1, faultS s (hs.getD (popL l).1.toNat 0) n)
   else match joinH (behindS s (hs.getD (popL l).1.toNat 0)) s.nx hs (popL l).2 with
    | none => .error ((popL l).1, 136)
    | some r => runH ss n f r.1 r.2
def heightsD (ss : List ST) (n : Nat) : Except (Int × Int) (List Int) := runH ss n (n + 1) ((List.replicate n (-1)).set 0 0) [0]
structure SsOk (ss : List ST) (n : Nat) : Prop where
 len : ss.length = n
 pos : 1 ≤ n ∧ n ≤ 4096
 stb : ∀ s ∈ ss, STB s
 nx : ∀ s ∈ ss, (∀ m ∈ s.nx, 0 ≤ m ∧ m ≤ n) ∧ s.nx.length ≤ 2
 cp : ∀ s ∈ ss, s.op = 5 → s.tk = 0
structure IH (n : Nat) (hs l : List Int) : Prop where
 len : hs.length = n
 el : ∀ m ∈ l, 0 ≤ m ∧ m < n ∧ 0 ≤ hs.getD m.toNat 0 ∧ hs.getD m.toNat 0 ≤ 256
 cnt : hs.count (-1) + l.length ≤ n
theorem IH.start (n : Nat) (hn : 1 ≤ n) : IH n ((List.replicate n (-1)).set 0 0) [0] := by
 refine ⟨by simp, fun m hm => ?_, ?_⟩
 ·simp at hm
  subst hm
  refine ⟨by omega, by omega, ?_⟩
  simp [List.getD, show 0 < n by omega]
 ·rw [List.count_set (by simp; omega)]
  simp
  omega
theorem IH.pop {n : Nat} {hs l : List Int} (h : IH n hs l) (h0 : 0 < l.length) : IH n hs (popL l).2 ∧ hs.count (-1) + (popL l).2.length + 1 ≤ n ∧ hs.count (-1) + (popL l).2.length + 1 = hs.count (-1) + l.length := by
 obtain ⟨h1, h2, h3⟩ := popL_spec l h0
 have := h.cnt
 exact ⟨⟨h.len, fun m hm => h.el m (h2 m hm), by omega⟩, by omega, by omega⟩
theorem IH.push {n : Nat} {hs l : List Int} (h : IH n hs l) (m b : Int) (hm : 0 ≤ m ∧ m < n) (hb : 0 ≤ b ∧ b ≤ 256) (h1 : hs.getD m.toNat 0 = -1) : IH n (hs.set m.toNat b) (upL (l.length + 1) (l ++ [m]) l.length) ∧ (hs.set m.toNat b).count (-1) + (upL (l.length + 1) (l ++ [m]) l.length).length = hs.count (-1) + l.length := by
 have hlt : m.toNat < hs.length := by rw [h.len]; omega
 have hg : hs[m.toNat] = -1 := by rw [← h1]; simp [List.getD, List.getElem?_eq_getElem hlt]
 have hc : (hs.set m.toNat b).count (-1) + 1 = hs.count (-1) := by
  have hpos : 0 < hs.count (-1) := List.count_pos_iff.2 (by rw [← hg]; exact List.getElem_mem hlt)
  rw [List.count_set hlt, hg]
  have : (b == -1) = false := by simp; omega
  rw [this]
  simp
  omega
 have hl : (upL (l.length + 1) (l ++ [m]) l.length).length = l.length + 1 := by rw [upL_len]; simp
 have := h.cnt
 refine ⟨⟨by simp [h.len], fun x hx => ?_, by omega⟩, by omega⟩
 have hx := upL_mem _ _ _ x (by simp) hx
 have key : ∀ y : Int, 0 ≤ y → y < n → (y = m ∨ (0 ≤ hs.getD y.toNat 0 ∧ hs.getD y.toNat 0 ≤ 256)) → 0 ≤ (hs.set m.toNat b).getD y.toNat 0 ∧ (hs.set m.toNat b).getD y.toNat 0 ≤ 256 := fun y h0 hn hy => by
  by_cases e : m.toNat = y.toNat
  ·have : (hs.set m.toNat b).getD y.toNat 0 = b := by rw [← e]; simp [List.getD, hlt]
   rw [this]
   exact hb
  ·have : (hs.set m.toNat b).getD y.toNat 0 = hs.getD y.toNat 0 := by simp [List.getD, List.getElem?_set, e]
   rw [this]
   rcases hy with rfl | hy
   ·exact absurd rfl e
   ·exact hy
 rcases List.mem_append.1 hx with hx | hx
 ·obtain ⟨a1, a2, a3, a4⟩ := h.el x hx
  exact ⟨a1, a2, key x a1 a2 (.inr ⟨a3, a4⟩)⟩
 ·simp at hx
  subst hx
  exact ⟨hm.1, hm.2, key x hm.1 hm.2 (.inl rfl)⟩
end Go.Proofs.YtcaadgcfceommaaGreat
