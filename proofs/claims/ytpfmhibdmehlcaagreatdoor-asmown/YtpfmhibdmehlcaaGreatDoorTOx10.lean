import Derived.Test.YtpfmhibdmehlcaaGreatDoorTOx9
import Derived.Laws.BitsAllLaws
namespace Go.Proofs.YtpfmhibdmehlcaaGreatDoor
open Go.RowKit
set_option linter.unusedVariables false
set_option linter.unusedSimpArgs false
set_option maxRecDepth 100000
theorem Bs.push {w0 w1 wr : World} {ao : Option Addr} {m c : Nat} {zs : List Value} (h : Bs w0 w1 wr ao m c zs) (ns : List Value) (hone : ∀ u ∈ ns, u.oneCell' = true) (hl : m + ns.length ≤ 140737488355328) :
  ∃ ao' m' c' w', (Builtin.append_ #[22, 22] 22 #[.slice ao m c, .slice (some ⟨wr.heap.size, 0, none⟩) ns.length ns.length]).run Tryz.prog (wr.alloc (.cells ns.toArray 5)) = .ok (.slice ao' m' c') w' ∧ Bs w0 w1 w' ao' m' c' (zs ++ ns) := by
 obtain ⟨i0, hi, hz0, hz1, hz2⟩ := info_parts Tryz.info5
 obtain ⟨v', w', hr, h2, h3, h4, _⟩ := append_old (P := Tryz.prog) (wr.alloc (.cells ns.toArray 5)) w0.heap.size 22 22 5 i0 _ 1 1 Tryz.underlying22 hi hz0 hz1 hz2 rfl (by decide) (.slice ao m c) m zs (h.own.alloc _) ⟨wr.heap.size, 0, none⟩ ns.length ns.length ns (by simp) (fun j u hj => by
  rw [Addr.add_lit, Nat.zero_add, cell_block _ _ _ _ _ _ (heap_alloc_new wr _)]
  simpa using hj) hone (by unfold maxLen; omega) (by omega) (by have := h.kept.size; simp; omega)
 have hk1 : Kept (fun k => (Value.slice ao m c).ownBlock = some k) wr w' := ((Kept.refl _ wr).alloc _).grown h3 (fun k hk => .inr hk)
 obtain ⟨a, q, rfl⟩ := ownsRow_shape h2
 exact ⟨_, _, _, _, hr, ⟨h2, h.kept.step hk1 (fun i hi e => by have := (h.own.lt i e).1; omega), h.oth.trans (oth5_of h.own hk1)⟩⟩
theorem Bs.pushS {w0 w1 wr : World} {ao : Option Addr} {m c : Nat} {zs : List Value} (h : Bs w0 w1 wr ao m c zs) (s : ByteArray) (hl : m + s.size ≤ 140737488355328) :
  ∃ ao' m' c' w', (Builtin.append_ #[22, 9] 22 #[.slice ao m c, .string s]).run Tryz.prog wr = .ok (.slice ao' m' c') w' ∧ Bs w0 w1 w' ao' m' c' (zs ++ Lib.strCells s) := by
 obtain ⟨i0, hi, hz0, hz1, hz2⟩ := info_parts Tryz.info5
 obtain ⟨v', w', hr, h2, h3, h4⟩ := Lib.run_append_own_string (P := Tryz.prog) wr w0.heap.size 22 9 22 5 i0 Tryz.underlying22 Tryz.underlying9 hi hz0 hz1 hz2 (.slice ao m c) m zs h.own s (by unfold maxLen; omega) (by omega) h.kept.size
 have hk1 : Kept (fun q => (Value.slice ao m c).ownBlock = some q) wr w' := (Kept.refl _ wr).grown h3 (fun k hk => .inr hk)
 obtain ⟨a, q, rfl⟩ := ownsRow_shape h2
 exact ⟨_, _, _, _, hr, ⟨h2, h.kept.step hk1 (fun i hi e => by have := (h.own.lt i e).1; omega), h.oth.trans (oth5_of h.own hk1)⟩⟩
theorem Bs.step {w0 w1 wr w' : World} {ao a' : Option Addr} {m c m' c' : Nat} {zs ns : List Value} (h : Bs w0 w1 wr ao m c zs) (h' : Bs w0 w1 w' a' m' c' (zs ++ ns)) : m' = m + ns.length := by
 rw [h.len, h'.len, List.length_append]
set_option maxHeartbeats 4000000 in
theorem numB_big (ao : Option Addr) (m c : Nat) (zs : List Value) (i : Int) (h0 : -9223372036854775808 ≤ i) (h1 : i ≤ 9223372036854775807) (w0 w1 wr : World) (hG0 : 8 ≤ w0.heap.size) (hG : Gl w0) (h : Bs w0 w1 wr ao m c zs) (hm : m ≤ 140000000000000) :
  Calls Tryz.prog 29 #[.slice ao m c, .int .i64 i] wr fun e w' => ∃ ao' m' c', e = .returned (.slice ao' m' c') ∧ Bs w0 w1 w' ao' m' c' (zs ++ (.int .u8 32 :: Lib.byteCells (Lib.itoa i))) := by
 obtain ⟨a1, m1, c1, w2, hr, hb⟩ := h.push [.int .u8 32] (by simp [Value.oneCell']) (by simp; omega)
 have hm1 : m1 = m + 1 := by have := h.step hb; simpa using this
 have HA := hid_of (Tryz.strconv_AppendInt_10 w0.heap.size m1 i h0 h1 (.slice a1 m1 c1) _ w2 hb.own hb.kept.size (by omega) ((hb.gl hG).tab5 hG0))
 have HB := hid_of hb
 have HR := hid_of hr
 clear hr hb h hG hG0 h0 h1 hm hm1
 go_enter Tryz.func29, Tryz.ntmps29
 go_wp2_with (at_builtin; refine wp_app2 rfl (.tmp 5) (.tmp 6) 22 22 rfl _ _ rfl rfl _ w2 HR.out ?_)
 refine HA.out.mono ?_
 rintro e w3 ⟨v3, rfl, ho3, hb3, hot3⟩
 rw [List.append_assoc] at ho3
 obtain ⟨a3, c3, hv3⟩ := ownsRow_shape ho3
 obtain ⟨m3, hm3⟩ := nmd (m1 + (Lib.itoa i).length)
 rw [← hm3] at ho3 hv3
 subst hv3
 have HF : Hid (Bs w0 w1 w3 a3 m3 c3 (zs ++ (.int .u8 32 :: Lib.byteCells (Lib.itoa i)))) := ⟨ho3, bel_kept HB.out.kept hb3, HB.out.oth.trans hot3⟩
 clear ho3 hb3 hot3 hm3 HA HR
 go_wp2
 go_ret
 exact ⟨_, _, _, rfl, HF.out⟩
set_option maxHeartbeats 4000000 in
theorem nameB_big (ao : Option Addr) (m c : Nat) (zs : List Value) (l i : Int) (h0 : -9223372036854775808 ≤ i) (h1 : i ≤ 9223372036854775807) (w0 w1 wr : World) (hG0 : 8 ≤ w0.heap.size) (hG : Gl w0) (h : Bs w0 w1 wr ao m c zs) (hm : m ≤ 140000000000000) :
  Calls Tryz.prog 43 #[.slice ao m c, .int .u8 l, .int .i64 i] wr fun e w' => ∃ ao' m' c', e = .returned (.slice ao' m' c') ∧ Bs w0 w1 w' ao' m' c' (zs ++ (.int .u8 l :: Lib.byteCells (Lib.itoa i))) := by
 obtain ⟨a1, m1, c1, w2, hr, hb⟩ := h.push [.int .u8 l] (by simp [Value.oneCell']) (by simp; omega)
 have hm1 : m1 = m + 1 := by have := h.step hb; simpa using this
 have HA := hid_of (Tryz.strconv_AppendInt_10 w0.heap.size m1 i h0 h1 (.slice a1 m1 c1) _ w2 hb.own hb.kept.size (by omega) ((hb.gl hG).tab5 hG0))
 have HB := hid_of hb
 have HR := hid_of hr
 clear hr hb h hG hG0 h0 h1 hm hm1
 go_enter Tryz.func43, Tryz.ntmps43
 go_wp2_with (at_builtin; refine wp_app2 rfl (.tmp 7) (.tmp 9) 22 22 rfl _ _ rfl rfl _ w2 HR.out ?_)
 refine HA.out.mono ?_
 rintro e w3 ⟨v3, rfl, ho3, hb3, hot3⟩
 rw [List.append_assoc] at ho3
 obtain ⟨a3, c3, hv3⟩ := ownsRow_shape ho3
 obtain ⟨m3, hm3⟩ := nmd (m1 + (Lib.itoa i).length)
 rw [← hm3] at ho3 hv3
 subst hv3
 have HF : Hid (Bs w0 w1 w3 a3 m3 c3 (zs ++ (.int .u8 l :: Lib.byteCells (Lib.itoa i)))) := ⟨ho3, bel_kept HB.out.kept hb3, HB.out.oth.trans hot3⟩
 clear ho3 hb3 hot3 hm3 HA HR
 go_wp2
 go_ret
 exact ⟨_, _, _, rfl, HF.out⟩
def hexd (k : Int) : Int := if k < 10 then 48 + k else 87 + k
def qa (c : Int) : List Int := if c = 34 ∨ c = 92 then [92, c] else if c < 32 ∨ 126 < c then [92, 120, hexd (c / 16), hexd (c % 16)] else [c]
def quoteA (xs : List Int) : List Int := 34 :: xs.flatMap qa ++ [34]
abbrev hexS : ByteArray := ⟨#[48, 49, 50, 51, 52, 53, 54, 55, 56, 57, 97, 98, 99, 100, 101, 102]⟩
theorem byts_one (l : List Int) : ∀ u ∈ byts l, u.oneCell' = true := by
 intro u hu
 obtain ⟨x, _, rfl⟩ := List.mem_map.1 hu
 rfl
theorem dig_at : ∀ n : Nat, n < 16 → (hexS[n]!).toNat = (hexd n).toNat := by decide
theorem run_digs (w : World) (n : Int) (h0 : 0 ≤ n) (h1 : n < 16) : (Instr.index 9 (.string hexS) (.int .u8 n)).run Tryz.prog w = .ok (.int .u8 (hexd n)) w := by
 obtain ⟨k, rfl⟩ := Int.eq_ofNat_of_zero_le h0
 have hk : k < 16 := by omega
 have hs : hexS.size = 16 := rfl
 rw [run_index_string (P := Tryz.prog) w 9 hexS .u8 (k : Int) Tryz.underlying9, dif_pos ⟨h0, by rw [hs]; omega⟩]
 have e : (hexS[k]'(by omega)) = hexS[k]! := by simp [hs, hk]
 simp only [Int.toNat_natCast]
 rw [e, dig_at k hk]
 have : 0 ≤ hexd (k : Int) := by unfold hexd; split <;> omega
 rw [Int.toNat_of_nonneg this]
theorem and15 (c : Int) (h0 : 0 ≤ c) (h1 : c < 256) : bits .and .u8 c 15 = c % 16 := by
 rw [u8_and c 15 h0 h1 (by decide) (by decide)]
 have : c.toNat &&& (15 : Int).toNat = c.toNat % 16 := nat_mask4 _
 rw [this]
 omega
theorem byts_more (zs : List Value) (l ns : List Int) : zs ++ byts (34 :: l) ++ byts ns = zs ++ byts (34 :: (l ++ ns)) := by simp [byts]
theorem take_qa (xs : List Int) (i : Nat) (h : i < xs.length) : (xs.take (i + 1)).flatMap qa = (xs.take i).flatMap qa ++ qa (xs.getD i 0) := by
 rw [List.take_succ_eq_append_getElem h, List.flatMap_append]
 simp [List.getD, List.getElem?_eq_getElem h]
theorem Bs.pushB {w0 w1 wr : World} {ao : Option Addr} {m c : Nat} {zs : List Value} (h : Bs w0 w1 wr ao m c zs) (ns : List Int) (hl : m + ns.length ≤ 140737488355328) :
  ∃ ao' m' c' w', (Builtin.append_ #[22, 22] 22 #[.slice ao m c, .slice (some ⟨wr.heap.size, 0, none⟩) ns.length ns.length]).run Tryz.prog (wr.alloc (.cells (byts ns).toArray 5)) = .ok (.slice ao' m' c') w' ∧ Bs w0 w1 w' ao' m' c' (zs ++ byts ns) := by
 obtain ⟨a, m', c', w', hr, hb⟩ := h.push (byts ns) (byts_one _) (by simpa [byts] using hl)
 simp only [byts, List.length_map] at hr
 exact ⟨a, m', c', w', hr, hb⟩
set_option maxHeartbeats 4000000 in
theorem stringB_any (ao : Option Addr) (m c : Nat) (zs : List Value) (dv : Value) (xs : List Int) (w0 w1 wr : World) (hx : IsB w0 dv xs) (hb : ∀ x ∈ xs, 0 ≤ x ∧ x ≤ 255) (hl : xs.length ≤ 1000000000000) (hm : m ≤ 1000000000000) (h : Bs w0 w1 wr ao m c zs) :
  Calls Tryz.prog 30 #[.slice ao m c, dv] wr fun e w' => ∃ ao' m' c', e = .returned (.slice ao' m' c') ∧ Bs w0 w1 w' ao' m' c' (zs ++ byts (quoteA xs)) := by
 obtain ⟨n, hn⟩ := nmd (xs.length)
 obtain ⟨va, vo, hv⟩ : ∃ (va : Option Addr) (vc : Nat), dv = .slice va n vc := by
  rcases hx with ⟨rfl, ao, c, rfl⟩ | ⟨g, o, c, rfl, _⟩
  ·exact ⟨ao, c, by rw [hn]; rfl⟩
  ·exact ⟨_, c, by rw [hn]⟩
 have HC : Hid (∀ i, i < n → ∃ g o, va = some ⟨g, o, none⟩ ∧ w0.cell? ⟨g, o + i, none⟩ = some (.int .u8 (xs.getD i 0)) ∧ 0 ≤ xs.getD i 0 ∧ xs.getD i 0 ≤ 255) := fun i hi => by
  have hi' : i < xs.length := by omega
  have hm : xs.getD i 0 ∈ xs := by simp [List.getD, List.getElem?_eq_getElem hi']
  rcases hx with ⟨rfl, ao, c, rfl⟩ | ⟨g, o, c, rfl, hc⟩
  ·exact absurd hi' (by simp)
  ·cases hv
   exact ⟨g, o, rfl, hc i hi', hb _ hm⟩
 have HN := hid_of hn
 have HL : Hid (n ≤ 1000000000000) := by rw [hn]; exact hl
 have HM := hid_of hm
 obtain ⟨a1, m1, c1, w2, hr1, hq1⟩ := h.pushB [34] (by simp; omega)
 have HR1 := hid_of hr1
 have HQ0 : Hid (Bs w0 w1 w2 a1 m1 c1 (zs ++ byts (34 :: (xs.take 0).flatMap qa))) := hq1
 have HM1 : Hid (m1 ≤ 4 * 0 + 1 + m) := by show m1 ≤ 4 * 0 + 1 + m; have h2 := h.step hq1; simp [byts] at h2; omega
 subst hv
 clear hx hb hl hn hm hr1 hq1 h
 go_enter Tryz.func30, Tryz.ntmps30
 go_wp2_with (at_builtin; refine wp_app2 rfl (.tmp 7) (.tmp 8) 22 22 rfl _ _ rfl rfl _ w2 HR1.out ?_)
 go_loopw [0, 12] (fun qv iv wr => ∃ (i : Nat), iv = .int .i64 (i : Int) ∧ ∃ (ao : Option Addr) (k c : Nat), qv = .slice ao k c ∧ Hid (i ≤ n) ∧ Hid (Bs w0 w1 wr ao k c (zs ++ byts (34 :: (xs.take i).flatMap qa))) ∧ Hid (k ≤ 4 * i + 1 + m)) (fun _ iv _ => n - (intOf iv).toNat)
 case atStart => exact ⟨0, rfl, _, _, _, rfl, Nat.zero_le _, HQ0.out, HM1.out⟩
 case round =>
  obtain ⟨i, rfl, ao, k, c, rfl, HI, HQ, HK⟩ := hrel
  clear HQ0 HR1 HM1
  by_cases hlt : i < n
  ·obtain ⟨g, o, rfl, hc, hc0, hc1⟩ := HC.out i hlt
   have hcell := HQ.out.kept.cell hc id
   have hltI : (i : Int) < (n : Int) := by omega
   have hiB : (i : Int) < 1000000000000 := by have := HL.out; omega
   have HT := hid_of (take_qa xs i (by have := HN.out; omega))
   generalize xs.getD i 0 = x at *
   clear hc
   by_cases h1 : x = 34 ∨ x = 92
   ·rcases h1 with rfl | rfl
    ·obtain ⟨a', k', c', w', hr, hq⟩ := HQ.out.pushB [92, 34] (by have := HK.out; have := HL.out; have := HI.out; have := HM.out; simp; omega)
     have hqb : qa 34 = [92, 34] := rfl
     have HR := hid_of hr
     rw [hqb] at HT
     have HQ2 : Hid (Bs w0 w1 w' a' k' c' (zs ++ byts (34 :: (xs.take (i + 1)).flatMap qa))) := by rw [HT.out, ← byts_more]; exact hq
     have HK2 : Hid (k' ≤ 4 * (i + 1) + 1 + m) := by show k' ≤ 4 * (i + 1) + 1 + m; have h := HQ.out.step hq; have := HK.out; simp [byts] at h; omega
     clear hr hq hqb HT HQ HK HI
     go_wp2_with (at_builtin; refine wp_app2 rfl (.tmp 27) (.tmp 29) 22 22 rfl _ _ rfl rfl _ w' HR.out ?_)
     go_roundw
     case rel => exact ⟨i + 1, by go_num, _, _, _, rfl, hlt, HQ2, HK2⟩
     case measure => simp [intOf]; omega
    ·obtain ⟨a', k', c', w', hr, hq⟩ := HQ.out.pushB [92, 92] (by have := HK.out; have := HL.out; have := HI.out; have := HM.out; simp; omega)
     have hqb : qa 92 = [92, 92] := rfl
     have HR := hid_of hr
     rw [hqb] at HT
     have HQ2 : Hid (Bs w0 w1 w' a' k' c' (zs ++ byts (34 :: (xs.take (i + 1)).flatMap qa))) := by rw [HT.out, ← byts_more]; exact hq
     have HK2 : Hid (k' ≤ 4 * (i + 1) + 1 + m) := by show k' ≤ 4 * (i + 1) + 1 + m; have h := HQ.out.step hq; have := HK.out; simp [byts] at h; omega
     clear hr hq hqb HT HQ HK HI
     go_wp2_with (at_builtin; refine wp_app2 rfl (.tmp 27) (.tmp 29) 22 22 rfl _ _ rfl rfl _ w' HR.out ?_)
     go_roundw
     case rel => exact ⟨i + 1, by go_num, _, _, _, rfl, hlt, HQ2, HK2⟩
     case measure => simp [intOf]; omega
   have e1 : (x == 92) = false := by simp; omega
   have e2 : (x == 34) = false := by simp; omega
   by_cases h4 : x < 32 ∨ 126 < x
   ·rcases h4 with h4 | h4
    ·have hkd : Kept (fun _ => False) wr wr.drew := (Kept.refl _ _).drew
     have HQd := hid_of (HQ.out.same hkd)
     go_upto_region 9 with fail
     refine wp_region_held_drew (S := fun _ => True) (by kernel_rfl) trivial (fun hHeld => ?_)
     generalize wr.drew = wd at *
     obtain ⟨a', k', c', w', hr, hq⟩ := HQd.out.pushB [92, 120, hexd (x / 16), hexd (x % 16)] (by have := HK.out; have := HL.out; have := HI.out; have := HM.out; simp; omega)
     have hqb : qa x = [92, 120, hexd (x / 16), hexd (x % 16)] := by unfold qa; rw [if_neg h1, if_pos (by omega)]
     have HR := hid_of hr
     rw [hqb] at HT
     have HQ2 : Hid (Bs w0 w1 w' a' k' c' (zs ++ byts (34 :: (xs.take (i + 1)).flatMap qa))) := by rw [HT.out, ← byts_more]; exact hq
     have HK2 : Hid (k' ≤ 4 * (i + 1) + 1 + m) := by show k' ≤ 4 * (i + 1) + 1 + m; have h := HQd.out.step hq; have := HK.out; simp [byts] at h; omega
     have h15 := and15 x hc0 (by omega)
     have hd1 := fun w => run_digs w (x / 16) (by omega) (by omega)
     have hd2 := fun w => run_digs w (x % 16) (by omega) (by omega)
     clear hr hq hqb HT HQ HK HI HQd hkd h1 h4 e1 e2
     iterate 7
      refine tkn (v := ?_) 0 rfl ?_ ?_; rotate_left 1
      ·intro w hSw; go_simp; try with_reducible rfl
      try simp only [Act.put, tdy]
     refine rdy 7 rfl (fun K hK => ?_)
     go_simp
     refine hK.out _ _ trivial (fun hHeld => ?_)
     clear hK K
     try simp only [Act.put, tdy]
     refine rdy 8 rfl (fun K hK => ?_)
     refine step_app rfl (.tmp 38) (.tmp 45) 22 22 rfl _ _ rfl rfl (.slice a' k' c') w' HR.out ?_
     refine hK.out _ _ trivial (fun hHeld => ?_)
     clear hK K
     try simp only [Act.put, tdy]
     refine rdy 9 rfl (fun K hK => ?_)
     go_simp
     refine hK.out _ _ trivial (fun hHeld => ?_)
     clear hK K
     try simp only [Act.put, tdy]
     refine wpAnyH_done (by kernel_rfl) ?_ _
     go_wp2
     go_roundw
     case rel => exact ⟨i + 1, by go_num, _, _, _, rfl, hlt, HQ2, HK2⟩
     case measure => simp [intOf]; omega
    ·have h5 : ¬ x < 32 := by omega
     have hkd : Kept (fun _ => False) wr wr.drew := (Kept.refl _ _).drew
     have HQd := hid_of (HQ.out.same hkd)
     go_upto_region 9 with fail
     refine wp_region_held_drew (S := fun _ => True) (by kernel_rfl) trivial (fun hHeld => ?_)
     generalize wr.drew = wd at *
     obtain ⟨a', k', c', w', hr, hq⟩ := HQd.out.pushB [92, 120, hexd (x / 16), hexd (x % 16)] (by have := HK.out; have := HL.out; have := HI.out; have := HM.out; simp; omega)
     have hqb : qa x = [92, 120, hexd (x / 16), hexd (x % 16)] := by unfold qa; rw [if_neg h1, if_pos (by omega)]
     have HR := hid_of hr
     rw [hqb] at HT
     have HQ2 : Hid (Bs w0 w1 w' a' k' c' (zs ++ byts (34 :: (xs.take (i + 1)).flatMap qa))) := by rw [HT.out, ← byts_more]; exact hq
     have HK2 : Hid (k' ≤ 4 * (i + 1) + 1 + m) := by show k' ≤ 4 * (i + 1) + 1 + m; have h := HQd.out.step hq; have := HK.out; simp [byts] at h; omega
     have h15 := and15 x hc0 (by omega)
     have hd1 := fun w => run_digs w (x / 16) (by omega) (by omega)
     have hd2 := fun w => run_digs w (x % 16) (by omega) (by omega)
     clear hr hq hqb HT HQ HK HI HQd hkd h1 h4 e1 e2
     iterate 7
      refine tkn (v := ?_) 0 rfl ?_ ?_; rotate_left 1
      ·intro w hSw; go_simp; try with_reducible rfl
      try simp only [Act.put, tdy]
     refine rdy 7 rfl (fun K hK => ?_)
     go_simp
     refine hK.out _ _ trivial (fun hHeld => ?_)
     clear hK K
     try simp only [Act.put, tdy]
     refine rdy 8 rfl (fun K hK => ?_)
     refine step_app rfl (.tmp 38) (.tmp 45) 22 22 rfl _ _ rfl rfl (.slice a' k' c') w' HR.out ?_
     refine hK.out _ _ trivial (fun hHeld => ?_)
     clear hK K
     try simp only [Act.put, tdy]
     refine rdy 9 rfl (fun K hK => ?_)
     go_simp
     refine hK.out _ _ trivial (fun hHeld => ?_)
     clear hK K
     try simp only [Act.put, tdy]
     refine wpAnyH_done (by kernel_rfl) ?_ _
     go_wp2
     go_roundw
     case rel => exact ⟨i + 1, by go_num, _, _, _, rfl, hlt, HQ2, HK2⟩
     case measure => simp [intOf]; omega
   have e5 : ¬ x < 32 := by omega
   have e6 : ¬ 126 < x := by omega
   obtain ⟨a', k', c', w', hr, hq⟩ := HQ.out.pushB [x] (by have := HK.out; have := HL.out; have := HI.out; have := HM.out; simp; omega)
   have hqb : qa x = [x] := by unfold qa; rw [if_neg h1, if_neg h4]
   have HR := hid_of hr
   rw [hqb] at HT
   have HQ2 : Hid (Bs w0 w1 w' a' k' c' (zs ++ byts (34 :: (xs.take (i + 1)).flatMap qa))) := by rw [HT.out, ← byts_more]; exact hq
   have HK2 : Hid (k' ≤ 4 * (i + 1) + 1 + m) := by show k' ≤ 4 * (i + 1) + 1 + m; have h := HQ.out.step hq; have := HK.out; simp [byts] at h; omega
   clear hr hq hqb HT HQ HK HI
   go_wp2_with (at_builtin; refine wp_app2 rfl (.tmp 16) (.tmp 18) 22 22 rfl _ _ rfl rfl _ w' HR.out ?_)
   go_roundw
   case rel => exact ⟨i + 1, by go_num, _, _, _, rfl, hlt, HQ2, HK2⟩
   case measure => simp [intOf]; omega
  ·have hnlt : ¬ (i : Int) < (n : Int) := by omega
   obtain ⟨a', k', c', w', hr, hq⟩ := HQ.out.pushB [34] (by have := HK.out; have := HL.out; have := HI.out; have := HM.out; simp; omega)
   have HR := hid_of hr
   have HQ2 : Hid (Bs w0 w1 w' a' k' c' (zs ++ byts (quoteA xs))) := by
    have := HI.out; have := HN.out
    rw [List.take_of_length_le (by omega)] at hq
    rw [List.append_assoc] at hq
    have e : byts (34 :: xs.flatMap qa) ++ byts [34] = byts (quoteA xs) := by simp [byts, quoteA]
    rw [e] at hq
    exact hq
   clear hr hq
   go_wp2_with (at_builtin; refine wp_app2 rfl (.tmp 48) (.tmp 49) 22 22 rfl _ _ rfl rfl _ w' HR.out ?_)
   go_ret
   exact ⟨_, _, _, rfl, HQ2.out⟩
end Go.Proofs.YtpfmhibdmehlcaaGreatDoor
