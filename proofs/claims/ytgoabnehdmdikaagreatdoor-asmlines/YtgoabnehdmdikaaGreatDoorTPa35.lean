import Derived.Test.YtgoabnehdmdikaaGreatDoorTPa7
import Derived.Test.YtgoabnehdmdikaaGreatDoorTPa4
import Derived.Laws.StructEq
import Derived.Test.YtgoabnehdmdikaaGreatDoorTPa8
import Derived.Lib.ItoaLen
namespace Go.Proofs.YtgoabnehdmdikaaGreatDoor
open Go.RowKit
set_option linter.unusedVariables false
set_option linter.unusedSimpArgs false
set_option maxRecDepth 100000
set_option maxHeartbeats 8000000 in
theorem one_any (w : World) : Calls Tryz.prog 18 #[] w fun e w' => ∃ fa fc, e = .returned (.agg #[.int .i64 0, .slice none 0 0, .slice fa 1 fc]) ∧ Pg1 w' w.heap.size (.slice fa 1 fc) ∧ Kept (fun _ => False) w w' := by
 obtain ⟨W1, hW1⟩ := nmd (w.alloc (.cells #[.int .i64 0, .slice none 0 0, .slice none 0 0] 26))
 have k1 : Kept (fun _ => False) w W1 := by rw [hW1]; exact (Kept.refl _ _).alloc _
 have x1 : W1.heap[w.heap.size]? = some (.cells #[.int .i64 0, .slice none 0 0, .slice none 0 0] 26 (0, 0)) := by rw [hW1]; exact heap_alloc_new _ _
 obtain ⟨W3, hW3⟩ := nmd ((W1.alloc (.cells #[.int .i64 18, .int .i64 0] 75)).alloc (.cells #[.int .i64 0, .int .i64 0, .int .i64 1, .slice (some ⟨W1.heap.size, 0, none⟩) 1 1] 78))
 obtain ⟨k3, y1, y2⟩ := allocs2 _ _ _ _ _ _ hW3
 have HPG : Hid (Pg1 W3 w.heap.size (.slice (some ⟨W1.heap.size + 1, 0, none⟩) 1 1)) :=
  ⟨_, ⟨rfl, .inr ⟨_, 1, _, rfl, Nat.le_trans k1.size (Nat.le_succ _), y2, Nat.le_refl _, by decide, rfl, rfl⟩⟩, ⟨rfl, .inr ⟨_, 1, _, rfl, k1.size, y1, Nat.le_refl _, by decide, rfl, rfl⟩⟩⟩
 have HX3 := hid_of (box_kept k3 x1 id)
 have HK3 := hid_of (k1.trans k3)
 clear k1 x1 k3 y1 y2
 go_enter Tryz.func18, Tryz.ntmps18
 go_upto_region 1 with fail
 rw [← hW1]
 obtain ⟨p0, hp0⟩ := nmd (w.heap.size)
 rw [← hp0] at HX3 ⊢
 have HPW : Hid (w.heap.size ≤ p0) := by rw [hp0]; exact Nat.le_refl _
 have HPE := hid_of hp0
 clear hW1 hp0
 obtain ⟨hx, hkx⟩ := set3 W3 p0 26 _ _ _ (.int .i64 0) (.slice none 0 0) (.slice (some ⟨W1.heap.size + 1, 0, none⟩) 1 1) HX3.out
 obtain ⟨c0, c1, c2, f0, f1, f2⟩ := look3 HX3.out
 have HX4 := hid_of hx
 have HK4 := hid_of (HK3.out.step hkx (fun i hi e => by have := HPW.out; omega))
 have HPG4 := hid_of (HPG.out.put HX3.out hkx)
 rw [hW3] at c0 c1 c2 f0 f1 f2 HX4 HK4 HPG4
 clear hx hkx HX3 HK3 HPG
 go_wp2
 refine bodyPost_ret (v := .agg #[.int .i64 0, .slice none 0 0, .slice (some ⟨W1.heap.size + 1, 0, none⟩) 1 1]) ?_ rfl ⟨_, _, rfl, HPG4.out, HK4.out⟩
 exact results_cell_row (by rfl) _ _ p0 26 _ (0, 0) _ (by rfl) HX4.out Tryz.underlying26 rfl size37
end Go.Proofs.YtgoabnehdmdikaaGreatDoor
namespace Go.Proofs.YtgoabnehdmdikaaGreatDoor
open Go.RowKit Go.Deep
set_option linter.unusedVariables false
set_option linter.unusedSimpArgs false
set_option maxRecDepth 100000
set_option maxHeartbeats 4000000 in
theorem same_any (v1 v2 : Value) (ys zs : List IN) (w : World) (h1 : RowI w v1 ys) (h2 : RowI w v2 zs) (hl : ys.length ≤ 9223372036854775807) (hl2 : zs.length ≤ 9223372036854775807) :
  Calls Tryz.prog 25 #[v1, v2] w fun e w' => e = .returned (.bool (sameI ys zs)) ∧ ∃ n, w' = w.drewN n := by
 obtain ⟨a1, c1, rfl⟩ := h1.shape
 obtain ⟨a2, c2, rfl⟩ := h2.shape
 by_cases hne : ys.length = zs.length
 ·have HN := hid_of hne
  have HR : Hid (∀ k, k < ys.length → ∃ b1 o1 b2 o2, a1 = some ⟨b1, o1, none⟩ ∧ a2 = some ⟨b2, o2, none⟩ ∧ ∃ y z, ys[k]? = some y ∧ zs[k]? = some z ∧ w.cell? ⟨b1, o1 + k * 2, none⟩ = some (.int .i64 y.op) ∧ w.cell? ⟨b1, o1 + k * 2 + 1, none⟩ = some (.int .i64 y.a) ∧ w.cell? ⟨b2, o2 + k * 2, none⟩ = some (.int .i64 z.op) ∧ w.cell? ⟨b2, o2 + k * 2 + 1, none⟩ = some (.int .i64 z.a)) := fun k hk => by
   rcases h1 with ⟨e, _⟩ | ⟨b1, o1, d1, e1, r1⟩
   ·rw [e] at hk; simp at hk
   ·rcases h2 with ⟨e, _⟩ | ⟨b2, o2, d2, e2, r2⟩
    ·rw [hne, e] at hk; simp at hk
    ·cases e1
     cases e2
     have hk2 : k < zs.length := by omega
     have g1 := r1 k _ (List.getElem?_eq_getElem hk)
     have g2 := r2 k _ (List.getElem?_eq_getElem hk2)
     exact ⟨b1, o1, b2, o2, rfl, rfl, ys[k], zs[k], List.getElem?_eq_getElem hk, List.getElem?_eq_getElem hk2, g1 0 _ rfl, g1 1 _ rfl, g2 0 _ rfl, g2 1 _ rfl⟩
  obtain ⟨n, hn⟩ := nmd (ys.length)
  rw [← hne, ← hn]
  have HL := hid_of hn
  clear h1 h2 hne hl2
  rw [← hn] at hl
  clear hn
  go_enter Tryz.func25, Tryz.ntmps25
  go_wp2
  go_loopw [5] (fun iv wr => ∃ (k d : Nat), k ≤ n ∧ iv = .int .i64 k ∧ sameI ys zs = sameI (ys.drop k) (zs.drop k) ∧ wr = w.drewN d) (fun iv _ => n - (intOf iv).toNat)
  case atStart => exact ⟨0, 0, by omega, rfl, rfl, rfl⟩
  case round =>
   obtain ⟨k, d, hk, rfl, hs, rfl⟩ := hrel
   by_cases hlt : k < n
   ·obtain ⟨b1, o1, b2, o2, rfl, rfl, ⟨yo, ya⟩, ⟨zo, za⟩, hy, hz, q0, q1, q2, q3⟩ := HR.out k (by rw [← HL.out]; exact hlt)
    have hkI : (k : Int) < (n : Int) := by omega
    have HS := hid_of hs
    have HY := hid_of hy
    have HZ := hid_of hz
    clear hs hy hz
    have hq := fun w => run_neq52 w yo ya zo za
    go_upto_region 6 with fail
    go_quiet (fail)
    go_wp2
    ·rename_i hbad
     have HF : Hid (sameI ys zs = false) := by
      unfold Hid
      rw [HS.out, sameI_at HY.out HZ.out]
      simp only [Bool.and_eq_false_iff]
      left
      rcases hbad with h | h
      ·left; simpa using h
      ·right; simpa using h
     go_ret
     exact ⟨by rw [HF.out]; rfl, _, rfl⟩
    ·rename_i hok
     refine ⟨⟨k + 1, _, by omega, by go_num, ?_, rfl⟩, by simp [intOf]; omega⟩
     rw [HS.out, sameI_at HY.out HZ.out]
     have h1 : (yo == zo) = true := by simpa using hok.1
     have h2 : (ya == za) = true := by simpa using hok.2
     simp [h1, h2]
   ·have hkI : (n : Int) ≤ (k : Int) := by omega
    have HF : Hid (sameI ys zs = true) := by
     unfold Hid
     have e1 : ys.drop k = [] := List.drop_eq_nil_of_le (by rw [← HL.out]; omega)
     have e2 : zs.drop k = [] := List.drop_eq_nil_of_le (by rw [← HN.out, ← HL.out]; omega)
     rw [hs, e1, e2]
     rfl
    clear hs
    go_wp2
    go_ret
    exact ⟨by rw [HF.out]; rfl, _, rfl⟩
 ·have hb : ((ys.length : Int) != (zs.length : Int)) = true := by simp; omega
  have HF := hid_of (sameI_len hne)
  clear h1 h2 hne
  generalize ys.length = n1 at *
  generalize zs.length = n2 at *
  go_enter Tryz.func25, Tryz.ntmps25
  go_wp2
  go_ret
  exact ⟨by rw [HF.out]; rfl, 0, rfl⟩
end Go.Proofs.YtgoabnehdmdikaaGreatDoor
namespace Go.Proofs.YtgoabnehdmdikaaGreatDoor
open Go.RowKit
set_option linter.unusedVariables false
set_option linter.unusedSimpArgs false
set_option maxRecDepth 100000
theorem Bs.rebase {w0 w1 w2 wr : World} {ao : Option Addr} {m c : Nat} {zs : List Value} (h : Bs w0 w2 wr ao m c zs) (ho : Lib.OthersKept 5 none w1 w2) : Bs w0 w1 wr ao m c zs := ⟨h.own, h.kept, ho.trans h.oth⟩
theorem Bs.here {w0 w1 wr w2 : World} {ao : Option Addr} {m c : Nat} {zs : List Value} (h : Bs w0 w1 wr ao m c zs) (hk : Kept (fun _ => False) wr w2) : Bs w0 w2 w2 ao m c zs := ⟨hk.ownsRow h.own (fun _ _ f => f), h.kept.trans hk, Lib.OthersKept.refl _ _ _⟩
def opdD (s : Sh) (a pl fs : Int) : List Value :=
 if s.o = 0 then [] else if s.o = 3 ∧ a ≤ pl then .int .u8 32 :: .int .u8 76 :: Lib.byteCells (Lib.itoa a) else if s.o = 4 ∧ a < fs then .int .u8 32 :: .int .u8 102 :: Lib.byteCells (Lib.itoa a)
 else if s.o = 5 then .int .u8 32 :: Lib.strCells (rowS sysL a).nm else .int .u8 32 :: Lib.byteCells (Lib.itoa a)
def insB (op a pl fs : Int) : List Value := .int .u8 9 :: Lib.strCells (rowS insL op).nm ++ opdD (rowS insL op) a pl fs ++ [.int .u8 10]
theorem nm_small : ∀ L : List Sh, (∀ s ∈ L, s.nm.size ≤ 100) → ∀ n, (rowS L n).nm.size ≤ 100 := by
 intro L h n
 unfold rowS
 split
 ·rename_i hn
  have hl : n.toNat < L.length := by omega
  rw [List.getD, List.getElem?_eq_getElem hl]
  exact h _ (List.getElem_mem hl)
 ·decide
theorem ins_small (n : Int) : (rowS insL n).nm.size ≤ 100 := nm_small insL (by decide) n
theorem sys_small (n : Int) : (rowS sysL n).nm.size ≤ 100 := nm_small sysL (by decide) n
theorem itoa_le (i : Int) (h0 : -9223372036854775808 ≤ i) (h1 : i ≤ 9223372036854775807) : (Lib.itoa i).length ≤ 21 := Lib.itoa_length_le i h0 h1
theorem bl_cells (s : ByteArray) : (Lib.strCells s).length = s.size := by simp [Lib.strCells]
set_option maxHeartbeats 16000000 in
theorem instrB_any (ao : Option Addr) (m c : Nat) (zs : List Value) (op a pl fs : Int) (ho0 : -9223372036854775808 ≤ op) (ho1 : op < 9223372036854775808) (ha0 : -9223372036854775808 ≤ a) (ha1 : a < 9223372036854775808) (w0 w1 wr : World) (hG0 : 8 ≤ w0.heap.size) (hG : Gl w0) (h : Bs w0 w1 wr ao m c zs) (hm : m ≤ 1000000000000) :
  Calls Tryz.prog 76 #[.slice ao m c, .agg #[.int .i64 op, .int .i64 a], .int .i64 pl, .int .i64 fs] wr fun e w' => ∃ ao' m' c', e = .returned (.slice ao' m' c') ∧ Bs w0 w1 w' ao' m' c' (zs ++ insB op a pl fs) := by
 have hka : Kept (fun _ => False) wr (wr.alloc (.cells #[.int .i64 op, .int .i64 a] 75)) := (Kept.refl _ _).alloc _
 have HX := hid_of (heap_alloc_new wr (.cells #[.int .i64 op, .int .i64 a] 75))
 have HKA := hid_of hka
 have HH := hid_of h
 have HM := hid_of hm
 have HG := hid_of hG
 have HG0 := hid_of hG0
 have HA0 := hid_of ha0
 have HA1 : Hid (a ≤ 9223372036854775807) := by show a ≤ 9223372036854775807; omega
 have HA2 := hid_of ha1
 have hins : insB op a pl fs = .int .u8 9 :: Lib.strCells (rowS insL op).nm ++ opdD (rowS insL op) a pl fs ++ [.int .u8 10] := rfl
 have HSM0 := hid_of (ins_small op)
 have HOF1 := hid_of (of_any op (wr.alloc (.cells #[.int .i64 op, .int .i64 a] 75)) ho0 ho1)
 clear hka h hm hG hG0 ha0 ha1 ho0 ho1
 generalize isRow insL op = iq at *
 generalize insB op a pl fs = INS at *
 generalize rowS insL op = sh at *
 obtain ⟨nm, o, tt, gg⟩ := sh
 have HIN : Hid (INS = .int .u8 9 :: Lib.strCells nm ++ opdD ⟨nm, o, tt, gg⟩ a pl fs ++ [.int .u8 10]) := hins
 have HOF : Hid (Calls Tryz.prog 100 #[.int .i64 op] (wr.alloc (.cells #[.int .i64 op, .int .i64 a] 75)) fun e w' => e = .returned (.tuple #[.agg #[.string nm, .int .i64 o, .int .i64 tt, .int .i64 gg], .bool iq]) ∧ Kept (fun _ => False) (wr.alloc (.cells #[.int .i64 op, .int .i64 a] 75)) w') := HOF1.out
 clear hins HOF1
 go_enter Tryz.func76, Tryz.ntmps76
 go_upto_region 1 with fail
 generalize wr.alloc (.cells #[.int .i64 op, .int .i64 a] 75) = wa at *
 generalize wr.heap.size = gx at *
 obtain ⟨b0, b1, _⟩ := look2 HX.out
 go_wp2_with fail
 refine HOF.out.mono ?_
 rintro e w2 ⟨rfl, hk2⟩
 have hka : Kept (fun _ => False) w2 (w2.alloc (.cells #[.string nm, .int .i64 o, .int .i64 tt, .int .i64 gg] 186)) := (Kept.refl _ _).alloc _
 have HS3 := hid_of (heap_alloc_new w2 (.cells #[.string nm, .int .i64 o, .int .i64 tt, .int .i64 gg] 186))
 have HX3 := hid_of (box_kept (hk2.trans hka) HX.out id)
 have HB3 := hid_of (HH.out.here ((HKA.out.trans hk2).trans hka))
 have HT3 := hid_of (HH.out.oth.trans (oth5_kept ((HKA.out.trans hk2).trans hka)))
 clear hk2 hka HOF HX HKA HH b0 b1
 go_upto_region 2 with fail
 generalize w2.alloc (.cells #[.string nm, .int .i64 o, .int .i64 tt, .int .i64 gg] 186) = w3 at *
 generalize w2.heap.size = gs at *
 have HSM : Hid (∀ w', Lib.OthersKept 5 none w3 w' → w'.cell? ⟨gs, 0, none⟩ = some (.string nm)) := fun w' hw => cell_block _ _ 0 _ _ _ (Oth5.box hw HS3.out (by decide))
 have hKwd : Kept (fun _ => False) w3 w3.drew := (Kept.refl _ _).drew
 refine wp_region_held_drew (S := fun w' => Lib.OthersKept 5 none w3 w') (by kernel_rfl) (oth5_kept hKwd) (fun hHeld => ?_)
 have hbd := HB3.out.same hKwd
 generalize w3.drew = wd at *
 obtain ⟨a4, n4, c4, w4, hr4, hb4⟩ := hbd.push [.int .u8 9] (by simp [Value.oneCell']) (by have := HM.out; simp; omega)
 have hn4 : n4 = m + 1 := by have := hbd.step hb4; simpa using this
 obtain ⟨a5, n5, c5, w5, hr5, hb5⟩ := hb4.pushS nm (by have := HM.out; have h9 : nm.size ≤ 100 := HSM0.out; omega)
 have hn5 : n5 = n4 + nm.size := by have := hb4.step hb5; rw [bl_cells] at this; exact this
 have HN5 : Hid (n5 ≤ 1000000000200) := by show n5 ≤ 1000000000200; have := HM.out; have h9 : nm.size ≤ 100 := HSM0.out; omega
 have HR4 := hid_of hr4
 have HR5 := hid_of hr5
 have HB4 := hid_of hb4
 have HB5 := hid_of hb5
 clear hr4 hr5 hb4 hb5 hbd hn4 hn5 hKwd
 iterate 1
  refine tkn (v := ?_) 0 rfl ?_ ?_; rotate_left 1
  ·intro w hSw; have s0 := HSM.out w hSw; go_simp; try with_reducible rfl
  try simp only [Act.put, tdy]
 iterate 2
  refine tkn (v := ?_) 3 rfl ?_ ?_; rotate_left 1
  ·intro w hSw; have s0 := HSM.out w hSw; go_simp; try with_reducible rfl
  try simp only [Act.put, tdy]
 refine rdy 1 rfl (fun K hK => ?_)
 go_simp
 refine hK.out _ _ (hHeld.alloc _) (fun hHeld => ?_)
 clear hK K
 try simp only [Act.put, tdy]
 refine rdy 2 rfl (fun K hK => ?_)
 refine step_app rfl (.tmp 19) (.tmp 20) 23 23 rfl _ _ rfl rfl (.slice a4 n4 c4) w4 HR4.out ?_
 refine hK.out _ _ HB4.out.oth (fun hHeld => ?_)
 clear hK K
 try simp only [Act.put, tdy]
 refine rdy 5 rfl (fun K hK => ?_)
 refine step_app rfl (.tmp 21) (.tmp 23) 23 9 rfl _ _ rfl rfl (.slice a5 n5 c5) w5 HR5.out ?_
 refine hK.out _ _ HB5.out.oth (fun hHeld => ?_)
 clear hK K
 try simp only [Act.put, tdy]
 refine rdy 6 rfl (fun K hK => ?_)
 go_simp
 refine hK.out _ _ hHeld (fun hHeld => ?_)
 clear hK K
 try simp only [Act.put, tdy]
 refine wpAnyH_done (by kernel_rfl) ?_ _
 clear hHeld HSM HR4 HR5 HB4
 have s1 := cell_block _ _ 1 _ _ _ (Oth5.box HB5.out.oth HS3.out (by decide))
 have x1 := cell_block _ _ 1 _ _ _ (Oth5.box HB5.out.oth HX3.out (by decide))
 by_cases h0 : o = 0
 ·subst h0
  have hD : opdD ⟨nm, 0, tt, gg⟩ a pl fs = [] := by simp [opdD]
  obtain ⟨a9, n9, c9, w9, hr9, hb9⟩ := HB5.out.push [.int .u8 10] (by simp [Value.oneCell']) (by have := HN5.out; simp; omega)
  have HF : Hid (Bs w0 w1 w9 a9 n9 c9 (zs ++ INS)) := by
   show Bs w0 w1 w9 a9 n9 c9 (zs ++ INS)
   have e : zs ++ [Value.int .u8 9] ++ Lib.strCells nm ++ [] ++ [Value.int .u8 10] = zs ++ INS := by rw [HIN.out, hD]; simp
   rw [← e]
   simpa using hb9.rebase HT3.out
  have HR9 := hid_of hr9
  clear hr9 hb9
  go_wp2_with (at_builtin; refine wp_app2 rfl (.tmp 81) (.tmp 82) 23 23 rfl _ _ rfl rfl _ w9 HR9.out ?_)
  go_ret
  exact ⟨_, _, _, rfl, HF.out⟩
 have q0 : (o == 0) = false := by simp [h0]
 by_cases h3 : o = 3 ∧ a ≤ pl
 ·obtain ⟨rfl, hap⟩ := h3
  have hD : opdD ⟨nm, 3, tt, gg⟩ a pl fs = .int .u8 32 :: .int .u8 76 :: Lib.byteCells (Lib.itoa a) := by simp [opdD, hap]
  have HD := hid_of hD
  clear hD
  have HSM : Hid (∀ w', Lib.OthersKept 5 none w3 w' → w'.cell? ⟨gx, 1, none⟩ = some (.int .i64 a)) := fun w' hw => cell_block _ _ 1 _ _ _ (Oth5.box hw HX3.out (by decide))
  have hKwd : Kept (fun _ => False) w5 w5.drew := (Kept.refl _ _).drew
  have hbd := HB5.out.same hKwd
  go_upto_region 6 with fail
  refine wp_region_held_drew (S := fun w' => Lib.OthersKept 5 none w3 w') (by kernel_rfl) hbd.oth (fun hHeld => ?_)
  generalize w5.drew = wd5 at *
  obtain ⟨a6, n6, c6, w6, hr6, hb6⟩ := hbd.push [.int .u8 32] (by simp [Value.oneCell']) (by have := HN5.out; simp; omega)
  have hn6 : n6 = n5 + 1 := by have := hbd.step hb6; simpa using this
  have HR6 := hid_of hr6
  have HB6 := hid_of hb6
  have HN6 : Hid (n6 ≤ 1000000000300) := by show n6 ≤ 1000000000300; have := HN5.out; omega
  have HNA := hid_of (nameB_big a6 n6 c6 _ 76 a HA0.out HA1.out w0 w3 w6 HG0.out HG.out hb6 (by have := HN6.out; omega))
  clear hr6 hb6 hbd hn6 hKwd
  iterate 1
   refine tkn (v := ?_) 0 rfl ?_ ?_; rotate_left 1
   ·intro w hSw; have s0 := HSM.out w hSw; go_simp; try with_reducible rfl
   try simp only [Act.put, tdy]
  iterate 2
   refine tkn (v := ?_) 3 rfl ?_ ?_; rotate_left 1
   ·intro w hSw; have s0 := HSM.out w hSw; go_simp; try with_reducible rfl
   try simp only [Act.put, tdy]
  refine rdy 1 rfl (fun K hK => ?_)
  go_simp
  refine hK.out _ _ (hHeld.alloc _) (fun hHeld => ?_)
  clear hK K
  try simp only [Act.put, tdy]
  refine rdy 2 rfl (fun K hK => ?_)
  refine step_app rfl (.tmp 43) (.tmp 44) 23 23 rfl _ _ rfl rfl (.slice a6 n6 c6) w6 HR6.out ?_
  refine hK.out _ _ HB6.out.oth (fun hHeld => ?_)
  clear hK K
  try simp only [Act.put, tdy]
  refine rdy 5 rfl (fun K hK => ?_)
  go_simp
  refine HNA.out.mono ?_
  rintro e w7 ⟨a7, n7, c7, rfl, hb7⟩
  have HB7 := hid_of hb7
  have HN7 : Hid (n7 ≤ 1000000000400) := by show n7 ≤ 1000000000400; have h1 := HB6.out.step hb7; have h2 := HN6.out; have h3 := itoa_le a HA0.out HA1.out; simp [Lib.byteCells_length] at h1; omega
  clear hb7
  refine hK.out _ _ HB7.out.oth (fun hHeld => ?_)
  clear hK K
  try simp only [Act.put, tdy]
  refine rdy 6 rfl (fun K hK => ?_)
  go_simp
  refine hK.out _ _ hHeld (fun hHeld => ?_)
  clear hK K
  try simp only [Act.put, tdy]
  refine wpAnyH_done (by kernel_rfl) ?_ _
  clear hHeld HSM HNA HR6 HB6 s1 x1
  obtain ⟨a9, n9, c9, w9, hr9, hb9⟩ := HB7.out.push [.int .u8 10] (by simp [Value.oneCell']) (by have := HN7.out; simp; omega)
  have HF : Hid (Bs w0 w1 w9 a9 n9 c9 (zs ++ INS)) := by
   show Bs w0 w1 w9 a9 n9 c9 (zs ++ INS)
   have e : zs ++ [Value.int .u8 9] ++ Lib.strCells nm ++ (.int .u8 32 :: .int .u8 76 :: Lib.byteCells (Lib.itoa a)) ++ [Value.int .u8 10] = zs ++ INS := by rw [HIN.out, HD.out]; simp
   rw [← e]
   simpa using hb9.rebase HT3.out
  have HR9 := hid_of hr9
  clear hr9 hb9
  go_wp2_with (at_builtin; refine wp_app2 rfl (.tmp 81) (.tmp 82) 23 23 rfl _ _ rfl rfl _ w9 HR9.out ?_)
  go_ret
  exact ⟨_, _, _, rfl, HF.out⟩
 by_cases h4 : o = 4 ∧ a < fs
 ·obtain ⟨rfl, haf⟩ := h4
  have hD : opdD ⟨nm, 4, tt, gg⟩ a pl fs = .int .u8 32 :: .int .u8 102 :: Lib.byteCells (Lib.itoa a) := by simp [opdD, haf]
  have HD := hid_of hD
  clear hD h3
  have HSM : Hid (∀ w', Lib.OthersKept 5 none w3 w' → w'.cell? ⟨gx, 1, none⟩ = some (.int .i64 a)) := fun w' hw => cell_block _ _ 1 _ _ _ (Oth5.box hw HX3.out (by decide))
  have hKwd : Kept (fun _ => False) w5 w5.drew := (Kept.refl _ _).drew
  have hbd := HB5.out.same hKwd
  go_upto_region 8 with fail
  refine wp_region_held_drew (S := fun w' => Lib.OthersKept 5 none w3 w') (by kernel_rfl) hbd.oth (fun hHeld => ?_)
  generalize w5.drew = wd5 at *
  obtain ⟨a6, n6, c6, w6, hr6, hb6⟩ := hbd.push [.int .u8 32] (by simp [Value.oneCell']) (by have := HN5.out; simp; omega)
  have hn6 : n6 = n5 + 1 := by have := hbd.step hb6; simpa using this
  have HR6 := hid_of hr6
  have HB6 := hid_of hb6
  have HN6 : Hid (n6 ≤ 1000000000300) := by show n6 ≤ 1000000000300; have := HN5.out; omega
  have HNA := hid_of (nameB_big a6 n6 c6 _ 102 a HA0.out HA1.out w0 w3 w6 HG0.out HG.out hb6 (by have := HN6.out; omega))
  clear hr6 hb6 hbd hn6 hKwd
  iterate 1
   refine tkn (v := ?_) 0 rfl ?_ ?_; rotate_left 1
   ·intro w hSw; have s0 := HSM.out w hSw; go_simp; try with_reducible rfl
   try simp only [Act.put, tdy]
  iterate 2
   refine tkn (v := ?_) 3 rfl ?_ ?_; rotate_left 1
   ·intro w hSw; have s0 := HSM.out w hSw; go_simp; try with_reducible rfl
   try simp only [Act.put, tdy]
  refine rdy 1 rfl (fun K hK => ?_)
  go_simp
  refine hK.out _ _ (hHeld.alloc _) (fun hHeld => ?_)
  clear hK K
  try simp only [Act.put, tdy]
  refine rdy 2 rfl (fun K hK => ?_)
  refine step_app rfl (.tmp 59) (.tmp 60) 23 23 rfl _ _ rfl rfl (.slice a6 n6 c6) w6 HR6.out ?_
  refine hK.out _ _ HB6.out.oth (fun hHeld => ?_)
  clear hK K
  try simp only [Act.put, tdy]
  refine rdy 5 rfl (fun K hK => ?_)
  go_simp
  refine HNA.out.mono ?_
  rintro e w7 ⟨a7, n7, c7, rfl, hb7⟩
  have HB7 := hid_of hb7
  have HN7 : Hid (n7 ≤ 1000000000400) := by show n7 ≤ 1000000000400; have h1 := HB6.out.step hb7; have h2 := HN6.out; have h3 := itoa_le a HA0.out HA1.out; simp [Lib.byteCells_length] at h1; omega
  clear hb7
  refine hK.out _ _ HB7.out.oth (fun hHeld => ?_)
  clear hK K
  try simp only [Act.put, tdy]
  refine rdy 6 rfl (fun K hK => ?_)
  go_simp
  refine hK.out _ _ hHeld (fun hHeld => ?_)
  clear hK K
  try simp only [Act.put, tdy]
  refine wpAnyH_done (by kernel_rfl) ?_ _
  clear hHeld HSM HNA HR6 HB6 s1 x1
  obtain ⟨a9, n9, c9, w9, hr9, hb9⟩ := HB7.out.push [.int .u8 10] (by simp [Value.oneCell']) (by have := HN7.out; simp; omega)
  have HF : Hid (Bs w0 w1 w9 a9 n9 c9 (zs ++ INS)) := by
   show Bs w0 w1 w9 a9 n9 c9 (zs ++ INS)
   have e : zs ++ [Value.int .u8 9] ++ Lib.strCells nm ++ (.int .u8 32 :: .int .u8 102 :: Lib.byteCells (Lib.itoa a)) ++ [Value.int .u8 10] = zs ++ INS := by rw [HIN.out, HD.out]; simp
   rw [← e]
   simpa using hb9.rebase HT3.out
  have HR9 := hid_of hr9
  clear hr9 hb9
  go_wp2_with (at_builtin; refine wp_app2 rfl (.tmp 81) (.tmp 82) 23 23 rfl _ _ rfl rfl _ w9 HR9.out ?_)
  go_ret
  exact ⟨_, _, _, rfl, HF.out⟩
 by_cases h5 : o = 5
 ·subst h5
  have HD1 : Hid (opdD ⟨nm, 5, tt, gg⟩ a pl fs = .int .u8 32 :: Lib.strCells (rowS sysL a).nm) := by show opdD _ _ _ _ = _; simp [opdD]
  have HSY1 := hid_of (sysof_any a w5 HA0.out HA2.out)
  have HSZ := hid_of (sys_small a)
  clear h0 h3 h4 q0
  generalize isRow sysL a = iq2 at *
  generalize rowS sysL a = sy at *
  obtain ⟨nm2, o2, t2, g2⟩ := sy
  have HD : Hid (opdD ⟨nm, 5, tt, gg⟩ a pl fs = .int .u8 32 :: Lib.strCells nm2) := HD1.out
  have HSY : Hid (Calls Tryz.prog 101 #[.int .i64 a] w5 fun e w' => e = .returned (.tuple #[.agg #[.string nm2, .int .i64 o2, .int .i64 t2, .int .i64 g2], .bool iq2]) ∧ Kept (fun _ => False) w5 w') := HSY1.out
  have HZ2 : Hid (nm2.size ≤ 100) := HSZ.out
  clear HD1 HSY1 HSZ
  go_wp2_with fail
  refine HSY.out.mono ?_
  rintro e w6 ⟨rfl, hk6⟩
  have hka : Kept (fun _ => False) w6 (w6.alloc (.cells #[.string nm2, .int .i64 o2, .int .i64 t2, .int .i64 g2] 186)) := (Kept.refl _ _).alloc _
  have HS7 := hid_of (heap_alloc_new w6 (.cells #[.string nm2, .int .i64 o2, .int .i64 t2, .int .i64 g2] 186))
  have HB7 := hid_of (HB5.out.here (hk6.trans hka))
  have HT7 := hid_of (HB5.out.oth.trans (oth5_kept (hk6.trans hka)))
  clear hk6 hka HSY s1 x1
  go_upto_region 11 with fail
  generalize w6.alloc (.cells #[.string nm2, .int .i64 o2, .int .i64 t2, .int .i64 g2] 186) = w7 at *
  generalize w6.heap.size = gs2 at *
  have HSM : Hid (∀ w', Lib.OthersKept 5 none w7 w' → w'.cell? ⟨gs2, 0, none⟩ = some (.string nm2)) := fun w' hw => cell_block _ _ 0 _ _ _ (Oth5.box hw HS7.out (by decide))
  have hKwd : Kept (fun _ => False) w7 w7.drew := (Kept.refl _ _).drew
  have hbd := HB7.out.same hKwd
  refine wp_region_held_drew (S := fun w' => Lib.OthersKept 5 none w7 w') (by kernel_rfl) hbd.oth (fun hHeld => ?_)
  generalize w7.drew = wd7 at *
  obtain ⟨a6, n6, c6, w6', hr6, hb6⟩ := hbd.push [.int .u8 32] (by simp [Value.oneCell']) (by have := HN5.out; simp; omega)
  have hn6 : n6 = n5 + 1 := by have := hbd.step hb6; simpa using this
  obtain ⟨a8, n8, c8, w8, hr8, hb8⟩ := hb6.pushS nm2 (by have := HN5.out; have := HZ2.out; omega)
  have hn8 : n8 = n6 + nm2.size := by have := hb6.step hb8; rw [bl_cells] at this; exact this
  have HN8 : Hid (n8 ≤ 1000000000400) := by show n8 ≤ 1000000000400; have := HN5.out; have := HZ2.out; omega
  have HR6 := hid_of hr6
  have HR8 := hid_of hr8
  have HB6 := hid_of hb6
  have HB8 := hid_of hb8
  have HBF := hid_of (hb8.rebase HT7.out)
  clear hr6 hr8 hb6 hb8 hbd hn6 hn8 hKwd
  iterate 1
   refine tkn (v := ?_) 0 rfl ?_ ?_; rotate_left 1
   ·intro w hSw; have s0 := HSM.out w hSw; go_simp; try with_reducible rfl
   try simp only [Act.put, tdy]
  iterate 2
   refine tkn (v := ?_) 3 rfl ?_ ?_; rotate_left 1
   ·intro w hSw; have s0 := HSM.out w hSw; go_simp; try with_reducible rfl
   try simp only [Act.put, tdy]
  refine rdy 1 rfl (fun K hK => ?_)
  go_simp
  refine hK.out _ _ (hHeld.alloc _) (fun hHeld => ?_)
  clear hK K
  try simp only [Act.put, tdy]
  refine rdy 2 rfl (fun K hK => ?_)
  refine step_app rfl (.tmp 75) (.tmp 76) 23 23 rfl _ _ rfl rfl (.slice a6 n6 c6) w6' HR6.out ?_
  refine hK.out _ _ HB6.out.oth (fun hHeld => ?_)
  clear hK K
  try simp only [Act.put, tdy]
  refine rdy 5 rfl (fun K hK => ?_)
  refine step_app rfl (.tmp 77) (.tmp 79) 23 9 rfl _ _ rfl rfl (.slice a8 n8 c8) w8 HR8.out ?_
  refine hK.out _ _ HB8.out.oth (fun hHeld => ?_)
  clear hK K
  try simp only [Act.put, tdy]
  refine rdy 6 rfl (fun K hK => ?_)
  go_simp
  refine hK.out _ _ hHeld (fun hHeld => ?_)
  clear hK K
  try simp only [Act.put, tdy]
  refine wpAnyH_done (by kernel_rfl) ?_ _
  clear hHeld HSM HR6 HR8 HB6 HB8
  obtain ⟨a9, n9, c9, w9, hr9, hb9⟩ := HBF.out.push [.int .u8 10] (by simp [Value.oneCell']) (by have := HN8.out; simp; omega)
  have HF : Hid (Bs w0 w1 w9 a9 n9 c9 (zs ++ INS)) := by
   show Bs w0 w1 w9 a9 n9 c9 (zs ++ INS)
   have e : zs ++ [Value.int .u8 9] ++ Lib.strCells nm ++ (.int .u8 32 :: Lib.strCells nm2) ++ [Value.int .u8 10] = zs ++ INS := by rw [HIN.out, HD.out]; simp
   rw [← e]
   simpa using hb9.rebase HT3.out
  have HR9 := hid_of hr9
  clear hr9 hb9
  go_wp2_with (at_builtin; refine wp_app2 rfl (.tmp 81) (.tmp 82) 23 23 rfl _ _ rfl rfl _ w9 HR9.out ?_)
  go_ret
  exact ⟨_, _, _, rfl, HF.out⟩
 have HD : Hid (opdD ⟨nm, o, tt, gg⟩ a pl fs = .int .u8 32 :: Lib.byteCells (Lib.itoa a)) := by show opdD _ _ _ _ = _; simp only [opdD, if_neg h0, if_neg h3, if_neg h4, if_neg h5]
 have q5 : (o == 5) = false := by simp [h5]
 by_cases hc3 : o = 3
 ·subst hc3
  have hap : ¬ a ≤ pl := fun hh => h3 ⟨rfl, hh⟩
  clear h0 h3 h4 h5 q0 q5
  have HNU := hid_of (numB_big a5 n5 c5 _ a HA0.out HA1.out w0 w3 w5 HG0.out HG.out HB5.out (by have := HN5.out; omega))
  go_wp2_with fail
  refine HNU.out.mono ?_
  rintro e w7 ⟨a7, n7, c7, rfl, hb7⟩
  have HB7 := hid_of hb7
  have HN7 : Hid (n7 ≤ 1000000000400) := by show n7 ≤ 1000000000400; have h1 := HB5.out.step hb7; have h2 := HN5.out; have h3 := itoa_le a HA0.out HA1.out; simp [Lib.byteCells_length] at h1; omega
  clear hb7 HNU s1 x1
  obtain ⟨a9, n9, c9, w9, hr9, hb9⟩ := HB7.out.push [.int .u8 10] (by simp [Value.oneCell']) (by have := HN7.out; simp; omega)
  have HF : Hid (Bs w0 w1 w9 a9 n9 c9 (zs ++ INS)) := by
   show Bs w0 w1 w9 a9 n9 c9 (zs ++ INS)
   have e : zs ++ [Value.int .u8 9] ++ Lib.strCells nm ++ (.int .u8 32 :: Lib.byteCells (Lib.itoa a)) ++ [Value.int .u8 10] = zs ++ INS := by rw [HIN.out, HD.out]; simp
   rw [← e]
   simpa using hb9.rebase HT3.out
  have HR9 := hid_of hr9
  clear hr9 hb9
  go_wp2_with (at_builtin; refine wp_app2 rfl (.tmp 81) (.tmp 82) 23 23 rfl _ _ rfl rfl _ w9 HR9.out ?_)
  go_ret
  exact ⟨_, _, _, rfl, HF.out⟩
 have q3 : (o == 3) = false := by simp [hc3]
 by_cases hc4 : o = 4
 ·subst hc4
  have haf : ¬ a < fs := fun hh => h4 ⟨rfl, hh⟩
  clear h0 h3 h4 h5 hc3 q0 q3 q5
  have HNU := hid_of (numB_big a5 n5 c5 _ a HA0.out HA1.out w0 w3 w5 HG0.out HG.out HB5.out (by have := HN5.out; omega))
  go_wp2_with fail
  refine HNU.out.mono ?_
  rintro e w7 ⟨a7, n7, c7, rfl, hb7⟩
  have HB7 := hid_of hb7
  have HN7 : Hid (n7 ≤ 1000000000400) := by show n7 ≤ 1000000000400; have h1 := HB5.out.step hb7; have h2 := HN5.out; have h3 := itoa_le a HA0.out HA1.out; simp [Lib.byteCells_length] at h1; omega
  clear hb7 HNU s1 x1
  obtain ⟨a9, n9, c9, w9, hr9, hb9⟩ := HB7.out.push [.int .u8 10] (by simp [Value.oneCell']) (by have := HN7.out; simp; omega)
  have HF : Hid (Bs w0 w1 w9 a9 n9 c9 (zs ++ INS)) := by
   show Bs w0 w1 w9 a9 n9 c9 (zs ++ INS)
   have e : zs ++ [Value.int .u8 9] ++ Lib.strCells nm ++ (.int .u8 32 :: Lib.byteCells (Lib.itoa a)) ++ [Value.int .u8 10] = zs ++ INS := by rw [HIN.out, HD.out]; simp
   rw [← e]
   simpa using hb9.rebase HT3.out
  have HR9 := hid_of hr9
  clear hr9 hb9
  go_wp2_with (at_builtin; refine wp_app2 rfl (.tmp 81) (.tmp 82) 23 23 rfl _ _ rfl rfl _ w9 HR9.out ?_)
  go_ret
  exact ⟨_, _, _, rfl, HF.out⟩
 have q4 : (o == 4) = false := by simp [hc4]
 clear h0 h3 h4 h5 hc3 hc4
 have HNU := hid_of (numB_big a5 n5 c5 _ a HA0.out HA1.out w0 w3 w5 HG0.out HG.out HB5.out (by have := HN5.out; omega))
 go_wp2_with fail
 refine HNU.out.mono ?_
 rintro e w7 ⟨a7, n7, c7, rfl, hb7⟩
 have HB7 := hid_of hb7
 have HN7 : Hid (n7 ≤ 1000000000400) := by show n7 ≤ 1000000000400; have h1 := HB5.out.step hb7; have h2 := HN5.out; have h3 := itoa_le a HA0.out HA1.out; simp [Lib.byteCells_length] at h1; omega
 clear hb7 HNU s1 x1
 obtain ⟨a9, n9, c9, w9, hr9, hb9⟩ := HB7.out.push [.int .u8 10] (by simp [Value.oneCell']) (by have := HN7.out; simp; omega)
 have HF : Hid (Bs w0 w1 w9 a9 n9 c9 (zs ++ INS)) := by
  show Bs w0 w1 w9 a9 n9 c9 (zs ++ INS)
  have e : zs ++ [Value.int .u8 9] ++ Lib.strCells nm ++ (.int .u8 32 :: Lib.byteCells (Lib.itoa a)) ++ [Value.int .u8 10] = zs ++ INS := by rw [HIN.out, HD.out]; simp
  rw [← e]
  simpa using hb9.rebase HT3.out
 have HR9 := hid_of hr9
 clear hr9 hb9
 go_wp2_with (at_builtin; refine wp_app2 rfl (.tmp 81) (.tmp 82) 23 23 rfl _ _ rfl rfl _ w9 HR9.out ?_)
 go_ret
 exact ⟨_, _, _, rfl, HF.out⟩
def lblD (q : Bool) (k : Nat) : List Value := if q then .int .u8 76 :: Lib.byteCells (Lib.itoa (k : Int)) ++ Lib.strCells ⟨#[58, 10]⟩ else []
set_option maxHeartbeats 4000000 in
theorem labelB_any (ao : Option Addr) (m c : Nat) (zs : List Value) (gb n cb k : Nat) (q : Bool) (hkn : k < n) (hkb : k ≤ 1000000) (w0 w1 wr : World) (hG0 : 8 ≤ w0.heap.size) (hG : Gl w0) (h : Bs w0 w1 wr ao m c zs) (hm : m ≤ 1000000000000) (hc : wr.cell? ⟨gb, k, none⟩ = some (.bool q)) :
  Calls Tryz.prog 75 #[.slice ao m c, .slice (some ⟨gb, 0, none⟩) n cb, .int .i64 (k : Int)] wr fun e w' => ∃ ao' m' c', e = .returned (.slice ao' m' c') ∧ Bs w0 w1 w' ao' m' c' (zs ++ lblD q k) := by
 have hkI : (k : Int) < (n : Int) := by omega
 have HH := hid_of h
 have HM := hid_of hm
 have HNB := hid_of (nameB_big ao m c zs 76 (k : Int) (by omega) (by omega) w0 w1 wr hG0 hG h (by omega))
 have HIL := hid_of (itoa_le (k : Int) (by omega) (by omega))
 clear hkn hkb hG0 hG h hm
 cases q
 ·have HF : Hid (Bs w0 w1 wr ao m c (zs ++ lblD false k)) := by
   show Bs w0 w1 wr ao m c (zs ++ lblD false k)
   simpa [lblD] using HH.out
  go_enter Tryz.func75, Tryz.ntmps75
  go_wp2
  go_ret
  exact ⟨_, _, _, rfl, HF.out⟩
 ·go_enter Tryz.func75, Tryz.ntmps75
  go_wp2_with fail
  refine HNB.out.mono ?_
  rintro e w7 ⟨a7, n7, c7, rfl, hb7⟩
  have hn7 : n7 ≤ 1000000000100 := by
   have h1 := HH.out.step hb7
   have h2 := HM.out
   have h3 := HIL.out
   simp [Lib.byteCells_length] at h1
   omega
  obtain ⟨a8, n8, c8, w8, hr8, hb8⟩ := hb7.pushS ⟨#[58, 10]⟩ (by show n7 + 2 ≤ 140737488355328; omega)
  have HR8 := hid_of hr8
  have HF : Hid (Bs w0 w1 w8 a8 n8 c8 (zs ++ lblD true k)) := by
   show Bs w0 w1 w8 a8 n8 c8 (zs ++ lblD true k)
   simpa [lblD] using hb8
  clear hb7 hn7 hr8 hb8 HNB
  go_wp2_with (at_builtin; refine wp_app2 rfl (.tmp 15) (.const (.string ⟨#[58, 10]⟩)) 23 9 rfl _ _ rfl rfl _ w8 HR8.out ?_)
  go_ret
  exact ⟨_, _, _, rfl, HF.out⟩
set_option maxHeartbeats 4000000 in
theorem operand_any (op a : Int) (h0 : -9223372036854775808 ≤ op) (h1 : op < 9223372036854775808) (w : World) : Calls Tryz.prog 99 #[.agg #[.int .i64 op, .int .i64 a]] w fun e w' => e = .returned (.int .i64 (rowS insL op).o) ∧ Kept (fun _ => False) w w' := by
 have hka : Kept (fun _ => False) w (w.alloc (.cells #[.int .i64 op, .int .i64 a] 75)) := (Kept.refl _ _).alloc _
 have c0 := cell_block _ _ 0 _ _ _ (heap_alloc_new w (.cells #[.int .i64 op, .int .i64 a] 75))
 have HO1 := hid_of (of_any op (w.alloc (.cells #[.int .i64 op, .int .i64 a] 75)) h0 h1)
 have HK := hid_of hka
 clear hka h0 h1
 generalize isRow insL op = iq at *
 generalize rowS insL op = sh at *
 obtain ⟨nm, o, tt, gg⟩ := sh
 have HO : Hid (Calls Tryz.prog 100 #[.int .i64 op] (w.alloc (.cells #[.int .i64 op, .int .i64 a] 75)) fun e w' => e = .returned (.tuple #[.agg #[.string nm, .int .i64 o, .int .i64 tt, .int .i64 gg], .bool iq]) ∧ Kept (fun _ => False) (w.alloc (.cells #[.int .i64 op, .int .i64 a] 75)) w') := HO1.out
 clear HO1
 go_enter Tryz.func99, Tryz.ntmps99
 go_wp2_with fail
 refine HO.out.mono ?_
 rintro e w2 ⟨rfl, hk2⟩
 have hkb : Kept (fun _ => False) w2 (w2.alloc (.cells #[.string nm, .int .i64 o, .int .i64 tt, .int .i64 gg] 186)) := (Kept.refl _ _).alloc _
 have c1 := cell_block _ _ 1 _ _ _ (heap_alloc_new w2 (.cells #[.string nm, .int .i64 o, .int .i64 tt, .int .i64 gg] 186))
 have HK2 := hid_of (HK.out.trans (hk2.trans hkb))
 clear hk2 hkb HK c0 HO
 go_wp2
 go_ret
 exact ⟨rfl, HK2.out⟩
theorem Tryz.info4 : (Tryz.prog.info? 4).map (fun i => (i.zero, i.size, i.bytes)) = some (some (.bool false), 1, 1) := by kernel_rfl
def zerB (n : Nat) : Array Value := madeCells (Value.bool false).cells n
theorem zerB_eq (n : Nat) : zerB n = ((List.replicate n false).map Value.bool).toArray := by
 apply Array.ext
 ·simp [zerB]
  exact size_madeCells _ n
 ·intro i h1 h2
  simp [zerB, madeCells, Value.cells, Nat.mod_one]
theorem makeB_any (W : World) (l : Nat) (h : l ≤ 140737488355328) : (Instr.makeSlice 86 (.int .i64 (l : Int)) (.int .i64 (l : Int))).run Tryz.prog W = .ok (.slice (some ⟨W.heap.size, 0, none⟩) l l) (W.alloc (.cells (zerB l) 4)) := by
 obtain ⟨i0, hi, hz0, hz1, hz2⟩ := info_parts Tryz.info4
 have := run_make (P := Tryz.prog) W 86 4 i0 (.bool false) Tryz.underlying86 hi hz0 .i64 .i64 (l : Int) (l : Int) (by omega) (by omega) (by rw [hz2]; omega) (by omega)
 simpa [zerB, hz1] using this
def aimS (n : Nat) (l : List Bool) (x : IN) : List Bool := if (rowS insL x.op).o = 3 ∧ x.a < (n : Int) + 1 then l.set x.a.toNat true else l
def aimsD (ys : List IN) : List Bool := ys.foldl (aimS ys.length) (List.replicate (ys.length + 1) false)
theorem aim_len (n : Nat) (l : List Bool) (x : IN) : (aimS n l x).length = l.length := by unfold aimS; split <;> simp
theorem aims_len (n : Nat) : ∀ (ys : List IN) (l : List Bool), (ys.foldl (aimS n) l).length = l.length
 | [], l => rfl
 | x :: ys, l => by rw [List.foldl_cons, aims_len n ys, aim_len]
set_option maxHeartbeats 8000000 in
theorem aims_any (v : Value) (ys : List IN) (hl : ys.length ≤ 1000000) (hok : ∀ y ∈ ys, y.Ok) (hj : ∀ y ∈ ys, (rowS insL y.op).o = 3 → 0 ≤ y.a) (w : World) (hr : RowI w v ys) :
  Calls Tryz.prog 74 #[v] w fun e w' => ∃ gb, e = .returned (.slice (some ⟨gb, 0, none⟩) (ys.length + 1) (ys.length + 1)) ∧ w'.heap[gb]? = some (.cells ((aimsD ys).map Value.bool).toArray 4 (0, 0)) ∧ w.heap.size ≤ gb ∧ Kept (fun _ => False) w w' := by
 obtain ⟨ao, vc, rfl⟩ := hr.shape
 obtain ⟨n, hn⟩ := nmd (ys.length)
 have HR : Hid (∀ (i : Nat) (h : i < ys.length), ∃ g o, ao = some ⟨g, o, none⟩ ∧ w.cell? ⟨g, o + i * 2, none⟩ = some (.int .i64 (ys[i]'h).op) ∧ w.cell? ⟨g, o + i * 2 + 1, none⟩ = some (.int .i64 (ys[i]'h).a)) := fun i h => by
  rcases hr with ⟨h0, _⟩ | ⟨g, o, c, hv, hc⟩
  ·subst h0
   exact absurd h (Nat.not_lt_zero _)
  ·cases hv
   have := hc i (ys[i]'h) (List.getElem?_eq_getElem h)
   exact ⟨g, o, rfl, this 0 _ rfl, this 1 _ rfl⟩
 have HOK : Hid (∀ (i : Nat) (h : i < ys.length), (ys[i]'h).Ok ∧ ((rowS insL (ys[i]'h).op).o = 3 → 0 ≤ (ys[i]'h).a)) := fun i h => ⟨hok _ (List.getElem_mem h), hj _ (List.getElem_mem h)⟩
 have HST : Hid (∀ (i : Nat) (h : i < ys.length), (ys.take (i + 1)).foldl (aimS n) (List.replicate (n + 1) false) = aimS n ((ys.take i).foldl (aimS n) (List.replicate (n + 1) false)) (ys[i]'h)) := fun i h => by
  rw [List.take_succ_eq_append_getElem h, List.foldl_append]
  rfl
 have HAD : Hid (aimsD ys = ys.foldl (aimS n) (List.replicate (n + 1) false)) := by rw [hn]; rfl
 have HN := hid_of hn
 have HL : Hid (n ≤ 1000000) := by rw [hn]; exact hl
 rw [← hn]
 have hmk := makeB_any w (n + 1) (by have := HL.out; omega)
 rw [zerB_eq, show ((n + 1 : Nat) : Int) = (n : Int) + 1 from rfl] at hmk
 have hka : Kept (fun _ => False) w (w.alloc (.cells ((List.replicate (n + 1) false).map Value.bool).toArray 4)) := (Kept.refl _ _).alloc _
 have HX := hid_of (heap_alloc_new w (.cells ((List.replicate (n + 1) false).map Value.bool).toArray 4))
 have HK := hid_of hka
 have hw1 : IntKind.i64.wrap ((n : Int) + 1) = (n : Int) + 1 := by have := HL.out; simp [IntKind.wrap, IntKind.bits, IntKind.signed]; omega
 clear hka hr hok hj hl hn
 go_enter Tryz.func74, Tryz.ntmps74
 go_wp2_with fail
 rw [show Array.replicate (n + 1) (Value.bool false) = ((List.replicate (n + 1) false).map Value.bool).toArray by simp]
 have HGB : Hid (w.heap.size ≤ w.heap.size) := Nat.le_refl _
 obtain ⟨gb, hgb⟩ := nmd (w.heap.size)
 rw [← hgb] at HX ⊢
 have HGB : Hid (w.heap.size ≤ gb) := by rw [hgb]; exact Nat.le_refl _
 clear hgb hmk hw1
 generalize w.alloc (.cells ((List.replicate (n + 1) false).map Value.bool).toArray 4) = w1 at *
 go_loopw [12] (fun iv wr => ∃ (i : Nat), iv = .int .i64 (i : Int) ∧ Hid (i ≤ n) ∧ Hid (Kept (fun _ => False) w wr) ∧ Hid (wr.heap[gb]? = some (.cells (((ys.take i).foldl (aimS n) (List.replicate (n + 1) false)).map Value.bool).toArray 4 (0, 0)))) (fun iv _ => n - (intOf iv).toNat)
 case atStart => exact ⟨0, rfl, Nat.zero_le _, HK, HX⟩
 case round =>
  obtain ⟨i, rfl, HI, HKr, HXr⟩ := hrel
  clear HK HX
  by_cases hlt : i < n
  ·have hil : i < ys.length := by have := HN.out; omega
   obtain ⟨g, o, rfl, r0, r1⟩ := HR.out i hil
   have c0 := HKr.out.cell r0 id
   have c1 := HKr.out.cell r1 id
   obtain ⟨hok, hjj⟩ := HOK.out i hil
   have HS1 := hid_of (HST.out i hil)
   have hltI : (i : Int) < (n : Int) := by omega
   have hiB : (i : Int) < 1000000 := by have := HL.out; omega
   have hlen := aims_len n (ys.take i) (List.replicate (n + 1) false)
   rw [List.length_replicate] at hlen
   generalize ((ys.take i).foldl (aimS n) (List.replicate (n + 1) false)) = L at *
   generalize hx : ys[i]'hil = x at *
   obtain ⟨op, a⟩ := x
   simp only at c0 c1 hjj
   have hka : Kept (fun _ => False) wr (wr.alloc (.cells #[.int .i64 op, .int .i64 a] 75)) := (Kept.refl _ _).alloc _
   have HB := hid_of (heap_alloc_new wr (.cells #[.int .i64 op, .int .i64 a] 75))
   have HK2 := hid_of (HKr.out.trans hka)
   have HX2 := hid_of (box_kept hka HXr.out id)
   have HOP := hid_of (operand_any op a hok.1.1 hok.1.2 (wr.alloc (.cells #[.int .i64 op, .int .i64 a] 75)))
   have HSD : Hid (aimS n L ⟨op, a⟩ = if (rowS insL op).o = 3 ∧ a < (n : Int) + 1 then L.set a.toNat true else L) := rfl
   have HLN := hid_of hlen
   have HJJ := hid_of hjj
   clear hka r0 r1 hok hil hx hlen hjj HKr HXr
   generalize (rowS insL op).o = q at *
   go_upto_region 5 with fail
   clear c0 c1
   generalize wr.alloc (.cells #[.int .i64 op, .int .i64 a] 75) = w2 at *
   generalize wr.heap.size = gx at *
   obtain ⟨b0, b1, _⟩ := look2 HB.out
   by_cases hq : q = 3
   ·subst hq
    by_cases han : a < (n : Int) + 1
    ·obtain ⟨k, rfl⟩ := Int.eq_ofNat_of_zero_le (HJJ.out (by simp))
     have HAN := hid_of han
     go_wp2_with fail
     refine HOP.out.mono ?_
     rintro e w3 ⟨rfl, hk3⟩
     obtain ⟨b0, b1, _⟩ := look2 (box_kept hk3 HB.out id)
     have hx3 := box_kept hk3 HX2.out id
     have hkL : k < L.length := by have := HLN.out; omega
     have y0 : w3.cell? ⟨gb, k, none⟩ = some (.bool (L[k]'hkL)) := by rw [cell_block _ _ _ _ _ _ hx3]; simp [hkL]
     have f0 := frozen_block _ _ k _ _ hx3
     have HX4 : Hid ((w3.setCell ⟨gb, k, none⟩ (.bool true)).heap[gb]? = some (.cells ((aimS n L ⟨op, (k : Int)⟩).map Value.bool).toArray 4 (0, 0))) := by
      show _ = _
      rw [set_block _ _ _ _ _ _ hx3, HSD.out, if_pos ⟨by trivial, HAN.out⟩]
      simp
     have HK4 : Hid (Kept (fun _ => False) w (w3.setCell ⟨gb, k, none⟩ (.bool true))) := (HK2.out.trans hk3).setCell (.inl HGB.out) _
     clear hx3 hk3 HOP HX2 HK2
     go_wp2
     go_roundw
     case rel => exact ⟨i + 1, by go_num, hlt, HK4, by rw [HS1.out]; exact HX4.out⟩
     case measure => simp [intOf]; omega
    ·have HAN := hid_of han
     have hde : decide (a < (n : Int) + 1) = false := decide_eq_false han
     clear han
     go_wp2_with fail
     refine HOP.out.mono ?_
     rintro e w3 ⟨rfl, hk3⟩
     obtain ⟨b0, b1, _⟩ := look2 (box_kept hk3 HB.out id)
     have HX4 : Hid (w3.heap[gb]? = some (.cells ((aimS n L ⟨op, a⟩).map Value.bool).toArray 4 (0, 0))) := by
      show _ = _
      rw [HSD.out, if_neg (fun hh => by have h1 := hh.2; have h2 := HAN.out; omega)]
      exact box_kept hk3 HX2.out id
     have HK4 := hid_of (HK2.out.trans hk3)
     clear hk3 HOP HX2 HK2
     go_wp2
     go_roundw
     case rel => exact ⟨i + 1, by go_num, hlt, HK4, by rw [HS1.out]; exact HX4.out⟩
     case measure => simp [intOf]; omega
   ·have q3 : (q == 3) = false := by simp [hq]
    have HQ := hid_of hq
    clear hq
    go_wp2_with fail
    refine HOP.out.mono ?_
    rintro e w3 ⟨rfl, hk3⟩
    have HX4 : Hid (w3.heap[gb]? = some (.cells ((aimS n L ⟨op, a⟩).map Value.bool).toArray 4 (0, 0))) := by
     show _ = _
     rw [HSD.out, if_neg (fun hh => HQ.out hh.1)]
     exact box_kept hk3 HX2.out id
    have HK4 := hid_of (HK2.out.trans hk3)
    clear hk3 HOP HX2 HK2 b0 b1
    go_wp2
    go_roundw
    case rel => exact ⟨i + 1, by go_num, hlt, HK4, by rw [HS1.out]; exact HX4.out⟩
    case measure => simp [intOf]; omega
  ·have hnlt : ¬ (i : Int) < (n : Int) := by omega
   have HF : Hid (wr.heap[gb]? = some (.cells ((aimsD ys).map Value.bool).toArray 4 (0, 0))) := by
    have h := HXr.out
    have := HN.out
    have := HI.out
    rw [List.take_of_length_le (by omega), ← HAD.out] at h
    exact h
   go_wp2
   go_ret
   exact ⟨gb, rfl, HF.out, HGB.out, HKr.out⟩
end Go.Proofs.YtgoabnehdmdikaaGreatDoor
