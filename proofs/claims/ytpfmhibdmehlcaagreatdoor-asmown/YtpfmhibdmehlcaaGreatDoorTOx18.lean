import Derived.Test.YtpfmhibdmehlcaaGreatDoorTOx10
import Derived.Lib.ItoaLen
namespace Go.Proofs.YtpfmhibdmehlcaaGreatDoor
open Go.RowKit
set_option linter.unusedVariables false
set_option linter.unusedSimpArgs false
set_option maxRecDepth 100000
theorem Bs.rebase {w0 w1 w2 wr : World} {ao : Option Addr} {m c : Nat} {zs : List Value} (h : Bs w0 w2 wr ao m c zs) (ho : Lib.OthersKept 5 none w1 w2) : Bs w0 w1 wr ao m c zs := ⟨h.own, h.kept, ho.trans h.oth⟩
theorem Bs.here {w0 w1 wr w2 : World} {ao : Option Addr} {m c : Nat} {zs : List Value} (h : Bs w0 w1 wr ao m c zs) (hk : Kept (fun _ => False) wr w2) : Bs w0 w2 w2 ao m c zs := ⟨hk.ownsRow h.own (fun _ _ f => f), h.kept.trans hk, Lib.OthersKept.refl _ _ _⟩
def opdD (s : Sh) (a pl fs : Int) : List Value :=
 if s.o = 0 then [] else if s.o = 3 ∧ a ≤ pl then .int .u8 32 :: .int .u8 76 :: Lib.byteCells (Lib.itoa a) else if s.o = 4 ∧ a < fs then .int .u8 32 :: .int .u8 102 :: Lib.byteCells (Lib.itoa a)
 else if s.o = 5 then .int .u8 32 :: Lib.strCells (rowS sysL a).nm else .int .u8 32 :: Lib.byteCells (Lib.itoa a)
def insB (op a pl fs : Int) : List Value := .int .u8 9 :: Lib.strCells (rowS insL op).nm ++ opdD (rowS insL op) a pl fs ++ [.int .u8 10]
theorem nm_small : ∀ L : List Sh, (∀ s ∈ L, s.nm.size ≤ 100) → ∀ n, (rowS L n).nm.size ≤ 100 := by
 intro L h n
 unfold rowS
 split
 ·rename_i hn
  have hl : n.toNat < L.length := by omega
  rw [List.getD, List.getElem?_eq_getElem hl]
  exact h _ (List.getElem_mem hl)
 ·decide
theorem ins_small (n : Int) : (rowS insL n).nm.size ≤ 100 := nm_small insL (by decide) n
theorem sys_small (n : Int) : (rowS sysL n).nm.size ≤ 100 := nm_small sysL (by decide) n
theorem itoa_le (i : Int) (h0 : -9223372036854775808 ≤ i) (h1 : i ≤ 9223372036854775807) : (Lib.itoa i).length ≤ 21 := Lib.itoa_length_le i h0 h1
theorem bl_cells (s : ByteArray) : (Lib.strCells s).length = s.size := by simp [Lib.strCells]
set_option maxHeartbeats 16000000 in
theorem instrB_any (ao : Option Addr) (m c : Nat) (zs : List Value) (op a pl fs : Int) (ho0 : -9223372036854775808 ≤ op) (ho1 : op < 9223372036854775808) (ha0 : -9223372036854775808 ≤ a) (ha1 : a < 9223372036854775808) (w0 w1 wr : World) (hG0 : 8 ≤ w0.heap.size) (hG : Gl w0) (h : Bs w0 w1 wr ao m c zs) (hm : m ≤ 1000000000000) :
  Calls Tryz.prog 46 #[.slice ao m c, .agg #[.int .i64 op, .int .i64 a], .int .i64 pl, .int .i64 fs] wr fun e w' => ∃ ao' m' c', e = .returned (.slice ao' m' c') ∧ Bs w0 w1 w' ao' m' c' (zs ++ insB op a pl fs) := by
 have hka : Kept (fun _ => False) wr (wr.alloc (.cells #[.int .i64 op, .int .i64 a] 48)) := (Kept.refl _ _).alloc _
 have HX := hid_of (heap_alloc_new wr (.cells #[.int .i64 op, .int .i64 a] 48))
 have HKA := hid_of hka
 have HH := hid_of h
 have HM := hid_of hm
 have HG := hid_of hG
 have HG0 := hid_of hG0
 have HA0 := hid_of ha0
 have HA1 : Hid (a ≤ 9223372036854775807) := by show a ≤ 9223372036854775807; omega
 have HA2 := hid_of ha1
 have hins : insB op a pl fs = .int .u8 9 :: Lib.strCells (rowS insL op).nm ++ opdD (rowS insL op) a pl fs ++ [.int .u8 10] := rfl
 have HSM0 := hid_of (ins_small op)
 have HOF1 := hid_of (of_any op (wr.alloc (.cells #[.int .i64 op, .int .i64 a] 48)) ho0 ho1)
 clear hka h hm hG hG0 ha0 ha1 ho0 ho1
 generalize isRow insL op = iq at *
 generalize insB op a pl fs = INS at *
 generalize rowS insL op = sh at *
 obtain ⟨nm, o, tt, gg⟩ := sh
 have HIN : Hid (INS = .int .u8 9 :: Lib.strCells nm ++ opdD ⟨nm, o, tt, gg⟩ a pl fs ++ [.int .u8 10]) := hins
 have HOF : Hid (Calls Tryz.prog 66 #[.int .i64 op] (wr.alloc (.cells #[.int .i64 op, .int .i64 a] 48)) fun e w' => e = .returned (.tuple #[.agg #[.string nm, .int .i64 o, .int .i64 tt, .int .i64 gg], .bool iq]) ∧ Kept (fun _ => False) (wr.alloc (.cells #[.int .i64 op, .int .i64 a] 48)) w') := HOF1.out
 clear hins HOF1
 go_enter Tryz.func46, Tryz.ntmps46
 go_upto_region 1 with fail
 generalize wr.alloc (.cells #[.int .i64 op, .int .i64 a] 48) = wa at *
 generalize wr.heap.size = gx at *
 obtain ⟨b0, b1, _⟩ := look2 HX.out
 go_wp2_with fail
 refine HOF.out.mono ?_
 rintro e w2 ⟨rfl, hk2⟩
 have hka : Kept (fun _ => False) w2 (w2.alloc (.cells #[.string nm, .int .i64 o, .int .i64 tt, .int .i64 gg] 147)) := (Kept.refl _ _).alloc _
 have HS3 := hid_of (heap_alloc_new w2 (.cells #[.string nm, .int .i64 o, .int .i64 tt, .int .i64 gg] 147))
 have HX3 := hid_of (box_kept (hk2.trans hka) HX.out id)
 have HB3 := hid_of (HH.out.here ((HKA.out.trans hk2).trans hka))
 have HT3 := hid_of (HH.out.oth.trans (oth5_kept ((HKA.out.trans hk2).trans hka)))
 clear hk2 hka HOF HX HKA HH b0 b1
 go_upto_region 2 with fail
 generalize w2.alloc (.cells #[.string nm, .int .i64 o, .int .i64 tt, .int .i64 gg] 147) = w3 at *
 generalize w2.heap.size = gs at *
 have HSM : Hid (∀ w', Lib.OthersKept 5 none w3 w' → w'.cell? ⟨gs, 0, none⟩ = some (.string nm)) := fun w' hw => cell_block _ _ 0 _ _ _ (Oth5.box hw HS3.out (by decide))
 have hKwd : Kept (fun _ => False) w3 w3.drew := (Kept.refl _ _).drew
 refine wp_region_held_drew (S := fun w' => Lib.OthersKept 5 none w3 w') (by kernel_rfl) (oth5_kept hKwd) (fun hHeld => ?_)
 have hbd := HB3.out.same hKwd
 generalize w3.drew = wd at *
 obtain ⟨a4, n4, c4, w4, hr4, hb4⟩ := hbd.push [.int .u8 9] (by simp [Value.oneCell']) (by have := HM.out; simp; omega)
 have hn4 : n4 = m + 1 := by have := hbd.step hb4; simpa using this
 obtain ⟨a5, n5, c5, w5, hr5, hb5⟩ := hb4.pushS nm (by have := HM.out; have h9 : nm.size ≤ 100 := HSM0.out; omega)
 have hn5 : n5 = n4 + nm.size := by have := hb4.step hb5; rw [bl_cells] at this; exact this
 have HN5 : Hid (n5 ≤ 1000000000200) := by show n5 ≤ 1000000000200; have := HM.out; have h9 : nm.size ≤ 100 := HSM0.out; omega
 have HR4 := hid_of hr4
 have HR5 := hid_of hr5
 have HB4 := hid_of hb4
 have HB5 := hid_of hb5
 clear hr4 hr5 hb4 hb5 hbd hn4 hn5 hKwd
 iterate 1
  refine tkn (v := ?_) 0 rfl ?_ ?_; rotate_left 1
  ·intro w hSw; have s0 := HSM.out w hSw; go_simp; try with_reducible rfl
  try simp only [Act.put, tdy]
 iterate 2
  refine tkn (v := ?_) 3 rfl ?_ ?_; rotate_left 1
  ·intro w hSw; have s0 := HSM.out w hSw; go_simp; try with_reducible rfl
  try simp only [Act.put, tdy]
 refine rdy 1 rfl (fun K hK => ?_)
 go_simp
 refine hK.out _ _ (hHeld.alloc _) (fun hHeld => ?_)
 clear hK K
 try simp only [Act.put, tdy]
 refine rdy 2 rfl (fun K hK => ?_)
 refine step_app rfl (.tmp 19) (.tmp 20) 22 22 rfl _ _ rfl rfl (.slice a4 n4 c4) w4 HR4.out ?_
 refine hK.out _ _ HB4.out.oth (fun hHeld => ?_)
 clear hK K
 try simp only [Act.put, tdy]
 refine rdy 5 rfl (fun K hK => ?_)
 refine step_app rfl (.tmp 21) (.tmp 23) 22 9 rfl _ _ rfl rfl (.slice a5 n5 c5) w5 HR5.out ?_
 refine hK.out _ _ HB5.out.oth (fun hHeld => ?_)
 clear hK K
 try simp only [Act.put, tdy]
 refine rdy 6 rfl (fun K hK => ?_)
 go_simp
 refine hK.out _ _ hHeld (fun hHeld => ?_)
 clear hK K
 try simp only [Act.put, tdy]
 refine wpAnyH_done (by kernel_rfl) ?_ _
 clear hHeld HSM HR4 HR5 HB4
 have s1 := cell_block _ _ 1 _ _ _ (Oth5.box HB5.out.oth HS3.out (by decide))
 have x1 := cell_block _ _ 1 _ _ _ (Oth5.box HB5.out.oth HX3.out (by decide))
 by_cases h0 : o = 0
 ·subst h0
  have hD : opdD ⟨nm, 0, tt, gg⟩ a pl fs = [] := by simp [opdD]
  obtain ⟨a9, n9, c9, w9, hr9, hb9⟩ := HB5.out.push [.int .u8 10] (by simp [Value.oneCell']) (by have := HN5.out; simp; omega)
  have HF : Hid (Bs w0 w1 w9 a9 n9 c9 (zs ++ INS)) := by
   show Bs w0 w1 w9 a9 n9 c9 (zs ++ INS)
   have e : zs ++ [Value.int .u8 9] ++ Lib.strCells nm ++ [] ++ [Value.int .u8 10] = zs ++ INS := by rw [HIN.out, hD]; simp
   rw [← e]
   simpa using hb9.rebase HT3.out
  have HR9 := hid_of hr9
  clear hr9 hb9
  go_wp2_with (at_builtin; refine wp_app2 rfl (.tmp 81) (.tmp 82) 22 22 rfl _ _ rfl rfl _ w9 HR9.out ?_)
  go_ret
  exact ⟨_, _, _, rfl, HF.out⟩
 have q0 : (o == 0) = false := by simp [h0]
 by_cases h3 : o = 3 ∧ a ≤ pl
 ·obtain ⟨rfl, hap⟩ := h3
  have hD : opdD ⟨nm, 3, tt, gg⟩ a pl fs = .int .u8 32 :: .int .u8 76 :: Lib.byteCells (Lib.itoa a) := by simp [opdD, hap]
  have HD := hid_of hD
  clear hD
  have HSM : Hid (∀ w', Lib.OthersKept 5 none w3 w' → w'.cell? ⟨gx, 1, none⟩ = some (.int .i64 a)) := fun w' hw => cell_block _ _ 1 _ _ _ (Oth5.box hw HX3.out (by decide))
  have hKwd : Kept (fun _ => False) w5 w5.drew := (Kept.refl _ _).drew
  have hbd := HB5.out.same hKwd
  go_upto_region 6 with fail
  refine wp_region_held_drew (S := fun w' => Lib.OthersKept 5 none w3 w') (by kernel_rfl) hbd.oth (fun hHeld => ?_)
  generalize w5.drew = wd5 at *
  obtain ⟨a6, n6, c6, w6, hr6, hb6⟩ := hbd.push [.int .u8 32] (by simp [Value.oneCell']) (by have := HN5.out; simp; omega)
  have hn6 : n6 = n5 + 1 := by have := hbd.step hb6; simpa using this
  have HR6 := hid_of hr6
  have HB6 := hid_of hb6
  have HN6 : Hid (n6 ≤ 1000000000300) := by show n6 ≤ 1000000000300; have := HN5.out; omega
  have HNA := hid_of (nameB_big a6 n6 c6 _ 76 a HA0.out HA1.out w0 w3 w6 HG0.out HG.out hb6 (by have := HN6.out; omega))
  clear hr6 hb6 hbd hn6 hKwd
  iterate 1
   refine tkn (v := ?_) 0 rfl ?_ ?_; rotate_left 1
   ·intro w hSw; have s0 := HSM.out w hSw; go_simp; try with_reducible rfl
   try simp only [Act.put, tdy]
  iterate 2
   refine tkn (v := ?_) 3 rfl ?_ ?_; rotate_left 1
   ·intro w hSw; have s0 := HSM.out w hSw; go_simp; try with_reducible rfl
   try simp only [Act.put, tdy]
  refine rdy 1 rfl (fun K hK => ?_)
  go_simp
  refine hK.out _ _ (hHeld.alloc _) (fun hHeld => ?_)
  clear hK K
  try simp only [Act.put, tdy]
  refine rdy 2 rfl (fun K hK => ?_)
  refine step_app rfl (.tmp 43) (.tmp 44) 22 22 rfl _ _ rfl rfl (.slice a6 n6 c6) w6 HR6.out ?_
  refine hK.out _ _ HB6.out.oth (fun hHeld => ?_)
  clear hK K
  try simp only [Act.put, tdy]
  refine rdy 5 rfl (fun K hK => ?_)
  go_simp
  refine HNA.out.mono ?_
  rintro e w7 ⟨a7, n7, c7, rfl, hb7⟩
  have HB7 := hid_of hb7
  have HN7 : Hid (n7 ≤ 1000000000400) := by show n7 ≤ 1000000000400; have h1 := HB6.out.step hb7; have h2 := HN6.out; have h3 := itoa_le a HA0.out HA1.out; simp [Lib.byteCells_length] at h1; omega
  clear hb7
  refine hK.out _ _ HB7.out.oth (fun hHeld => ?_)
  clear hK K
  try simp only [Act.put, tdy]
  refine rdy 6 rfl (fun K hK => ?_)
  go_simp
  refine hK.out _ _ hHeld (fun hHeld => ?_)
  clear hK K
  try simp only [Act.put, tdy]
  refine wpAnyH_done (by kernel_rfl) ?_ _
  clear hHeld HSM HNA HR6 HB6 s1 x1
  obtain ⟨a9, n9, c9, w9, hr9, hb9⟩ := HB7.out.push [.int .u8 10] (by simp [Value.oneCell']) (by have := HN7.out; simp; omega)
  have HF : Hid (Bs w0 w1 w9 a9 n9 c9 (zs ++ INS)) := by
   show Bs w0 w1 w9 a9 n9 c9 (zs ++ INS)
   have e : zs ++ [Value.int .u8 9] ++ Lib.strCells nm ++ (.int .u8 32 :: .int .u8 76 :: Lib.byteCells (Lib.itoa a)) ++ [Value.int .u8 10] = zs ++ INS := by rw [HIN.out, HD.out]; simp
   rw [← e]
   simpa using hb9.rebase HT3.out
  have HR9 := hid_of hr9
  clear hr9 hb9
  go_wp2_with (at_builtin; refine wp_app2 rfl (.tmp 81) (.tmp 82) 22 22 rfl _ _ rfl rfl _ w9 HR9.out ?_)
  go_ret
  exact ⟨_, _, _, rfl, HF.out⟩
 by_cases h4 : o = 4 ∧ a < fs
 ·obtain ⟨rfl, haf⟩ := h4
  have hD : opdD ⟨nm, 4, tt, gg⟩ a pl fs = .int .u8 32 :: .int .u8 102 :: Lib.byteCells (Lib.itoa a) := by simp [opdD, haf]
  have HD := hid_of hD
  clear hD h3
  have HSM : Hid (∀ w', Lib.OthersKept 5 none w3 w' → w'.cell? ⟨gx, 1, none⟩ = some (.int .i64 a)) := fun w' hw => cell_block _ _ 1 _ _ _ (Oth5.box hw HX3.out (by decide))
  have hKwd : Kept (fun _ => False) w5 w5.drew := (Kept.refl _ _).drew
  have hbd := HB5.out.same hKwd
  go_upto_region 8 with fail
  refine wp_region_held_drew (S := fun w' => Lib.OthersKept 5 none w3 w') (by kernel_rfl) hbd.oth (fun hHeld => ?_)
  generalize w5.drew = wd5 at *
  obtain ⟨a6, n6, c6, w6, hr6, hb6⟩ := hbd.push [.int .u8 32] (by simp [Value.oneCell']) (by have := HN5.out; simp; omega)
  have hn6 : n6 = n5 + 1 := by have := hbd.step hb6; simpa using this
  have HR6 := hid_of hr6
  have HB6 := hid_of hb6
  have HN6 : Hid (n6 ≤ 1000000000300) := by show n6 ≤ 1000000000300; have := HN5.out; omega
  have HNA := hid_of (nameB_big a6 n6 c6 _ 102 a HA0.out HA1.out w0 w3 w6 HG0.out HG.out hb6 (by have := HN6.out; omega))
  clear hr6 hb6 hbd hn6 hKwd
  iterate 1
   refine tkn (v := ?_) 0 rfl ?_ ?_; rotate_left 1
   ·intro w hSw; have s0 := HSM.out w hSw; go_simp; try with_reducible rfl
   try simp only [Act.put, tdy]
  iterate 2
   refine tkn (v := ?_) 3 rfl ?_ ?_; rotate_left 1
   ·intro w hSw; have s0 := HSM.out w hSw; go_simp; try with_reducible rfl
   try simp only [Act.put, tdy]
  refine rdy 1 rfl (fun K hK => ?_)
  go_simp
  refine hK.out _ _ (hHeld.alloc _) (fun hHeld => ?_)
  clear hK K
  try simp only [Act.put, tdy]
  refine rdy 2 rfl (fun K hK => ?_)
  refine step_app rfl (.tmp 59) (.tmp 60) 22 22 rfl _ _ rfl rfl (.slice a6 n6 c6) w6 HR6.out ?_
  refine hK.out _ _ HB6.out.oth (fun hHeld => ?_)
  clear hK K
  try simp only [Act.put, tdy]
  refine rdy 5 rfl (fun K hK => ?_)
  go_simp
  refine HNA.out.mono ?_
  rintro e w7 ⟨a7, n7, c7, rfl, hb7⟩
  have HB7 := hid_of hb7
  have HN7 : Hid (n7 ≤ 1000000000400) := by show n7 ≤ 1000000000400; have h1 := HB6.out.step hb7; have h2 := HN6.out; have h3 := itoa_le a HA0.out HA1.out; simp [Lib.byteCells_length] at h1; omega
  clear hb7
  refine hK.out _ _ HB7.out.oth (fun hHeld => ?_)
  clear hK K
  try simp only [Act.put, tdy]
  refine rdy 6 rfl (fun K hK => ?_)
  go_simp
  refine hK.out _ _ hHeld (fun hHeld => ?_)
  clear hK K
  try simp only [Act.put, tdy]
  refine wpAnyH_done (by kernel_rfl) ?_ _
  clear hHeld HSM HNA HR6 HB6 s1 x1
  obtain ⟨a9, n9, c9, w9, hr9, hb9⟩ := HB7.out.push [.int .u8 10] (by simp [Value.oneCell']) (by have := HN7.out; simp; omega)
  have HF : Hid (Bs w0 w1 w9 a9 n9 c9 (zs ++ INS)) := by
   show Bs w0 w1 w9 a9 n9 c9 (zs ++ INS)
   have e : zs ++ [Value.int .u8 9] ++ Lib.strCells nm ++ (.int .u8 32 :: .int .u8 102 :: Lib.byteCells (Lib.itoa a)) ++ [Value.int .u8 10] = zs ++ INS := by rw [HIN.out, HD.out]; simp
   rw [← e]
   simpa using hb9.rebase HT3.out
  have HR9 := hid_of hr9
  clear hr9 hb9
  go_wp2_with (at_builtin; refine wp_app2 rfl (.tmp 81) (.tmp 82) 22 22 rfl _ _ rfl rfl _ w9 HR9.out ?_)
  go_ret
  exact ⟨_, _, _, rfl, HF.out⟩
 by_cases h5 : o = 5
 ·subst h5
  have HD1 : Hid (opdD ⟨nm, 5, tt, gg⟩ a pl fs = .int .u8 32 :: Lib.strCells (rowS sysL a).nm) := by show opdD _ _ _ _ = _; simp [opdD]
  have HSY1 := hid_of (sysof_any a w5 HA0.out HA2.out)
  have HSZ := hid_of (sys_small a)
  clear h0 h3 h4 q0
  generalize isRow sysL a = iq2 at *
  generalize rowS sysL a = sy at *
  obtain ⟨nm2, o2, t2, g2⟩ := sy
  have HD : Hid (opdD ⟨nm, 5, tt, gg⟩ a pl fs = .int .u8 32 :: Lib.strCells nm2) := HD1.out
  have HSY : Hid (Calls Tryz.prog 67 #[.int .i64 a] w5 fun e w' => e = .returned (.tuple #[.agg #[.string nm2, .int .i64 o2, .int .i64 t2, .int .i64 g2], .bool iq2]) ∧ Kept (fun _ => False) w5 w') := HSY1.out
  have HZ2 : Hid (nm2.size ≤ 100) := HSZ.out
  clear HD1 HSY1 HSZ
  go_wp2_with fail
  refine HSY.out.mono ?_
  rintro e w6 ⟨rfl, hk6⟩
  have hka : Kept (fun _ => False) w6 (w6.alloc (.cells #[.string nm2, .int .i64 o2, .int .i64 t2, .int .i64 g2] 147)) := (Kept.refl _ _).alloc _
  have HS7 := hid_of (heap_alloc_new w6 (.cells #[.string nm2, .int .i64 o2, .int .i64 t2, .int .i64 g2] 147))
  have HB7 := hid_of (HB5.out.here (hk6.trans hka))
  have HT7 := hid_of (HB5.out.oth.trans (oth5_kept (hk6.trans hka)))
  clear hk6 hka HSY s1 x1
  go_upto_region 11 with fail
  generalize w6.alloc (.cells #[.string nm2, .int .i64 o2, .int .i64 t2, .int .i64 g2] 147) = w7 at *
  generalize w6.heap.size = gs2 at *
  have HSM : Hid (∀ w', Lib.OthersKept 5 none w7 w' → w'.cell? ⟨gs2, 0, none⟩ = some (.string nm2)) := fun w' hw => cell_block _ _ 0 _ _ _ (Oth5.box hw HS7.out (by decide))
  have hKwd : Kept (fun _ => False) w7 w7.drew := (Kept.refl _ _).drew
  have hbd := HB7.out.same hKwd
  refine wp_region_held_drew (S := fun w' => Lib.OthersKept 5 none w7 w') (by kernel_rfl) hbd.oth (fun hHeld => ?_)
  generalize w7.drew = wd7 at *
  obtain ⟨a6, n6, c6, w6', hr6, hb6⟩ := hbd.push [.int .u8 32] (by simp [Value.oneCell']) (by have := HN5.out; simp; omega)
  have hn6 : n6 = n5 + 1 := by have := hbd.step hb6; simpa using this
  obtain ⟨a8, n8, c8, w8, hr8, hb8⟩ := hb6.pushS nm2 (by have := HN5.out; have := HZ2.out; omega)
  have hn8 : n8 = n6 + nm2.size := by have := hb6.step hb8; rw [bl_cells] at this; exact this
  have HN8 : Hid (n8 ≤ 1000000000400) := by show n8 ≤ 1000000000400; have := HN5.out; have := HZ2.out; omega
  have HR6 := hid_of hr6
  have HR8 := hid_of hr8
  have HB6 := hid_of hb6
  have HB8 := hid_of hb8
  have HBF := hid_of (hb8.rebase HT7.out)
  clear hr6 hr8 hb6 hb8 hbd hn6 hn8 hKwd
  iterate 1
   refine tkn (v := ?_) 0 rfl ?_ ?_; rotate_left 1
   ·intro w hSw; have s0 := HSM.out w hSw; go_simp; try with_reducible rfl
   try simp only [Act.put, tdy]
  iterate 2
   refine tkn (v := ?_) 3 rfl ?_ ?_; rotate_left 1
   ·intro w hSw; have s0 := HSM.out w hSw; go_simp; try with_reducible rfl
   try simp only [Act.put, tdy]
  refine rdy 1 rfl (fun K hK => ?_)
  go_simp
  refine hK.out _ _ (hHeld.alloc _) (fun hHeld => ?_)
  clear hK K
  try simp only [Act.put, tdy]
  refine rdy 2 rfl (fun K hK => ?_)
  refine step_app rfl (.tmp 75) (.tmp 76) 22 22 rfl _ _ rfl rfl (.slice a6 n6 c6) w6' HR6.out ?_
  refine hK.out _ _ HB6.out.oth (fun hHeld => ?_)
  clear hK K
  try simp only [Act.put, tdy]
  refine rdy 5 rfl (fun K hK => ?_)
  refine step_app rfl (.tmp 77) (.tmp 79) 22 9 rfl _ _ rfl rfl (.slice a8 n8 c8) w8 HR8.out ?_
  refine hK.out _ _ HB8.out.oth (fun hHeld => ?_)
  clear hK K
  try simp only [Act.put, tdy]
  refine rdy 6 rfl (fun K hK => ?_)
  go_simp
  refine hK.out _ _ hHeld (fun hHeld => ?_)
  clear hK K
  try simp only [Act.put, tdy]
  refine wpAnyH_done (by kernel_rfl) ?_ _
  clear hHeld HSM HR6 HR8 HB6 HB8
  obtain ⟨a9, n9, c9, w9, hr9, hb9⟩ := HBF.out.push [.int .u8 10] (by simp [Value.oneCell']) (by have := HN8.out; simp; omega)
  have HF : Hid (Bs w0 w1 w9 a9 n9 c9 (zs ++ INS)) := by
   show Bs w0 w1 w9 a9 n9 c9 (zs ++ INS)
   have e : zs ++ [Value.int .u8 9] ++ Lib.strCells nm ++ (.int .u8 32 :: Lib.strCells nm2) ++ [Value.int .u8 10] = zs ++ INS := by rw [HIN.out, HD.out]; simp
   rw [← e]
   simpa using hb9.rebase HT3.out
  have HR9 := hid_of hr9
  clear hr9 hb9
  go_wp2_with (at_builtin; refine wp_app2 rfl (.tmp 81) (.tmp 82) 22 22 rfl _ _ rfl rfl _ w9 HR9.out ?_)
  go_ret
  exact ⟨_, _, _, rfl, HF.out⟩
 have HD : Hid (opdD ⟨nm, o, tt, gg⟩ a pl fs = .int .u8 32 :: Lib.byteCells (Lib.itoa a)) := by show opdD _ _ _ _ = _; simp only [opdD, if_neg h0, if_neg h3, if_neg h4, if_neg h5]
 have q5 : (o == 5) = false := by simp [h5]
 by_cases hc3 : o = 3
 ·subst hc3
  have hap : ¬ a ≤ pl := fun hh => h3 ⟨rfl, hh⟩
  clear h0 h3 h4 h5 q0 q5
  have HNU := hid_of (numB_big a5 n5 c5 _ a HA0.out HA1.out w0 w3 w5 HG0.out HG.out HB5.out (by have := HN5.out; omega))
  go_wp2_with fail
  refine HNU.out.mono ?_
  rintro e w7 ⟨a7, n7, c7, rfl, hb7⟩
  have HB7 := hid_of hb7
  have HN7 : Hid (n7 ≤ 1000000000400) := by show n7 ≤ 1000000000400; have h1 := HB5.out.step hb7; have h2 := HN5.out; have h3 := itoa_le a HA0.out HA1.out; simp [Lib.byteCells_length] at h1; omega
  clear hb7 HNU s1 x1
  obtain ⟨a9, n9, c9, w9, hr9, hb9⟩ := HB7.out.push [.int .u8 10] (by simp [Value.oneCell']) (by have := HN7.out; simp; omega)
  have HF : Hid (Bs w0 w1 w9 a9 n9 c9 (zs ++ INS)) := by
   show Bs w0 w1 w9 a9 n9 c9 (zs ++ INS)
   have e : zs ++ [Value.int .u8 9] ++ Lib.strCells nm ++ (.int .u8 32 :: Lib.byteCells (Lib.itoa a)) ++ [Value.int .u8 10] = zs ++ INS := by rw [HIN.out, HD.out]; simp
   rw [← e]
   simpa using hb9.rebase HT3.out
  have HR9 := hid_of hr9
  clear hr9 hb9
  go_wp2_with (at_builtin; refine wp_app2 rfl (.tmp 81) (.tmp 82) 22 22 rfl _ _ rfl rfl _ w9 HR9.out ?_)
  go_ret
  exact ⟨_, _, _, rfl, HF.out⟩
 have q3 : (o == 3) = false := by simp [hc3]
 by_cases hc4 : o = 4
 ·subst hc4
  have haf : ¬ a < fs := fun hh => h4 ⟨rfl, hh⟩
  clear h0 h3 h4 h5 hc3 q0 q3 q5
  have HNU := hid_of (numB_big a5 n5 c5 _ a HA0.out HA1.out w0 w3 w5 HG0.out HG.out HB5.out (by have := HN5.out; omega))
  go_wp2_with fail
  refine HNU.out.mono ?_
  rintro e w7 ⟨a7, n7, c7, rfl, hb7⟩
  have HB7 := hid_of hb7
  have HN7 : Hid (n7 ≤ 1000000000400) := by show n7 ≤ 1000000000400; have h1 := HB5.out.step hb7; have h2 := HN5.out; have h3 := itoa_le a HA0.out HA1.out; simp [Lib.byteCells_length] at h1; omega
  clear hb7 HNU s1 x1
  obtain ⟨a9, n9, c9, w9, hr9, hb9⟩ := HB7.out.push [.int .u8 10] (by simp [Value.oneCell']) (by have := HN7.out; simp; omega)
  have HF : Hid (Bs w0 w1 w9 a9 n9 c9 (zs ++ INS)) := by
   show Bs w0 w1 w9 a9 n9 c9 (zs ++ INS)
   have e : zs ++ [Value.int .u8 9] ++ Lib.strCells nm ++ (.int .u8 32 :: Lib.byteCells (Lib.itoa a)) ++ [Value.int .u8 10] = zs ++ INS := by rw [HIN.out, HD.out]; simp
   rw [← e]
   simpa using hb9.rebase HT3.out
  have HR9 := hid_of hr9
  clear hr9 hb9
  go_wp2_with (at_builtin; refine wp_app2 rfl (.tmp 81) (.tmp 82) 22 22 rfl _ _ rfl rfl _ w9 HR9.out ?_)
  go_ret
  exact ⟨_, _, _, rfl, HF.out⟩
 have q4 : (o == 4) = false := by simp [hc4]
 clear h0 h3 h4 h5 hc3 hc4
 have HNU := hid_of (numB_big a5 n5 c5 _ a HA0.out HA1.out w0 w3 w5 HG0.out HG.out HB5.out (by have := HN5.out; omega))
 go_wp2_with fail
 refine HNU.out.mono ?_
 rintro e w7 ⟨a7, n7, c7, rfl, hb7⟩
 have HB7 := hid_of hb7
 have HN7 : Hid (n7 ≤ 1000000000400) := by show n7 ≤ 1000000000400; have h1 := HB5.out.step hb7; have h2 := HN5.out; have h3 := itoa_le a HA0.out HA1.out; simp [Lib.byteCells_length] at h1; omega
 clear hb7 HNU s1 x1
 obtain ⟨a9, n9, c9, w9, hr9, hb9⟩ := HB7.out.push [.int .u8 10] (by simp [Value.oneCell']) (by have := HN7.out; simp; omega)
 have HF : Hid (Bs w0 w1 w9 a9 n9 c9 (zs ++ INS)) := by
  show Bs w0 w1 w9 a9 n9 c9 (zs ++ INS)
  have e : zs ++ [Value.int .u8 9] ++ Lib.strCells nm ++ (.int .u8 32 :: Lib.byteCells (Lib.itoa a)) ++ [Value.int .u8 10] = zs ++ INS := by rw [HIN.out, HD.out]; simp
  rw [← e]
  simpa using hb9.rebase HT3.out
 have HR9 := hid_of hr9
 clear hr9 hb9
 go_wp2_with (at_builtin; refine wp_app2 rfl (.tmp 81) (.tmp 82) 22 22 rfl _ _ rfl rfl _ w9 HR9.out ?_)
 go_ret
 exact ⟨_, _, _, rfl, HF.out⟩
def lblD (q : Bool) (k : Nat) : List Value := if q then .int .u8 76 :: Lib.byteCells (Lib.itoa (k : Int)) ++ Lib.strCells ⟨#[58, 10]⟩ else []
set_option maxHeartbeats 4000000 in
theorem labelB_any (ao : Option Addr) (m c : Nat) (zs : List Value) (gb n cb k : Nat) (q : Bool) (hkn : k < n) (hkb : k ≤ 1000000) (w0 w1 wr : World) (hG0 : 8 ≤ w0.heap.size) (hG : Gl w0) (h : Bs w0 w1 wr ao m c zs) (hm : m ≤ 1000000000000) (hc : wr.cell? ⟨gb, k, none⟩ = some (.bool q)) :
  Calls Tryz.prog 45 #[.slice ao m c, .slice (some ⟨gb, 0, none⟩) n cb, .int .i64 (k : Int)] wr fun e w' => ∃ ao' m' c', e = .returned (.slice ao' m' c') ∧ Bs w0 w1 w' ao' m' c' (zs ++ lblD q k) := by
 have hkI : (k : Int) < (n : Int) := by omega
 have HH := hid_of h
 have HM := hid_of hm
 have HNB := hid_of (nameB_big ao m c zs 76 (k : Int) (by omega) (by omega) w0 w1 wr hG0 hG h (by omega))
 have HIL := hid_of (itoa_le (k : Int) (by omega) (by omega))
 clear hkn hkb hG0 hG h hm
 cases q
 ·have HF : Hid (Bs w0 w1 wr ao m c (zs ++ lblD false k)) := by
   show Bs w0 w1 wr ao m c (zs ++ lblD false k)
   simpa [lblD] using HH.out
  go_enter Tryz.func45, Tryz.ntmps45
  go_wp2
  go_ret
  exact ⟨_, _, _, rfl, HF.out⟩
 ·go_enter Tryz.func45, Tryz.ntmps45
  go_wp2_with fail
  refine HNB.out.mono ?_
  rintro e w7 ⟨a7, n7, c7, rfl, hb7⟩
  have hn7 : n7 ≤ 1000000000100 := by
   have h1 := HH.out.step hb7
   have h2 := HM.out
   have h3 := HIL.out
   simp [Lib.byteCells_length] at h1
   omega
  obtain ⟨a8, n8, c8, w8, hr8, hb8⟩ := hb7.pushS ⟨#[58, 10]⟩ (by show n7 + 2 ≤ 140737488355328; omega)
  have HR8 := hid_of hr8
  have HF : Hid (Bs w0 w1 w8 a8 n8 c8 (zs ++ lblD true k)) := by
   show Bs w0 w1 w8 a8 n8 c8 (zs ++ lblD true k)
   simpa [lblD] using hb8
  clear hb7 hn7 hr8 hb8 HNB
  go_wp2_with (at_builtin; refine wp_app2 rfl (.tmp 15) (.const (.string ⟨#[58, 10]⟩)) 22 9 rfl _ _ rfl rfl _ w8 HR8.out ?_)
  go_ret
  exact ⟨_, _, _, rfl, HF.out⟩
set_option maxHeartbeats 4000000 in
theorem operand_any (op a : Int) (h0 : -9223372036854775808 ≤ op) (h1 : op < 9223372036854775808) (w : World) : Calls Tryz.prog 65 #[.agg #[.int .i64 op, .int .i64 a]] w fun e w' => e = .returned (.int .i64 (rowS insL op).o) ∧ Kept (fun _ => False) w w' := by
 have hka : Kept (fun _ => False) w (w.alloc (.cells #[.int .i64 op, .int .i64 a] 48)) := (Kept.refl _ _).alloc _
 have c0 := cell_block _ _ 0 _ _ _ (heap_alloc_new w (.cells #[.int .i64 op, .int .i64 a] 48))
 have HO1 := hid_of (of_any op (w.alloc (.cells #[.int .i64 op, .int .i64 a] 48)) h0 h1)
 have HK := hid_of hka
 clear hka h0 h1
 generalize isRow insL op = iq at *
 generalize rowS insL op = sh at *
 obtain ⟨nm, o, tt, gg⟩ := sh
 have HO : Hid (Calls Tryz.prog 66 #[.int .i64 op] (w.alloc (.cells #[.int .i64 op, .int .i64 a] 48)) fun e w' => e = .returned (.tuple #[.agg #[.string nm, .int .i64 o, .int .i64 tt, .int .i64 gg], .bool iq]) ∧ Kept (fun _ => False) (w.alloc (.cells #[.int .i64 op, .int .i64 a] 48)) w') := HO1.out
 clear HO1
 go_enter Tryz.func65, Tryz.ntmps65
 go_wp2_with fail
 refine HO.out.mono ?_
 rintro e w2 ⟨rfl, hk2⟩
 have hkb : Kept (fun _ => False) w2 (w2.alloc (.cells #[.string nm, .int .i64 o, .int .i64 tt, .int .i64 gg] 147)) := (Kept.refl _ _).alloc _
 have c1 := cell_block _ _ 1 _ _ _ (heap_alloc_new w2 (.cells #[.string nm, .int .i64 o, .int .i64 tt, .int .i64 gg] 147))
 have HK2 := hid_of (HK.out.trans (hk2.trans hkb))
 clear hk2 hkb HK c0 HO
 go_wp2
 go_ret
 exact ⟨rfl, HK2.out⟩
end Go.Proofs.YtpfmhibdmehlcaaGreatDoor
