import Derived.Test.YtgoabnehdmdikaaGreatDoorTLg8
import Derived.Lib.ItoaLen
import Derived.Test.YtgoabnehdmdikaaGreatDoorTLg33
import Derived.Test.YtgoabnehdmdikaaGreatDoorTLg4
import Derived.Deep.MidRow
set_option linter.unusedVariables false
set_option linter.unusedSimpArgs false
set_option maxRecDepth 100000
set_option maxHeartbeats 64000000
namespace Go.Proofs.YtgoabnehdmdikaaGreatDoor
open Go.RowKit
theorem Bs.rebase {w0 w1 w2 wr : World} {ao : Option Addr} {m c : Nat} {zs : List Value} (h : Bs w0 w2 wr ao m c zs) (ho : Lib.OthersKept 5 none w1 w2) : Bs w0 w1 wr ao m c zs := ⟨h.own, h.kept, ho.trans h.oth⟩
theorem Bs.here {w0 w1 wr w2 : World} {ao : Option Addr} {m c : Nat} {zs : List Value} (h : Bs w0 w1 wr ao m c zs) (hk : Kept nF wr w2) : Bs w0 w2 w2 ao m c zs := ⟨hk.ownsRow h.own (fun _ _ f => f), h.kept.trans hk, Lib.OthersKept.refl _ _ _⟩
def We (s : Sh) (a pl fs : Int) : List Value :=
 if s.o = 0 then [] else if s.o = 3 ∧ a ≤ pl then .int .u8 32 :: .int .u8 76 :: Lib.byteCells (Lib.itoa a) else if s.o = 4 ∧ a < fs then .int .u8 32 :: .int .u8 102 :: Lib.byteCells (Lib.itoa a)
 else if s.o = 5 then .int .u8 32 :: Lib.strCells (Yd Zk a).nm else .int .u8 32 :: Lib.byteCells (Lib.itoa a)
def Zdt (op a pl fs : Int) : List Value := .int .u8 9 :: Lib.strCells (Yd Zj op).nm ++ We (Yd Zj op) a pl fs ++ [.int .u8 10]
theorem Zko : ∀ L : List Sh, (∀ s ∈ L, s.nm.size ≤ 100) → ∀ n, (Yd L n).nm.size ≤ 100 := by
 intro L h n
 unfold Yd
 split
 ·rename_i hn
  have hl : n.toNat < L.length := by omega
  rw [List.getD, List.getElem?_eq_getElem hl]
  exact h _ (List.getElem_mem hl)
 ·decide
theorem Zfq (n : Int) : (Yd Zj n).nm.size ≤ 100 := Zko Zj (by decide) n
theorem Zd3 (n : Int) : (Yd Zk n).nm.size ≤ 100 := Zko Zk (by decide) n
theorem Zbe (i : Int) (h0 : -9223372036854775808 ≤ i) (h1 : i ≤ 9223372036854775807) : (Lib.itoa i).length ≤ 21 := Lib.itoa_length_le i h0 h1
theorem Za8 (s : ByteArray) : (Lib.strCells s).length = s.size := by simp [Lib.strCells]
theorem Znk (ao : Option Addr) (m c : Nat) (zs : List Value) (op a pl fs : Int) (ho0 : -9223372036854775808 ≤ op) (ho1 : op < 9223372036854775808) (ha0 : -9223372036854775808 ≤ a) (ha1 : a < 9223372036854775808) (w0 w1 wr : World) (hG0 : 8 ≤ w0.heap.size) (hG : Gl w0) (h : Bs w0 w1 wr ao m c zs) (hm : m ≤ 1000000000000) :
  Calls Tryz.prog 76 #[.slice ao m c, .agg #[.int .i64 op, .int .i64 a], .int .i64 pl, .int .i64 fs] wr fun e w' => ∃ ao' m' c', e = .returned (.slice ao' m' c') ∧ Bs w0 w1 w' ao' m' c' (zs ++ Zdt op a pl fs) := by
 have hka : Kept nF wr (wr.alloc (.cells #[.int .i64 op, .int .i64 a] 75)) := (Kept.refl _ _).alloc _
 have HX := Za (heap_alloc_new wr (.cells #[.int .i64 op, .int .i64 a] 75))
 have HKA := Za hka
 have HH := Za h
 have HM := Za hm
 have HG := Za hG
 have HG0 := Za hG0
 have HA0 := Za ha0
 have HA1 : Hid (a ≤ 9223372036854775807) := by show a ≤ 9223372036854775807; omega
 have HA2 := Za ha1
 have hins : Zdt op a pl fs = .int .u8 9 :: Lib.strCells (Yd Zj op).nm ++ We (Yd Zj op) a pl fs ++ [.int .u8 10] := rfl
 have HSM0 := Za (Zfq op)
 have HOF1 := Za (Zk5 op (wr.alloc (.cells #[.int .i64 op, .int .i64 a] 75)) ho0 ho1)
 clear hka h hm hG hG0 ha0 ha1 ho0 ho1
 generalize Xb Zj op = iq at *
 generalize Zdt op a pl fs = INS at *
 generalize Yd Zj op = sh at *
 obtain ⟨nm, o, tt, gg⟩ := sh
 have HIN : Hid (INS = .int .u8 9 :: Lib.strCells nm ++ We ⟨nm, o, tt, gg⟩ a pl fs ++ [.int .u8 10]) := hins
 have HOF : Hid (Calls Tryz.prog 100 #[.int .i64 op] (wr.alloc (.cells #[.int .i64 op, .int .i64 a] 75)) fun e w' => e = .returned (.tuple #[.agg #[.string nm, .int .i64 o, .int .i64 tt, .int .i64 gg], .bool iq]) ∧ Kept nF (wr.alloc (.cells #[.int .i64 op, .int .i64 a] 75)) w') := HOF1.out
 clear hins HOF1
 go_enter Tryz.func76, Tryz.ntmps76
 go_upto_region 1 with fail
 generalize wr.alloc (.cells #[.int .i64 op, .int .i64 a] 75) = wa at *
 generalize wr.heap.size = gx at *
 obtain ⟨b0, b1, _⟩ := Ym HX.out
 go_wp2_with fail
 refine HOF.out.mono ?_
 rintro e w2 ⟨rfl, hk2⟩
 have hka : Kept nF w2 (w2.alloc (.cells #[.string nm, .int .i64 o, .int .i64 tt, .int .i64 gg] 186)) := (Kept.refl _ _).alloc _
 have HS3 := Za (heap_alloc_new w2 (.cells #[.string nm, .int .i64 o, .int .i64 tt, .int .i64 gg] 186))
 have HX3 := Za (Zc (hk2.trans hka) HX.out id)
 have HB3 := Za (HH.out.here ((HKA.out.trans hk2).trans hka))
 have HT3 := Za (HH.out.oth.trans (Zab ((HKA.out.trans hk2).trans hka)))
 clear hk2 hka HOF HX HKA HH b0 b1
 go_upto_region 2 with fail
 generalize w2.alloc (.cells #[.string nm, .int .i64 o, .int .i64 tt, .int .i64 gg] 186) = w3 at *
 generalize w2.heap.size = gs at *
 have HSM : Hid (∀ w', Lib.OthersKept 5 none w3 w' → w'.cell? ⟨gs, 0, none⟩ = some (.string nm)) := fun w' hw => Zb _ _ 0 _ _ _ (Oth5.box hw HS3.out (by decide))
 have hKwd : Kept nF w3 w3.drew := (Kept.refl _ _).drew
 refine wp_region_held_drew (S := fun w' => Lib.OthersKept 5 none w3 w') (by kernel_rfl) (Zab hKwd) (fun qh => ?_)
 have hbd := HB3.out.same hKwd
 generalize w3.drew = wd at *
 obtain ⟨a4, n4, c4, w4, hr4, hb4⟩ := hbd.push [.int .u8 9] (by simp [Value.oneCell']) (by have := HM.out; simp; omega)
 have hn4 : n4 = m + 1 := by have := hbd.step hb4; simpa using this
 obtain ⟨a5, n5, c5, w5, hr5, hb5⟩ := hb4.pushS nm (by have := HM.out; have h9 : nm.size ≤ 100 := HSM0.out; omega)
 have hn5 : n5 = n4 + nm.size := by have := hb4.step hb5; rw [Za8] at this; exact this
 have HN5 : Hid (n5 ≤ 1000000000200) := by show n5 ≤ 1000000000200; have := HM.out; have h9 : nm.size ≤ 100 := HSM0.out; omega
 have HR4 := Za hr4
 have HR5 := Za hr5
 have HB4 := Za hb4
 have HB5 := Za hb5
 clear hr4 hr5 hb4 hb5 hbd hn4 hn5 hKwd
 iterate 1
  refine tkn (v := ?_) 0 rfl ?_ ?_; rotate_left
  ·intro w hSw; have s0 := HSM.out w hSw; go_simp; try with_reducible rfl
  try simp only [Act.put, tdy]
 iterate 2
  refine tkn (v := ?_) 3 rfl ?_ ?_; rotate_left
  ·intro w hSw; have s0 := HSM.out w hSw; go_simp; try with_reducible rfl
  try simp only [Act.put, tdy]
 refine rdy 1 rfl (fun K hK => ?_)
 go_simp
 refine hK.out _ _ (qh.alloc _) (fun qh => ?_)
 clear hK K
 try simp only [Act.put, tdy]
 refine rdy 2 rfl (fun K hK => ?_)
 refine Zm rfl (.tmp 19) (.tmp 20) 23 23 rfl _ _ rfl rfl (.slice a4 n4 c4) w4 HR4.out ?_
 refine hK.out _ _ HB4.out.oth (fun qh => ?_)
 clear hK K
 try simp only [Act.put, tdy]
 refine rdy 5 rfl (fun K hK => ?_)
 refine Zm rfl (.tmp 21) (.tmp 23) 23 9 rfl _ _ rfl rfl (.slice a5 n5 c5) w5 HR5.out ?_
 refine hK.out _ _ HB5.out.oth (fun qh => ?_)
 clear hK K
 try simp only [Act.put, tdy]
 refine rdy 6 rfl (fun K hK => ?_)
 go_simp
 refine hK.out _ _ qh (fun qh => ?_)
 clear hK K
 try simp only [Act.put, tdy]
 refine wpAnyH_done (by kernel_rfl) ?_ _
 clear qh HSM HR4 HR5 HB4
 have s1 := Zb _ _ 1 _ _ _ (Oth5.box HB5.out.oth HS3.out (by decide))
 have x1 := Zb _ _ 1 _ _ _ (Oth5.box HB5.out.oth HX3.out (by decide))
 by_cases h0 : o = 0
 ·subst h0
  have hD : We ⟨nm, 0, tt, gg⟩ a pl fs = [] := by simp [We]
  obtain ⟨a9, n9, c9, w9, hr9, hb9⟩ := HB5.out.push [.int .u8 10] (by simp [Value.oneCell']) (by have := HN5.out; simp; omega)
  have HF : Hid (Bs w0 w1 w9 a9 n9 c9 (zs ++ INS)) := by
   show Bs w0 w1 w9 a9 n9 c9 (zs ++ INS)
   have e : zs ++ [Value.int .u8 9] ++ Lib.strCells nm ++ [] ++ [Value.int .u8 10] = zs ++ INS := by rw [HIN.out, hD]; simp
   rw [← e]
   simpa using hb9.rebase HT3.out
  have HR9 := Za hr9
  clear hr9 hb9
  go_wp2_with (at_builtin; refine Zr rfl (.tmp 81) (.tmp 82) 23 23 rfl _ _ rfl rfl _ w9 HR9.out ?_)
  go_ret
  exact ⟨_, _, _, rfl, HF.out⟩
 have q0 : (o == 0) = false := by simp [h0]
 by_cases h3 : o = 3 ∧ a ≤ pl
 ·obtain ⟨rfl, hap⟩ := h3
  have hD : We ⟨nm, 3, tt, gg⟩ a pl fs = .int .u8 32 :: .int .u8 76 :: Lib.byteCells (Lib.itoa a) := by simp [We, hap]
  have HD := Za hD
  clear hD
  have HSM : Hid (∀ w', Lib.OthersKept 5 none w3 w' → w'.cell? ⟨gx, 1, none⟩ = some (.int .i64 a)) := fun w' hw => Zb _ _ 1 _ _ _ (Oth5.box hw HX3.out (by decide))
  have hKwd : Kept nF w5 w5.drew := (Kept.refl _ _).drew
  have hbd := HB5.out.same hKwd
  go_upto_region 6 with fail
  refine wp_region_held_drew (S := fun w' => Lib.OthersKept 5 none w3 w') (by kernel_rfl) hbd.oth (fun qh => ?_)
  generalize w5.drew = wd5 at *
  obtain ⟨a6, n6, c6, w6, hr6, hb6⟩ := hbd.push [.int .u8 32] (by simp [Value.oneCell']) (by have := HN5.out; simp; omega)
  have hn6 : n6 = n5 + 1 := by have := hbd.step hb6; simpa using this
  have HR6 := Za hr6
  have HB6 := Za hb6
  have HN6 : Hid (n6 ≤ 1000000000300) := by show n6 ≤ 1000000000300; have := HN5.out; omega
  have HNA := Za (Zd7 a6 n6 c6 _ 76 a HA0.out HA1.out w0 w3 w6 HG0.out HG.out hb6 (by have := HN6.out; omega))
  clear hr6 hb6 hbd hn6 hKwd
  iterate 1
   refine tkn (v := ?_) 0 rfl ?_ ?_; rotate_left
   ·intro w hSw; have s0 := HSM.out w hSw; go_simp; try with_reducible rfl
   try simp only [Act.put, tdy]
  iterate 2
   refine tkn (v := ?_) 3 rfl ?_ ?_; rotate_left
   ·intro w hSw; have s0 := HSM.out w hSw; go_simp; try with_reducible rfl
   try simp only [Act.put, tdy]
  refine rdy 1 rfl (fun K hK => ?_)
  go_simp
  refine hK.out _ _ (qh.alloc _) (fun qh => ?_)
  clear hK K
  try simp only [Act.put, tdy]
  refine rdy 2 rfl (fun K hK => ?_)
  refine Zm rfl (.tmp 43) (.tmp 44) 23 23 rfl _ _ rfl rfl (.slice a6 n6 c6) w6 HR6.out ?_
  refine hK.out _ _ HB6.out.oth (fun qh => ?_)
  clear hK K
  try simp only [Act.put, tdy]
  refine rdy 5 rfl (fun K hK => ?_)
  go_simp
  refine HNA.out.mono ?_
  rintro e w7 ⟨a7, n7, c7, rfl, hb7⟩
  have HB7 := Za hb7
  have HN7 : Hid (n7 ≤ 1000000000400) := by show n7 ≤ 1000000000400; have h1 := HB6.out.step hb7; have h2 := HN6.out; have h3 := Zbe a HA0.out HA1.out; simp [Lib.byteCells_length] at h1; omega
  clear hb7
  refine hK.out _ _ HB7.out.oth (fun qh => ?_)
  clear hK K
  try simp only [Act.put, tdy]
  refine rdy 6 rfl (fun K hK => ?_)
  go_simp
  refine hK.out _ _ qh (fun qh => ?_)
  clear hK K
  try simp only [Act.put, tdy]
  refine wpAnyH_done (by kernel_rfl) ?_ _
  clear qh HSM HNA HR6 HB6 s1 x1
  obtain ⟨a9, n9, c9, w9, hr9, hb9⟩ := HB7.out.push [.int .u8 10] (by simp [Value.oneCell']) (by have := HN7.out; simp; omega)
  have HF : Hid (Bs w0 w1 w9 a9 n9 c9 (zs ++ INS)) := by
   show Bs w0 w1 w9 a9 n9 c9 (zs ++ INS)
   have e : zs ++ [Value.int .u8 9] ++ Lib.strCells nm ++ (.int .u8 32 :: .int .u8 76 :: Lib.byteCells (Lib.itoa a)) ++ [Value.int .u8 10] = zs ++ INS := by rw [HIN.out, HD.out]; simp
   rw [← e]
   simpa using hb9.rebase HT3.out
  have HR9 := Za hr9
  clear hr9 hb9
  go_wp2_with (at_builtin; refine Zr rfl (.tmp 81) (.tmp 82) 23 23 rfl _ _ rfl rfl _ w9 HR9.out ?_)
  go_ret
  exact ⟨_, _, _, rfl, HF.out⟩
 by_cases h4 : o = 4 ∧ a < fs
 ·obtain ⟨rfl, haf⟩ := h4
  have hD : We ⟨nm, 4, tt, gg⟩ a pl fs = .int .u8 32 :: .int .u8 102 :: Lib.byteCells (Lib.itoa a) := by simp [We, haf]
  have HD := Za hD
  clear hD h3
  have HSM : Hid (∀ w', Lib.OthersKept 5 none w3 w' → w'.cell? ⟨gx, 1, none⟩ = some (.int .i64 a)) := fun w' hw => Zb _ _ 1 _ _ _ (Oth5.box hw HX3.out (by decide))
  have hKwd : Kept nF w5 w5.drew := (Kept.refl _ _).drew
  have hbd := HB5.out.same hKwd
  go_upto_region 8 with fail
  refine wp_region_held_drew (S := fun w' => Lib.OthersKept 5 none w3 w') (by kernel_rfl) hbd.oth (fun qh => ?_)
  generalize w5.drew = wd5 at *
  obtain ⟨a6, n6, c6, w6, hr6, hb6⟩ := hbd.push [.int .u8 32] (by simp [Value.oneCell']) (by have := HN5.out; simp; omega)
  have hn6 : n6 = n5 + 1 := by have := hbd.step hb6; simpa using this
  have HR6 := Za hr6
  have HB6 := Za hb6
  have HN6 : Hid (n6 ≤ 1000000000300) := by show n6 ≤ 1000000000300; have := HN5.out; omega
  have HNA := Za (Zd7 a6 n6 c6 _ 102 a HA0.out HA1.out w0 w3 w6 HG0.out HG.out hb6 (by have := HN6.out; omega))
  clear hr6 hb6 hbd hn6 hKwd
  iterate 1
   refine tkn (v := ?_) 0 rfl ?_ ?_; rotate_left
   ·intro w hSw; have s0 := HSM.out w hSw; go_simp; try with_reducible rfl
   try simp only [Act.put, tdy]
  iterate 2
   refine tkn (v := ?_) 3 rfl ?_ ?_; rotate_left
   ·intro w hSw; have s0 := HSM.out w hSw; go_simp; try with_reducible rfl
   try simp only [Act.put, tdy]
  refine rdy 1 rfl (fun K hK => ?_)
  go_simp
  refine hK.out _ _ (qh.alloc _) (fun qh => ?_)
  clear hK K
  try simp only [Act.put, tdy]
  refine rdy 2 rfl (fun K hK => ?_)
  refine Zm rfl (.tmp 59) (.tmp 60) 23 23 rfl _ _ rfl rfl (.slice a6 n6 c6) w6 HR6.out ?_
  refine hK.out _ _ HB6.out.oth (fun qh => ?_)
  clear hK K
  try simp only [Act.put, tdy]
  refine rdy 5 rfl (fun K hK => ?_)
  go_simp
  refine HNA.out.mono ?_
  rintro e w7 ⟨a7, n7, c7, rfl, hb7⟩
  have HB7 := Za hb7
  have HN7 : Hid (n7 ≤ 1000000000400) := by show n7 ≤ 1000000000400; have h1 := HB6.out.step hb7; have h2 := HN6.out; have h3 := Zbe a HA0.out HA1.out; simp [Lib.byteCells_length] at h1; omega
  clear hb7
  refine hK.out _ _ HB7.out.oth (fun qh => ?_)
  clear hK K
  try simp only [Act.put, tdy]
  refine rdy 6 rfl (fun K hK => ?_)
  go_simp
  refine hK.out _ _ qh (fun qh => ?_)
  clear hK K
  try simp only [Act.put, tdy]
  refine wpAnyH_done (by kernel_rfl) ?_ _
  clear qh HSM HNA HR6 HB6 s1 x1
  obtain ⟨a9, n9, c9, w9, hr9, hb9⟩ := HB7.out.push [.int .u8 10] (by simp [Value.oneCell']) (by have := HN7.out; simp; omega)
  have HF : Hid (Bs w0 w1 w9 a9 n9 c9 (zs ++ INS)) := by
   show Bs w0 w1 w9 a9 n9 c9 (zs ++ INS)
   have e : zs ++ [Value.int .u8 9] ++ Lib.strCells nm ++ (.int .u8 32 :: .int .u8 102 :: Lib.byteCells (Lib.itoa a)) ++ [Value.int .u8 10] = zs ++ INS := by rw [HIN.out, HD.out]; simp
   rw [← e]
   simpa using hb9.rebase HT3.out
  have HR9 := Za hr9
  clear hr9 hb9
  go_wp2_with (at_builtin; refine Zr rfl (.tmp 81) (.tmp 82) 23 23 rfl _ _ rfl rfl _ w9 HR9.out ?_)
  go_ret
  exact ⟨_, _, _, rfl, HF.out⟩
 by_cases h5 : o = 5
 ·subst h5
  have HD1 : Hid (We ⟨nm, 5, tt, gg⟩ a pl fs = .int .u8 32 :: Lib.strCells (Yd Zk a).nm) := by show We _ _ _ _ = _; simp [We]
  have HSY1 := Za (Zpy a w5 HA0.out HA2.out)
  have HSZ := Za (Zd3 a)
  clear h0 h3 h4 q0
  generalize Xb Zk a = iq2 at *
  generalize Yd Zk a = sy at *
  obtain ⟨nm2, o2, t2, g2⟩ := sy
  have HD : Hid (We ⟨nm, 5, tt, gg⟩ a pl fs = .int .u8 32 :: Lib.strCells nm2) := HD1.out
  have HSY : Hid (Calls Tryz.prog 101 #[.int .i64 a] w5 fun e w' => e = .returned (.tuple #[.agg #[.string nm2, .int .i64 o2, .int .i64 t2, .int .i64 g2], .bool iq2]) ∧ Kept nF w5 w') := HSY1.out
  have HZ2 : Hid (nm2.size ≤ 100) := HSZ.out
  clear HD1 HSY1 HSZ
  go_wp2_with fail
  refine HSY.out.mono ?_
  rintro e w6 ⟨rfl, hk6⟩
  have hka : Kept nF w6 (w6.alloc (.cells #[.string nm2, .int .i64 o2, .int .i64 t2, .int .i64 g2] 186)) := (Kept.refl _ _).alloc _
  have HS7 := Za (heap_alloc_new w6 (.cells #[.string nm2, .int .i64 o2, .int .i64 t2, .int .i64 g2] 186))
  have HB7 := Za (HB5.out.here (hk6.trans hka))
  have HT7 := Za (HB5.out.oth.trans (Zab (hk6.trans hka)))
  clear hk6 hka HSY s1 x1
  go_upto_region 11 with fail
  generalize w6.alloc (.cells #[.string nm2, .int .i64 o2, .int .i64 t2, .int .i64 g2] 186) = w7 at *
  generalize w6.heap.size = gs2 at *
  have HSM : Hid (∀ w', Lib.OthersKept 5 none w7 w' → w'.cell? ⟨gs2, 0, none⟩ = some (.string nm2)) := fun w' hw => Zb _ _ 0 _ _ _ (Oth5.box hw HS7.out (by decide))
  have hKwd : Kept nF w7 w7.drew := (Kept.refl _ _).drew
  have hbd := HB7.out.same hKwd
  refine wp_region_held_drew (S := fun w' => Lib.OthersKept 5 none w7 w') (by kernel_rfl) hbd.oth (fun qh => ?_)
  generalize w7.drew = wd7 at *
  obtain ⟨a6, n6, c6, w6', hr6, hb6⟩ := hbd.push [.int .u8 32] (by simp [Value.oneCell']) (by have := HN5.out; simp; omega)
  have hn6 : n6 = n5 + 1 := by have := hbd.step hb6; simpa using this
  obtain ⟨a8, n8, c8, w8, hr8, hb8⟩ := hb6.pushS nm2 (by have := HN5.out; have := HZ2.out; omega)
  have hn8 : n8 = n6 + nm2.size := by have := hb6.step hb8; rw [Za8] at this; exact this
  have HN8 : Hid (n8 ≤ 1000000000400) := by show n8 ≤ 1000000000400; have := HN5.out; have := HZ2.out; omega
  have HR6 := Za hr6
  have HR8 := Za hr8
  have HB6 := Za hb6
  have HB8 := Za hb8
  have HBF := Za (hb8.rebase HT7.out)
  clear hr6 hr8 hb6 hb8 hbd hn6 hn8 hKwd
  iterate 1
   refine tkn (v := ?_) 0 rfl ?_ ?_; rotate_left
   ·intro w hSw; have s0 := HSM.out w hSw; go_simp; try with_reducible rfl
   try simp only [Act.put, tdy]
  iterate 2
   refine tkn (v := ?_) 3 rfl ?_ ?_; rotate_left
   ·intro w hSw; have s0 := HSM.out w hSw; go_simp; try with_reducible rfl
   try simp only [Act.put, tdy]
  refine rdy 1 rfl (fun K hK => ?_)
  go_simp
  refine hK.out _ _ (qh.alloc _) (fun qh => ?_)
  clear hK K
  try simp only [Act.put, tdy]
  refine rdy 2 rfl (fun K hK => ?_)
  refine Zm rfl (.tmp 75) (.tmp 76) 23 23 rfl _ _ rfl rfl (.slice a6 n6 c6) w6' HR6.out ?_
  refine hK.out _ _ HB6.out.oth (fun qh => ?_)
  clear hK K
  try simp only [Act.put, tdy]
  refine rdy 5 rfl (fun K hK => ?_)
  refine Zm rfl (.tmp 77) (.tmp 79) 23 9 rfl _ _ rfl rfl (.slice a8 n8 c8) w8 HR8.out ?_
  refine hK.out _ _ HB8.out.oth (fun qh => ?_)
  clear hK K
  try simp only [Act.put, tdy]
  refine rdy 6 rfl (fun K hK => ?_)
  go_simp
  refine hK.out _ _ qh (fun qh => ?_)
  clear hK K
  try simp only [Act.put, tdy]
  refine wpAnyH_done (by kernel_rfl) ?_ _
  clear qh HSM HR6 HR8 HB6 HB8
  obtain ⟨a9, n9, c9, w9, hr9, hb9⟩ := HBF.out.push [.int .u8 10] (by simp [Value.oneCell']) (by have := HN8.out; simp; omega)
  have HF : Hid (Bs w0 w1 w9 a9 n9 c9 (zs ++ INS)) := by
   show Bs w0 w1 w9 a9 n9 c9 (zs ++ INS)
   have e : zs ++ [Value.int .u8 9] ++ Lib.strCells nm ++ (.int .u8 32 :: Lib.strCells nm2) ++ [Value.int .u8 10] = zs ++ INS := by rw [HIN.out, HD.out]; simp
   rw [← e]
   simpa using hb9.rebase HT3.out
  have HR9 := Za hr9
  clear hr9 hb9
  go_wp2_with (at_builtin; refine Zr rfl (.tmp 81) (.tmp 82) 23 23 rfl _ _ rfl rfl _ w9 HR9.out ?_)
  go_ret
  exact ⟨_, _, _, rfl, HF.out⟩
 have HD : Hid (We ⟨nm, o, tt, gg⟩ a pl fs = .int .u8 32 :: Lib.byteCells (Lib.itoa a)) := by show We _ _ _ _ = _; simp only [We, if_neg h0, if_neg h3, if_neg h4, if_neg h5]
 have q5 : (o == 5) = false := by simp [h5]
 by_cases hc3 : o = 3
 ·subst hc3
  have hap : ¬ a ≤ pl := fun hh => h3 ⟨rfl, hh⟩
  clear h0 h3 h4 h5 q0 q5
  have HNU := Za (Zc2 a5 n5 c5 _ a HA0.out HA1.out w0 w3 w5 HG0.out HG.out HB5.out (by have := HN5.out; omega))
  go_wp2_with fail
  refine HNU.out.mono ?_
  rintro e w7 ⟨a7, n7, c7, rfl, hb7⟩
  have HB7 := Za hb7
  have HN7 : Hid (n7 ≤ 1000000000400) := by show n7 ≤ 1000000000400; have h1 := HB5.out.step hb7; have h2 := HN5.out; have h3 := Zbe a HA0.out HA1.out; simp [Lib.byteCells_length] at h1; omega
  clear hb7 HNU s1 x1
  obtain ⟨a9, n9, c9, w9, hr9, hb9⟩ := HB7.out.push [.int .u8 10] (by simp [Value.oneCell']) (by have := HN7.out; simp; omega)
  have HF : Hid (Bs w0 w1 w9 a9 n9 c9 (zs ++ INS)) := by
   show Bs w0 w1 w9 a9 n9 c9 (zs ++ INS)
   have e : zs ++ [Value.int .u8 9] ++ Lib.strCells nm ++ (.int .u8 32 :: Lib.byteCells (Lib.itoa a)) ++ [Value.int .u8 10] = zs ++ INS := by rw [HIN.out, HD.out]; simp
   rw [← e]
   simpa using hb9.rebase HT3.out
  have HR9 := Za hr9
  clear hr9 hb9
  go_wp2_with (at_builtin; refine Zr rfl (.tmp 81) (.tmp 82) 23 23 rfl _ _ rfl rfl _ w9 HR9.out ?_)
  go_ret
  exact ⟨_, _, _, rfl, HF.out⟩
 have q3 : (o == 3) = false := by simp [hc3]
 by_cases hc4 : o = 4
 ·subst hc4
  have haf : ¬ a < fs := fun hh => h4 ⟨rfl, hh⟩
  clear h0 h3 h4 h5 hc3 q0 q3 q5
  have HNU := Za (Zc2 a5 n5 c5 _ a HA0.out HA1.out w0 w3 w5 HG0.out HG.out HB5.out (by have := HN5.out; omega))
  go_wp2_with fail
  refine HNU.out.mono ?_
  rintro e w7 ⟨a7, n7, c7, rfl, hb7⟩
  have HB7 := Za hb7
  have HN7 : Hid (n7 ≤ 1000000000400) := by show n7 ≤ 1000000000400; have h1 := HB5.out.step hb7; have h2 := HN5.out; have h3 := Zbe a HA0.out HA1.out; simp [Lib.byteCells_length] at h1; omega
  clear hb7 HNU s1 x1
  obtain ⟨a9, n9, c9, w9, hr9, hb9⟩ := HB7.out.push [.int .u8 10] (by simp [Value.oneCell']) (by have := HN7.out; simp; omega)
  have HF : Hid (Bs w0 w1 w9 a9 n9 c9 (zs ++ INS)) := by
   show Bs w0 w1 w9 a9 n9 c9 (zs ++ INS)
   have e : zs ++ [Value.int .u8 9] ++ Lib.strCells nm ++ (.int .u8 32 :: Lib.byteCells (Lib.itoa a)) ++ [Value.int .u8 10] = zs ++ INS := by rw [HIN.out, HD.out]; simp
   rw [← e]
   simpa using hb9.rebase HT3.out
  have HR9 := Za hr9
  clear hr9 hb9
  go_wp2_with (at_builtin; refine Zr rfl (.tmp 81) (.tmp 82) 23 23 rfl _ _ rfl rfl _ w9 HR9.out ?_)
  go_ret
  exact ⟨_, _, _, rfl, HF.out⟩
 have q4 : (o == 4) = false := by simp [hc4]
 clear h0 h3 h4 h5 hc3 hc4
 have HNU := Za (Zc2 a5 n5 c5 _ a HA0.out HA1.out w0 w3 w5 HG0.out HG.out HB5.out (by have := HN5.out; omega))
 go_wp2_with fail
 refine HNU.out.mono ?_
 rintro e w7 ⟨a7, n7, c7, rfl, hb7⟩
 have HB7 := Za hb7
 have HN7 : Hid (n7 ≤ 1000000000400) := by show n7 ≤ 1000000000400; have h1 := HB5.out.step hb7; have h2 := HN5.out; have h3 := Zbe a HA0.out HA1.out; simp [Lib.byteCells_length] at h1; omega
 clear hb7 HNU s1 x1
 obtain ⟨a9, n9, c9, w9, hr9, hb9⟩ := HB7.out.push [.int .u8 10] (by simp [Value.oneCell']) (by have := HN7.out; simp; omega)
 have HF : Hid (Bs w0 w1 w9 a9 n9 c9 (zs ++ INS)) := by
  show Bs w0 w1 w9 a9 n9 c9 (zs ++ INS)
  have e : zs ++ [Value.int .u8 9] ++ Lib.strCells nm ++ (.int .u8 32 :: Lib.byteCells (Lib.itoa a)) ++ [Value.int .u8 10] = zs ++ INS := by rw [HIN.out, HD.out]; simp
  rw [← e]
  simpa using hb9.rebase HT3.out
 have HR9 := Za hr9
 clear hr9 hb9
 go_wp2_with (at_builtin; refine Zr rfl (.tmp 81) (.tmp 82) 23 23 rfl _ _ rfl rfl _ w9 HR9.out ?_)
 go_ret
 exact ⟨_, _, _, rfl, HF.out⟩
def Wm (q : Bool) (k : Nat) : List Value := if q then .int .u8 76 :: Lib.byteCells (Lib.itoa (k : Int)) ++ Lib.strCells ⟨#[58, 10]⟩ else []
theorem Zg9 (ao : Option Addr) (m c : Nat) (zs : List Value) (gb n cb k : Nat) (q : Bool) (hkn : k < n) (hkb : k ≤ 1000000) (w0 w1 wr : World) (hG0 : 8 ≤ w0.heap.size) (hG : Gl w0) (h : Bs w0 w1 wr ao m c zs) (hm : m ≤ 1000000000000) (hc : wr.cell? ⟨gb, k, none⟩ = some (.bool q)) :
  Calls Tryz.prog 75 #[.slice ao m c, .slice (some ⟨gb, 0, none⟩) n cb, .int .i64 (k : Int)] wr fun e w' => ∃ ao' m' c', e = .returned (.slice ao' m' c') ∧ Bs w0 w1 w' ao' m' c' (zs ++ Wm q k) := by
 have hkI : (k : Int) < (n : Int) := by omega
 have HH := Za h
 have HM := Za hm
 have HNB := Za (Zd7 ao m c zs 76 (k : Int) (by omega) (by omega) w0 w1 wr hG0 hG h (by omega))
 have HIL := Za (Zbe (k : Int) (by omega) (by omega))
 clear hkn hkb hG0 hG h hm
 cases q
 ·have HF : Hid (Bs w0 w1 wr ao m c (zs ++ Wm false k)) := by
   show Bs w0 w1 wr ao m c (zs ++ Wm false k)
   simpa [Wm] using HH.out
  go_enter Tryz.func75, Tryz.ntmps75
  go_wp2
  go_ret
  exact ⟨_, _, _, rfl, HF.out⟩
 ·go_enter Tryz.func75, Tryz.ntmps75
  go_wp2_with fail
  refine HNB.out.mono ?_
  rintro e w7 ⟨a7, n7, c7, rfl, hb7⟩
  have hn7 : n7 ≤ 1000000000100 := by
   have h1 := HH.out.step hb7
   have h2 := HM.out
   have h3 := HIL.out
   simp [Lib.byteCells_length] at h1
   omega
  obtain ⟨a8, n8, c8, w8, hr8, hb8⟩ := hb7.pushS ⟨#[58, 10]⟩ (by show n7 + 2 ≤ 140737488355328; omega)
  have HR8 := Za hr8
  have HF : Hid (Bs w0 w1 w8 a8 n8 c8 (zs ++ Wm true k)) := by
   show Bs w0 w1 w8 a8 n8 c8 (zs ++ Wm true k)
   simpa [Wm] using hb8
  clear hb7 hn7 hr8 hb8 HNB
  go_wp2_with (at_builtin; refine Zr rfl (.tmp 15) (.const (.string ⟨#[58, 10]⟩)) 23 9 rfl _ _ rfl rfl _ w8 HR8.out ?_)
  go_ret
  exact ⟨_, _, _, rfl, HF.out⟩
theorem Zll (op a : Int) (h0 : -9223372036854775808 ≤ op) (h1 : op < 9223372036854775808) (w : World) : Calls Tryz.prog 99 #[.agg #[.int .i64 op, .int .i64 a]] w fun e w' => e = .returned (.int .i64 (Yd Zj op).o) ∧ Kept nF w w' := by
 have hka : Kept nF w (w.alloc (.cells #[.int .i64 op, .int .i64 a] 75)) := (Kept.refl _ _).alloc _
 have c0 := Zb _ _ 0 _ _ _ (heap_alloc_new w (.cells #[.int .i64 op, .int .i64 a] 75))
 have HO1 := Za (Zk5 op (w.alloc (.cells #[.int .i64 op, .int .i64 a] 75)) h0 h1)
 have HK := Za hka
 clear hka h0 h1
 generalize Xb Zj op = iq at *
 generalize Yd Zj op = sh at *
 obtain ⟨nm, o, tt, gg⟩ := sh
 have HO : Hid (Calls Tryz.prog 100 #[.int .i64 op] (w.alloc (.cells #[.int .i64 op, .int .i64 a] 75)) fun e w' => e = .returned (.tuple #[.agg #[.string nm, .int .i64 o, .int .i64 tt, .int .i64 gg], .bool iq]) ∧ Kept nF (w.alloc (.cells #[.int .i64 op, .int .i64 a] 75)) w') := HO1.out
 clear HO1
 go_enter Tryz.func99, Tryz.ntmps99
 go_wp2_with fail
 refine HO.out.mono ?_
 rintro e w2 ⟨rfl, hk2⟩
 have hkb : Kept nF w2 (w2.alloc (.cells #[.string nm, .int .i64 o, .int .i64 tt, .int .i64 gg] 186)) := (Kept.refl _ _).alloc _
 have c1 := Zb _ _ 1 _ _ _ (heap_alloc_new w2 (.cells #[.string nm, .int .i64 o, .int .i64 tt, .int .i64 gg] 186))
 have HK2 := Za (HK.out.trans (hk2.trans hkb))
 clear hk2 hkb HK c0 HO
 go_wp2
 go_ret
 exact ⟨rfl, HK2.out⟩
theorem Tryz.info4 : (Tryz.prog.info? 4).map (fun i => (i.zero, i.size, i.bytes)) = some (some (.bool false), 1, 1) := by kernel_rfl
def Zkp (n : Nat) : Array Value := madeCells (Value.bool false).cells n
theorem Zmh (n : Nat) : Zkp n = ((List.replicate n false).map Value.bool).toArray := by
 apply Array.ext
 ·simp [Zkp]
  exact size_madeCells _ n
 ·intro i h1 h2
  simp [Zkp, madeCells, Value.cells, Nat.mod_one]
theorem Zit (W : World) (l : Nat) (h : l ≤ 140737488355328) : (Instr.makeSlice 86 (.int .i64 (l : Int)) (.int .i64 (l : Int))).run Tryz.prog W = .ok (.slice (some ⟨W.heap.size, 0, none⟩) l l) (W.alloc (.cells (Zkp l) 4)) := by
 obtain ⟨i0, hi, hz0, hz1, hz2⟩ := info_parts Tryz.info4
 have := run_make (P := Tryz.prog) W 86 4 i0 (.bool false) Tryz.underlying86 hi hz0 .i64 .i64 (l : Int) (l : Int) (by omega) (by omega) (by rw [hz2]; omega) (by omega)
 simpa [Zkp, hz1] using this
def Wa (n : Nat) (l : List Bool) (x : IN) : List Bool := if (Yd Zj x.op).o = 3 ∧ x.a < (n : Int) + 1 then l.set x.a.toNat true else l
def Yu (ys : List IN) : List Bool := ys.foldl (Wa ys.length) (List.replicate (ys.length + 1) false)
theorem Zux (n : Nat) (l : List Bool) (x : IN) : (Wa n l x).length = l.length := by unfold Wa; split <;> simp
theorem Ze6 (n : Nat) : ∀ (ys : List IN) (l : List Bool), (ys.foldl (Wa n) l).length = l.length
 | [], l => rfl
 | x :: ys, l => by rw [List.foldl_cons, Ze6 n ys, Zux]
theorem Zr4 (v : Value) (ys : List IN) (hl : ys.length ≤ 1000000) (hok : ∀ y ∈ ys, y.Ok) (hj : ∀ y ∈ ys, (Yd Zj y.op).o = 3 → 0 ≤ y.a) (w : World) (hr : RowI w v ys) :
  Calls Tryz.prog 74 #[v] w fun e w' => ∃ gb, e = .returned (.slice (some ⟨gb, 0, none⟩) (ys.length + 1) (ys.length + 1)) ∧ w'.heap[gb]? = some (.cells ((Yu ys).map Value.bool).toArray 4 (0, 0)) ∧ w.heap.size ≤ gb ∧ Kept nF w w' := by
 obtain ⟨ao, vc, rfl⟩ := hr.shape
 obtain ⟨n, hn⟩ := nmd (ys.length)
 have HR : Hid (∀ (i : Nat) (h : i < ys.length), ∃ g o, ao = some ⟨g, o, none⟩ ∧ w.cell? ⟨g, o + i * 2, none⟩ = some (.int .i64 (ys[i]'h).op) ∧ w.cell? ⟨g, o + i * 2 + 1, none⟩ = some (.int .i64 (ys[i]'h).a)) := fun i h => by
  rcases hr with ⟨h0, _⟩ | ⟨g, o, c, hv, hc⟩
  ·subst h0
   exact absurd h (Nat.not_lt_zero _)
  ·cases hv
   have := hc i (ys[i]'h) (List.getElem?_eq_getElem h)
   exact ⟨g, o, rfl, this 0 _ rfl, this 1 _ rfl⟩
 have HOK : Hid (∀ (i : Nat) (h : i < ys.length), (ys[i]'h).Ok ∧ ((Yd Zj (ys[i]'h).op).o = 3 → 0 ≤ (ys[i]'h).a)) := fun i h => ⟨hok _ (List.getElem_mem h), hj _ (List.getElem_mem h)⟩
 have HST : Hid (∀ (i : Nat) (h : i < ys.length), (ys.take (i + 1)).foldl (Wa n) (List.replicate (n + 1) false) = Wa n ((ys.take i).foldl (Wa n) (List.replicate (n + 1) false)) (ys[i]'h)) := fun i h => by
  rw [List.take_succ_eq_append_getElem h, List.foldl_append]
  rfl
 have HAD : Hid (Yu ys = ys.foldl (Wa n) (List.replicate (n + 1) false)) := by rw [hn]; rfl
 have HN := Za hn
 have HL : Hid (n ≤ 1000000) := by rw [hn]; exact hl
 rw [← hn]
 have hmk := Zit w (n + 1) (by have := HL.out; omega)
 rw [Zmh, show ((n + 1 : Nat) : Int) = (n : Int) + 1 from rfl] at hmk
 have hka : Kept nF w (w.alloc (.cells ((List.replicate (n + 1) false).map Value.bool).toArray 4)) := (Kept.refl _ _).alloc _
 have HX := Za (heap_alloc_new w (.cells ((List.replicate (n + 1) false).map Value.bool).toArray 4))
 have HK := Za hka
 have hw1 : IntKind.i64.wrap ((n : Int) + 1) = (n : Int) + 1 := by have := HL.out; simp [IntKind.wrap, IntKind.bits, IntKind.signed]; omega
 clear hka hr hok hj hl hn
 go_enter Tryz.func74, Tryz.ntmps74
 go_wp2_with fail
 rw [show Array.replicate (n + 1) (Value.bool false) = ((List.replicate (n + 1) false).map Value.bool).toArray by simp]
 have HGB : Hid (w.heap.size ≤ w.heap.size) := Nat.le_refl _
 obtain ⟨gb, hgb⟩ := nmd (w.heap.size)
 rw [← hgb] at HX ⊢
 have HGB : Hid (w.heap.size ≤ gb) := by rw [hgb]; exact Nat.le_refl _
 clear hgb hmk hw1
 generalize w.alloc (.cells ((List.replicate (n + 1) false).map Value.bool).toArray 4) = w1 at *
 go_loopw [12] (fun iv wr => ∃ (i : Nat), iv = .int .i64 (i : Int) ∧ Hid (i ≤ n) ∧ Hid (Kept nF w wr) ∧ Hid (wr.heap[gb]? = some (.cells (((ys.take i).foldl (Wa n) (List.replicate (n + 1) false)).map Value.bool).toArray 4 (0, 0)))) (fun iv _ => n - (intOf iv).toNat)
 case atStart => exact ⟨0, rfl, Nat.zero_le _, HK, HX⟩
 case round =>
  obtain ⟨i, rfl, HI, HKr, HXr⟩ := hrel
  clear HK HX
  by_cases hlt : i < n
  ·have hil : i < ys.length := by have := HN.out; omega
   obtain ⟨g, o, rfl, r0, r1⟩ := HR.out i hil
   have c0 := HKr.out.cell r0 id
   have c1 := HKr.out.cell r1 id
   obtain ⟨hok, hjj⟩ := HOK.out i hil
   have HS1 := Za (HST.out i hil)
   have hltI : (i : Int) < (n : Int) := by omega
   have hiB : (i : Int) < 1000000 := by have := HL.out; omega
   have hlen := Ze6 n (ys.take i) (List.replicate (n + 1) false)
   rw [List.length_replicate] at hlen
   generalize ((ys.take i).foldl (Wa n) (List.replicate (n + 1) false)) = L at *
   generalize hx : ys[i]'hil = x at *
   obtain ⟨op, a⟩ := x
   simp only at c0 c1 hjj
   have hka : Kept nF wr (wr.alloc (.cells #[.int .i64 op, .int .i64 a] 75)) := (Kept.refl _ _).alloc _
   have HB := Za (heap_alloc_new wr (.cells #[.int .i64 op, .int .i64 a] 75))
   have HK2 := Za (HKr.out.trans hka)
   have HX2 := Za (Zc hka HXr.out id)
   have HOP := Za (Zll op a hok.1.1 hok.1.2 (wr.alloc (.cells #[.int .i64 op, .int .i64 a] 75)))
   have HSD : Hid (Wa n L ⟨op, a⟩ = if (Yd Zj op).o = 3 ∧ a < (n : Int) + 1 then L.set a.toNat true else L) := rfl
   have HLN := Za hlen
   have HJJ := Za hjj
   clear hka r0 r1 hok hil hx hlen hjj HKr HXr
   generalize (Yd Zj op).o = q at *
   go_upto_region 5 with fail
   clear c0 c1
   generalize wr.alloc (.cells #[.int .i64 op, .int .i64 a] 75) = w2 at *
   generalize wr.heap.size = gx at *
   obtain ⟨b0, b1, _⟩ := Ym HB.out
   by_cases hq : q = 3
   ·subst hq
    by_cases han : a < (n : Int) + 1
    ·obtain ⟨k, rfl⟩ := Int.eq_ofNat_of_zero_le (HJJ.out (by simp))
     have HAN := Za han
     go_wp2_with fail
     refine HOP.out.mono ?_
     rintro e w3 ⟨rfl, hk3⟩
     obtain ⟨b0, b1, _⟩ := Ym (Zc hk3 HB.out id)
     have hx3 := Zc hk3 HX2.out id
     have hkL : k < L.length := by have := HLN.out; omega
     have y0 : w3.cell? ⟨gb, k, none⟩ = some (.bool (L[k]'hkL)) := by rw [Zb _ _ _ _ _ _ hx3]; simp [hkL]
     have f0 := Ze _ _ k _ _ hx3
     have HX4 : Hid ((w3.setCell ⟨gb, k, none⟩ (.bool true)).heap[gb]? = some (.cells ((Wa n L ⟨op, (k : Int)⟩).map Value.bool).toArray 4 (0, 0))) := by
      show _ = _
      rw [Zf _ _ _ _ _ _ hx3, HSD.out, if_pos ⟨by trivial, HAN.out⟩]
      simp
     have HK4 : Hid (Kept nF w (w3.setCell ⟨gb, k, none⟩ (.bool true))) := (HK2.out.trans hk3).setCell (.inl HGB.out) _
     clear hx3 hk3 HOP HX2 HK2
     go_wp2
     go_roundw
     case rel => exact ⟨i + 1, by go_num, hlt, HK4, by rw [HS1.out]; exact HX4.out⟩
     case measure => simp [intOf]; omega
    ·have HAN := Za han
     have hde : decide (a < (n : Int) + 1) = false := decide_eq_false han
     clear han
     go_wp2_with fail
     refine HOP.out.mono ?_
     rintro e w3 ⟨rfl, hk3⟩
     obtain ⟨b0, b1, _⟩ := Ym (Zc hk3 HB.out id)
     have HX4 : Hid (w3.heap[gb]? = some (.cells ((Wa n L ⟨op, a⟩).map Value.bool).toArray 4 (0, 0))) := by
      show _ = _
      rw [HSD.out, if_neg (fun hh => by have h1 := hh.2; have h2 := HAN.out; omega)]
      exact Zc hk3 HX2.out id
     have HK4 := Za (HK2.out.trans hk3)
     clear hk3 HOP HX2 HK2
     go_wp2
     go_roundw
     case rel => exact ⟨i + 1, by go_num, hlt, HK4, by rw [HS1.out]; exact HX4.out⟩
     case measure => simp [intOf]; omega
   ·have q3 : (q == 3) = false := by simp [hq]
    have HQ := Za hq
    clear hq
    go_wp2_with fail
    refine HOP.out.mono ?_
    rintro e w3 ⟨rfl, hk3⟩
    have HX4 : Hid (w3.heap[gb]? = some (.cells ((Wa n L ⟨op, a⟩).map Value.bool).toArray 4 (0, 0))) := by
     show _ = _
     rw [HSD.out, if_neg (fun hh => HQ.out hh.1)]
     exact Zc hk3 HX2.out id
    have HK4 := Za (HK2.out.trans hk3)
    clear hk3 HOP HX2 HK2 b0 b1
    go_wp2
    go_roundw
    case rel => exact ⟨i + 1, by go_num, hlt, HK4, by rw [HS1.out]; exact HX4.out⟩
    case measure => simp [intOf]; omega
  ·have hnlt : ¬ (i : Int) < (n : Int) := by omega
   have HF : Hid (wr.heap[gb]? = some (.cells ((Yu ys).map Value.bool).toArray 4 (0, 0))) := by
    have h := HXr.out
    have := HN.out
    have := HI.out
    rw [List.take_of_length_le (by omega), ← HAD.out] at h
    exact h
   go_wp2
   go_ret
   exact ⟨gb, rfl, HF.out, HGB.out, HKr.out⟩
end Go.Proofs.YtgoabnehdmdikaaGreatDoor
namespace Go.Proofs.YtgoabnehdmdikaaGreatDoor
open Go.RowKit Go.Deep
theorem Zkq : (Tryz.prog.info? 78).map (·.size) = some 4 := by kernel_rfl
theorem Zfr (a b c d : Value) (ha : a.oneCell' = true) (hb : b.oneCell' = true) (hc : c.oneCell' = true) (hd : d.oneCell' = true) : #[a, b, c, d].all (·.oneCell') = true := by
 simp [ha, hb, hc, hd]
def mkG (i : Nat) : List Value := [.int .i64 (-70 - (i : Int)), .int .i64 0, .int .i64 0, .slice none 0 0]
def Zkr (f : FN) (cg : Nat) : List Value := f.cells (.slice (some ⟨cg, 0, none⟩) f.code.length (f.code.length + 67))
structure LentG (w : World) (g : Nat) (fs : List FN) (cgs : List Nat) (k : Nat) : Prop where
 there : w.there g 0 ((fs.length + 7) * 4)
 ents : ∀ (i : Nat) (f : FN) (cg : Nat), i < k → fs[i]? = some f → cgs[i]? = some cg → w.rangeAt g (i * 4) (Zkr f cg)
 marks : ∀ i, fs.length ≤ i → i < k → w.rangeAt g (i * 4) (mkG i)
theorem LentG.kept {S : Nat → Prop} {w w' : World} {g : Nat} {fs : List FN} {cgs : List Nat} {k : Nat} (h : LentG w g fs cgs k) (hk : Kept S w w') (hS : ¬ S g) : LentG w' g fs cgs k :=
 ⟨Zat h.there hk hS, fun i f cg hi hf hc q u hu => hk.cell (h.ents i f cg hi hf hc q u hu) hS, fun i h0 h1 q u hu => hk.cell (h.marks i h0 h1 q u hu) hS⟩
theorem LentG.put {w : World} {g : Nat} {fs : List FN} {cgs : List Nat} {k : Nat} (h : LentG w g fs cgs k) (hk : k < fs.length + 7) (cs : List Value) (hcs : cs.length = 4) : LentG (w.setCells g (k * 4) cs) g fs cgs k ∧ (w.setCells g (k * 4) cs).rangeAt g (k * 4) cs := by
 have hth : w.there g (k * 4) cs.length := Zao h.there (by rw [hcs]; omega)
 refine ⟨⟨World.there_setCells h.there _ _ _, fun i f cg hi hf hc => ?_, fun i h0 h1 => ?_⟩, World.rangeAt_setCells_same _ _ _ _ hth⟩
 ·refine World.rangeAt_setCells_apart (h.ents i f cg hi hf hc) _ _ _ (.inr (.inl ?_))
  show i * 4 + 4 ≤ _
  omega
 ·refine World.rangeAt_setCells_apart (h.marks i h0 h1) _ _ _ (.inr (.inl ?_))
  show i * 4 + 4 ≤ _
  omega
theorem LentG.mark {w : World} {g : Nat} {fs : List FN} {cgs : List Nat} {k : Nat} (h : LentG w g fs cgs k) (hk : fs.length ≤ k) (hr : w.rangeAt g (k * 4) (mkG k)) : LentG w g fs cgs (k + 1) := by
 refine ⟨h.there, fun i f cg hi hf hc => ?_, fun i h0 h1 => ?_⟩
 ·have : i < fs.length := (List.getElem?_eq_some_iff.1 hf).1
  exact h.ents i f cg (by omega) hf hc
 ·by_cases e : i = k
  ·subst e; exact hr
  ·exact h.marks i h0 (by omega)
theorem LentG.code {w : World} {g : Nat} {fs : List FN} {cgs : List Nat} {k : Nat} {f : FN} {cv : Value} (h : LentG w g fs cgs k) (hl : cgs.length = k) (hf : fs[k]? = some f) (hr : w.rangeAt g (k * 4) (f.cells cv)) (cg : Nat) : LentG (w.setCell ⟨g, k * 4 + 3, none⟩ (.slice (some ⟨cg, 0, none⟩) f.code.length (f.code.length + 67))) g fs (cgs ++ [cg]) (k + 1) := by
 have hk : k < fs.length := (List.getElem?_eq_some_iff.1 hf).1
 show LentG (w.setCells g (k * 4 + 3) [.slice (some ⟨cg, 0, none⟩) f.code.length (f.code.length + 67)]) g fs (cgs ++ [cg]) (k + 1)
 have hth : w.there g (k * 4 + 3) ([.slice (some ⟨cg, 0, none⟩) f.code.length (f.code.length + 67)] : List Value).length := Zao h.there (by show k * 4 + 3 + 1 ≤ _; omega)
 refine ⟨World.there_setCells h.there _ _ _, fun i F c hi hF hc => ?_, fun i h0 h1 => absurd h0 (by omega)⟩
 by_cases hik : i < k
 ·rw [List.getElem?_append_left (by omega)] at hc
  refine World.rangeAt_setCells_apart (h.ents i F c hik hF hc) _ _ _ (.inr (.inl ?_))
  show i * 4 + 4 ≤ _
  omega
 ·have e : i = k := by omega
  subst e
  rw [List.getElem?_append_right (by omega), hl, Nat.sub_self] at hc
  rw [hf] at hF
  cases hF
  cases hc
  intro j u hj
  have hj4 : j < 4 := by
   have := (List.getElem?_eq_some_iff.1 hj).1
   simpa [Zkr, FN.cells] using this
  have hs := World.rangeAt_setCells_same w g (i * 4 + 3) [.slice (some ⟨cg, 0, none⟩) f.code.length (f.code.length + 67)] hth
  have ha : w.rangeAt g (i * 4) [.int .i64 f.a, .int .i64 f.l, .int .i64 f.r] := fun j u hj => by
   have hj3 : j < 3 := (List.getElem?_eq_some_iff.1 hj).1
   refine hr j u ?_
   match j, hj3, hj with
   | 0, _, hj => exact hj
   | 1, _, hj => exact hj
   | 2, _, hj => exact hj
  have ha2 := World.rangeAt_setCells_apart ha g (i * 4 + 3) [.slice (some ⟨cg, 0, none⟩) f.code.length (f.code.length + 67)] (.inr (.inl (by show i * 4 + 3 ≤ _; omega)))
  match j, hj4, hj with
  | 0, _, hj => exact ha2 0 u hj
  | 1, _, hj => exact ha2 1 u hj
  | 2, _, hj => exact ha2 2 u hj
  | 3, _, hj => exact hs 0 u hj
theorem LentG.lt {w : World} {g : Nat} {fs : List FN} {cgs : List Nat} {k : Nat} (h : LentG w g fs cgs k) : g < w.heap.size := by
 have h1 := (h.there 0 (by omega)).1
 cases hc : w.cell? ⟨g, 0 + 0, none⟩ with
 | none => rw [hc] at h1; cases h1
 | some v => exact World.block_lt_of_cell? w _ hc
theorem Tryz.info78 : (Tryz.prog.info? 78).map (fun i => (i.zero, i.size, i.bytes)) = some (some (.agg #[.int .i64 0, .int .i64 0, .int .i64 0, .slice none 0 0]), 4, 48) := by kernel_rfl
def zfn (n : Nat) : Array Value := madeCells (Value.agg #[.int .i64 0, .int .i64 0, .int .i64 0, .slice none 0 0]).cells n
theorem Zr5 (n : Nat) : (zfn n).size = n := size_madeCells _ n
theorem Zr6 (W : World) (l : Nat) (h : l * 48 ≤ 140737488355328) : (Instr.makeSlice 24 (.int .i64 (l : Int)) (.int .i64 (l : Int))).run Tryz.prog W = .ok (.slice (some ⟨W.heap.size, 0, none⟩) l l) (W.alloc (.cells (zfn (l * 4)) 78)) := by
 obtain ⟨i0, hi, hz0, hz1, hz2⟩ := info_parts Tryz.info78
 have := run_make (P := Tryz.prog) W 24 78 i0 _ Tryz.underlying24 hi hz0 .i64 .i64 (l : Int) (l : Int) (by omega) (by omega) (by rw [hz2]; omega) (by omega)
 rw [hz1] at this
 simpa [zfn, Value.cells] using this
def Ze7 (p : PG) (gd gl : Nat) : Value := .agg #[.int .i64 p.mem, .slice (some ⟨gd, 0, none⟩) p.data.length (p.data.length + 67), .slice (some ⟨gl, 0, none⟩) p.fns.length (p.fns.length + 7)]
structure LentP (w : World) (gd gl : Nat) (cgs : List Nat) (p : PG) (k : Nat) : Prop where
 dat : Lent2 w gd p.data 67
 dl : gd < gl
 fns : LentG w gl p.fns cgs k
 code : ∀ (i : Nat) (f : FN) (cg : Nat), p.fns[i]? = some f → cgs[i]? = some cg → LentI w cg f.code 67
 len : cgs.length = min k p.fns.length
 up : cgs.Pairwise (· < ·)
 lo : ∀ cg ∈ cgs, gl < cg
theorem LentP.kept {S : Nat → Prop} {w w' : World} {gd gl : Nat} {cgs : List Nat} {p : PG} {k : Nat} (h : LentP w gd gl cgs p k) (hk : Kept S w w') (hd : ¬ S gd) (hS : ∀ q, gl ≤ q → ¬ S q) : LentP w' gd gl cgs p k :=
 ⟨h.dat.kept hk hd, h.dl, h.fns.kept hk (hS gl (Nat.le_refl _)), fun i f cg hf hc => (h.code i f cg hf hc).kept hk (hS cg (Nat.le_of_lt (h.lo cg (List.mem_of_getElem? hc)))), h.len, h.up, h.lo⟩
end Go.Proofs.YtgoabnehdmdikaaGreatDoor
