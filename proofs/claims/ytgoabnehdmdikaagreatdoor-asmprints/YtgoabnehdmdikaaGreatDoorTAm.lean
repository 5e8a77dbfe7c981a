/-
  TAm: Am, An, Ao, Ap.
-/
import Derived.Test.YtgoabnehdmdikaaGreatDoorTAk
import Derived.Lib.OthersKept
import Derived.Lib.SlBytesConst
namespace Go.Proofs.YtgoabnehdmdikaaGreatDoor
open Go.RowKit
set_option linter.unusedVariables false
set_option linter.unusedSimpArgs false
set_option maxRecDepth 100000

theorem oth5_of {w w' : World} {B n : Nat} {v : Value} {xs : List Value} (h : w.ownsRow B 5 1 v n xs) (hk : Kept (fun q => v.ownBlock = some q) w w') : Lib.OthersKept 5 none w w' := fun k o hk' _ hn => box_kept hk hk' (fun e => by
  rcases h.2 with ⟨rfl, _⟩ | ⟨g, cap, cur, rfl, _, hgg, _⟩
  · cases e
  · obtain rfl : g = k := by simpa [Value.ownBlock] using e
    rw [hgg] at hk'
    cases hk'
    exact hn _ _ rfl)
theorem oth5_kept {w w' : World} (hk : Kept (fun _ => False) w w') : Lib.OthersKept 5 none w w' := fun k o hk' _ _ => box_kept hk hk' (fun f => f)
theorem Oth5.box {w w' : World} {g t : Nat} {cs : Array Value} {f : Nat × Nat} (h : Lib.OthersKept 5 none w w') (hb : w.heap[g]? = some (.cells cs t f)) (ht : t ≠ 5) : w'.heap[g]? = some (.cells cs t f) := h g _ hb (by simp) (fun c fz e => by cases e; exact ht rfl)
theorem Oth5.row {w w' : World} {B e s n : Nat} {v : Value} {xs : List Value} (h : Lib.OthersKept 5 none w w') (hr : w.ownsRow B e s v n xs) (ht : e ≠ 5) : w'.ownsRow B e s v n xs := by
  refine ⟨hr.1, ?_⟩
  rcases hr.2 with hh | ⟨g, cap, cur, rfl, hb, hgg, rest⟩
  · exact .inl hh
  · exact .inr ⟨g, cap, cur, rfl, hb, Oth5.box h hgg ht, rest⟩
/-- What is left when bytes ys were put behind a row of one's own. -/
def BR (w0 w : World) (n : Nat) (xs ys : List Value) (e : Ending) (w' : World) : Prop := ∃ ao c, e = .returned (.slice ao (n + ys.length) c) ∧ w'.ownsRow w0.heap.size 5 1 (.slice ao (n + ys.length) c) (n + ys.length) (xs ++ ys) ∧ Kept (fun _ => False) w0 w' ∧ Lib.OthersKept 5 none w w'
theorem Gl.tab5 {w : World} (h : Gl w) {B : Nat} (hB : 8 ≤ B) : Lib.TabBelow Tryz.prog B w "internal/strconv.uint64pow10" .u64 Lib.pow10Tab := fun w' hb => by
  unfold Lib.TabIs
  rw [var_block pow_named (hb.block 4 (by omega))]
  exact h.tab
theorem bel_kept {w0 w w' : World} (h : Kept (fun _ => False) w0 w) (hb : Below w0.heap.size w w') : Kept (fun _ => False) w0 w' := h.step (kept_of_below hb) (fun i hi e => by omega)
theorem kept_of_below' {B : Nat} {w w' : World} (h : Below B w w') : Kept (fun k => B ≤ k) w w' := ⟨h.os, h.tape, h.output, h.size, fun k _ hn => h.block k (by omega)⟩
set_option maxHeartbeats 4000000 in
theorem nameB_any (sv : Value) (n : Nat) (xs : List Value) (l : Int) (i : Int) (h0 : -9223372036854775808 ≤ i) (h1 : i ≤ 9223372036854775807) (w0 w : World) (hG0 : 8 ≤ w0.heap.size) (hG : Gl w) (hk : Kept (fun _ => False) w0 w) (ho : w.ownsRow w0.heap.size 5 1 sv n xs) (hn : n ≤ 100000) :
    Calls Tryz.prog 73 #[sv, .int .u8 l, .int .i64 i] w (BR w0 w n xs (.int .u8 l :: Lib.byteCells (Lib.itoa i))) := by
  obtain ⟨v', w2, hr, ho2, hk0, hk1, hn2⟩ := push_byte ho (.int .u8 l) rfl hk (by omega)
  have HO := hid_of (oth5_of ho hk1)
  have HA := hid_of (Tryz.strconv_AppendInt_10 w0.heap.size (n + 1) i h0 h1 v' _ w2 ho2 hk0.size (by omega) ((hG.kept hk1 (fun q hq e => by have := (ho.lt q e).1; omega)).tab5 hG0))
  have HK0 := hid_of hk0
  obtain ⟨a1, c1, hv1⟩ := ownsRow_shape ho
  obtain ⟨a2, c2, hv2⟩ := ownsRow_shape ho2
  obtain ⟨n2, hn2'⟩ : ∃ m, m = n + 1 := ⟨_, rfl⟩
  rw [← hn2'] at hv2
  subst hv1 hv2
  have HN2 := hid_of hn2'
  have HR := hid_of hr
  clear hr ho2 hk0 hk1 hn2 ho hk hG hG0 h0 h1 hn hn2'
  go_enter Tryz.func73, Tryz.ntmps73
  go_wp2_with (at_builtin; refine wp_app2 rfl (.tmp 7) (.tmp 9) 23 23 rfl _ _ rfl rfl _ w2 HR.out ?_)
  refine HA.out.mono ?_
  rintro e w3 ⟨v3, rfl, ho3, hb3, hot3⟩
  have hlen : n + 1 + (Lib.itoa i).length = n + (Value.int .u8 l :: Lib.byteCells (Lib.itoa i)).length := by rw [List.length_cons, Lib.byteCells_length]; omega
  rw [hlen, List.append_assoc] at ho3
  obtain ⟨a3, c3, hv3⟩ := ownsRow_shape ho3
  have HBR : Hid (BR w0 w n xs (.int .u8 l :: Lib.byteCells (Lib.itoa i)) (.returned v3) w3) := ⟨a3, c3, by rw [hv3], by rw [← hv3]; exact ho3, bel_kept HK0.out hb3, HO.out.trans hot3⟩
  obtain ⟨n3, hn3⟩ : ∃ m, m = n + (Value.int .u8 l :: Lib.byteCells (Lib.itoa i)).length := ⟨_, rfl⟩
  rw [← hn3] at hv3
  subst hv3
  clear ho3 hb3 hot3 hlen hn3 HA HR
  go_wp2
  go_ret
  exact HBR.out
set_option maxHeartbeats 4000000 in
theorem numB_any (sv : Value) (n : Nat) (xs : List Value) (i : Int) (h0 : -9223372036854775808 ≤ i) (h1 : i ≤ 9223372036854775807) (w0 w : World) (hG0 : 8 ≤ w0.heap.size) (hG : Gl w) (hk : Kept (fun _ => False) w0 w) (ho : w.ownsRow w0.heap.size 5 1 sv n xs) (hn : n ≤ 100000) :
    Calls Tryz.prog 46 #[sv, .int .i64 i] w (BR w0 w n xs (.int .u8 32 :: Lib.byteCells (Lib.itoa i))) := by
  obtain ⟨v', w2, hr, ho2, hk0, hk1, hn2⟩ := push_byte ho (.int .u8 32) rfl hk (by omega)
  have HO := hid_of (oth5_of ho hk1)
  have HA := hid_of (Tryz.strconv_AppendInt_10 w0.heap.size (n + 1) i h0 h1 v' _ w2 ho2 hk0.size (by omega) ((hG.kept hk1 (fun q hq e => by have := (ho.lt q e).1; omega)).tab5 hG0))
  have HK0 := hid_of hk0
  obtain ⟨a1, c1, hv1⟩ := ownsRow_shape ho
  obtain ⟨a2, c2, hv2⟩ := ownsRow_shape ho2
  obtain ⟨n2, hn2'⟩ : ∃ m, m = n + 1 := ⟨_, rfl⟩
  rw [← hn2'] at hv2
  subst hv1 hv2
  have HN2 := hid_of hn2'
  have HR := hid_of hr
  clear hr ho2 hk0 hk1 hn2 ho hk hG hG0 h0 h1 hn hn2'
  go_enter Tryz.func46, Tryz.ntmps46
  go_wp2_with (at_builtin; refine wp_app2 rfl (.tmp 5) (.tmp 6) 23 23 rfl _ _ rfl rfl _ w2 HR.out ?_)
  refine HA.out.mono ?_
  rintro e w3 ⟨v3, rfl, ho3, hb3, hot3⟩
  have hlen : n + 1 + (Lib.itoa i).length = n + (Value.int .u8 32 :: Lib.byteCells (Lib.itoa i)).length := by rw [List.length_cons, Lib.byteCells_length]; omega
  rw [hlen, List.append_assoc] at ho3
  obtain ⟨a3, c3, hv3⟩ := ownsRow_shape ho3
  have HBR : Hid (BR w0 w n xs (.int .u8 32 :: Lib.byteCells (Lib.itoa i)) (.returned v3) w3) := ⟨a3, c3, by rw [hv3], by rw [← hv3]; exact ho3, bel_kept HK0.out hb3, HO.out.trans hot3⟩
  obtain ⟨n3, hn3⟩ : ∃ m, m = n + (Value.int .u8 32 :: Lib.byteCells (Lib.itoa i)).length := ⟨_, rfl⟩
  rw [← hn3] at hv3
  subst hv3
  clear ho3 hb3 hot3 hlen hn3 HA HR
  go_wp2
  go_ret
  exact HBR.out
theorem push_str {w0 W : World} {v : Value} {k : Nat} {xs : List Value} (h : W.ownsRow w0.heap.size 5 1 v k xs) (s : ByteArray) (hk : Kept (fun _ => False) w0 W) (hl : k + s.size ≤ 900000) :
    ∃ v' w', (Builtin.append_ #[23, 9] 23 #[v, .string s]).run Tryz.prog W = .ok v' w' ∧ w'.ownsRow w0.heap.size 5 1 v' (k + s.size) (xs ++ Lib.strCells s) ∧ Kept (fun _ => False) w0 w' ∧ Kept (fun q => v.ownBlock = some q) W w' := by
  obtain ⟨i0, hi, hz0, hz1, hz2⟩ := info_parts Tryz.info5
  obtain ⟨v', w', hr, h2, h3, h4⟩ := Lib.run_append_own_string (P := Tryz.prog) W w0.heap.size 23 9 23 5 i0 Tryz.underlying23 Tryz.underlying9 hi hz0 hz1 hz2 v k xs h s (by unfold maxLen; omega) (by omega) hk.size
  have hk1 : Kept (fun k => v.ownBlock = some k) W w' := (Kept.refl _ W).grown h3 (fun k hk => .inr hk)
  exact ⟨v', w', hr, h2, hk.step hk1 (fun i hi e => by have := (h.lt i e).1; omega), hk1⟩
set_option maxHeartbeats 4000000 in
theorem operand_ret (x : Int) (w : World) : Calls Tryz.prog 99 #[.agg #[.int .i64 18, .int .i64 x]] w fun e w' => e = .returned (.int .i64 0) ∧ Kept (fun _ => False) w w' := by
  have hka : Kept (fun _ => False) w (w.alloc (.cells #[.int .i64 18, .int .i64 x] 75)) := (Kept.refl _ _).alloc _
  have c0 := cell_block _ _ 0 _ _ _ (heap_alloc_new w (.cells #[.int .i64 18, .int .i64 x] 75))
  have HO := hid_of (of_any 18 (w.alloc (.cells #[.int .i64 18, .int .i64 x] 75)) (by decide) (by decide))
  obtain ⟨nm, tt, gg, hrow⟩ := ret_row
  rw [hrow, show isRow insL 18 = true by kernel_rfl] at HO
  have HK := hid_of hka
  clear hrow hka
  go_enter Tryz.func99, Tryz.ntmps99
  go_wp2_with fail
  refine HO.out.mono ?_
  rintro e w2 ⟨rfl, hk2⟩
  have hkb : Kept (fun _ => False) w2 (w2.alloc (.cells #[.string nm, .int .i64 0, .int .i64 tt, .int .i64 gg] 186)) := (Kept.refl _ _).alloc _
  have c1 := cell_block _ _ 1 _ _ _ (heap_alloc_new w2 (.cells #[.string nm, .int .i64 0, .int .i64 tt, .int .i64 gg] 186))
  have HK2 := hid_of (HK.out.trans (hk2.trans hkb))
  clear hk2 hkb HK c0 HO
  go_wp2
  go_ret
  exact ⟨rfl, HK2.out⟩
set_option maxHeartbeats 4000000 in
theorem labelB_none (v : Value) (g n c k : Nat) (w : World) (hc : w.cell? ⟨g, k, none⟩ = some (.bool false)) (hk : k < n) : Calls Tryz.prog 75 #[v, .slice (some ⟨g, 0, none⟩) n c, .int .i64 (k : Int)] w fun e w' => e = .returned v ∧ w' = w := by
  have hkI : (k : Int) < (n : Int) := by omega
  clear hk
  go_enter Tryz.func75, Tryz.ntmps75
  go_wp2
  go_ret
  exact ⟨rfl, rfl⟩
set_option maxHeartbeats 8000000 in
theorem aims_ret (g o c : Nat) (w : World) (hg : w.rangeAt g o [.int .i64 18, .int .i64 0]) : Calls Tryz.prog 74 #[.slice (some ⟨g, o, none⟩) 1 c] w fun e w' => ∃ ga, e = .returned (.slice (some ⟨ga, 0, none⟩) 2 2) ∧ w'.heap[ga]? = some (.cells #[.bool false, .bool false] 4 (0, 0)) ∧ w.heap.size ≤ ga ∧ Kept (fun _ => False) w w' := by
  have hka : Kept (fun _ => False) w (w.alloc (.cells #[.bool false, .bool false] 4)) := (Kept.refl _ _).alloc _
  have hba := heap_alloc_new w (.cells #[.bool false, .bool false] 4)
  have hmk : ∀ W : World, (Instr.makeSlice 86 (.int .i64 2) (.int .i64 2)).run Tryz.prog W = .ok (.slice (some ⟨W.heap.size, 0, none⟩) 2 2) (W.alloc (.cells #[.bool false, .bool false] 4)) := fun W => by kernel_rfl
  have HR := hid_of hg
  have HK := hid_of hka
  have HB := hid_of hba
  clear hg hka hba
  go_enter Tryz.func74, Tryz.ntmps74
  go_wp2_with fail
  generalize w.alloc (.cells #[.bool false, .bool false] 4) = w1 at *
  obtain ⟨ga, hga⟩ : ∃ g, g = w.heap.size := ⟨_, rfl⟩
  rw [← hga] at HB ⊢
  have HGA : Hid (w.heap.size ≤ ga) := by rw [hga]; exact Nat.le_refl _
  clear hga hmk
  go_loopw [12] (fun iv wr => Hid (Kept (fun _ => False) w1 wr) ∧ (iv = .int .i64 0 ∨ iv = .int .i64 1)) (fun iv _ => 1 - (intOf iv).toNat)
  case atStart => exact ⟨Kept.refl _ _, .inl rfl⟩
  case round =>
    obtain ⟨HKr, hc⟩ := hrel
    rcases hc with rfl | rfl
    · have r0 := HKr.out.cell (HK.out.cell (HR.out 0 _ rfl) (fun f => f)) (fun f => f)
      have r1 := HKr.out.cell (HK.out.cell (HR.out 1 _ rfl) (fun f => f)) (fun f => f)
      simp only [Nat.add_zero] at r0
      have hkb : Kept (fun _ => False) wr (wr.alloc (.cells #[.int .i64 18, .int .i64 0] 75)) := (Kept.refl _ _).alloc _
      have HX := hid_of (heap_alloc_new wr (.cells #[.int .i64 18, .int .i64 0] 75))
      have HK2 := hid_of (HKr.out.trans hkb)
      clear hkb
      go_upto_region 5 with fail
      clear r0 r1
      generalize wr.alloc (.cells #[.int .i64 18, .int .i64 0] 75) = w2 at *
      generalize wr.heap.size = gx at *
      obtain ⟨b0, b1, _⟩ := look2 HX.out
      go_wp2_with fail
      refine (operand_ret 0 w2).mono ?_
      rintro e w3 ⟨rfl, hk3⟩
      have HK3 := hid_of (HK2.out.trans hk3)
      clear hk3 HK2 HX b0 b1
      go_wp2
      go_roundw
      case rel => exact ⟨HK3, .inr rfl⟩
      case measure => simp [intOf]
    · go_wp2
      go_ret
      exact ⟨ga, rfl, box_kept HKr.out HB.out (fun f => f), HGA.out, HK.out.trans HKr.out⟩
theorem ret_row' : (rowS insL 18).cells.toArray = #[.string ⟨#[114, 101, 116]⟩, .int .i64 0, .int .i64 (rowS insL 18).t, .int .i64 (rowS insL 18).g] := by kernel_rfl
end Go.Proofs.YtgoabnehdmdikaaGreatDoor

namespace Go.Proofs.YtgoabnehdmdikaaGreatDoor
open Go.RowKit
set_option linter.unusedVariables false
set_option linter.unusedSimpArgs false
set_option maxRecDepth 100000

abbrev retY : List Value := [.int .u8 9, .int .u8 114, .int .u8 101, .int .u8 116, .int .u8 10]
abbrev ret3 : ByteArray := ⟨#[114, 101, 116]⟩
set_option maxHeartbeats 8000000 in
theorem instrB_ret (sv : Value) (n : Nat) (xs : List Value) (x pl fs : Int) (w0 w : World) (hk : Kept (fun _ => False) w0 w) (ho : w.ownsRow w0.heap.size 5 1 sv n xs) (hn : n ≤ 100000) :
    Calls Tryz.prog 76 #[sv, .agg #[.int .i64 18, .int .i64 x], .int .i64 pl, .int .i64 fs] w (BR w0 w n xs retY) := by
  have hka : Kept (fun _ => False) w (w.alloc (.cells #[.int .i64 18, .int .i64 x] 75)) := (Kept.refl _ _).alloc _
  have HX := hid_of (heap_alloc_new w (.cells #[.int .i64 18, .int .i64 x] 75))
  have HK1 := hid_of (hk.trans hka)
  have HO1 := hid_of (hka.ownsRow ho (fun _ _ f => f))
  have HT1 := hid_of (oth5_kept hka)
  have HN := hid_of hn
  obtain ⟨a1, c1, hv1⟩ := ownsRow_shape ho
  subst hv1
  clear hka hk ho hn
  go_enter Tryz.func76, Tryz.ntmps76
  go_upto_region 1 with fail
  generalize w.alloc (.cells #[.int .i64 18, .int .i64 x] 75) = w1 at *
  generalize w.heap.size = gx at *
  obtain ⟨b0, b1, _⟩ := look2 HX.out
  have HOF := hid_of (of_any 18 w1 (by decide) (by decide))
  rw [ret_row', show isRow insL 18 = true by kernel_rfl] at HOF
  generalize (rowS insL 18).t = tt at *
  generalize (rowS insL 18).g = gg at *
  go_wp2_with fail
  refine HOF.out.mono ?_
  rintro e w2 ⟨rfl, hk2⟩
  have hka : Kept (fun _ => False) w2 (w2.alloc (.cells #[.string ret3, .int .i64 0, .int .i64 tt, .int .i64 gg] 186)) := (Kept.refl _ _).alloc _
  have HS3 := hid_of (heap_alloc_new w2 (.cells #[.string ret3, .int .i64 0, .int .i64 tt, .int .i64 gg] 186))
  have HK3 := hid_of (HK1.out.trans (hk2.trans hka))
  have HO3 := hid_of ((hk2.trans hka).ownsRow HO1.out (fun _ _ f => f))
  have HT3 := hid_of (HT1.out.trans (oth5_kept (hk2.trans hka)))
  clear hk2 hka HOF HX HK1 HO1 HT1 b0 b1
  go_upto_region 2 with fail
  generalize w2.alloc (.cells #[.string ret3, .int .i64 0, .int .i64 tt, .int .i64 gg] 186) = w3 at *
  generalize w2.heap.size = gs at *
  have hKwd : Kept (fun _ => False) w3 w3.drew := (Kept.refl _ _).drew
  have HSM : Hid (∀ w', Lib.OthersKept 5 none w3 w' → w'.cell? ⟨gs, 0, none⟩ = some (.string ret3)) := fun w' hw => cell_block _ _ 0 _ _ _ (Oth5.box hw HS3.out (by decide))
  refine wp_region_held_drew (S := fun w' => Lib.OthersKept 5 none w3 w') (by kernel_rfl) (oth5_kept hKwd) (fun hHeld => ?_)
  generalize w3.drew = wd at *
  obtain ⟨v4, w4, hr4, ho4, hk04, hk14, _⟩ := push_byte (hKwd.ownsRow HO3.out (fun _ _ f => f)) (.int .u8 9) rfl (HK3.out.trans hKwd) (by have := HN.out; omega)
  have hT4 := (oth5_kept hKwd).trans (oth5_of (hKwd.ownsRow HO3.out (fun _ _ f => f)) hk14)
  obtain ⟨v5, w5, hr5, ho5, hk05, hk15⟩ := push_str ho4 ret3 hk04 (by have := HN.out; show n + 1 + 3 ≤ 900000; omega)
  have hT5 := hT4.trans (oth5_of ho4 hk15)
  have HT5 := hid_of hT5
  have HT4 := hid_of hT4
  have HK5 := hid_of hk05
  have HO5 := hid_of ho5
  obtain ⟨a4, c4, hv4⟩ := ownsRow_shape ho4
  obtain ⟨n4, hn4⟩ : ∃ m, m = n + 1 := ⟨_, rfl⟩
  rw [← hn4] at hv4
  subst hv4
  obtain ⟨a5, c5, hv5⟩ := ownsRow_shape ho5
  obtain ⟨n5, hn5⟩ : ∃ m, m = n + 1 + ret3.size := ⟨_, rfl⟩
  rw [← hn5] at hv5
  subst hv5
  have HR4 := hid_of hr4
  have HR5 := hid_of hr5
  clear hr4 hr5 ho4 ho5 hk04 hk05 hk14 hk15 hT4 hT5 hn4 hn5
  iterate 1
    refine tkn (v := ?_) 0 rfl ?_ ?_; rotate_left 1
    · intro w hSw; have s0 := HSM.out w hSw; go_simp; try with_reducible rfl
    try simp only [Act.put, tdy]
  iterate 2
    refine tkn (v := ?_) 3 rfl ?_ ?_; rotate_left 1
    · intro w hSw; have s0 := HSM.out w hSw; go_simp; try with_reducible rfl
    try simp only [Act.put, tdy]
  refine wpAnyH_ready (rs := [1]) (by kernel_rfl) (by simp) ?_
  refine AllReadyH.cons rfl (fun K hK => ?_) AllReadyH.nil
  go_simp
  refine hK.out _ _ (hHeld.alloc _) (fun hHeld => ?_)
  clear hK K
  try simp only [Act.put, tdy]
  refine wpAnyH_ready (rs := [2]) (by kernel_rfl) (by simp) ?_
  refine AllReadyH.cons rfl (fun K hK => ?_) AllReadyH.nil
  refine step_app rfl (.tmp 19) (.tmp 20) 23 23 rfl _ _ rfl rfl (.slice a4 n4 c4) w4 HR4.out ?_
  refine hK.out _ _ HT4.out (fun hHeld => ?_)
  clear hK K
  try simp only [Act.put, tdy]
  refine wpAnyH_ready (rs := [5]) (by kernel_rfl) (by simp) ?_
  refine AllReadyH.cons rfl (fun K hK => ?_) AllReadyH.nil
  refine step_app rfl (.tmp 21) (.tmp 23) 23 9 rfl _ _ rfl rfl (.slice a5 n5 c5) w5 HR5.out ?_
  refine hK.out _ _ HT5.out (fun hHeld => ?_)
  clear hK K
  try simp only [Act.put, tdy]
  refine wpAnyH_ready (rs := [6]) (by kernel_rfl) (by simp) ?_
  refine AllReadyH.cons rfl (fun K hK => ?_) AllReadyH.nil
  go_simp
  refine hK.out _ _ hHeld (fun hHeld => ?_)
  clear hK K
  try simp only [Act.put, tdy]
  refine wpAnyH_done (by kernel_rfl) ?_ _
  have HS5 := hid_of (Oth5.box HT5.out HS3.out (by decide))
  have HT6 := hid_of (HT3.out.trans HT5.out)
  clear hHeld hKwd HSM HT4 HR4 HR5 HS3 HT3 HT5 HK3 HO3
  have s1 := cell_block _ _ 1 _ _ _ HS5.out
  obtain ⟨v7, w7, hr7, ho7, hk07, hk17, _⟩ := push_byte HO5.out (.int .u8 10) rfl HK5.out (by have := HN.out; show n + 1 + 3 ≤ 900000; omega)
  have hlen : n + 1 + ret3.size + 1 = n + retY.length := by show n + 1 + 3 + 1 = n + 5; omega
  have happ : xs ++ [Value.int .u8 9] ++ Lib.strCells ret3 ++ [Value.int .u8 10] = xs ++ retY := by rw [List.append_assoc, List.append_assoc]; rfl
  rw [hlen, happ] at ho7
  obtain ⟨a7, c7, hv7⟩ := ownsRow_shape ho7
  have HBR : Hid (BR w0 w n xs retY (.returned v7) w7) := ⟨a7, c7, by rw [hv7], by rw [← hv7]; exact ho7, hk07, HT6.out.trans (oth5_of HO5.out hk17)⟩
  obtain ⟨n7, hn7⟩ : ∃ m, m = n + retY.length := ⟨_, rfl⟩
  rw [← hn7] at hv7
  subst hv7
  have HR7 := hid_of hr7
  clear hr7 ho7 hk07 hk17 hlen happ hn7
  go_wp2_with (at_builtin; refine wp_app2 rfl (.tmp 81) (.tmp 82) 23 23 rfl _ _ rfl rfl _ w7 HR7.out ?_)
  go_ret
  exact HBR.out
end Go.Proofs.YtgoabnehdmdikaaGreatDoor

namespace Go.Proofs.YtgoabnehdmdikaaGreatDoor
open Go.RowKit
set_option linter.unusedVariables false
set_option linter.unusedSimpArgs false
set_option maxRecDepth 100000

/-- Bytes of one's own, while they grow. -/
structure Bs (w0 w1 wr : World) (ao : Option Addr) (m c : Nat) (zs : List Value) : Prop where
  own : wr.ownsRow w0.heap.size 5 1 (.slice ao m c) m zs
  kept : Kept (fun _ => False) w0 wr
  oth : Lib.OthersKept 5 none w1 wr
theorem Bs.len {w0 w1 wr : World} {ao : Option Addr} {m c : Nat} {zs : List Value} (h : Bs w0 w1 wr ao m c zs) : m = zs.length := by have := h.own.1; omega
theorem Bs.more {w0 w1 wr w' : World} {ao : Option Addr} {m c : Nat} {zs ys : List Value} {e : Ending} (h : Bs w0 w1 wr ao m c zs) (hb : BR w0 wr m zs ys e w') : ∃ ao' m' c', e = .returned (.slice ao' m' c') ∧ Bs w0 w1 w' ao' m' c' (zs ++ ys) := by
  obtain ⟨a', c', rfl, ho, hk, hot⟩ := hb
  exact ⟨a', _, c', rfl, ho, hk, h.oth.trans hot⟩
theorem Bs.same {w0 w1 wr w' : World} {ao : Option Addr} {m c : Nat} {zs : List Value} (h : Bs w0 w1 wr ao m c zs) (hk : Kept (fun _ => False) wr w') : Bs w0 w1 w' ao m c zs := ⟨hk.ownsRow h.own (fun _ _ f => f), h.kept.trans hk, h.oth.trans (oth5_kept hk)⟩
theorem Bs.byte {w0 w1 wr : World} {ao : Option Addr} {m c : Nat} {zs : List Value} (h : Bs w0 w1 wr ao m c zs) (x : Int) (hm : m ≤ 100000) : ∃ ao' m' c' w', (Builtin.append_ #[23, 23] 23 #[.slice ao m c, .slice (some ⟨wr.heap.size, 0, none⟩) 1 1]).run Tryz.prog (wr.alloc (.cells #[.int .u8 x] 5)) = .ok (.slice ao' m' c') w' ∧ Bs w0 w1 w' ao' m' c' (zs ++ [.int .u8 x]) := by
  obtain ⟨v', w', hr, ho, hk0, hk1, _⟩ := push_byte h.own (.int .u8 x) rfl h.kept (by omega)
  obtain ⟨a', c', rfl⟩ := ownsRow_shape ho
  exact ⟨a', _, c', w', hr, ho, hk0, h.oth.trans (oth5_of h.own hk1)⟩
theorem Bs.str {w0 w1 wr : World} {ao : Option Addr} {m c : Nat} {zs : List Value} (h : Bs w0 w1 wr ao m c zs) (s : ByteArray) (hm : m + s.size ≤ 100000) : ∃ ao' m' c' w', (Builtin.append_ #[23, 9] 23 #[.slice ao m c, .string s]).run Tryz.prog wr = .ok (.slice ao' m' c') w' ∧ Bs w0 w1 w' ao' m' c' (zs ++ Lib.strCells s) := by
  obtain ⟨v', w', hr, ho, hk0, hk1⟩ := push_str h.own s h.kept (by omega)
  obtain ⟨a', c', rfl⟩ := ownsRow_shape ho
  exact ⟨a', _, c', w', hr, ho, hk0, h.oth.trans (oth5_of h.own hk1)⟩
theorem Bs.gl {w0 w1 wr : World} {ao : Option Addr} {m c : Nat} {zs : List Value} (h : Bs w0 w1 wr ao m c zs) (hG : Gl w0) : Gl wr := hG.same h.kept
abbrev fnY : List Value := [.int .u8 102, .int .u8 117, .int .u8 110, .int .u8 99, .int .u8 32, .int .u8 102, .int .u8 48]
/-- What stands there behind k of the three numbers. -/
def hdY (k : Nat) : List Value := fnY ++ ([Value.int .u8 32, .int .u8 48, .int .u8 32, .int .u8 48, .int .u8 32, .int .u8 49].take (2 * k))
theorem itoa0 : Lib.itoa 0 = [48] := by kernel_rfl
theorem itoa1 : Lib.itoa 1 = [49] := by kernel_rfl
theorem hdY_next0 : hdY 0 ++ (.int .u8 32 :: Lib.byteCells (Lib.itoa 0)) = hdY 1 := by rw [itoa0]; rfl
theorem hdY_next1 : hdY 1 ++ (.int .u8 32 :: Lib.byteCells (Lib.itoa 0)) = hdY 2 := by rw [itoa0]; rfl
theorem hdY_next2 : hdY 2 ++ (.int .u8 32 :: Lib.byteCells (Lib.itoa 1)) = hdY 3 := by rw [itoa1]; rfl
theorem hdY_zero : Lib.strCells ⟨#[102, 117, 110, 99, 32]⟩ ++ (.int .u8 102 :: Lib.byteCells (Lib.itoa 0)) = hdY 0 := by rw [itoa0]; rfl
theorem hdY_len (k : Nat) : (hdY k).length ≤ 13 := by simp [hdY]; omega
def funY : List Value := hdY 3 ++ [.int .u8 10] ++ retY
theorem ix0 (W : World) : (Instr.index 64 (.agg #[.int .i64 0, .int .i64 0, .int .i64 1]) (.int .i64 0)).run Tryz.prog W = .ok (.int .i64 0) W := by kernel_rfl
theorem ix1 (W : World) : (Instr.index 64 (.agg #[.int .i64 0, .int .i64 0, .int .i64 1]) (.int .i64 1)).run Tryz.prog W = .ok (.int .i64 0) W := by kernel_rfl
theorem ix2 (W : World) : (Instr.index 64 (.agg #[.int .i64 0, .int .i64 0, .int .i64 1]) (.int .i64 2)).run Tryz.prog W = .ok (.int .i64 1) W := by kernel_rfl
set_option maxHeartbeats 16000000 in
theorem funcB_one (ao : Option Addr) (n c gc o cc : Nat) (xs : List Value) (w0 w1 w : World) (hG : Gl w0) (h : Bs w0 w1 w ao n c xs) (hn : n ≤ 50000) (hc : w.rangeAt gc o [.int .i64 18, .int .i64 0]) (hct : ∀ w', Lib.OthersKept 5 none w w' → w'.rangeAt gc o [.int .i64 18, .int .i64 0]) :
    Calls Tryz.prog 48 #[.slice ao n c, .int .i64 0, .agg #[.int .i64 0, .int .i64 0, .int .i64 1, .slice (some ⟨gc, o, none⟩) 1 cc], .int .i64 1] w fun e w' => ∃ ao' m' c', e = .returned (.slice ao' m' c') ∧ Bs w0 w1 w' ao' m' c' (xs ++ funY) := by
  have HG := hid_of hG
  have hka : Kept (fun _ => False) w (w.alloc (.cells #[.int .i64 0, .int .i64 0, .int .i64 1, .slice (some ⟨gc, o, none⟩) 1 cc] 78)) := (Kept.refl _ _).alloc _
  have HX := hid_of (heap_alloc_new w (.cells #[.int .i64 0, .int .i64 0, .int .i64 1, .slice (some ⟨gc, o, none⟩) 1 cc] 78))
  have HB : Hid (Bs w0 (w.alloc (.cells #[.int .i64 0, .int .i64 0, .int .i64 1, .slice (some ⟨gc, o, none⟩) 1 cc] 78)) (w.alloc (.cells #[.int .i64 0, .int .i64 0, .int .i64 1, .slice (some ⟨gc, o, none⟩) 1 cc] 78)) ao n c xs) := ⟨(h.same hka).own, (h.same hka).kept, Lib.OthersKept.refl _ _ _⟩
  have HT := hid_of (h.oth.trans (oth5_kept hka))
  have HTW := hid_of (oth5_kept hka)
  have HN := hid_of hn
  have HNL := hid_of h.len
  have HCT := hid_of hct
  clear hka h hG hn hc hct
  go_enter Tryz.func48, Tryz.ntmps48
  go_upto_region 1 with fail
  generalize w.alloc (.cells #[.int .i64 0, .int .i64 0, .int .i64 1, .slice (some ⟨gc, o, none⟩) 1 cc] 78) = wa at *
  generalize w.heap.size = gx at *
  obtain ⟨a2, m2, c2, w2, hr2, hb2⟩ := HB.out.str ⟨#[102, 117, 110, 99, 32]⟩ (by have := HN.out; show n + 5 ≤ 100000; omega)
  have HR2 := hid_of hr2
  have HB2 := hid_of hb2
  have HM2 : Hid (m2 ≤ 60000) := by
    have h1 := hb2.len
    have h2 := HN.out
    have h3 := HNL.out
    rw [List.length_append, Lib.strCells_length] at h1
    have h4 : (⟨#[102, 117, 110, 99, 32]⟩ : ByteArray).size = 5 := rfl
    unfold Hid
    omega
  have HNM := hid_of (nameB_any (.slice a2 m2 c2) m2 _ 102 0 (by decide) (by decide) w0 w2 HG.out.lo (hb2.gl HG.out) hb2.kept hb2.own (by have := HM2.out; omega))
  clear hr2 hb2
  go_wp2_with (at_builtin; refine wp_app2 rfl (.tmp 14) (.const (.string ⟨#[102, 117, 110, 99, 32]⟩)) 23 9 rfl _ _ rfl rfl _ w2 HR2.out ?_)
  refine HNM.out.mono ?_
  intro e w3 hbr
  obtain ⟨a3, m3, c3, rfl, hb3⟩ := HB2.out.more hbr
  rw [List.append_assoc, hdY_zero] at hb3
  have HB3 := hid_of hb3
  clear hbr hb3 HNM HR2 HB2 HB HM2
  obtain ⟨x0, x1, x2, x3, _⟩ := look4 (Oth5.box HB3.out.oth HX.out (by decide))
  go_wp2_with fail
  clear x0 x1 x2 x3
  go_loopw [0, 25] (fun bv iv wr => ∃ (k : Nat) (a : Option Addr) (m c : Nat), k ≤ 3 ∧ iv = .int .i64 (k : Int) ∧ bv = .slice a m c ∧ Hid (Bs w0 wa wr a m c (xs ++ hdY k))) (fun _ iv _ => 3 - (intOf iv).toNat)
  case atStart => exact ⟨0, _, _, _, by omega, rfl, rfl, HB3⟩
  case round =>
    clear HB3
    obtain ⟨k, a, m, c, hk, rfl, rfl, HBk⟩ := hrel
    have HMk : Hid (m ≤ 60000) := by
      have h1 := HBk.out.len
      have h2 := HN.out
      have h3 := HNL.out
      have h4 := hdY_len k
      rw [List.length_append] at h1
      unfold Hid
      omega
    rcases (show k = 0 ∨ k = 1 ∨ k = 2 ∨ k = 3 by omega) with rfl | rfl | rfl | rfl
    · have HNU := hid_of (numB_any (.slice a m c) m _ 0 (by decide) (by decide) w0 wr HG.out.lo (HBk.out.gl HG.out) HBk.out.kept HBk.out.own (by have := HMk.out; omega))
      have hix := ix0 wr
      go_wp2_with fail
      clear hix
      refine HNU.out.mono ?_
      intro e w4 hbr
      obtain ⟨a4, m4, c4, rfl, hb4⟩ := HBk.out.more hbr
      rw [List.append_assoc, hdY_next0] at hb4
      have HB4 := hid_of hb4
      clear hbr hb4 HNU HBk HMk
      go_wp2
      go_roundw
      case rel => exact ⟨1, _, _, _, by omega, by go_num, rfl, HB4⟩
      case measure => simp [intOf]
    · have HNU := hid_of (numB_any (.slice a m c) m _ 0 (by decide) (by decide) w0 wr HG.out.lo (HBk.out.gl HG.out) HBk.out.kept HBk.out.own (by have := HMk.out; omega))
      have hix := ix1 wr
      go_wp2_with fail
      clear hix
      refine HNU.out.mono ?_
      intro e w4 hbr
      obtain ⟨a4, m4, c4, rfl, hb4⟩ := HBk.out.more hbr
      rw [List.append_assoc, hdY_next1] at hb4
      have HB4 := hid_of hb4
      clear hbr hb4 HNU HBk HMk
      go_wp2
      go_roundw
      case rel => exact ⟨2, _, _, _, by omega, by go_num, rfl, HB4⟩
      case measure => simp [intOf]
    · have HNU := hid_of (numB_any (.slice a m c) m _ 1 (by decide) (by decide) w0 wr HG.out.lo (HBk.out.gl HG.out) HBk.out.kept HBk.out.own (by have := HMk.out; omega))
      have hix := ix2 wr
      go_wp2_with fail
      clear hix
      refine HNU.out.mono ?_
      intro e w4 hbr
      obtain ⟨a4, m4, c4, rfl, hb4⟩ := HBk.out.more hbr
      rw [List.append_assoc, hdY_next2] at hb4
      have HB4 := hid_of hb4
      clear hbr hb4 HNU HBk HMk
      go_wp2
      go_roundw
      case rel => exact ⟨3, _, _, _, by omega, by go_num, rfl, HB4⟩
      case measure => simp [intOf]
    · obtain ⟨a5, m5, c5, w5, hr5, hb5⟩ := HBk.out.byte 10 (by have := HMk.out; omega)
      have HR5 := hid_of hr5
      have HB5 := hid_of hb5
      obtain ⟨x0, x1, x2, x3, _⟩ := look4 (Oth5.box hb5.oth HX.out (by decide))
      have HAI := hid_of (aims_ret gc o cc w5 (HCT.out w5 (HTW.out.trans hb5.oth)))
      clear hr5 hb5 HBk
      go_wp2_with (at_builtin; refine wp_app2 rfl (.tmp 32) (.tmp 33) 23 23 rfl _ _ rfl rfl _ w5 HR5.out ?_)
      refine HAI.out.mono ?_
      rintro e w6 ⟨ga, rfl, hga, hgl, hk6⟩
      have HB6 := hid_of (HB5.out.same hk6)
      have HGA := hid_of hga
      clear hga hgl hk6 HAI HR5 HB5 x0 x1 x2 x3
      obtain ⟨x0, x1, x2, x3, _⟩ := look4 (Oth5.box HB6.out.oth HX.out (by decide))
      have HM6 : Hid (m5 ≤ 60000) := by
        have h1 := HB6.out.len
        have h2 := HN.out
        have h3 := HNL.out
        have h4 := hdY_len 3
        rw [List.length_append, List.length_append] at h1
        unfold Hid
        simp at h1
        omega
      go_wp2_with fail
      clear x0 x1 x2 x3
      go_loopw [0, 41] (fun bv iv wr => ((iv = .int .i64 0 ∧ ∃ (a : Option Addr) (m c : Nat), bv = .slice a m c ∧ Hid (m ≤ 60000) ∧ Hid (Bs w0 wa wr a m c (xs ++ hdY 3 ++ [.int .u8 10]))) ∨ (iv = .int .i64 1 ∧ ∃ (a : Option Addr) (m c : Nat), bv = .slice a m c ∧ Hid (Bs w0 wa wr a m c (xs ++ funY)))) ∧ Hid (wr.heap[ga]? = some (.cells #[.bool false, .bool false] 4 (0, 0)))) (fun _ iv _ => 1 - (intOf iv).toNat)
      case atStart => exact ⟨.inl ⟨rfl, _, _, _, rfl, HM6, HB6⟩, HGA⟩
      case round =>
        clear HB6 HGA HM6
        obtain ⟨hcase, HGA⟩ := hrel
        rcases hcase with ⟨rfl, a, m, c, rfl, HM, HB⟩ | ⟨rfl, a, m, c, rfl, HB⟩
        · have hcr := HCT.out wr (HTW.out.trans HB.out.oth)
          have r0 : wr.cell? ⟨gc, o, none⟩ = some (.int .i64 18) := hcr 0 _ rfl
          have r1 : wr.cell? ⟨gc, o + 1, none⟩ = some (.int .i64 0) := hcr 1 _ rfl
          have hkb : Kept (fun _ => False) wr (wr.alloc (.cells #[.int .i64 18, .int .i64 0] 75)) := (Kept.refl _ _).alloc _
          have HY := hid_of (heap_alloc_new wr (.cells #[.int .i64 18, .int .i64 0] 75))
          have HB7 := hid_of (HB.out.same hkb)
          have HGA7 := hid_of (box_kept hkb HGA.out (fun f => f))
          clear hkb hcr
          go_upto_region 12 with fail
          clear r0 r1
          generalize wr.alloc (.cells #[.int .i64 18, .int .i64 0] 75) = w7 at *
          generalize wr.heap.size = gy at *
          have HLB := hid_of (labelB_none (.slice a m c) ga 2 2 0 w7 (cell_block _ _ 0 _ _ _ HGA7.out) (by decide))
          go_wp2_with fail
          refine HLB.out.mono ?_
          rintro e w8 ⟨rfl, hw⟩
          have hw := hw.symm
          subst hw
          clear HLB
          obtain ⟨y0, y1, _⟩ := look2 HY.out
          obtain ⟨x0, x1, x2, x3, _⟩ := look4 (Oth5.box HB7.out.oth HX.out (by decide))
          have HIN := hid_of (instrB_ret (.slice a m c) m _ 0 1 1 w0 w7 HB7.out.kept HB7.out.own (by have := HM.out; omega))
          go_wp2_with fail
          refine HIN.out.mono ?_
          intro e w8 hbr
          have HGA8 : Hid (w8.heap[ga]? = some (.cells #[.bool false, .bool false] 4 (0, 0))) := by
            obtain ⟨_, _, _, _, _, hot⟩ := hbr
            exact Oth5.box hot HGA7.out (by decide)
          obtain ⟨a8, m8, c8, rfl, hb8⟩ := HB7.out.more hbr
          rw [List.append_assoc, List.append_assoc] at hb8
          have HB8 : Hid (Bs w0 wa w8 a8 m8 c8 (xs ++ funY)) := by
            unfold funY
            rw [List.append_assoc]
            exact hb8
          clear hbr hb8 HIN HB7 HGA7 HY y0 y1 x0 x1 x2 x3
          go_wp2
          go_roundw
          case rel => exact ⟨.inr ⟨by go_num, _, _, _, rfl, HB8⟩, HGA8⟩
          case measure => simp [intOf]
        · have HLB := hid_of (labelB_none (.slice a m c) ga 2 2 1 wr (cell_block _ _ 1 _ _ _ HGA.out) (by decide))
          obtain ⟨x0, x1, x2, x3, _⟩ := look4 (Oth5.box HB.out.oth HX.out (by decide))
          go_wp2_with fail
          refine HLB.out.mono ?_
          rintro e w8 ⟨rfl, hw⟩
          have hw := hw.symm
          subst hw
          clear HLB
          go_wp2
          go_ret
          exact ⟨_, _, _, rfl, HB.out.own, HB.out.kept, HT.out.trans HB.out.oth⟩
end Go.Proofs.YtgoabnehdmdikaaGreatDoor

namespace Go.Proofs.YtgoabnehdmdikaaGreatDoor
open Go.RowKit
set_option linter.unusedVariables false
set_option linter.unusedSimpArgs false
set_option maxRecDepth 100000

abbrev memY : List Value := [.int .u8 109, .int .u8 101, .int .u8 109, .int .u8 111, .int .u8 114, .int .u8 121]
def allY : List Value := memY ++ [.int .u8 32, .int .u8 48] ++ [.int .u8 10] ++ funY
abbrev memC : Array Value := #[.int .u8 109, .int .u8 101, .int .u8 109, .int .u8 111, .int .u8 114, .int .u8 121]
theorem own_new (w0 W : World) (hk : Kept (fun _ => False) w0 W) : (W.alloc (.cells memC 5)).ownsRow w0.heap.size 5 1 (.slice (some ⟨W.heap.size, 0, none⟩) 6 6) 6 memY :=
  ⟨rfl, .inr ⟨W.heap.size, 6, _, rfl, hk.size, heap_alloc_new W _, Nat.le_refl _, by decide, rfl, rfl⟩⟩
theorem own_at_block {w w' : World} {B e s n : Nat} {v : Value} {xs : List Value} (h : w.ownsRow B e s v n xs) (hb : ∀ g, v.ownBlock = some g → w'.heap[g]? = w.heap[g]?) : w'.ownsRow B e s v n xs := by
  refine ⟨h.1, ?_⟩
  rcases h.2 with hh | ⟨g, cap, cur, rfl, hbg, hgg, rest⟩
  · exact .inl hh
  · exact .inr ⟨g, cap, cur, rfl, hbg, (hb g rfl).trans hgg, rest⟩
/-- The first byte behind a constant's row (it is full): a new row. -/
theorem push_first (w0 wa : World) (hk : Kept (fun _ => False) w0 wa) (x : Int) :
    ∃ ao' m' c' w', (Builtin.append_ #[23, 23] 23 #[.slice (some ⟨wa.heap.size, 0, none⟩) 6 6, .slice (some ⟨wa.heap.size + 1, 0, none⟩) 1 1]).run Tryz.prog ((wa.alloc (.cells memC 5 (6, 7))).alloc (.cells #[.int .u8 x] 5)) = .ok (.slice ao' m' c') w' ∧ w'.ownsRow w0.heap.size 5 1 (.slice ao' m' c') m' (memY ++ [.int .u8 x]) ∧ Kept (fun _ => False) wa w' := by
  obtain ⟨i0, hi, hz0, hz1, hz2⟩ := info_parts Tryz.info5
  have hsu : (wa.alloc (.cells memC 5)).heap.size = wa.heap.size + 1 := by simp
  obtain ⟨v', wu, hr, ho, hk0, hk1, hn⟩ := push_byte (own_new w0 wa hk) (.int .u8 x) rfl (hk.trans ((Kept.refl _ _).alloc _)) (by omega)
  rw [hsu] at hr
  have hg := fun (W : World) (h1 : ∀ j v, memY[j]? = some v → W.cell? ((⟨wa.heap.size, 0, none⟩ : Addr).add j) = some v) (h2 : ∀ j v, [Value.int .u8 x][j]? = some v → W.cell? ((⟨wa.heap.size + 1, 0, none⟩ : Addr).add j) = some v) =>
    run_append_grow (P := Tryz.prog) W 23 23 5 i0 (.int .u8 0) Tryz.underlying23 hi hz0 ⟨wa.heap.size, 0, none⟩ 6 6 memY (by rw [hz1]; rfl) h1 ⟨wa.heap.size + 1, 0, none⟩ 1 1 [.int .u8 x] (by rw [hz1]; rfl) h2 (by omega) (by decide) (growslice_fits (by decide) (by rw [hz2]; decide))
  have cells : ∀ f : Nat × Nat, (∀ j v, memY[j]? = some v → ((wa.alloc (.cells memC 5 f)).alloc (.cells #[.int .u8 x] 5)).cell? ((⟨wa.heap.size, 0, none⟩ : Addr).add j) = some v) ∧ (∀ j v, [Value.int .u8 x][j]? = some v → ((wa.alloc (.cells memC 5 f)).alloc (.cells #[.int .u8 x] 5)).cell? ((⟨wa.heap.size + 1, 0, none⟩ : Addr).add j) = some v) := fun f => by
    have hsz : (wa.alloc (.cells memC 5 f)).heap.size = wa.heap.size + 1 := by simp
    have ha : ((wa.alloc (.cells memC 5 f)).alloc (.cells #[.int .u8 x] 5)).heap[wa.heap.size]? = some (.cells memC 5 f) := by
      rw [heap_alloc_old _ _ (by simp)]
      exact heap_alloc_new wa _
    have hb : ((wa.alloc (.cells memC 5 f)).alloc (.cells #[.int .u8 x] 5)).heap[wa.heap.size + 1]? = some (.cells #[.int .u8 x] 5) := hsz ▸ heap_alloc_new _ _
    refine ⟨fun j v hj => ?_, fun j v hj => ?_⟩
    · rw [Addr.add_lit, Nat.zero_add, cell_block _ _ _ _ _ _ ha]
      simpa using hj
    · rw [Addr.add_lit, Nat.zero_add, cell_block _ _ _ _ _ _ hb]
      simpa using hj
  have hu := hg _ (cells (0, 0)).1 (cells (0, 0)).2
  have hm := hg _ (cells (6, 7)).1 (cells (6, 7)).2
  rw [hu] at hr
  injection hr with e1 e2
  subst e1 e2
  have ec : grownCap ((wa.alloc (.cells memC 5 (6, 7))).alloc (.cells #[.int .u8 x] 5)) (6 + 1) 6 5 = grownCap ((wa.alloc (.cells memC 5)).alloc (.cells #[.int .u8 x] 5)) (6 + 1) 6 5 := rfl
  have es1 : ((wa.alloc (.cells memC 5)).alloc (.cells #[.int .u8 x] 5)).heap.size = wa.heap.size + 2 := by simp
  have es2 : ((wa.alloc (.cells memC 5 (6, 7))).alloc (.cells #[.int .u8 x] 5)).heap.size = wa.heap.size + 2 := by simp
  refine ⟨_, _, _, _, hm, ?_, (((Kept.refl (fun _ => False) wa).alloc _).alloc _).drew.alloc _⟩
  rw [ec, es2]
  rw [es1] at ho
  refine own_at_block ho (fun g hg' => ?_)
  have eg : g = wa.heap.size + 2 := by simpa [Value.ownBlock] using hg'.symm
  subst eg
  have n1 := heap_alloc_new ((wa.alloc (.cells memC 5 (6, 7))).alloc (.cells #[.int .u8 x] 5)).drew (.cells (memY.toArray ++ [Value.int .u8 x].toArray ++ Builtin.zeroCells (Value.int .u8 0).cells (grownCap ((wa.alloc (.cells memC 5)).alloc (.cells #[.int .u8 x] 5)) (6 + 1) 6 5 - (6 + 1))) 5)
  have n2 := heap_alloc_new ((wa.alloc (.cells memC 5)).alloc (.cells #[.int .u8 x] 5)).drew (.cells (memY.toArray ++ [Value.int .u8 x].toArray ++ Builtin.zeroCells (Value.int .u8 0).cells (grownCap ((wa.alloc (.cells memC 5)).alloc (.cells #[.int .u8 x] 5)) (6 + 1) 6 5 - (6 + 1))) 5)
  rw [show ((wa.alloc (.cells memC 5 (6, 7))).alloc (.cells #[.int .u8 x] 5)).drew.heap.size = wa.heap.size + 2 from es2] at n1
  rw [show ((wa.alloc (.cells memC 5)).alloc (.cells #[.int .u8 x] 5)).drew.heap.size = wa.heap.size + 2 from es1] at n2
  exact n1.trans n2.symm
set_option maxHeartbeats 4000000 in
theorem num_first (w0 wa : World) (hG0 : 8 ≤ w0.heap.size) (hG : Gl wa) (hk : Kept (fun _ => False) w0 wa) :
    Calls Tryz.prog 46 #[.slice (some ⟨wa.heap.size, 0, none⟩) 6 6, .int .i64 0] (wa.alloc (.cells memC 5 (6, 7))) fun e w' => ∃ ao m c, e = .returned (.slice ao m c) ∧ Bs w0 wa w' ao m c (memY ++ [.int .u8 32, .int .u8 48]) := by
  obtain ⟨a1, m1, c1, w2, hr, ho2, hk2⟩ := push_first w0 wa hk 32
  have hm1 : m1 = 7 := by have := ho2.1; have e : (memY ++ [Value.int .u8 32]).length = 7 := rfl; omega
  have HA := hid_of (Tryz.strconv_AppendInt_10 w0.heap.size m1 0 (by decide) (by decide) _ _ w2 ho2 (hk.trans hk2).size (by omega) ((hG.same hk2).tab5 hG0))
  have HK2 := hid_of (hk.trans hk2)
  have HT2 := hid_of (oth5_kept hk2)
  have HR := hid_of hr
  have HO := hid_of hm1
  clear hr ho2 hk2 hk hG hG0 hm1
  go_enter Tryz.func46, Tryz.ntmps46
  go_wp2_with (at_builtin; refine wp_app2 rfl (.tmp 5) (.tmp 6) 23 23 rfl _ _ rfl rfl _ w2 HR.out ?_)
  refine HA.out.mono ?_
  rintro e w3 ⟨v3, rfl, ho3, hb3, hot3⟩
  rw [itoa0, List.append_assoc] at ho3
  obtain ⟨a3, c3, hv3⟩ := ownsRow_shape ho3
  obtain ⟨m3, hm3⟩ : ∃ m, m = m1 + [(48 : UInt8)].length := ⟨_, rfl⟩
  rw [← hm3] at hv3 ho3
  subst hv3
  have HB : Hid (Bs w0 wa w3 a3 m3 c3 (memY ++ [.int .u8 32, .int .u8 48])) := ⟨ho3, bel_kept HK2.out hb3, HT2.out.trans hot3⟩
  clear ho3 hb3 hot3 hm3 HA HR
  go_wp2
  go_ret
  exact ⟨_, _, _, rfl, HB.out⟩
theorem range_own {w : World} {B e s g n c m : Nat} {xs : List Value} (h : w.ownsRow B e s (.slice (some ⟨g, 0, none⟩) n c) m xs) : w.rangeAt g 0 xs := fun j v hv => by
  have := h.cells (g := g) rfl j v hv
  rw [Addr.add_lit, Nat.zero_add] at this
  rw [Nat.zero_add]
  exact this
set_option maxHeartbeats 16000000 in
theorem written_one (fv : Value) (B : Nat) (w : World) (hG : Gl w) (hP : Pg1 w B fv) :
    Calls Tryz.prog 29 #[.agg #[.int .i64 0, .slice none 0 0, fv]] w fun e w' => ∃ ao m c, e = .returned (.slice ao m c) ∧ w'.ownsRow w.heap.size 5 1 (.slice ao m c) m allY ∧ Kept (fun _ => False) w w' := by
  obtain ⟨cv, hf, hc⟩ := hP
  obtain ⟨gf, cf, rfl⟩ := own_at hf (by decide)
  obtain ⟨gc, cc, rfl⟩ := own_at hc (by decide)
  have HG := hid_of hG
  have hka : Kept (fun _ => False) w (w.alloc (.cells #[.int .i64 0, .slice none 0 0, .slice (some ⟨gf, 0, none⟩) 1 cf] 26)) := (Kept.refl _ _).alloc _
  have HX := hid_of (heap_alloc_new w (.cells #[.int .i64 0, .slice none 0 0, .slice (some ⟨gf, 0, none⟩) 1 cf] 26))
  have HF := hid_of (hka.ownsRow hf (fun _ _ f => f))
  have HC := hid_of (hka.ownsRow hc (fun _ _ f => f))
  have HK := hid_of hka
  clear hf hc hG hka
  go_enter Tryz.func29, Tryz.ntmps29
  go_upto_region 1 with fail
  generalize w.alloc (.cells #[.int .i64 0, .slice none 0 0, .slice (some ⟨gf, 0, none⟩) 1 cf] 26) = wa at *
  obtain ⟨gx, hgx⟩ : ∃ g, g = w.heap.size := ⟨_, rfl⟩
  rw [← hgx] at HX ⊢
  have HGX := hid_of hgx
  clear hgx
  have hkb : Kept (fun _ => False) wa (wa.alloc (.cells memC 5)) := (Kept.refl _ _).alloc _
  have hkm : Kept (fun _ => False) wa (wa.alloc (.cells memC 5 (6, 7))) := (Kept.refl _ _).alloc _
  obtain ⟨x0, x1, x2, _⟩ := look3 (box_kept hkm HX.out (fun f => f))
  have hcv := Lib.run_convert_bytes_const (P := Tryz.prog) wa 23 5 memC 6 6 Tryz.underlying23 Tryz.underlying5
  rw [show memC.size = 6 from rfl] at hcv
  have HNU := hid_of (num_first w wa HG.out.lo (HG.out.same HK.out) HK.out)
  clear hkb hkm
  go_wp2_with fail
  refine HNU.out.mono ?_
  rintro e w2 ⟨a2, m2, c2, rfl, hb2⟩
  have HB2 := hid_of hb2
  have HM2 : Hid (m2 = 8) := hb2.len
  clear hb2 HNU hcv x0 x1 x2
  obtain ⟨a3, m3, c3, w3, hr3, hb3⟩ := HB2.out.byte 10 (by have := HM2.out; omega)
  have HR3 := hid_of hr3
  have HB3 := hid_of hb3
  have HM3 : Hid (m3 = 9) := hb3.len
  obtain ⟨x0, x1, x2, _⟩ := look3 (Oth5.box hb3.oth HX.out (by decide))
  clear hr3 hb3 HM2
  go_wp2_with (at_builtin; refine wp_app2 rfl (.tmp 11) (.tmp 12) 23 23 rfl _ _ rfl rfl _ w3 HR3.out ?_)
  clear x0 x1 x2 HR3 HB2
  go_loopw [3, 30] (fun bv iv wr => ((iv = .int .i64 0 ∧ ∃ (a : Option Addr) (m c : Nat), bv = .slice a m c ∧ Hid (m = 9) ∧ Hid (Bs w wa wr a m c (memY ++ [.int .u8 32, .int .u8 48] ++ [.int .u8 10]))) ∨ (iv = .int .i64 1 ∧ ∃ (a : Option Addr) (m c : Nat), bv = .slice a m c ∧ Hid (Bs w wa wr a m c allY)))) (fun _ iv _ => 1 - (intOf iv).toNat)
  case atStart => exact .inl ⟨rfl, _, _, _, rfl, HM3, HB3⟩
  case round =>
    clear HB3 HM3
    rcases hrel with ⟨rfl, a, m, c, rfl, HM, HB⟩ | ⟨rfl, a, m, c, rfl, HB⟩
    · have hf4 := Oth5.row HB.out.oth HF.out (by decide)
      have hrg := range_own hf4
      have r0 : wr.cell? ⟨gf, 0, none⟩ = some (.int .i64 0) := hrg 0 _ rfl
      have r1 : wr.cell? ⟨gf, 1, none⟩ = some (.int .i64 0) := hrg 1 _ rfl
      have r2 : wr.cell? ⟨gf, 2, none⟩ = some (.int .i64 1) := hrg 2 _ rfl
      have r3 : wr.cell? ⟨gf, 3, none⟩ = some (.slice (some ⟨gc, 0, none⟩) 1 cc) := hrg 3 _ rfl
      have hkc : Kept (fun _ => False) wr (wr.alloc (.cells #[.int .i64 0, .int .i64 0, .int .i64 1, .slice (some ⟨gc, 0, none⟩) 1 cc] 78)) := (Kept.refl _ _).alloc _
      have HY := hid_of (heap_alloc_new wr (.cells #[.int .i64 0, .int .i64 0, .int .i64 1, .slice (some ⟨gc, 0, none⟩) 1 cc] 78))
      have HB5 := hid_of (HB.out.same hkc)
      clear hf4 hrg hkc
      go_upto_region 10 with fail
      clear r0 r1 r2 r3
      generalize wr.alloc (.cells #[.int .i64 0, .int .i64 0, .int .i64 1, .slice (some ⟨gc, 0, none⟩) 1 cc] 78) = w5 at *
      generalize wr.heap.size = gy at *
      obtain ⟨y0, y1, y2, y3, _⟩ := look4 HY.out
      obtain ⟨x0, x1, x2, _⟩ := look3 (Oth5.box HB5.out.oth HX.out (by decide))
      have HCT : Hid (∀ w', Lib.OthersKept 5 none w5 w' → w'.rangeAt gc 0 [.int .i64 18, .int .i64 0]) := fun w' hw => range_own (Oth5.row (HB5.out.oth.trans hw) HC.out (by decide))
      have HFU := hid_of (funcB_one a m c gc 0 cc _ w wa w5 HG.out HB5.out (by have := HM.out; omega) (HCT.out w5 (Lib.OthersKept.refl _ _ _)) HCT.out)
      go_wp2_with fail
      refine HFU.out.mono ?_
      rintro e w6 ⟨a6, m6, c6, rfl, hb6⟩
      have HB6 : Hid (Bs w wa w6 a6 m6 c6 allY) := hb6
      clear hb6 HFU HCT HB5 HY x0 x1 x2 y0 y1 y2 y3
      go_wp2
      go_roundw
      case rel => exact .inr ⟨by go_num, _, _, _, rfl, HB6⟩
      case measure => simp [intOf]
    · go_wp2
      go_ret
      exact ⟨_, _, _, rfl, HB.out.own, HB.out.kept⟩
set_option maxHeartbeats 8000000 in
theorem print_one (fa : Option Addr) (fc B : Nat) (w : World) (hG : Gl w) (hP : Pg1 w B (.slice fa 1 fc)) :
    Calls Tryz.prog 14 #[.agg #[.int .i64 0, .slice none 0 0, .slice fa 1 fc]] w fun e w' => e = .returned (.tuple #[.string ⟨#[109, 101, 109, 111, 114, 121, 32, 48, 10, 102, 117, 110, 99, 32, 102, 48, 32, 48, 32, 48, 32, 49, 10, 9, 114, 101, 116, 10]⟩, .int .i64 0]) ∧ Kept (fun _ => False) w w' := by
  have hka : Kept (fun _ => False) w (w.alloc (.cells #[.int .i64 0, .slice none 0 0, .slice fa 1 fc] 26)) := (Kept.refl _ _).alloc _
  have HX := hid_of (heap_alloc_new w (.cells #[.int .i64 0, .slice none 0 0, .slice fa 1 fc] 26))
  have HP := hid_of (hP.same hka)
  have HG := hid_of (hG.same hka)
  have HK := hid_of hka
  clear hP hG hka
  go_enter Tryz.func14, Tryz.ntmps14
  go_upto_region 1 with fail
  generalize w.alloc (.cells #[.int .i64 0, .slice none 0 0, .slice fa 1 fc] 26) = wa at *
  generalize w.heap.size = gx at *
  obtain ⟨x0, x1, x2, _⟩ := look3 HX.out
  have HCK := hid_of (check_p _ p1 wa _ HP.out.pg (Nat.le_refl _) p1_ok)
  rw [p1_check] at HCK
  go_wp2_with fail
  refine HCK.out.mono ?_
  rintro e w2 ⟨rfl, hk2⟩
  have HX2 := hid_of (box_kept hk2 HX.out (fun f => f))
  have HW := hid_of (written_one (.slice fa 1 fc) B w2 (HG.out.same hk2) (HP.out.same hk2))
  have HK2 := hid_of (HK.out.trans hk2)
  clear hk2 HCK HX HG HP HK x0 x1 x2
  obtain ⟨x0, x1, x2, _⟩ := look3 HX2.out
  go_wp2_with fail
  refine HW.out.mono ?_
  rintro e w3 ⟨a, m, c, rfl, ho, hk3⟩
  have HK3 := hid_of (HK2.out.trans hk3)
  have hm : m = 28 := by have := ho.1; have e : allY.length = 28 := rfl; omega
  subst hm
  have hcv := conv_str w3 (.slice a 28 c) [109, 101, 109, 111, 114, 121, 32, 48, 10, 102, 117, 110, 99, 32, 102, 48, 32, 48, 32, 48, 32, 49, 10, 9, 114, 101, 116, 10] (isB_own ho)
  rw [show str [109, 101, 109, 111, 114, 121, 32, 48, 10, 102, 117, 110, 99, 32, 102, 48, 32, 48, 32, 48, 32, 49, 10, 9, 114, 101, 116, 10] = ⟨#[109, 101, 109, 111, 114, 121, 32, 48, 10, 102, 117, 110, 99, 32, 102, 48, 32, 48, 32, 48, 32, 49, 10, 9, 114, 101, 116, 10]⟩ by rfl] at hcv
  clear hk3 ho HW HX2 HK2 x0 x1 x2
  go_wp2
  refine bodyPost_ret (results_tmp2 rfl _ _ _) rfl ?_
  exact ⟨rfl, HK3.out⟩
end Go.Proofs.YtgoabnehdmdikaaGreatDoor
