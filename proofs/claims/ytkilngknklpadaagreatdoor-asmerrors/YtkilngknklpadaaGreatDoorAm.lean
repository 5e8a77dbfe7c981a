/-
  Bytes that are put behind: numbers, names.
-/
import Derived.Test.YtkilngknklpadaaGreatDoorAl
import Derived.Lib.OthersKept
namespace Go.Proofs.YtkilngknklpadaaGreatDoor
open Go.RowKit
set_option linter.unusedVariables false
set_option linter.unusedSimpArgs false
set_option maxRecDepth 100000

theorem oth5_of {w w' : World} {B n : Nat} {v : Value} {xs : List Value} (h : w.ownsRow B 5 1 v n xs) (hk : Kept (fun q => v.ownBlock = some q) w w') : Lib.OthersKept 5 none w w' := fun k o hk' _ hn => box_kept hk hk' (fun e => by
  rcases h.2 with ⟨rfl, _⟩ | ⟨g, cap, cur, rfl, _, hgg, _⟩
  · cases e
  · obtain rfl : g = k := by simpa [Value.ownBlock] using e
    rw [hgg] at hk'
    cases hk'
    exact hn _ _ rfl)
theorem oth5_kept {w w' : World} (hk : Kept (fun _ => False) w w') : Lib.OthersKept 5 none w w' := fun k o hk' _ _ => box_kept hk hk' (fun f => f)
theorem Oth5.box {w w' : World} {g t : Nat} {cs : Array Value} {f : Nat × Nat} (h : Lib.OthersKept 5 none w w') (hb : w.heap[g]? = some (.cells cs t f)) (ht : t ≠ 5) : w'.heap[g]? = some (.cells cs t f) := h g _ hb (by simp) (fun c fz e => by cases e; exact ht rfl)
theorem Oth5.row {w w' : World} {B e s n : Nat} {v : Value} {xs : List Value} (h : Lib.OthersKept 5 none w w') (hr : w.ownsRow B e s v n xs) (ht : e ≠ 5) : w'.ownsRow B e s v n xs := by
  refine ⟨hr.1, ?_⟩
  rcases hr.2 with hh | ⟨g, cap, cur, rfl, hb, hgg, rest⟩
  · exact .inl hh
  · exact .inr ⟨g, cap, cur, rfl, hb, Oth5.box h hgg ht, rest⟩
/-- What is left when bytes ys were put behind a row of one's own. -/
def BR (w0 w : World) (n : Nat) (xs ys : List Value) (e : Ending) (w' : World) : Prop := ∃ ao c, e = .returned (.slice ao (n + ys.length) c) ∧ w'.ownsRow w0.heap.size 5 1 (.slice ao (n + ys.length) c) (n + ys.length) (xs ++ ys) ∧ Kept (fun _ => False) w0 w' ∧ Lib.OthersKept 5 none w w'
theorem Gl.tab5 {w : World} (h : Gl w) {B : Nat} (hB : 13 ≤ B) : Lib.TabBelow Tryz.prog B w "internal/strconv.uint64pow10" .u64 Lib.pow10Tab := fun w' hb => by
  unfold Lib.TabIs
  rw [var_block pow_named (hb.block 0 (by omega))]
  exact h.tab
theorem bel_kept {w0 w w' : World} (h : Kept (fun _ => False) w0 w) (hb : Below w0.heap.size w w') : Kept (fun _ => False) w0 w' := h.step (kept_of_below hb) (fun i hi e => by omega)
theorem kept_of_below' {B : Nat} {w w' : World} (h : Below B w w') : Kept (fun k => B ≤ k) w w' := ⟨h.os, h.tape, h.output, h.size, fun k _ hn => h.block k (by omega)⟩
set_option maxHeartbeats 4000000 in
theorem nameB_any (sv : Value) (n : Nat) (xs : List Value) (l : Int) (i : Int) (h0 : -9223372036854775808 ≤ i) (h1 : i ≤ 9223372036854775807) (w0 w : World) (hG0 : 13 ≤ w0.heap.size) (hG : Gl w) (hk : Kept (fun _ => False) w0 w) (ho : w.ownsRow w0.heap.size 5 1 sv n xs) (hn : n ≤ 100000) :
    Calls Tryz.prog 41 #[sv, .int .u8 l, .int .i64 i] w (BR w0 w n xs (.int .u8 l :: Lib.byteCells (Lib.itoa i))) := by
  obtain ⟨v', w2, hr, ho2, hk0, hk1, hn2⟩ := push_byte ho (.int .u8 l) rfl hk (by omega)
  have HO := hid_of (oth5_of ho hk1)
  have HA := hid_of (Tryz.strconv_AppendInt_10 w0.heap.size (n + 1) i h0 h1 v' _ w2 ho2 hk0.size (by omega) ((hG.kept hk1 (fun q hq e => by have := (ho.lt q e).1; omega)).tab5 hG0))
  have HK0 := hid_of hk0
  obtain ⟨a1, c1, hv1⟩ := ownsRow_shape ho
  obtain ⟨a2, c2, hv2⟩ := ownsRow_shape ho2
  obtain ⟨n2, hn2'⟩ : ∃ m, m = n + 1 := ⟨_, rfl⟩
  rw [← hn2'] at hv2
  subst hv1 hv2
  have HN2 := hid_of hn2'
  have HR := hid_of hr
  clear hr ho2 hk0 hk1 hn2 ho hk hG hG0 h0 h1 hn hn2'
  go_enter Tryz.func41, Tryz.ntmps41
  go_wp2_with (at_builtin; refine wp_app2 rfl (.tmp 7) (.tmp 9) 34 34 rfl _ _ rfl rfl _ w2 HR.out ?_)
  refine HA.out.mono ?_
  rintro e w3 ⟨v3, rfl, ho3, hb3, hot3⟩
  have hlen : n + 1 + (Lib.itoa i).length = n + (Value.int .u8 l :: Lib.byteCells (Lib.itoa i)).length := by rw [List.length_cons, Lib.byteCells_length]; omega
  rw [hlen, List.append_assoc] at ho3
  obtain ⟨a3, c3, hv3⟩ := ownsRow_shape ho3
  have HBR : Hid (BR w0 w n xs (.int .u8 l :: Lib.byteCells (Lib.itoa i)) (.returned v3) w3) := ⟨a3, c3, by rw [hv3], by rw [← hv3]; exact ho3, bel_kept HK0.out hb3, HO.out.trans hot3⟩
  obtain ⟨n3, hn3⟩ : ∃ m, m = n + (Value.int .u8 l :: Lib.byteCells (Lib.itoa i)).length := ⟨_, rfl⟩
  rw [← hn3] at hv3
  subst hv3
  clear ho3 hb3 hot3 hlen hn3 HA HR
  go_wp2
  go_ret
  exact HBR.out
set_option maxHeartbeats 4000000 in
theorem numB_any (sv : Value) (n : Nat) (xs : List Value) (i : Int) (h0 : -9223372036854775808 ≤ i) (h1 : i ≤ 9223372036854775807) (w0 w : World) (hG0 : 13 ≤ w0.heap.size) (hG : Gl w) (hk : Kept (fun _ => False) w0 w) (ho : w.ownsRow w0.heap.size 5 1 sv n xs) (hn : n ≤ 100000) :
    Calls Tryz.prog 26 #[sv, .int .i64 i] w (BR w0 w n xs (.int .u8 32 :: Lib.byteCells (Lib.itoa i))) := by
  obtain ⟨v', w2, hr, ho2, hk0, hk1, hn2⟩ := push_byte ho (.int .u8 32) rfl hk (by omega)
  have HO := hid_of (oth5_of ho hk1)
  have HA := hid_of (Tryz.strconv_AppendInt_10 w0.heap.size (n + 1) i h0 h1 v' _ w2 ho2 hk0.size (by omega) ((hG.kept hk1 (fun q hq e => by have := (ho.lt q e).1; omega)).tab5 hG0))
  have HK0 := hid_of hk0
  obtain ⟨a1, c1, hv1⟩ := ownsRow_shape ho
  obtain ⟨a2, c2, hv2⟩ := ownsRow_shape ho2
  obtain ⟨n2, hn2'⟩ : ∃ m, m = n + 1 := ⟨_, rfl⟩
  rw [← hn2'] at hv2
  subst hv1 hv2
  have HN2 := hid_of hn2'
  have HR := hid_of hr
  clear hr ho2 hk0 hk1 hn2 ho hk hG hG0 h0 h1 hn hn2'
  go_enter Tryz.func26, Tryz.ntmps26
  go_wp2_with (at_builtin; refine wp_app2 rfl (.tmp 5) (.tmp 6) 34 34 rfl _ _ rfl rfl _ w2 HR.out ?_)
  refine HA.out.mono ?_
  rintro e w3 ⟨v3, rfl, ho3, hb3, hot3⟩
  have hlen : n + 1 + (Lib.itoa i).length = n + (Value.int .u8 32 :: Lib.byteCells (Lib.itoa i)).length := by rw [List.length_cons, Lib.byteCells_length]; omega
  rw [hlen, List.append_assoc] at ho3
  obtain ⟨a3, c3, hv3⟩ := ownsRow_shape ho3
  have HBR : Hid (BR w0 w n xs (.int .u8 32 :: Lib.byteCells (Lib.itoa i)) (.returned v3) w3) := ⟨a3, c3, by rw [hv3], by rw [← hv3]; exact ho3, bel_kept HK0.out hb3, HO.out.trans hot3⟩
  obtain ⟨n3, hn3⟩ : ∃ m, m = n + (Value.int .u8 32 :: Lib.byteCells (Lib.itoa i)).length := ⟨_, rfl⟩
  rw [← hn3] at hv3
  subst hv3
  clear ho3 hb3 hot3 hlen hn3 HA HR
  go_wp2
  go_ret
  exact HBR.out
theorem push_str {w0 W : World} {v : Value} {k : Nat} {xs : List Value} (h : W.ownsRow w0.heap.size 5 1 v k xs) (s : ByteArray) (hk : Kept (fun _ => False) w0 W) (hl : k + s.size ≤ 900000) :
    ∃ v' w', (Builtin.append_ #[34, 9] 34 #[v, .string s]).run Tryz.prog W = .ok v' w' ∧ w'.ownsRow w0.heap.size 5 1 v' (k + s.size) (xs ++ Lib.strCells s) ∧ Kept (fun _ => False) w0 w' ∧ Kept (fun q => v.ownBlock = some q) W w' := by
  obtain ⟨i0, hi, hz0, hz1, hz2⟩ := info_parts Tryz.info5
  obtain ⟨v', w', hr, h2, h3, h4⟩ := Lib.run_append_own_string (P := Tryz.prog) W w0.heap.size 34 9 34 5 i0 Tryz.underlying34 Tryz.underlying9 hi hz0 hz1 hz2 v k xs h s (by unfold maxLen; omega) (by omega) hk.size
  have hk1 : Kept (fun k => v.ownBlock = some k) W w' := (Kept.refl _ W).grown h3 (fun k hk => .inr hk)
  exact ⟨v', w', hr, h2, hk.step hk1 (fun i hi e => by have := (h.lt i e).1; omega), hk1⟩
set_option maxHeartbeats 4000000 in
theorem operand_ret (x : Int) (w : World) : Calls Tryz.prog 68 #[.agg #[.int .i64 18, .int .i64 x]] w fun e w' => e = .returned (.int .i64 0) ∧ Kept (fun _ => False) w w' := by
  have hka : Kept (fun _ => False) w (w.alloc (.cells #[.int .i64 18, .int .i64 x] 51)) := (Kept.refl _ _).alloc _
  have c0 := cell_block _ _ 0 _ _ _ (heap_alloc_new w (.cells #[.int .i64 18, .int .i64 x] 51))
  have HO := hid_of (of_any 18 (w.alloc (.cells #[.int .i64 18, .int .i64 x] 51)) (by decide) (by decide))
  obtain ⟨nm, tt, gg, hrow⟩ := ret_row
  rw [hrow, show isRow insL 18 = true by kernel_rfl] at HO
  have HK := hid_of hka
  clear hrow hka
  go_enter Tryz.func68, Tryz.ntmps68
  go_wp2_with fail
  refine HO.out.mono ?_
  rintro e w2 ⟨rfl, hk2⟩
  have hkb : Kept (fun _ => False) w2 (w2.alloc (.cells #[.string nm, .int .i64 0, .int .i64 tt, .int .i64 gg] 134)) := (Kept.refl _ _).alloc _
  have c1 := cell_block _ _ 1 _ _ _ (heap_alloc_new w2 (.cells #[.string nm, .int .i64 0, .int .i64 tt, .int .i64 gg] 134))
  have HK2 := hid_of (HK.out.trans (hk2.trans hkb))
  clear hk2 hkb HK c0 HO
  go_wp2
  go_ret
  exact ⟨rfl, HK2.out⟩
set_option maxHeartbeats 4000000 in
theorem labelB_none (v : Value) (g n c k : Nat) (w : World) (hc : w.cell? ⟨g, k, none⟩ = some (.bool false)) (hk : k < n) : Calls Tryz.prog 43 #[v, .slice (some ⟨g, 0, none⟩) n c, .int .i64 (k : Int)] w fun e w' => e = .returned v ∧ w' = w := by
  have hkI : (k : Int) < (n : Int) := by omega
  clear hk
  go_enter Tryz.func43, Tryz.ntmps43
  go_wp2
  go_ret
  exact ⟨rfl, rfl⟩
set_option maxHeartbeats 8000000 in
theorem aims_ret (g o c : Nat) (w : World) (hg : w.rangeAt g o [.int .i64 18, .int .i64 0]) : Calls Tryz.prog 42 #[.slice (some ⟨g, o, none⟩) 1 c] w fun e w' => ∃ ga, e = .returned (.slice (some ⟨ga, 0, none⟩) 2 2) ∧ w'.heap[ga]? = some (.cells #[.bool false, .bool false] 4 (0, 0)) ∧ w.heap.size ≤ ga ∧ Kept (fun _ => False) w w' := by
  have hka : Kept (fun _ => False) w (w.alloc (.cells #[.bool false, .bool false] 4)) := (Kept.refl _ _).alloc _
  have hba := heap_alloc_new w (.cells #[.bool false, .bool false] 4)
  have hmk : ∀ W : World, (Instr.makeSlice 97 (.int .i64 2) (.int .i64 2)).run Tryz.prog W = .ok (.slice (some ⟨W.heap.size, 0, none⟩) 2 2) (W.alloc (.cells #[.bool false, .bool false] 4)) := fun W => by kernel_rfl
  have HR := hid_of hg
  have HK := hid_of hka
  have HB := hid_of hba
  clear hg hka hba
  go_enter Tryz.func42, Tryz.ntmps42
  go_wp2_with fail
  generalize w.alloc (.cells #[.bool false, .bool false] 4) = w1 at *
  obtain ⟨ga, hga⟩ : ∃ g, g = w.heap.size := ⟨_, rfl⟩
  rw [← hga] at HB ⊢
  have HGA : Hid (w.heap.size ≤ ga) := by rw [hga]; exact Nat.le_refl _
  clear hga hmk
  go_loopw [12] (fun iv wr => Hid (Kept (fun _ => False) w1 wr) ∧ (iv = .int .i64 0 ∨ iv = .int .i64 1)) (fun iv _ => 1 - (intOf iv).toNat)
  case atStart => exact ⟨Kept.refl _ _, .inl rfl⟩
  case round =>
    obtain ⟨HKr, hc⟩ := hrel
    rcases hc with rfl | rfl
    · have r0 := HKr.out.cell (HK.out.cell (HR.out 0 _ rfl) (fun f => f)) (fun f => f)
      have r1 := HKr.out.cell (HK.out.cell (HR.out 1 _ rfl) (fun f => f)) (fun f => f)
      simp only [Nat.add_zero] at r0
      have hkb : Kept (fun _ => False) wr (wr.alloc (.cells #[.int .i64 18, .int .i64 0] 51)) := (Kept.refl _ _).alloc _
      have HX := hid_of (heap_alloc_new wr (.cells #[.int .i64 18, .int .i64 0] 51))
      have HK2 := hid_of (HKr.out.trans hkb)
      clear hkb
      go_upto_region 5 with fail
      clear r0 r1
      generalize wr.alloc (.cells #[.int .i64 18, .int .i64 0] 51) = w2 at *
      generalize wr.heap.size = gx at *
      obtain ⟨b0, b1, _⟩ := look2 HX.out
      go_wp2_with fail
      refine (operand_ret 0 w2).mono ?_
      rintro e w3 ⟨rfl, hk3⟩
      have HK3 := hid_of (HK2.out.trans hk3)
      clear hk3 HK2 HX b0 b1
      go_wp2
      go_roundw
      case rel => exact ⟨HK3, .inr rfl⟩
      case measure => simp [intOf]
    · go_wp2
      go_ret
      exact ⟨ga, rfl, box_kept HKr.out HB.out (fun f => f), HGA.out, HK.out.trans HKr.out⟩
theorem ret_row' : (rowS insL 18).cells.toArray = #[.string ⟨#[114, 101, 116]⟩, .int .i64 0, .int .i64 (rowS insL 18).t, .int .i64 (rowS insL 18).g] := by kernel_rfl
end Go.Proofs.YtkilngknklpadaaGreatDoor
