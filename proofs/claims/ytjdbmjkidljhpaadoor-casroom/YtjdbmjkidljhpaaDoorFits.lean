/-
  Fits, of the program and of the reference.
-/
import Derived.Test.YtjdbmjkidljhpaaDoorCut
import Derived.Test.YtjdbmjkidljhpaaDoorRcut
namespace Go.Proofs.YtjdbmjkidljhpaaDoor
open Go.RowKit
set_option linter.unusedVariables false
set_option maxRecDepth 100000
set_option linter.unusedSimpArgs false

/-- A whole row, read under a guard that lets it. -/
theorem wpList_load_wanted {P : Program} {ops : Array Oper} {rest : List Oper} {o : Oper} {a : Act} {w : World} {Q : Exit → Act → World → Prop} (hw : Region.wanted o (yielded ops a.tmps) = true) (ty : TypeId) (x : Operand) (ho : o.op = .load ty x)
    (g : Nat) (hx : a.eval x = .pointer (some ⟨g, 0, none⟩)) (t : TypeId) (cs : Array Value) (fr : Nat × Nat) (d : TypeDesc) (hg : w.heap[g]? = some (.cells cs t fr))
    (hu : P.underlying ty = some d) (hd : (match d with | .struct _ | .array _ _ => true | _ => false) = true) (hi : (P.info? ty).map (·.size) = some cs.size)
    (h : wpList P ops Q rest (a.put o.dst (.agg cs)) w) : wpList P ops Q (o :: rest) a w := by
  unfold wpList
  rw [if_pos hw]
  exact .inl (wp_load_row ty x ho g hx t cs fr d hg hu hd hi h)

/-- What Cut tells: the front, and the error. -/
def cutR (d : List Int) (width : Int) : List Int := if width < 1 ∨ 32 < width then zeros32 else cutL d width.toNat
def cutE (width : Int) : Int := if width < 1 ∨ 32 < width then 3 else 0
theorem cutR_length (d : List Int) (width : Int) (hl : d.length = 32) : (cutR d width).length = 32 := by
  unfold cutR
  split
  · rfl
  · exact cutL_length d _ hl (by omega)

theorem cut_any (d : List Int) (width : Int) (hl : d.length = 32) (w : World) :
    Calls Tryd.prog 38 #[.agg (d.map (Value.int .u8)).toArray, .int .i64 width] w fun e w' => e = .returned (.tuple #[.agg ((cutR d width).map (Value.int .u8)).toArray, .int .i64 (cutE width)]) ∧ Kept (fun _ => False) w w' := by
  by_cases h : width < 1 ∨ 32 < width
  · have := cut_bad d width hl h w
    rw [cutR, cutE, if_pos h, if_pos h]
    exact this
  · obtain ⟨k, rfl⟩ := Int.eq_ofNat_of_zero_le (show 0 ≤ width by omega)
    have := cut_ok d k hl (by omega) (by omega) w
    rw [cutR, cutE, if_neg h, if_neg h]
    exact this
theorem rcut_any (d : List Int) (width : Int) (hl : d.length = 32) (w : World) :
    Calls Tryd.prog 40 #[.agg (d.map (Value.int .u8)).toArray, .int .i64 width] w fun e w' => e = .returned (.tuple #[.agg ((cutR d width).map (Value.int .u8)).toArray, .int .i64 (cutE width)]) ∧ Kept (fun _ => False) w w' := by
  by_cases h : width < 1 ∨ 32 < width
  · have := rcut_bad d width hl h w
    rw [cutR, cutE, if_pos h, if_pos h]
    exact this
  · obtain ⟨k, rfl⟩ := Int.eq_ofNat_of_zero_le (show 0 ≤ width by omega)
    have := rcut_ok d k hl (by omega) (by omega) w
    rw [cutR, cutE, if_neg h, if_neg h]
    exact this
def fitsL (d : List Int) (width : Int) : Bool := cutE width == 0 && decide (cutR d width = d)

set_option maxRecDepth 100000 in
set_option maxHeartbeats 1000000 in
theorem fits_any (d : List Int) (width : Int) (hl : d.length = 32) (w : World) :
    Calls Tryd.prog 31 #[.agg (d.map (Value.int .u8)).toArray, .int .i64 width] w fun e w' => e = .returned (.bool (fitsL d width)) ∧ Kept (fun _ => False) w w' := by
  have HC := hid_of (fun W => cut_any d width hl W)
  have hfl := cutR_length d width hl
  have hone := oneCells .u8 (cutR d width)
  have hsD : (Tryd.prog.info? 28).map (·.size) = some (d.map (Value.int .u8)).toArray.size := by simp [size28, hl]
  have hsF : (Tryd.prog.info? 28).map (·.size) = some ((cutR d width).map (Value.int .u8)).toArray.size := by simp [size28, hfl]
  have HOS : Hid (32 = ((cutR d width).map (Value.int .u8)).toArray.size) := by show 32 = _; simp [hfl]
  have heq := fun W => run_eql32 W 28 (cutR d width) d Tryd.underlying28 hfl hl
  have hX : fitsL d width = (cutE width == 0 && decide (cutR d width = d)) := rfl
  generalize decide (cutR d width = d) = t at *
  have HX := hid_of hX
  clear hX hfl
  generalize ((cutR d width).map (Value.int .u8)).toArray = fr at *
  generalize (d.map (Value.int .u8)).toArray = ds at *
  generalize cutE width = ev at *
  by_cases hev : ev = 0
  · subst hev
    go_enter Tryd.func31, Tryd.ntmps31
    go_wp2_with (refine wpList_load_row rfl 28 _ rfl w.heap.size rfl 28 ds (0, 0) _ (alloc_new _ _ rfl) Tryd.underlying28 rfl hsD ?_)
    refine (HC.out _).mono ?_
    rintro e w1 ⟨rfl, hk⟩
    have hD : (w1.alloc (.cells fr 28)).heap[w.heap.size]? = some (.cells ds 28 (0, 0)) := alloc_old ((hk.block _ (by simp) (fun f => f)).trans (alloc_new _ _ rfl))
    have hF : (w1.alloc (.cells fr 28)).heap[w1.heap.size]? = some (.cells fr 28 (0, 0)) := alloc_new _ _ rfl
    have HK : Hid (Kept (fun _ => False) w (w1.alloc (.cells fr 28))) := (((Kept.refl _ w).alloc _).trans hk).alloc _
    have HD := hid_of hD
    have HF := hid_of hF
    clear hk hD hF HC
    go_wp2_with (first | refine wpList_load_wanted (by rfl) 28 _ rfl w1.heap.size rfl 28 fr (0, 0) _ HF.out Tryd.underlying28 rfl hsF ?_ | refine wpList_load_wanted (by rfl) 28 _ rfl w.heap.size rfl 28 ds (0, 0) _ HD.out Tryd.underlying28 rfl hsD ?_ | (refine wpList_store_row rfl 28 _ _ rfl w1.heap.size fr rfl rfl 28 _ (alloc_new _ _ rfl) hsF HOS.out hone ?_; rw [setRow_new _ _ _ _ rfl]))
    go_ret
    exact ⟨by rw [HX.out]; rfl, HK.out⟩
  · have hne : (ev == 0) = false := by simpa using hev
    go_enter Tryd.func31, Tryd.ntmps31
    go_wp2_with (refine wpList_load_row rfl 28 _ rfl w.heap.size rfl 28 ds (0, 0) _ (alloc_new _ _ rfl) Tryd.underlying28 rfl hsD ?_)
    refine (HC.out _).mono ?_
    rintro e w1 ⟨rfl, hk⟩
    have HK : Hid (Kept (fun _ => False) w (w1.alloc (.cells fr 28))) := (((Kept.refl _ w).alloc _).trans hk).alloc _
    clear hk HC
    go_wp2_with (refine wpList_store_row rfl 28 _ _ rfl w1.heap.size fr rfl rfl 28 _ (alloc_new _ _ rfl) hsF HOS.out hone ?_; rw [setRow_new _ _ _ _ rfl])
    go_ret
    exact ⟨by rw [HX.out, hne]; rfl, HK.out⟩

end Go.Proofs.YtjdbmjkidljhpaaDoor
