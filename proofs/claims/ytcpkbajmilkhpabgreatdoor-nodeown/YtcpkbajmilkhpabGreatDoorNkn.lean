/-
  retortlaw5's known by contract.
-/
import Derived.Test.YtcpkbajmilkhpabGreatDoorNen
import Derived.Test.YtcpkbajmilkhpabGreatDoorNmw
import Derived.Test.YtcpkbajmilkhpabGreatDoorNdd
namespace Go.Proofs.YtcpkbajmilkhpabGreatDoor
open Go.RowKit
set_option linter.unusedVariables false
set_option linter.unusedSimpArgs false
set_option maxRecDepth 100000

/-- The entry that is known. -/
def xE : EV := ⟨[97], 1, [7]⟩
/-- Its bytes. -/
def xB : List Int := [1, 1, 1, 1, 97, 1, 7]
def d7 : Array Value := (xE.dig.map (Value.int .u8)).toArray
theorem xE_check : checkD nameP [xE] = 0 := by decide +kernel
theorem xE_enc : encS [xE] = .ok xB := by kernel_rfl
theorem xE_list : listD nameP xB = .ok ([xE], []) := by kernel_rfl
theorem str_xB : str xB = ⟨#[1, 1, 1, 1, 97, 1, 7]⟩ := by rfl
theorem str_xn : str xE.nm = ⟨#[97]⟩ := by rfl
theorem xE_clen : xE.cells.length = 34 := by rfl
theorem built_d7 : Tryz.prog.built 39 [(0, .int .u8 7)] = some d7 := by kernel_rfl
theorem built_xE : Tryz.prog.built 41 [(0, .string ⟨#[97]⟩), (1, .int .i64 1), (2, .agg d7)] = some xE.cells.toArray := by kernel_rfl

section
variable {ops : Array Oper} {o : Oper} {a : Act} {w : World} {Q : Exit → Act → World → Prop} {rest : List Oper}
theorem wpList_d7 (hg : o.guard = none) (ho : o.op = .build 39 #[(0, .const (.int .u8 7))])
    (h : wpList Tryz.prog ops Q rest (a.put o.dst (.agg d7)) w) : wpList Tryz.prog ops Q (o :: rest) a w := by
  have e : (#[((0 : Nat), Operand.const (.int .u8 7))].map fun (i, z) => (i, a.eval z)).toList = [(0, .int .u8 7)] := by simp [Act.eval]
  refine wpList_build hg 39 _ ho (by rw [e, built_d7]; rfl) ?_
  rw [e, built_d7]
  exact h
theorem wpList_xE (hg : o.guard = none) (x : Operand) (ho : o.op = .build 41 #[(0, .const (.string ⟨#[97]⟩)), (1, .const (.int .i64 1)), (2, x)]) (hx : a.eval x = .agg d7)
    (h : wpList Tryz.prog ops Q rest (a.put o.dst (.agg xE.cells.toArray)) w) : wpList Tryz.prog ops Q (o :: rest) a w := by
  have e : (#[((0 : Nat), Operand.const (.string ⟨#[97]⟩)), (1, .const (.int .i64 1)), (2, x)].map fun (i, z) => (i, a.eval z)).toList = [(0, .string ⟨#[97]⟩), (1, .int .i64 1), (2, .agg d7)] := by rw [← hx]; simp [Act.eval]
  refine wpList_build hg 41 _ ho (by rw [e, built_xE]; rfl) ?_
  rw [e, built_xE]
  exact h
theorem wpList_row_wanted (hw : Region.wanted o (yielded ops a.tmps) = true) (x : Operand) (ho : o.op = .load 41 x) (g : Nat) (hx : a.eval x = .pointer (some ⟨g, 0, none⟩)) (cs : Array Value) (hg : w.heap[g]? = some (.cells cs 41 (0, 0))) (hi : (Tryz.prog.info? 41).map (·.size) = some cs.size)
    (h : wpList Tryz.prog ops Q rest (a.put o.dst (.agg cs)) w) : wpList Tryz.prog ops Q (o :: rest) a w :=
  wpList_step fun K hK => by
    rw [if_pos hw]
    exact wp_load_row 41 x ho g hx 41 cs (0, 0) _ hg Tryz.underlying41 rfl hi (hK _ _ h)
theorem wpList_slice_wanted (hw : Region.wanted o (yielded ops a.tmps) = true) (x : Operand) (ho : o.op = .buildSlice 22 1 #[(0, x)]) (cs : List Value) (hx : a.eval x = .agg cs.toArray) (hl : cs.length = 34)
    (h : wpList Tryz.prog ops Q rest (a.put o.dst (.slice (some ⟨w.heap.size, 0, none⟩) 1 1)) (w.alloc (.cells cs.toArray 41))) : wpList Tryz.prog ops Q (o :: rest) a w := by
  obtain ⟨i0, hi, hz0, hz1, hz2⟩ := info_parts info47
  refine wpList_step fun K hK => ?_
  rw [if_pos hw]
  refine wp_buildSlice 22 41 1 _ ho cs.toArray i0 _ Tryz.underlying22 hi hz0 (by rw [hz1]; decide) (by rw [hz1]; decide) ?_ (hK _ _ h)
  rw [hz1]
  have e : (#[(0, x)].map fun (i, y) => (i, a.eval y)).toList = [(0, .agg cs.toArray)] := by rw [← hx]; simp
  rw [e]
  exact fill_one cs _ hl (by simp)
end

theorem rowE_one (w : World) (y : EV) (h : y.fr.length ≤ 32) : RowE (w.alloc (.cells y.cells.toArray 41)) (.slice (some ⟨w.heap.size, 0, none⟩) 1 1) [y] := by
  refine .inr ⟨w.heap.size, 0, 1, rfl, fun i z hz j u hj => ?_⟩
  have hi : i = 0 := by
    have := (List.getElem?_eq_some_iff.1 hz).1
    simpa using this
  subst hi
  simp at hz
  subst hz
  rw [cell_block _ _ _ _ _ _ (heap_alloc_new w _), Nat.zero_mul, Nat.add_zero, Nat.zero_add]
  simpa using hj

set_option maxHeartbeats 2000000 in
theorem known_any (w : World) : Calls Tryz.prog 4 #[] w fun e w' => e = .returned (.bool true) ∧ Kept (fun _ => False) w w' := by
  have hO := heap_alloc_new w (.cells (entA ⟨#[]⟩ 0 []) 41)
  have hkO : Kept (fun _ => False) w (w.alloc (.cells (entA ⟨#[]⟩ 0 []) 41)) := (Kept.refl _ _).alloc _
  have hw : w.alloc (.cells (entA ⟨#[]⟩ 0 []) 41) = w.alloc (.cells _ 41) := congrArg (fun c => w.alloc (.cells c 41)) (entA_new ⟨#[]⟩ 0)
  rw [hw] at hO hkO
  clear hw
  have hs34 : (Tryz.prog.info? 41).map (·.size) = some xE.cells.toArray.size := by rw [size47, List.size_toArray, xE_clen]
  have ho34 : (entA ⟨#[]⟩ 0 []).size = xE.cells.toArray.size := by rw [entA_size _ _ _ (by decide), List.size_toArray, xE_clen]
  have h1c : xE.cells.toArray.all (·.oneCell') = true := entA_cells (str xE.nm) xE.k xE.fr
  go_enter Tryz.func4, Tryz.ntmps4
  go_upto_region 2 with (first | refine wpList_d7 rfl rfl ?_ | refine wpList_xE rfl _ rfl rfl ?_ | refine wpList_store_row rfl 41 _ _ rfl w.heap.size xE.cells.toArray rfl rfl 41 _ hO hs34 ho34 h1c ?_)
  have hO' : (w.alloc (.cells _ 41)).heap[w.heap.size]? = some (.cells (entA ⟨#[]⟩ 0 []) 41 (0, 0)) := hO
  generalize w.alloc (.cells _ 41) = wO at *
  have hX := setRow_heap wO w.heap.size _ xE.cells.toArray 41 (0, 0) hO'
  have hk1 : Kept (fun _ => False) w (wO.setRow w.heap.size xE.cells.toArray) := hkO.step (kept_row wO w.heap.size _) (fun i hi e => by omega)
  clear hO hO' hkO ho34 h1c
  generalize wO.setRow w.heap.size xE.cells.toArray = w1 at *
  have hkA : Kept (fun _ => False) w1 (w1.alloc (.cells xE.cells.toArray 41)) := (Kept.refl _ _).alloc _
  have HEN := hid_of (encode_any nameP nameC (.slice (some ⟨w1.heap.size, 0, none⟩) 1 1) [xE] _ (rowE_one w1 xE (by decide)) (fun g hg => by
    have e : w1.heap.size = g := by simpa [Value.ownBlock] using hg
    rw [← e]
    simp) (fun y hy => by simp at hy; subst hy; exact ⟨by decide, by decide⟩) nameP_len (fun y hy => by simp at hy; subst hy; decide) (fun y hy => by simp at hy; subst hy; exact ⟨by decide, by decide⟩))
  have HK1 := hid_of hk1
  have HKA := hid_of hkA
  have HX := hid_of hX
  clear hk1 hkA
  go_wp2_with (first | refine wpList_load_row rfl 41 _ rfl w.heap.size rfl 41 xE.cells.toArray (0, 0) _ hX Tryz.underlying41 rfl hs34 ?_ | refine wpList_build47 rfl _ rfl xE.cells rfl xE_clen ?_)
  refine HEN.out.mono ?_
  rintro e w2 ⟨hk2, he⟩
  rw [if_pos xE_check, xE_enc] at he
  obtain ⟨v2, rfl, ho2⟩ := he
  have hk12 := (HK1.out.trans HKA.out).trans hk2
  have hX2 := (hk2.block w.heap.size (Nat.lt_of_lt_of_le (Array.getElem?_eq_some_iff.1 HX.out).1 HKA.out.size) (fun f => f)).trans ((HKA.out.block w.heap.size (Array.getElem?_eq_some_iff.1 HX.out).1 (fun f => f)).trans HX.out)
  have hib2 : IsB w2 v2 xB := isB_own ho2
  obtain ⟨bo, bc, hv2⟩ := hib2.shape
  have hlt2 := ho2.lt
  clear hX HEN hk2 HK1 HKA HX ho2
  have hkB : Kept (fun _ => False) w2 (w2.alloc (.cells #[.int .u8 1, .int .u8 1, .int .u8 1, .int .u8 1, .int .u8 97, .int .u8 1, .int .u8 7] 5)) := (Kept.refl _ _).alloc _
  have hbB := heap_alloc_new w2 (.cells #[.int .u8 1, .int .u8 1, .int .u8 1, .int .u8 1, .int .u8 97, .int .u8 1, .int .u8 7] 5)
  have HDC := hid_of (decode_x nameP nameC w2.heap.size (some ⟨w2.heap.size, 0, none⟩) 7 xB (w2.alloc (.cells #[.int .u8 1, .int .u8 1, .int .u8 1, .int .u8 1, .int .u8 97, .int .u8 1, .int .u8 7] 5)) (.inr ⟨0, 7, rfl, by decide, by decide, by unfold maxLen; decide, fun i hi => by
    rw [cell_block _ _ _ _ _ _ hbB, Nat.zero_add]
    have h7 : i < 7 := hi
    match i, h7 with
    | 0, _ => rfl
    | 1, _ => rfl
    | 2, _ => rfl
    | 3, _ => rfl
    | 4, _ => rfl
    | 5, _ => rfl
    | 6, _ => rfl⟩) (by simp) ⟨by decide, by decide⟩)
  have HK2 := hid_of hk12
  have HKB := hid_of hkB
  have HX2 := hid_of hX2
  have HIB := hid_of hib2
  subst hv2
  clear hk12 hkB hX2 hib2 hbB
  go_wp2_with fail
  refine HDC.out.mono ?_
  rintro e w3 ⟨hk3, he⟩
  rw [if_neg (by decide), xE_list] at he
  dsimp only at he
  rw [if_neg (by decide)] at he
  obtain ⟨v3, rfl, ho3⟩ := he
  have hk23 := HKB.out.trans hk3
  have hX3 := (hk23.block w.heap.size (Array.getElem?_eq_some_iff.1 HX2.out).1 (fun f => f)).trans HX2.out
  have hib3 := HIB.out.kept hk23 (fun _ _ f => f)
  have hcv := conv_str w3 _ xB hib3
  rw [str_xB] at hcv
  have hr3 : RowE w3 v3 [xE] := rowE_own ho3 (fun y hy => by simp at hy; subst hy; decide)
  have hkC : Kept (fun _ => False) w3 (w3.alloc (.cells xE.cells.toArray 41)) := (Kept.refl _ _).alloc _
  have HSM := hid_of (same_any v3 (.slice (some ⟨w3.heap.size, 0, none⟩) 1 1) [xE] [xE] _ (hr3.kept hkC (fun _ _ f => f)) (rowE_one w3 xE (by decide)) (fun y hy => by simp at hy; subst hy; decide) (fun y hy => by simp at hy; subst hy; decide) (by decide))
  rw [sameL_refl] at HSM
  have HK3 := hid_of ((HK2.out.trans hk23).trans hkC)
  clear hk3 ho3 hr3 hkC hib3 hk23 HDC HK2 HKB HX2 HIB
  have hs34' := hs34
  go_wp2_with (first | refine wpList_row_wanted (by rfl) _ rfl w.heap.size rfl xE.cells.toArray hX3 hs34 ?_ | refine wpList_slice_wanted (by rfl) _ rfl xE.cells rfl xE_clen ?_)
  refine HSM.out.mono ?_
  rintro e w4 ⟨rfl, hk4⟩
  have HK4 := hid_of (HK3.out.trans hk4)
  clear hk4 HSM
  go_wp2
  go_ret
  exact ⟨rfl, HK4.out⟩
end Go.Proofs.YtcpkbajmilkhpabGreatDoor
