/-
  Nei2: Neh, Nei.
-/
import Derived.Test.YtcpkbajmilkhpaaDoorNea
import Derived.Test.YtcpkbajmilkhpaaDoorNlh
import Derived.Test.YtcpkbajmilkhpaaDoorNrz
import Derived.Test.YtcpkbajmilkhpaaDoorNop
namespace Go.Proofs.YtcpkbajmilkhpaaDoor
open Go.RowKit
set_option linter.unusedVariables false
set_option linter.unusedSimpArgs false
set_option maxRecDepth 100000

section
variable {ops : Array Oper} {rest : List Oper} {o : Oper} {a : Act} {w : World} {Q : Exit → Act → World → Prop}
theorem wpList_neq47 (hw : Region.wanted o (yielded ops a.tmps) = true) (x y : Operand) (ho : o.op = .binOp .neq 47 x y 47) (Y Z : EV) (hY : Y.fr.length ≤ 32) (hZ : Z.fr.length ≤ 32) (hx : a.eval x = .agg Y.cells.toArray) (hy : a.eval y = .agg Z.cells.toArray)
    (h : wpList Tryd.prog ops Q rest (a.put o.dst (.bool (!eqE Y Z))) w) : wpList Tryd.prog ops Q (o :: rest) a w :=
  wpList_step fun K hK => by
    rw [if_pos hw]
    unfold Oper.wp execOp
    simp only [ho, hx, hy, Sem.run_bind, Sem.run_pure, run_eqGuard_agg w .neq 47 _ _ _ _ guard47, run_neq47 w Y Z hY hZ, Result.andThen_ok]
    exact hK _ _ h
end

theorem good_name {P : List Int → Bool} : ∀ (ys : List EV) (ah : List Int), goodE P ah ys = true → ∀ y ∈ ys, P y.nm = true
  | [], _, _, y, h => by cases h
  | z :: zs, ah, h, y, hy => by
    rw [goodE, Bool.and_eq_true, Bool.and_eq_true, Bool.and_eq_true] at h
    rcases List.mem_cons.1 hy with rfl | hy
    · exact h.2.1.1
    · exact good_name zs z.nm h.2.2 y hy

/-- What Check's OK tells. -/
theorem good_all {ys : List EV} (h : checkD nameP ys = 0) : ys.length ≤ 1024 ∧ Up ys ∧ ∀ y ∈ ys, y.nm.length ≤ 1000 := by
  obtain ⟨h1, h2⟩ := checkD_zero h
  refine ⟨h1, (good_up ys [] h2).1, fun y hy => ?_⟩
  have := nameP_len _ (good_name ys [] h2 y hy)
  omega

theorem without_fr {ys : List EV} {s : List Int} (h : ∀ y ∈ ys, y.fr.length ≤ 32) : ∀ y ∈ withoutL ys s, y.fr.length ≤ 32 := fun y hy => h y (by
  unfold withoutL at hy
  exact (List.mem_filter.1 hy).1)
theorem without_len (ys : List EV) (s : List Int) : (withoutL ys s).length ≤ ys.length := by
  unfold withoutL
  exact List.length_filter_le ..
theorem found_fr {ys : List EV} {s : List Int} (h : ∀ y ∈ ys, y.fr.length ≤ 32) : (foundE (findL ys s)).fr.length ≤ 32 := by
  unfold foundE findL
  cases hf : ys.find? fun y => nmEq y s with
  | none => exact Nat.zero_le _
  | some y => exact h y (List.mem_of_find?_eq_some hf)
theorem with_mem {x : EV} : ∀ (p : Bool) (ys : List EV), ∀ y ∈ withL x p ys, y = x ∨ y ∈ ys
  | p, [], y, hy => by
    unfold withL at hy
    cases p
    · left; simpa using hy
    · simp at hy
  | p, z :: zs, y, hy => by
    rw [withL] at hy
    rcases List.mem_append.1 hy with h | h
    · left
      split at h
      · simpa using h
      · cases h
    · rcases List.mem_append.1 h with h | h
      · split at h
        · cases h
        · right; rw [List.mem_singleton] at h; subst h; exact List.mem_cons_self ..
      · rcases with_mem _ zs y h with h | h
        · exact .inl h
        · exact .inr (List.mem_cons_of_mem _ h)
theorem with_lenL {x : EV} : ∀ (p : Bool) (ys : List EV), (withL x p ys).length ≤ 2 * ys.length + 1
  | p, [] => by unfold withL; cases p <;> simp
  | p, z :: zs => by
    rw [withL]
    have h1 := with_lenL (x := x) (p || !lessB z.nm x.nm) zs
    simp only [List.length_append, List.length_cons]
    split <;> split <;> simp <;> omega

theorem box_kept {S : Nat → Prop} {w w' : World} {B : Nat} {o : Obj} (h : Kept S w w') (hb : w.heap[B]? = some o) (hs : ¬ S B) : w'.heap[B]? = some o := (h.block B (Array.getElem?_eq_some_iff.1 hb).1 hs).trans hb

/-- A new variable of an entry, and what is stored there. -/
theorem new_var (w : World) (y : EV) (hy : y.fr.length ≤ 32) : ∃ Z : Array Value, Z = entA ⟨#[]⟩ 0 [] ∧ Z.size = y.cells.toArray.size ∧ (w.alloc (.cells Z 47)).heap[w.heap.size]? = some (.cells Z 47 (0, 0)) ∧
    ((w.alloc (.cells Z 47)).setRow w.heap.size y.cells.toArray).heap[w.heap.size]? = some (.cells y.cells.toArray 47 (0, 0)) ∧ Kept (fun _ => False) w ((w.alloc (.cells Z 47)).setRow w.heap.size y.cells.toArray) := by
  have hO := heap_alloc_new w (.cells (entA ⟨#[]⟩ 0 []) 47)
  refine ⟨_, rfl, ?_, hO, setRow_heap _ w.heap.size _ y.cells.toArray 47 (0, 0) hO, ?_⟩
  · rw [entA_size _ _ _ (by decide), List.size_toArray, EV.clen y hy]
  · exact ((Kept.refl (fun _ => False) w).alloc _).step (kept_row _ w.heap.size _) (fun i hi e => by omega)
end Go.Proofs.YtcpkbajmilkhpaaDoor

namespace Go.Proofs.YtcpkbajmilkhpaaDoor
open Go.RowKit
set_option linter.unusedVariables false
set_option linter.unusedSimpArgs false
set_option maxRecDepth 100000

set_option maxHeartbeats 8000000 in
theorem edits_walk (ao : Option Addr) (c : Nat) (ys : List EV) (x : EV) (s : List Int) (w : World) (hv : RowE w (.slice ao ys.length c) ys) (hcap : ys.length ≤ c) (hcm : c ≤ 9223372036854775807) (hyok : ∀ y ∈ ys, y.Ok) (hxok : x.Ok) :
    Calls Tryd.prog 6 #[.slice ao ys.length c, .agg x.cells.toArray, .string (str s)] w fun e w' => e = .returned (.bool true) ∧ Kept (fun _ => False) w w' := by
  have hy32 : ∀ y ∈ ys, y.fr.length ≤ 32 := fun y hy => (hyok y hy).fr.1
  have hx32 : x.fr.length ≤ 32 := hxok.fr.1
  have HYB : Hid (∀ y ∈ ys, (∀ b ∈ y.nm, 0 ≤ b ∧ b ≤ 255) ∧ y.nm.length ≤ 9223372036854775807) := fun y hy => ⟨(hyok y hy).nm, (hyok y hy).nl⟩
  have HXO := hid_of hxok
  have HV := hid_of hv
  have HY := hid_of hy32
  have HX32 := hid_of hx32
  have HCAP := hid_of hcap
  have HCM := hid_of hcm
  have hxl := EV.clen x hx32
  have hsz : (Tryd.prog.info? 47).map (·.size) = some x.cells.toArray.size := by rw [size47, List.size_toArray, hxl]
  have HXL := hid_of hxl
  have hb := heap_alloc_new w (.cells x.cells.toArray 47)
  have hkA : Kept (fun _ => False) w (w.alloc (.cells x.cells.toArray 47)) := (Kept.refl _ _).alloc _
  obtain ⟨n, hN⟩ : ∃ n, n = ys.length := ⟨_, rfl⟩
  have HN := hid_of hN
  rw [← hN]
  clear hv hyok hxok hcap hcm hy32 hx32 hN hxl
  go_enter Tryd.func6, Tryd.ntmps6
  go_upto_region 1 with (refine Go.Great.wpList_boxTo rfl 47 _ rfl _ rfl w.heap.size rfl x.cells.toArray rfl ?_)
  generalize w.alloc (.cells x.cells.toArray 47) = w0 at *
  have HB0 := hid_of hb
  have HK0 := hid_of hkA
  have HKN := hid_of (known_any w0)
  clear hb hkA
  go_wp2_with fail
  refine HKN.out.mono ?_
  rintro e w1 ⟨rfl, hk1⟩
  have hK1 := HK0.out.trans hk1
  have hCR := check_ref nameP nameRC nameP_nil ao c ys w1 (HV.out.kept hK1 (fun _ _ f => f)) HCAP.out HCM.out HY.out HYB.out
  rw [← HN.out] at hCR
  have HCR := hid_of hCR
  have HB1 := hid_of (box_kept hk1 HB0.out (fun f => f))
  have HK1 := hid_of hK1
  clear hCR hk1 hK1 HKN HB0 HK0
  go_wp2_with fail
  refine HCR.out.mono ?_
  rintro e w2 ⟨rfl, hk2⟩
  have HB2 := hid_of (box_kept hk2 HB1.out (fun f => f))
  have HK2 := hid_of (HK1.out.trans hk2)
  have hs2 : w.heap.size < w2.heap.size := (Array.getElem?_eq_some_iff.1 HB2.out).1
  clear hk2 HCR HB1 HK1
  obtain ⟨cd, hcd⟩ : ∃ cd, cd = checkD nameP ys := ⟨_, rfl⟩
  rw [← hcd]
  by_cases hc0 : cd = 0
  · subst hc0
    obtain ⟨hl, hup, hnm⟩ := good_all hcd.symm
    have HUP := hid_of hup
    have HNM := hid_of hnm
    have HSZ : Hid (∀ y ∈ ys, (str y.nm).size ≤ 281474976710656) := fun y hy => by rw [str_size]; have := hnm y hy; omega
    have HNN : Hid ((ys.length + 67) * 56 ≤ 140737488355328) := by unfold Hid; omega
    have hnl : n ≤ 1024 := by rw [HN.out]; exact hl
    have hL := lendE_any ao c ys w2 (HV.out.kept HK2.out (fun _ _ f => f)) HY.out HNN.out
    rw [← HN.out] at hL
    have HL := hid_of hL
    clear hcd hl hup hnm hL
    go_wp2_with fail
    refine HL.out.mono ?_
    rintro e w3 ⟨rfl, hl3, hk3⟩
    have hW := without_any (some ⟨w2.heap.size, 0, none⟩) (ys.length + 67) ys s w3 hl3.row HY.out HSZ.out (by have := HN.out; omega) HUP.out (by omega) (by have := HN.out; omega)
    rw [← HN.out] at hW
    have HW := hid_of hW
    have HL3 := hid_of hl3
    have HK3 := hid_of (HK2.out.trans hk3)
    have HB3 := hid_of (box_kept hk3 HB2.out (fun f => f))
    have hs3 : w2.heap.size < w3.heap.size := by
      have h1 := (hl3.there 0 (by omega)).1
      rcases Nat.lt_or_ge w2.heap.size w3.heap.size with h | h
      · exact h
      · simp [World.cell?, Array.getElem?_eq_none h] at h1
    clear hW hl3 hk3 HL HK2 HB2
    go_wp2_with fail
    refine HW.out.mono ?_
    rintro e w4 ⟨u1, rfl, ho4, hk4⟩
    have hK4 := HK3.out.trans hk4
    have hHE := heldE_any w2.heap.size (.slice ao ys.length c) ys w4 (HL3.out.kept hk4 (fun f => f)) (HV.out.kept hK4 (fun _ _ f => f)) HY.out HNN.out
    rw [← HN.out] at hHE
    have HHE := hid_of hHE
    have HO4 := hid_of ho4
    have HLT4 := hid_of ho4.lt
    have HB4 := hid_of (box_kept hk4 HB3.out (fun f => f))
    have HK4 := hid_of hK4
    clear hHE ho4 hk4 hK4 HW HL3 HK3 HB3
    go_wp2_with fail
    refine HHE.out.mono ?_
    rintro e w5 ⟨rfl, hk5⟩
    have hK5 : Kept (fun _ => False) w w5 := HK4.out.step hk5 (fun i hi e => by omega)
    have hWR := without_ref ao c ys s w5 (HV.out.kept hK5 (fun _ _ f => f)) HY.out (by have := HN.out; omega)
    rw [← HN.out] at hWR
    have HWR := hid_of hWR
    have HR5 := hid_of ((rowE_own HO4.out (without_fr HY.out)).kept hk5 (fun q hq e => by have := (HLT4.out q hq).1; omega))
    have HB5 := hid_of (box_kept hk5 HB4.out (by omega))
    have HK5 := hid_of hK5
    clear hWR hk5 hK5 HHE HO4 HLT4 HB4 HK4
    go_wp2_with fail
    refine HWR.out.mono ?_
    rintro e w6 ⟨u2, rfl, ho6, hk6⟩
    have hSA := same_any u1 u2 (withoutL ys s) (withoutL ys s) w6 (HR5.out.kept hk6 (fun _ _ f => f)) (rowE_own ho6 (without_fr HY.out)) (without_fr HY.out) (without_fr HY.out) (by have := without_len ys s; have := HN.out; omega)
    rw [sameL_refl] at hSA
    have HSA := hid_of hSA
    have HB6 := hid_of (box_kept hk6 HB5.out (fun f => f))
    have HK6 := hid_of (HK5.out.trans hk6)
    clear hSA ho6 hk6 HWR HR5 HB5 HK5
    go_wp2_with fail
    refine HSA.out.mono ?_
    rintro e w7 ⟨rfl, hk7⟩
    have hK7 := HK6.out.trans hk7
    have hL := lendE_any ao c ys w7 (HV.out.kept hK7 (fun _ _ f => f)) HY.out HNN.out
    rw [← HN.out] at hL
    have HL := hid_of hL
    have HB7 := hid_of (box_kept hk7 HB6.out (fun f => f))
    have HK7 := hid_of hK7
    have hs7 : w.heap.size < w7.heap.size := (Array.getElem?_eq_some_iff.1 HB7.out).1
    clear hL hk7 hK7 HSA HB6 HK6
    go_wp2_with fail
    refine HL.out.mono ?_
    rintro e w8 ⟨rfl, hl8, hk8⟩
    have hF := find_any (some ⟨w7.heap.size, 0, none⟩) (ys.length + 67) ys s w8 hl8.row HY.out HSZ.out (by have := HN.out; omega) HUP.out
    rw [← HN.out] at hF
    have HF := hid_of hF
    have HL8 := hid_of hl8
    have HK8 := hid_of (HK7.out.trans hk8)
    have HB8 := hid_of (box_kept hk8 HB7.out (fun f => f))
    have hs8 : w7.heap.size < w8.heap.size := by
      have h1 := (hl8.there 0 (by omega)).1
      rcases Nat.lt_or_ge w7.heap.size w8.heap.size with h | h
      · exact h
      · simp [World.cell?, Array.getElem?_eq_none h] at h1
    clear hF hl8 hk8 HL HK7 HB7
    have HFF : Hid ((foundE (findL ys s)).fr.length ≤ 32) := found_fr HY.out
    go_wp2_with fail
    refine HF.out.mono ?_
    rintro e w9 ⟨rfl, hk9⟩
    have HFR : Hid (∀ W, Kept (fun _ => False) w W → Calls Tryd.prog 25 #[.slice ao n c, .string (str s)] W fun e w' => e = .returned (.tuple #[.agg (foundE (findL ys s)).cells.toArray, .bool (findL ys s).isSome]) ∧ Kept (fun _ => False) W w') := fun W hk => by
      have := find_ref ao c ys s W (HV.out.kept hk (fun _ _ f => f)) HY.out (by have := HN.out; omega)
      rw [← HN.out] at this
      exact this
    have HK9 := hid_of (HK8.out.trans hk9)
    have HB9 := hid_of (box_kept hk9 HB8.out (fun f => f))
    have HL9 := hid_of (HL8.out.kept hk9 (fun f => f))
    have hs9 := hk9.size
    clear hk9 HF HL8 HK8 HB8
    generalize foundE (findL ys s) = fy at *
    generalize (findL ys s).isSome = fb at *
    have hszf : (Tryd.prog.info? 47).map (·.size) = some fy.cells.toArray.size := by rw [size47, List.size_toArray, EV.clen fy HFF.out]
    have h1f : fy.cells.toArray.all (·.oneCell') = true := entA_cells (str fy.nm) fy.k fy.fr
    obtain ⟨Z, hZ, hZs, hO9, hX9, hkX9⟩ := new_var w9 fy HFF.out
    rw [entA_new] at hZ
    subst hZ
    go_upto_region 11 with (refine wpList_store_row rfl 47 _ _ rfl w9.heap.size fy.cells.toArray rfl rfl 47 _ hO9 hszf hZs h1f ?_)
    clear hO9
    generalize (w9.alloc (.cells _ 47)).setRow w9.heap.size fy.cells.toArray = w10 at *
    have HX10 := hid_of hX9
    have HK10 := hid_of (HK9.out.trans hkX9)
    have HB10 := hid_of (box_kept hkX9 HB9.out (fun f => f))
    have HL10 := hid_of (HL9.out.kept hkX9 (fun f => f))
    have hs10 : w9.heap.size < w10.heap.size := (Array.getElem?_eq_some_iff.1 hX9).1
    clear hX9 hkX9 hZs HK9 HB9 HL9
    go_wp2_with fail
    refine (HFR.out _ HK10.out).mono ?_
    rintro e w11 ⟨rfl, hk11⟩
    have HX11 := hid_of (box_kept hk11 HX10.out (fun f => f))
    have HK11 := hid_of (HK10.out.trans hk11)
    have HB11 := hid_of (box_kept hk11 HB10.out (fun f => f))
    have HL11 := hid_of (HL10.out.kept hk11 (fun f => f))
    have hs11 := hk11.size
    clear hk11 HFR HX10 HK10 HB10 HL10
    obtain ⟨Z, hZ, hZs, hO9, hX9, hkX9⟩ := new_var w11 fy HFF.out
    rw [entA_new] at hZ
    subst hZ
    go_upto_region 12 with (refine wpList_store_row rfl 47 _ _ rfl w11.heap.size fy.cells.toArray rfl rfl 47 _ hO9 hszf hZs h1f ?_)
    clear hO9
    generalize (w11.alloc (.cells _ 47)).setRow w11.heap.size fy.cells.toArray = w12 at *
    have HY12 := hid_of hX9
    have HX12 := hid_of (box_kept hkX9 HX11.out (fun f => f))
    have hK12 := HK11.out.trans hkX9
    have HB12 := hid_of (box_kept hkX9 HB11.out (fun f => f))
    have hHE := heldE_any w7.heap.size (.slice ao ys.length c) ys w12 (HL11.out.kept hkX9 (fun f => f)) (HV.out.kept hK12 (fun _ _ f => f)) HY.out HNN.out
    rw [← HN.out] at hHE
    have HHE := hid_of hHE
    have HK12 := hid_of hK12
    clear hX9 hkX9 hZs HX11 HK11 HB11 HL11 hHE hK12
    go_wp2_with fail
    refine HHE.out.mono ?_
    rintro e w13 ⟨rfl, hk13⟩
    have hK13 : Kept (fun _ => False) w w13 := HK12.out.step hk13 (fun i hi e => by omega)
    have hY13 := box_kept hk13 HY12.out (by omega)
    have hX13 := box_kept hk13 HX12.out (by omega)
    have hB13 := box_kept hk13 HB12.out (by omega)
    have HK13 := hid_of hK13
    have hkX : Kept (fun _ => False) w13 (w13.alloc (.cells x.cells.toArray 47)) := (Kept.refl _ _).alloc _
    have hCX := check_ref nameP nameRC nameP_nil (some ⟨w13.heap.size, 0, none⟩) 1 [x] (w13.alloc (.cells x.cells.toArray 47)) (rowE_one w13 x HX32.out) (Nat.le_refl _) (by decide) (fun y hy => by rw [List.mem_singleton] at hy; subst hy; exact HX32.out) (fun y hy => by rw [List.mem_singleton] at hy; subst hy; exact ⟨HXO.out.nm, HXO.out.nl⟩)
    have HCX := hid_of hCX
    have HKX := hid_of hkX
    have HB13 := hid_of hB13
    have heq : (!eqE fy fy) = false := by rw [eqE_refl]; rfl
    clear hk13 hK13 HK12 HB12 HX12 HY12 HHE hkX hCX
    go_upto_region 14 with (first | refine wpList_row_wanted (by rfl) _ rfl w9.heap.size rfl fy.cells.toArray hX13 hszf ?_ | refine wpList_row_wanted (by rfl) _ rfl w11.heap.size rfl fy.cells.toArray hY13 hszf ?_ | refine wpList_neq47 (by rfl) _ _ rfl fy fy HFF.out HFF.out rfl rfl ?_)
    clear hX13 hY13 heq hszf h1f
    go_wp2_with (first | refine wpList_load_row rfl 47 _ rfl w.heap.size rfl 47 x.cells.toArray (0, 0) _ hB13 Tryd.underlying47 rfl hsz ?_ | refine wpList_build47 rfl _ rfl x.cells rfl HXL.out ?_)
    refine HCX.out.mono ?_
    rintro e w14 ⟨rfl, hk14⟩
    have hK14 := (HK13.out.trans HKX.out).trans hk14
    have hB14 := box_kept hk14 (box_kept HKX.out HB13.out (fun f => f)) (fun f => f)
    have HK14 := hid_of hK14
    have HB14 := hid_of hB14
    have hs14 : w.heap.size < w14.heap.size := (Array.getElem?_eq_some_iff.1 hB14).1
    clear hk14 hK14 hB13 HB13 HK13 HKX HCX hB14
    obtain ⟨ce, hce⟩ : ∃ ce, ce = checkD nameP [x] := ⟨_, rfl⟩
    rw [← hce]
    by_cases he0 : ce = 0
    · subst he0
      obtain ⟨_, _, hxnm⟩ := good_all hce.symm
      have hxn : x.nm.length ≤ 1000 := hxnm x (List.mem_singleton.2 rfl)
      have HXN := hid_of hxn
      have hL := lendE_any ao c ys w14 (HV.out.kept HK14.out (fun _ _ f => f)) HY.out HNN.out
      rw [← HN.out] at hL
      have HL := hid_of hL
      clear hce hxnm hxn hL
      go_wp2_with fail
      refine HL.out.mono ?_
      rintro e w15 ⟨rfl, hl15, hk15⟩
      have hW := with_some w14.heap.size 0 (ys.length + 67) ys x w15 hl15.row HY.out HSZ.out (by have := HN.out; omega) (by omega) (by have := HN.out; omega) HUP.out HX32.out (by rw [str_size]; have := HXN.out; omega)
      rw [← HN.out] at hW
      have HW := hid_of hW
      have HL15 := hid_of hl15
      have HK15 := hid_of (HK14.out.trans hk15)
      have hB15 := box_kept hk15 HB14.out (fun f => f)
      have HB15 := hid_of hB15
      have hs15 : w14.heap.size < w15.heap.size := by
        have h1 := (hl15.there 0 (by omega)).1
        rcases Nat.lt_or_ge w14.heap.size w15.heap.size with h | h
        · exact h
        · simp [World.cell?, Array.getElem?_eq_none h] at h1
      clear hW hl15 hk15 HL HK14 HB14
      go_wp2_with (refine wpList_load_row rfl 47 _ rfl w.heap.size rfl 47 x.cells.toArray (0, 0) _ hB15 Tryd.underlying47 rfl hsz ?_)
      refine HW.out.mono ?_
      rintro e w16 ⟨u3, rfl, ho16, hk16⟩
      have hK16 := HK15.out.trans hk16
      have hHE := heldE_any w14.heap.size (.slice ao ys.length c) ys w16 (HL15.out.kept hk16 (fun f => f)) (HV.out.kept hK16 (fun _ _ f => f)) HY.out HNN.out
      rw [← HN.out] at hHE
      have HHE := hid_of hHE
      have HO16 := hid_of ho16
      have HLT16 := hid_of ho16.lt
      have HB16 := hid_of (box_kept hk16 HB15.out (fun f => f))
      have HK16 := hid_of hK16
      clear hHE ho16 hk16 hK16 HW HL15 HK15 HB15 hB15
      go_wp2_with fail
      refine HHE.out.mono ?_
      rintro e w17 ⟨rfl, hk17⟩
      have hK17 : Kept (fun _ => False) w w17 := HK16.out.step hk17 (fun i hi e => by omega)
      have hfr : ∀ y ∈ withL x false ys, y.fr.length ≤ 32 := fun y hy => by
        rcases with_mem false ys y hy with rfl | h
        · exact HX32.out
        · exact HY.out y h
      have HFR2 := hid_of hfr
      have hWR := with_ref ao c ys x w17 (HV.out.kept hK17 (fun _ _ f => f)) HY.out (fun y hy => ⟨(HYB.out y hy).1, by have := HNM.out y hy; omega⟩) (by have := HN.out; omega) HX32.out HXO.out.nm (by have := HXN.out; omega)
      rw [← HN.out] at hWR
      have HWR := hid_of hWR
      have HR17 := hid_of ((rowE_own HO16.out hfr).kept hk17 (fun q hq e => by have := (HLT16.out q hq).1; omega))
      have hB17 := box_kept hk17 HB16.out (by omega)
      have HK17 := hid_of hK17
      clear hWR hk17 hK17 hfr HHE HO16 HLT16 HB16 HK16
      go_wp2_with (refine wpList_row_wanted (by rfl) _ rfl w.heap.size rfl x.cells.toArray hB17 hsz ?_)
      refine HWR.out.mono ?_
      rintro e w18 ⟨u4, rfl, ho18, hk18⟩
      have hSA := same_any u3 u4 (withL x false ys) (withL x false ys) w18 (HR17.out.kept hk18 (fun _ _ f => f)) (rowE_own ho18 HFR2.out) HFR2.out HFR2.out (by have := with_lenL (x := x) false ys; have := HN.out; omega)
      rw [sameL_refl] at hSA
      have HSA := hid_of hSA
      have HK18 := hid_of (HK17.out.trans hk18)
      clear hSA ho18 hk18 HWR HR17 hB17 HK17
      go_wp2_with fail
      refine HSA.out.mono ?_
      rintro e w19 ⟨rfl, hk19⟩
      have HK19 := hid_of (HK18.out.trans hk19)
      clear hk19 HSA HK18
      go_wp2
      go_ret
      exact ⟨rfl, HK19.out⟩
    · have he1 : (ce == 0) = false := by simpa using he0
      have he2 : (ce != 0) = true := by simpa using he0
      clear hce
      go_wp2
      all_goals go_ret
      all_goals exact ⟨rfl, HK14.out⟩
  · have hc1 : (cd == 0) = false := by simpa using hc0
    have hc2 : (cd != 0) = true := by simpa using hc0
    clear hcd
    go_wp2
    all_goals go_ret
    all_goals exact ⟨rfl, HK2.out⟩
end Go.Proofs.YtcpkbajmilkhpaaDoor
