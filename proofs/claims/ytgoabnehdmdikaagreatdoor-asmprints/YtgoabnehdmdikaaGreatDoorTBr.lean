/-
  TBr: Br.
-/
import Derived.Test.YtgoabnehdmdikaaGreatDoorTBq
import Derived.Test.YtgoabnehdmdikaaGreatDoorTAr
import Derived.Test.YtgoabnehdmdikaaGreatDoorTAz
import Derived.Test.YtgoabnehdmdikaaGreatDoorTBg
namespace Go.Proofs.YtgoabnehdmdikaaGreatDoor
open Go.RowKit Go.Deep
set_option linter.unusedVariables false
set_option linter.unusedSimpArgs false
set_option maxRecDepth 100000

def AllR (w : World) (e : Ending) (w' : World) : Prop := ∃ n : Int, e = .returned (.int .i64 n) ∧ Kept (fun _ => False) w w'
set_option maxHeartbeats 8000000 in
theorem all_any (v : Value) (p : PG) (w : World) (B : Nat) (h : PgIs w B v p) (ho : p.Ok) : Calls Tryz.prog 12 #[v] w (AllR w) := by
  obtain ⟨dv, fv, rfl, hd, hdl, hf⟩ := h
  obtain ⟨dao, dc, rfl⟩ := hd.shape
  obtain ⟨fao, fc, rfl⟩ := hf.shape
  have hlf := ho.len
  obtain ⟨mem, ds, fs⟩ := p
  simp only at hlf hf ⊢
  obtain ⟨nf, hnf⟩ : ∃ n, n = fs.length := ⟨_, rfl⟩
  rw [← hnf] at hlf hf ⊢
  have hka : Kept (fun _ => False) w (w.alloc (.cells #[.int .i64 mem, .slice dao ds.length dc, .slice fao nf fc] 26)) := (Kept.refl _ _).alloc _
  have HX := hid_of (heap_alloc_new w (.cells #[.int .i64 mem, .slice dao ds.length dc, .slice fao nf fc] 26))
  have HF := hid_of (hf.kept hka (fun _ _ f => f))
  have HK := hid_of hka
  have HNF := hid_of hnf
  have HLF := hid_of hlf
  clear hd hdl hf ho hka hlf hnf
  go_enter Tryz.func12, Tryz.ntmps12
  go_upto_region 1 with fail
  generalize w.alloc (.cells #[.int .i64 mem, .slice dao ds.length dc, .slice fao nf fc] 26) = wa at *
  generalize w.heap.size = gx at *
  obtain ⟨x0, x1, x2, _⟩ := look3 HX.out
  go_wp2_with fail
  clear x0 x1 x2
  go_loopw [3, 4] (fun nv iv wr => ∃ (n : Int) (i : Nat), nv = .int .i64 n ∧ iv = .int .i64 (i : Int) ∧ Hid (i ≤ nf) ∧ wr = wa) (fun _ iv _ => nf - (intOf iv).toNat)
  case atStart => exact ⟨_, 0, rfl, rfl, Nat.zero_le _, rfl⟩
  case round =>
    obtain ⟨n, i, rfl, rfl, HI, rfl⟩ := hrel
    obtain ⟨x0, x1, x2, _⟩ := look3 HX.out
    have hnfB : (nf : Int) ≤ 10000000000000 := by have := HLF.out; omega
    by_cases hlt : i < nf
    · have hltI : (i : Int) < (nf : Int) := by omega
      by_cases hn : n ≤ 524288
      · have hli : i < fs.length := by rw [← HNF.out]; exact hlt
        obtain ⟨g, o, f, e1, hgB, hfi, hfa⟩ := HF.out.at (i := i) hli
        subst e1
        obtain ⟨cao, cc, y0, y1, y2, y3, hri, hcl⟩ := fn_read hfa
        clear hli hfa hfi hri hcl
        go_wp2
        go_roundw
        case rel => exact ⟨_, i + 1, rfl, by go_num, hlt, trivial⟩
        case measure => simp [intOf]; omega
      · have hnd : decide (n ≤ 524288) = false := decide_eq_false hn
        go_wp2
        go_ret
        exact ⟨n, rfl, HK.out⟩
    · have hltI : ¬ (i : Int) < (nf : Int) := by omega
      go_wp2
      go_ret
      exact ⟨n, rfl, HK.out⟩
theorem eqS (s : ByteArray) (w : World) : (binOp .eql 9 (.string s) (.string s)).run Tryz.prog w = .ok (.bool true) w := by
  go_simp
set_option maxHeartbeats 16000000 in
theorem prints_walk (v : Value) (p : PG) (w : World) (B : Nat) (hG : Gl w) (h : PgIs w B v p) (hB : B ≤ w.heap.size) (ho : p.Ok) : Calls Tryz.prog 5 #[v] w fun e w' => e = .returned (.bool true) ∧ Kept (fun _ => False) w w' := by
  have hpg := h
  obtain ⟨dv, fv, rfl, hd, hdl, hf⟩ := h
  obtain ⟨dao, dc, rfl⟩ := hd.shape
  obtain ⟨fao, fc, rfl⟩ := hf.shape
  have HPG := hid_of hpg
  have HB := hid_of hB
  have HO := hid_of ho
  have HG := hid_of hG
  have HLV : Hid (∀ gd gl, lentV p gd gl = .agg #[.int .i64 p.mem, .slice (some ⟨gd, 0, none⟩) p.data.length (p.data.length + 67), .slice (some ⟨gl, 0, none⟩) p.fns.length (p.fns.length + 7)]) := fun _ _ => rfl
  have hka : Kept (fun _ => False) w (w.alloc (.cells #[.int .i64 p.mem, .slice dao p.data.length dc, .slice fao p.fns.length fc] 26)) := (Kept.refl _ _).alloc _
  have HX := hid_of (heap_alloc_new w (.cells #[.int .i64 p.mem, .slice dao p.data.length dc, .slice fao p.fns.length fc] 26))
  have HK := hid_of hka
  have HKN := hid_of (known_any cut_one cut_two _ (hG.same hka))
  clear hpg hd hdl hf hB ho hG hka
  generalize hmem : p.mem = mem at *
  generalize hnd : p.data.length = nd at *
  generalize hnf : p.fns.length = nf at *
  have HNF := hid_of hnf
  clear hmem hnd hnf
  go_enter Tryz.func5, Tryz.ntmps5
  go_upto_region 1 with fail
  generalize w.alloc (.cells #[.int .i64 mem, .slice dao nd dc, .slice fao nf fc] 26) = wa at *
  generalize hgx : w.heap.size = gx at HX ⊢
  have HGX := hid_of hgx
  clear hgx
  go_wp2_with fail
  refine HKN.out.mono ?_
  rintro e w1 ⟨rfl, hk1⟩
  have HK1 := hid_of (HK.out.trans hk1)
  have HX1 := hid_of (box_kept hk1 HX.out (fun f => f))
  have HAL := hid_of (all_any _ p w1 B (HPG.out.kept HK1.out (fun _ _ f => f)) HO.out)
  clear hk1 HKN HX HK
  obtain ⟨x0, x1, x2, _⟩ := look3 HX1.out
  go_wp2_with fail
  refine HAL.out.mono ?_
  rintro e w2 ⟨n, rfl, hk2⟩
  have HK2 := hid_of (HK1.out.trans hk2)
  have HX2 := hid_of (box_kept hk2 HX1.out (fun f => f))
  clear hk2 HAL x0 x1 x2 HX1 HK1
  obtain ⟨x0, x1, x2, _⟩ := look3 HX2.out
  by_cases hn : n > 524288
  · go_wp2
    go_ret
    exact ⟨rfl, HK2.out⟩
  have hnd2 : decide (n > 524288) = false := decide_eq_false hn
  have HLE := hid_of (lend_p _ p w2 B (HPG.out.kept HK2.out (fun _ _ f => f)) (Nat.le_trans HB.out HK2.out.size) HO.out)
  go_wp2_with fail
  refine HLE.out.mono ?_
  rintro e w3 ⟨gd, gl, cgs, rfl, hlp, hk3, hgd⟩
  rw [HLV.out]
  have hkb : Kept (fun _ => False) w3 (w3.alloc (.cells #[.int .i64 mem, .slice (some ⟨gd, 0, none⟩) nd (nd + 67), .slice (some ⟨gl, 0, none⟩) nf (nf + 7)] 26)) := (Kept.refl _ _).alloc _
  have HY4 := hid_of (heap_alloc_new w3 (.cells #[.int .i64 mem, .slice (some ⟨gd, 0, none⟩) nd (nd + 67), .slice (some ⟨gl, 0, none⟩) nf (nf + 7)] 26))
  have HX4 := hid_of (box_kept (hk3.trans hkb) HX2.out (fun f => f))
  have HK4 := hid_of (HK2.out.trans (hk3.trans hkb))
  have HLP4 := hid_of (hlp.kept hkb (fun f => f) (fun _ _ f => f))
  have HGD := hid_of hgd
  have HS2 := hid_of HK2.out.size
  clear hk3 hkb hlp hgd HLE x0 x1 x2 HX2 hn hnd2
  go_upto_region 6 with fail
  generalize w3.alloc (.cells #[.int .i64 mem, .slice (some ⟨gd, 0, none⟩) nd (nd + 67), .slice (some ⟨gl, 0, none⟩) nf (nf + 7)] 26) = w4 at *
  generalize w3.heap.size = gy at *
  obtain ⟨y0, y1, y2, _⟩ := look3 HY4.out
  have hpr := print_any (lentV p gd gl) p w4.heap.size w4 (HG.out.same HK4.out) (HLP4.out.pg) (Nat.le_refl _) HO.out
  rw [HLV.out] at hpr
  have HPR := hid_of hpr
  clear hpr
  go_wp2_with fail
  refine HPR.out.mono ?_
  rintro e w5 ⟨rfl, hk5⟩
  have HK5 := hid_of (HK4.out.trans hk5)
  have HX5 := hid_of (box_kept hk5 HX4.out (fun f => f))
  have HY5 := hid_of (box_kept hk5 HY4.out (fun f => f))
  have HLP5 := hid_of (HLP4.out.kept hk5 (fun f => f) (fun _ _ f => f))
  have HPQ := hid_of (printR_any _ p B w5 (HPG.out.kept HK5.out (fun _ _ f => f)) (Nat.le_trans HB.out HK5.out.size) HO.out)
  clear hk5 HPR y0 y1 y2 HX4 HY4 HLP4 HK4
  obtain ⟨x0, x1, x2, _⟩ := look3 HX5.out
  generalize printS p = ps at *
  generalize printE p = pe at *
  go_wp2_with fail
  refine HPQ.out.mono ?_
  rintro e w6 ⟨rfl, hk6⟩
  have HK6 := hid_of (HK5.out.trans hk6)
  have HX6 := hid_of (box_kept hk6 HX5.out (fun f => f))
  have HY6 := hid_of (box_kept hk6 HY5.out (fun f => f))
  have hhe := held_p gd gl cgs _ p w6 B (HLP5.out.kept hk6 (fun f => f) (fun _ _ f => f)) (HPG.out.kept HK6.out (fun _ _ f => f)) (by have h1 := HB.out; have h2 := HS2.out; have h3 := HGD.out; have h4 := HGX.out; omega) HO.out
  rw [HLV.out] at hhe
  have HHE := hid_of hhe
  clear hk6 HPQ x0 x1 x2 HX5 HY5 HK5 hhe
  have HDL := hid_of HLP5.out.dl
  clear HLP5
  obtain ⟨x0, x1, x2, _⟩ := look3 HX6.out
  obtain ⟨y0, y1, y2, _⟩ := look3 HY6.out
  have hes := eqS ps
  go_wp2_with fail
  refine HHE.out.mono ?_
  rintro e w7 ⟨rfl, hk7⟩
  have HKF : Hid (Kept (fun _ => False) w w7) := HK6.out.step hk7 (fun i hi e => by have h2 := HS2.out; have h3 := HGD.out; have h4 := HGX.out; have h5 := HDL.out; omega)
  clear hk7 HHE x0 x1 x2 y0 y1 y2 HX6 HY6
  go_wp2
  go_ret
  exact ⟨rfl, HKF.out⟩
end Go.Proofs.YtgoabnehdmdikaaGreatDoor
