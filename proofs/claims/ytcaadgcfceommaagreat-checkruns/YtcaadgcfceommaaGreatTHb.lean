import Derived.Test.YtcaadgcfceommaaGreatTHa
import Derived.Test.YtcaadgcfceommaaGreatTLc
import Derived.Test.YtcaadgcfceommaaGreatTLg
import Derived.Test.YtcaadgcfceommaaGreatTKa
namespace Go.Proofs.YtcaadgcfceommaaGreat
open Go.RowKit
set_option linter.unusedVariables false
set_option linter.unusedSimpArgs false
set_option maxRecDepth 100000
theorem row_instr {w : World} {B n c : Nat} {ao : Option Addr} {fs : List FN} (h : RowF w B (.slice ao n c) fs) {k i : Nat} {f : FN} {x : IN} (hf : fs[k]? = some f) (hx : f.code[i]? = some x) : ∃ pg po cg co cc, ao = some ⟨pg, po, none⟩ ∧ w.cell? ⟨pg, po + k * 4, none⟩ = some (.int .i64 f.a) ∧ w.cell? ⟨pg, po + k * 4 + 1, none⟩ = some (.int .i64 f.l) ∧ w.cell? ⟨pg, po + k * 4 + 2, none⟩ = some (.int .i64 f.r) ∧
  w.cell? ⟨pg, po + k * 4 + 3, none⟩ = some (.slice (some ⟨cg, co, none⟩) f.code.length cc) ∧ RowI w (.slice (some ⟨cg, co, none⟩) f.code.length cc) f.code ∧ pg < B ∧ cg < B := by
 have hk : k < fs.length := (List.getElem?_eq_some_iff.1 hf).1
 have hi : i < f.code.length := (List.getElem?_eq_some_iff.1 hx).1
 obtain ⟨pg, po, f', rfl, hg, hf', hfa⟩ := h.at hk
 rw [hf] at hf'
 cases hf'
 obtain ⟨cao, cc, x0, x1, x2, x3, hri, hcl⟩ := fn_read hfa
 have hri2 := hri
 rcases hri with ⟨e, _⟩ | ⟨cg, co, c', e, hc⟩
 ·rw [e] at hi; simp at hi
 ·cases e
  exact ⟨pg, po, cg, co, cc, rfl, x0, x1, x2, x3, hri2, hg, hcl cg rfl (by omega)⟩
theorem rowI_cell {w : World} {cg co n c : Nat} {ys : List IN} (h : RowI w (.slice (some ⟨cg, co, none⟩) n c) ys) {i : Nat} {x : IN} (hx : ys[i]? = some x) : w.cell? ⟨cg, co + i * 2, none⟩ = some (.int .i64 x.op) ∧ w.cell? ⟨cg, co + i * 2 + 1, none⟩ = some (.int .i64 x.a) := by
 rcases h with ⟨e, _⟩ | ⟨g, o, c', e, hc⟩
 ·rw [e] at hx; simp at hx
 ·cases e
  exact ⟨hc i x hx 0 _ rfl, hc i x hx 1 _ rfl⟩
set_option maxHeartbeats 4000000 in
theorem all_any (v : Value) (p : PG) (w : World) (B : Nat) (h : PgIs w B v p) (ho : p.Ok) :
  Calls Tryz.prog 9 #[v] w fun e w' => (∃ n : Int, e = .returned (.int .i64 n)) ∧ KF w w' := by
 obtain ⟨dv, fv, rfl, hd, hdl, hf⟩ := h
 obtain ⟨dao, dc, rfl⟩ := hd.shape
 obtain ⟨fao, fc, rfl⟩ := hf.shape
 obtain ⟨nf, hnf⟩ := nmd (p.fns.length)
 obtain ⟨nd, hnd⟩ := nmd (p.data.length)
 obtain ⟨mem, hmem⟩ := nmd (p.mem)
 rw [← hnf, ← hnd, ← hmem]
 rw [← hnf] at hf
 have hlf := ho.len
 rw [← hnf] at hlf
 have hnfI : (nf : Int) ≤ 140737488351232 := by omega
 have hkA : KF w (w.alloc (.cells #[.int .i64 mem, .slice dao nd dc, .slice fao nf fc] 25)) := (Kept.refl _ _).alloc _
 have hb := heap_alloc_new w (.cells #[.int .i64 mem, .slice dao nd dc, .slice fao nf fc] 25)
 have HF := hid_of (hf.kept hkA (fun _ _ f => f))
 have HO := hid_of ho
 have HNF := hid_of hnf
 have HK := hid_of hkA
 have c2 := cell_block _ _ 2 _ _ _ hb
 clear hb hkA hd hdl hf hnf hnd hmem ho hlf
 go_enter Tryz.func9, Tryz.ntmps9
 go_wp2_with fail
 generalize w.alloc (.cells #[.int .i64 mem, .slice dao nd dc, .slice fao nf fc] 25) = W at *
 generalize w.heap.size = gb at *
 go_loop [3, 4] (fun nv iv => ∃ (k : Nat) (n : Int), k ≤ nf ∧ iv = .int .i64 (k : Int) ∧ nv = .int .i64 n ∧ 0 ≤ n ∧ n ≤ 200000000000000) (fun _ iv => nf - (intOf iv).toNat)
 case atStart => exact ⟨0, 0, by omega, rfl, rfl, by omega, by omega⟩
 case round =>
  obtain ⟨k, n, hk, rfl, rfl, hn0, hn1⟩ := hrel
  by_cases hlt : k < nf
  ·have hltI : (k : Int) < (nf : Int) := by omega
   by_cases hsm : n ≤ 1048576
   ·obtain ⟨pg, po, f, e1, hgB, hfi, hfa⟩ := HF.out.at (i := k) (by rw [← HNF.out]; exact hlt)
    subst e1
    obtain ⟨cao, cc, x0, x1, x2, x3, hri, hcl⟩ := fn_read hfa
    have hlc := (HO.out.fns f (List.mem_of_getElem? hfi)).len
    obtain ⟨nc, hnc⟩ := nmd (f.code.length)
    rw [← hnc] at x3 hlc
    have hncI : (nc : Int) ≤ 140737488351232 := by omega
    clear x0 x1 x2 hri hcl hfa hfi hnc hgB
    go_wp2
    go_round
    case rel => exact ⟨k + 1, n + nc, by omega, by go_num, by go_num, by omega, by omega⟩
    case measure => simp [intOf]; omega
   ·go_wp2
    go_ret
    exact ⟨⟨_, rfl⟩, HK.out⟩
  ·have hltI : ¬ ((k : Int) < (nf : Int)) := by omega
   go_wp2
   go_ret
   exact ⟨⟨_, rfl⟩, HK.out⟩
end Go.Proofs.YtcaadgcfceommaaGreat
