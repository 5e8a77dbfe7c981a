import Derived.Test.YtpfmhibdmehlcaaGreatDoorTOx18
import Derived.Test.YtpfmhibdmehlcaaGreatDoorTOx17
import Derived.Test.YtpfmhibdmehlcaaGreatDoorTOx4
import Derived.Deep.MidRow
namespace Go.Proofs.YtpfmhibdmehlcaaGreatDoor
open Go.RowKit
set_option linter.unusedVariables false
set_option linter.unusedSimpArgs false
set_option maxRecDepth 100000
theorem Tryz.info4 : (Tryz.prog.info? 4).map (fun i => (i.zero, i.size, i.bytes)) = some (some (.bool false), 1, 1) := by kernel_rfl
def zerB (n : Nat) : Array Value := madeCells (Value.bool false).cells n
theorem zerB_eq (n : Nat) : zerB n = ((List.replicate n false).map Value.bool).toArray := by
 apply Array.ext
 ·simp [zerB]
  exact size_madeCells _ n
 ·intro i h1 h2
  simp [zerB, madeCells, Value.cells, Nat.mod_one]
theorem makeB_any (W : World) (l : Nat) (h : l ≤ 140737488355328) : (Instr.makeSlice 108 (.int .i64 (l : Int)) (.int .i64 (l : Int))).run Tryz.prog W = .ok (.slice (some ⟨W.heap.size, 0, none⟩) l l) (W.alloc (.cells (zerB l) 4)) := by
 obtain ⟨i0, hi, hz0, hz1, hz2⟩ := info_parts Tryz.info4
 have := run_make (P := Tryz.prog) W 108 4 i0 (.bool false) Tryz.underlying108 hi hz0 .i64 .i64 (l : Int) (l : Int) (by omega) (by omega) (by rw [hz2]; omega) (by omega)
 simpa [zerB, hz1] using this
def aimS (n : Nat) (l : List Bool) (x : IN) : List Bool := if (rowS insL x.op).o = 3 ∧ x.a < (n : Int) + 1 then l.set x.a.toNat true else l
def aimsD (ys : List IN) : List Bool := ys.foldl (aimS ys.length) (List.replicate (ys.length + 1) false)
theorem aim_len (n : Nat) (l : List Bool) (x : IN) : (aimS n l x).length = l.length := by unfold aimS; split <;> simp
theorem aims_len (n : Nat) : ∀ (ys : List IN) (l : List Bool), (ys.foldl (aimS n) l).length = l.length
 | [], l => rfl
 | x :: ys, l => by rw [List.foldl_cons, aims_len n ys, aim_len]
set_option maxHeartbeats 8000000 in
theorem aims_any (v : Value) (ys : List IN) (hl : ys.length ≤ 1000000) (hok : ∀ y ∈ ys, y.Ok) (hj : ∀ y ∈ ys, (rowS insL y.op).o = 3 → 0 ≤ y.a) (w : World) (hr : RowI w v ys) :
  Calls Tryz.prog 44 #[v] w fun e w' => ∃ gb, e = .returned (.slice (some ⟨gb, 0, none⟩) (ys.length + 1) (ys.length + 1)) ∧ w'.heap[gb]? = some (.cells ((aimsD ys).map Value.bool).toArray 4 (0, 0)) ∧ w.heap.size ≤ gb ∧ Kept (fun _ => False) w w' := by
 obtain ⟨ao, vc, rfl⟩ := hr.shape
 obtain ⟨n, hn⟩ := nmd (ys.length)
 have HR : Hid (∀ (i : Nat) (h : i < ys.length), ∃ g o, ao = some ⟨g, o, none⟩ ∧ w.cell? ⟨g, o + i * 2, none⟩ = some (.int .i64 (ys[i]'h).op) ∧ w.cell? ⟨g, o + i * 2 + 1, none⟩ = some (.int .i64 (ys[i]'h).a)) := fun i h => by
  rcases hr with ⟨h0, _⟩ | ⟨g, o, c, hv, hc⟩
  ·subst h0
   exact absurd h (Nat.not_lt_zero _)
  ·cases hv
   have := hc i (ys[i]'h) (List.getElem?_eq_getElem h)
   exact ⟨g, o, rfl, this 0 _ rfl, this 1 _ rfl⟩
 have HOK : Hid (∀ (i : Nat) (h : i < ys.length), (ys[i]'h).Ok ∧ ((rowS insL (ys[i]'h).op).o = 3 → 0 ≤ (ys[i]'h).a)) := fun i h => ⟨hok _ (List.getElem_mem h), hj _ (List.getElem_mem h)⟩
 have HST : Hid (∀ (i : Nat) (h : i < ys.length), (ys.take (i + 1)).foldl (aimS n) (List.replicate (n + 1) false) = aimS n ((ys.take i).foldl (aimS n) (List.replicate (n + 1) false)) (ys[i]'h)) := fun i h => by
  rw [List.take_succ_eq_append_getElem h, List.foldl_append]
  rfl
 have HAD : Hid (aimsD ys = ys.foldl (aimS n) (List.replicate (n + 1) false)) := by rw [hn]; rfl
 have HN := hid_of hn
 have HL : Hid (n ≤ 1000000) := by rw [hn]; exact hl
 rw [← hn]
 have hmk := makeB_any w (n + 1) (by have := HL.out; omega)
 rw [zerB_eq, show ((n + 1 : Nat) : Int) = (n : Int) + 1 from rfl] at hmk
 have hka : Kept (fun _ => False) w (w.alloc (.cells ((List.replicate (n + 1) false).map Value.bool).toArray 4)) := (Kept.refl _ _).alloc _
 have HX := hid_of (heap_alloc_new w (.cells ((List.replicate (n + 1) false).map Value.bool).toArray 4))
 have HK := hid_of hka
 have hw1 : IntKind.i64.wrap ((n : Int) + 1) = (n : Int) + 1 := by have := HL.out; simp [IntKind.wrap, IntKind.bits, IntKind.signed]; omega
 clear hka hr hok hj hl hn
 go_enter Tryz.func44, Tryz.ntmps44
 go_wp2_with fail
 rw [show Array.replicate (n + 1) (Value.bool false) = ((List.replicate (n + 1) false).map Value.bool).toArray by simp]
 have HGB : Hid (w.heap.size ≤ w.heap.size) := Nat.le_refl _
 obtain ⟨gb, hgb⟩ := nmd (w.heap.size)
 rw [← hgb] at HX ⊢
 have HGB : Hid (w.heap.size ≤ gb) := by rw [hgb]; exact Nat.le_refl _
 clear hgb hmk hw1
 generalize w.alloc (.cells ((List.replicate (n + 1) false).map Value.bool).toArray 4) = w1 at *
 go_loopw [12] (fun iv wr => ∃ (i : Nat), iv = .int .i64 (i : Int) ∧ Hid (i ≤ n) ∧ Hid (Kept (fun _ => False) w wr) ∧ Hid (wr.heap[gb]? = some (.cells (((ys.take i).foldl (aimS n) (List.replicate (n + 1) false)).map Value.bool).toArray 4 (0, 0)))) (fun iv _ => n - (intOf iv).toNat)
 case atStart => exact ⟨0, rfl, Nat.zero_le _, HK, HX⟩
 case round =>
  obtain ⟨i, rfl, HI, HKr, HXr⟩ := hrel
  clear HK HX
  by_cases hlt : i < n
  ·have hil : i < ys.length := by have := HN.out; omega
   obtain ⟨g, o, rfl, r0, r1⟩ := HR.out i hil
   have c0 := HKr.out.cell r0 id
   have c1 := HKr.out.cell r1 id
   obtain ⟨hok, hjj⟩ := HOK.out i hil
   have HS1 := hid_of (HST.out i hil)
   have hltI : (i : Int) < (n : Int) := by omega
   have hiB : (i : Int) < 1000000 := by have := HL.out; omega
   have hlen := aims_len n (ys.take i) (List.replicate (n + 1) false)
   rw [List.length_replicate] at hlen
   generalize ((ys.take i).foldl (aimS n) (List.replicate (n + 1) false)) = L at *
   generalize hx : ys[i]'hil = x at *
   obtain ⟨op, a⟩ := x
   simp only at c0 c1 hjj
   have hka : Kept (fun _ => False) wr (wr.alloc (.cells #[.int .i64 op, .int .i64 a] 48)) := (Kept.refl _ _).alloc _
   have HB := hid_of (heap_alloc_new wr (.cells #[.int .i64 op, .int .i64 a] 48))
   have HK2 := hid_of (HKr.out.trans hka)
   have HX2 := hid_of (box_kept hka HXr.out id)
   have HOP := hid_of (operand_any op a hok.1.1 hok.1.2 (wr.alloc (.cells #[.int .i64 op, .int .i64 a] 48)))
   have HSD : Hid (aimS n L ⟨op, a⟩ = if (rowS insL op).o = 3 ∧ a < (n : Int) + 1 then L.set a.toNat true else L) := rfl
   have HLN := hid_of hlen
   have HJJ := hid_of hjj
   clear hka r0 r1 hok hil hx hlen hjj HKr HXr
   generalize (rowS insL op).o = q at *
   go_upto_region 5 with fail
   clear c0 c1
   generalize wr.alloc (.cells #[.int .i64 op, .int .i64 a] 48) = w2 at *
   generalize wr.heap.size = gx at *
   obtain ⟨b0, b1, _⟩ := look2 HB.out
   by_cases hq : q = 3
   ·subst hq
    by_cases han : a < (n : Int) + 1
    ·obtain ⟨k, rfl⟩ := Int.eq_ofNat_of_zero_le (HJJ.out (by simp))
     have HAN := hid_of han
     go_wp2_with fail
     refine HOP.out.mono ?_
     rintro e w3 ⟨rfl, hk3⟩
     obtain ⟨b0, b1, _⟩ := look2 (box_kept hk3 HB.out id)
     have hx3 := box_kept hk3 HX2.out id
     have hkL : k < L.length := by have := HLN.out; omega
     have y0 : w3.cell? ⟨gb, k, none⟩ = some (.bool (L[k]'hkL)) := by rw [cell_block _ _ _ _ _ _ hx3]; simp [hkL]
     have f0 := frozen_block _ _ k _ _ hx3
     have HX4 : Hid ((w3.setCell ⟨gb, k, none⟩ (.bool true)).heap[gb]? = some (.cells ((aimS n L ⟨op, (k : Int)⟩).map Value.bool).toArray 4 (0, 0))) := by
      show _ = _
      rw [set_block _ _ _ _ _ _ hx3, HSD.out, if_pos ⟨by trivial, HAN.out⟩]
      simp
     have HK4 : Hid (Kept (fun _ => False) w (w3.setCell ⟨gb, k, none⟩ (.bool true))) := (HK2.out.trans hk3).setCell (.inl HGB.out) _
     clear hx3 hk3 HOP HX2 HK2
     go_wp2
     go_roundw
     case rel => exact ⟨i + 1, by go_num, hlt, HK4, by rw [HS1.out]; exact HX4.out⟩
     case measure => simp [intOf]; omega
    ·have HAN := hid_of han
     have hde : decide (a < (n : Int) + 1) = false := decide_eq_false han
     clear han
     go_wp2_with fail
     refine HOP.out.mono ?_
     rintro e w3 ⟨rfl, hk3⟩
     obtain ⟨b0, b1, _⟩ := look2 (box_kept hk3 HB.out id)
     have HX4 : Hid (w3.heap[gb]? = some (.cells ((aimS n L ⟨op, a⟩).map Value.bool).toArray 4 (0, 0))) := by
      show _ = _
      rw [HSD.out, if_neg (fun hh => by have h1 := hh.2; have h2 := HAN.out; omega)]
      exact box_kept hk3 HX2.out id
     have HK4 := hid_of (HK2.out.trans hk3)
     clear hk3 HOP HX2 HK2
     go_wp2
     go_roundw
     case rel => exact ⟨i + 1, by go_num, hlt, HK4, by rw [HS1.out]; exact HX4.out⟩
     case measure => simp [intOf]; omega
   ·have q3 : (q == 3) = false := by simp [hq]
    have HQ := hid_of hq
    clear hq
    go_wp2_with fail
    refine HOP.out.mono ?_
    rintro e w3 ⟨rfl, hk3⟩
    have HX4 : Hid (w3.heap[gb]? = some (.cells ((aimS n L ⟨op, a⟩).map Value.bool).toArray 4 (0, 0))) := by
     show _ = _
     rw [HSD.out, if_neg (fun hh => HQ.out hh.1)]
     exact box_kept hk3 HX2.out id
    have HK4 := hid_of (HK2.out.trans hk3)
    clear hk3 HOP HX2 HK2 b0 b1
    go_wp2
    go_roundw
    case rel => exact ⟨i + 1, by go_num, hlt, HK4, by rw [HS1.out]; exact HX4.out⟩
    case measure => simp [intOf]; omega
  ·have hnlt : ¬ (i : Int) < (n : Int) := by omega
   have HF : Hid (wr.heap[gb]? = some (.cells ((aimsD ys).map Value.bool).toArray 4 (0, 0))) := by
    have h := HXr.out
    have := HN.out
    have := HI.out
    rw [List.take_of_length_le (by omega), ← HAD.out] at h
    exact h
   go_wp2
   go_ret
   exact ⟨gb, rfl, HF.out, HGB.out, HKr.out⟩
end Go.Proofs.YtpfmhibdmehlcaaGreatDoor
namespace Go.Proofs.YtpfmhibdmehlcaaGreatDoor
open Go.RowKit Go.Deep
set_option linter.unusedVariables false
set_option linter.unusedSimpArgs false
set_option maxRecDepth 100000
theorem size78 : (Tryz.prog.info? 51).map (·.size) = some 4 := by kernel_rfl
theorem four_oneA (a b c d : Value) (ha : a.oneCell' = true) (hb : b.oneCell' = true) (hc : c.oneCell' = true) (hd : d.oneCell' = true) : #[a, b, c, d].all (·.oneCell') = true := by
 simp [ha, hb, hc, hd]
def mkG (i : Nat) : List Value := [.int .i64 (-70 - (i : Int)), .int .i64 0, .int .i64 0, .slice none 0 0]
def gcells (f : FN) (cg : Nat) : List Value := f.cells (.slice (some ⟨cg, 0, none⟩) f.code.length (f.code.length + 67))
structure LentG (w : World) (g : Nat) (fs : List FN) (cgs : List Nat) (k : Nat) : Prop where
 there : w.there g 0 ((fs.length + 7) * 4)
 ents : ∀ (i : Nat) (f : FN) (cg : Nat), i < k → fs[i]? = some f → cgs[i]? = some cg → w.rangeAt g (i * 4) (gcells f cg)
 marks : ∀ i, fs.length ≤ i → i < k → w.rangeAt g (i * 4) (mkG i)
theorem LentG.kept {S : Nat → Prop} {w w' : World} {g : Nat} {fs : List FN} {cgs : List Nat} {k : Nat} (h : LentG w g fs cgs k) (hk : Kept S w w') (hS : ¬ S g) : LentG w' g fs cgs k :=
 ⟨there_kept h.there hk hS, fun i f cg hi hf hc q u hu => hk.cell (h.ents i f cg hi hf hc q u hu) hS, fun i h0 h1 q u hu => hk.cell (h.marks i h0 h1 q u hu) hS⟩
theorem LentG.put {w : World} {g : Nat} {fs : List FN} {cgs : List Nat} {k : Nat} (h : LentG w g fs cgs k) (hk : k < fs.length + 7) (cs : List Value) (hcs : cs.length = 4) : LentG (w.setCells g (k * 4) cs) g fs cgs k ∧ (w.setCells g (k * 4) cs).rangeAt g (k * 4) cs := by
 have hth : w.there g (k * 4) cs.length := there_sub h.there (by rw [hcs]; omega)
 refine ⟨⟨World.there_setCells h.there _ _ _, fun i f cg hi hf hc => ?_, fun i h0 h1 => ?_⟩, World.rangeAt_setCells_same _ _ _ _ hth⟩
 ·refine World.rangeAt_setCells_apart (h.ents i f cg hi hf hc) _ _ _ (.inr (.inl ?_))
  show i * 4 + 4 ≤ _
  omega
 ·refine World.rangeAt_setCells_apart (h.marks i h0 h1) _ _ _ (.inr (.inl ?_))
  show i * 4 + 4 ≤ _
  omega
theorem LentG.mark {w : World} {g : Nat} {fs : List FN} {cgs : List Nat} {k : Nat} (h : LentG w g fs cgs k) (hk : fs.length ≤ k) (hr : w.rangeAt g (k * 4) (mkG k)) : LentG w g fs cgs (k + 1) := by
 refine ⟨h.there, fun i f cg hi hf hc => ?_, fun i h0 h1 => ?_⟩
 ·have : i < fs.length := (List.getElem?_eq_some_iff.1 hf).1
  exact h.ents i f cg (by omega) hf hc
 ·by_cases e : i = k
  ·subst e; exact hr
  ·exact h.marks i h0 (by omega)
theorem LentG.code {w : World} {g : Nat} {fs : List FN} {cgs : List Nat} {k : Nat} {f : FN} {cv : Value} (h : LentG w g fs cgs k) (hl : cgs.length = k) (hf : fs[k]? = some f) (hr : w.rangeAt g (k * 4) (f.cells cv)) (cg : Nat) : LentG (w.setCell ⟨g, k * 4 + 3, none⟩ (.slice (some ⟨cg, 0, none⟩) f.code.length (f.code.length + 67))) g fs (cgs ++ [cg]) (k + 1) := by
 have hk : k < fs.length := (List.getElem?_eq_some_iff.1 hf).1
 show LentG (w.setCells g (k * 4 + 3) [.slice (some ⟨cg, 0, none⟩) f.code.length (f.code.length + 67)]) g fs (cgs ++ [cg]) (k + 1)
 have hth : w.there g (k * 4 + 3) ([.slice (some ⟨cg, 0, none⟩) f.code.length (f.code.length + 67)] : List Value).length := there_sub h.there (by show k * 4 + 3 + 1 ≤ _; omega)
 refine ⟨World.there_setCells h.there _ _ _, fun i F c hi hF hc => ?_, fun i h0 h1 => absurd h0 (by omega)⟩
 by_cases hik : i < k
 ·rw [List.getElem?_append_left (by omega)] at hc
  refine World.rangeAt_setCells_apart (h.ents i F c hik hF hc) _ _ _ (.inr (.inl ?_))
  show i * 4 + 4 ≤ _
  omega
 ·have e : i = k := by omega
  subst e
  rw [List.getElem?_append_right (by omega), hl, Nat.sub_self] at hc
  rw [hf] at hF
  cases hF
  cases hc
  intro j u hj
  have hj4 : j < 4 := by
   have := (List.getElem?_eq_some_iff.1 hj).1
   simpa [gcells, FN.cells] using this
  have hs := World.rangeAt_setCells_same w g (i * 4 + 3) [.slice (some ⟨cg, 0, none⟩) f.code.length (f.code.length + 67)] hth
  have ha : w.rangeAt g (i * 4) [.int .i64 f.a, .int .i64 f.l, .int .i64 f.r] := fun j u hj => by
   have hj3 : j < 3 := (List.getElem?_eq_some_iff.1 hj).1
   refine hr j u ?_
   match j, hj3, hj with
   | 0, _, hj => exact hj
   | 1, _, hj => exact hj
   | 2, _, hj => exact hj
  have ha2 := World.rangeAt_setCells_apart ha g (i * 4 + 3) [.slice (some ⟨cg, 0, none⟩) f.code.length (f.code.length + 67)] (.inr (.inl (by show i * 4 + 3 ≤ _; omega)))
  match j, hj4, hj with
  | 0, _, hj => exact ha2 0 u hj
  | 1, _, hj => exact ha2 1 u hj
  | 2, _, hj => exact ha2 2 u hj
  | 3, _, hj => exact hs 0 u hj
theorem LentG.lt {w : World} {g : Nat} {fs : List FN} {cgs : List Nat} {k : Nat} (h : LentG w g fs cgs k) : g < w.heap.size := by
 have h1 := (h.there 0 (by omega)).1
 cases hc : w.cell? ⟨g, 0 + 0, none⟩ with
 | none => rw [hc] at h1; cases h1
 | some v => exact World.block_lt_of_cell? w _ hc
theorem Tryz.info51 : (Tryz.prog.info? 51).map (fun i => (i.zero, i.size, i.bytes)) = some (some (.agg #[.int .i64 0, .int .i64 0, .int .i64 0, .slice none 0 0]), 4, 48) := by kernel_rfl
def zfn (n : Nat) : Array Value := madeCells (Value.agg #[.int .i64 0, .int .i64 0, .int .i64 0, .slice none 0 0]).cells n
theorem zfn_size (n : Nat) : (zfn n).size = n := size_madeCells _ n
theorem make_fns (W : World) (l : Nat) (h : l * 48 ≤ 140737488355328) : (Instr.makeSlice 23 (.int .i64 (l : Int)) (.int .i64 (l : Int))).run Tryz.prog W = .ok (.slice (some ⟨W.heap.size, 0, none⟩) l l) (W.alloc (.cells (zfn (l * 4)) 51)) := by
 obtain ⟨i0, hi, hz0, hz1, hz2⟩ := info_parts Tryz.info51
 have := run_make (P := Tryz.prog) W 23 51 i0 _ Tryz.underlying23 hi hz0 .i64 .i64 (l : Int) (l : Int) (by omega) (by omega) (by rw [hz2]; omega) (by omega)
 rw [hz1] at this
 simpa [zfn, Value.cells] using this
def lentV (p : PG) (gd gl : Nat) : Value := .agg #[.int .i64 p.mem, .slice (some ⟨gd, 0, none⟩) p.data.length (p.data.length + 67), .slice (some ⟨gl, 0, none⟩) p.fns.length (p.fns.length + 7)]
structure LentP (w : World) (gd gl : Nat) (cgs : List Nat) (p : PG) (k : Nat) : Prop where
 dat : Lent2 w gd p.data 67
 dl : gd < gl
 fns : LentG w gl p.fns cgs k
 code : ∀ (i : Nat) (f : FN) (cg : Nat), p.fns[i]? = some f → cgs[i]? = some cg → LentI w cg f.code 67
 len : cgs.length = min k p.fns.length
 up : cgs.Pairwise (· < ·)
 lo : ∀ cg ∈ cgs, gl < cg
theorem LentP.kept {S : Nat → Prop} {w w' : World} {gd gl : Nat} {cgs : List Nat} {p : PG} {k : Nat} (h : LentP w gd gl cgs p k) (hk : Kept S w w') (hd : ¬ S gd) (hS : ∀ q, gl ≤ q → ¬ S q) : LentP w' gd gl cgs p k :=
 ⟨h.dat.kept hk hd, h.dl, h.fns.kept hk (hS gl (Nat.le_refl _)), fun i f cg hf hc => (h.code i f cg hf hc).kept hk (hS cg (Nat.le_of_lt (h.lo cg (List.mem_of_getElem? hc)))), h.len, h.up, h.lo⟩
end Go.Proofs.YtpfmhibdmehlcaaGreatDoor
