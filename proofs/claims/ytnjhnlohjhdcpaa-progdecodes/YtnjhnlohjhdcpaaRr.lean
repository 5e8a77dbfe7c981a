/-
  The reference's Decode of a program by contract.
-/
import Derived.Test.YtnjhnlohjhdcpaaRq
import Derived.Test.YtnjhnlohjhdcpaaQc
import Derived.Test.YtnjhnlohjhdcpaaSh
import Derived.Deep.RegionHeld3
namespace Go.Proofs.Ytnjhnlohjhdcpaa
open Go.ChangeShapes Go.WideShapes Go.ChangeAt Go.RowKit Go.Deep
set_option linter.unusedVariables false
set_option linter.unusedSimpArgs false
set_option maxRecDepth 100000

section
variable {P : Program} {ops : Array Oper} {S : World → Prop} {o : Oper} {a : Act} {w : World} {K : Act → World → Prop} {Q : Exit → Act → World → Prop} {E : Prop}
theorem stp_store_row (hgd : o.guard = none) (ty : TypeId) (x y : Operand) (ho : o.op = .store ty x y)
    (g : Nat) (cells : Array Value) (hx : a.eval x = .pointer (some ⟨g, 0, none⟩)) (hy : a.eval y = .agg cells)
    (t : TypeId) (old : Array Value) (hg : w.heap[g]? = some (.cells old t (0, 0))) (hi : (P.info? ty).map (·.size) = some cells.size)
    (hold : old.size = cells.size) (h1 : cells.all (·.oneCell') = true)
    (h : K (a.put o.dst undef) (w.setRow g cells)) : if Region.wanted o (yielded ops a.tmps) = true then Oper.wp P o a w K Q else E := by
  have hw : Region.wanted o (yielded ops a.tmps) = true := by simp [Region.wanted, hgd]
  rw [if_pos hw]
  exact wp_store_row ty x y ho g cells hx hy t old hg hi hold h1 h
end
/-- What the reference's Decode holds. -/
structure DqI (w wr : World) (v : Value) (xs : List Int) (s : Except Int (List Int)) : Prop where
  rs : RS wr (w.heap.size + 1) v xs s
  isb : IsB wr v xs
  res : wr.heap[w.heap.size]? = some (.cells #[.int .i64 0, .slice none 0 0, .slice none 0 0] 25 (0, 0))
  kept : Kept (fun _ => False) w wr
theorem DqI.step {S : Nat → Prop} {w wr w1 : World} {v : Value} {xs : List Int} {s : Except Int (List Int)} (h : DqI w wr v xs s) (hk : Kept S wr w1) (hS : ∀ i, i ≤ w.heap.size + 1 → ¬ S i) (hvl : ∀ b, v.ownBlock = some b → b < w.heap.size) : DqI w w1 v xs s :=
  ⟨h.rs.kept hk (hS _ (Nat.le_refl _)), h.isb.kept hk (fun b hb => hS b (by have := hvl b hb; omega)), box_kept hk h.res (hS _ (by omega)), h.kept.step hk (fun i hi e => absurd e (hS i (by omega)))⟩
theorem DqI.read {w wr w1 : World} {v : Value} {xs : List Int} {s s' : Except Int (List Int)} (h : DqI w wr v xs s) (hr : RS w1 (w.heap.size + 1) v xs s') (hk : Kept (fun q => q = w.heap.size + 1) wr w1) (hvl : ∀ b, v.ownBlock = some b → b < w.heap.size) : DqI w w1 v xs s' :=
  ⟨hr, h.isb.kept hk (fun b hb e => by have := hvl b hb; omega), box_kept hk h.res (by omega), h.kept.step hk (fun i hi e => by omega)⟩
/-- A program whose blocks are all at base or above. -/
def PgU (base : Nat) (w : World) (v : Value) (p : PG) : Prop :=
  ∃ dv fv cvs, v = .agg #[.int .i64 p.mem, dv, fv] ∧ IsB w dv p.data ∧ (∀ q, dv.ownBlock = some q → base ≤ q ∧ q < w.heap.size) ∧ OwnF base w fv p.fns cvs
theorem PgU.pg {base : Nat} {w : World} {v : Value} {p : PG} (h : PgU base w v p) : PgIs w w.heap.size v p := by
  obtain ⟨dv, fv, cvs, e, h1, h2, h3⟩ := h
  exact ⟨dv, fv, e, h1, fun q hq => (h2 q hq).2, h3.rowF⟩
theorem PgU.kept {S : Nat → Prop} {base : Nat} {w w' : World} {v : Value} {p : PG} (h : PgU base w v p) (hk : Kept S w w') (hS : ∀ q, base ≤ q → ¬ S q) : PgU base w' v p := by
  obtain ⟨dv, fv, cvs, e, h1, h2, h3⟩ := h
  exact ⟨dv, fv, cvs, e, h1.kept hk (fun q hq => hS q (h2 q hq).1), fun q hq => ⟨(h2 q hq).1, Nat.lt_of_lt_of_le (h2 q hq).2 hk.size⟩, h3.kept hk hS⟩
/-- What it leaves. -/
def DecQR (xs : List Int) (w : World) (e : Ending) (w' : World) : Prop :=
  Kept (fun _ => False) w w' ∧ match decPD xs with
    | .error flt => e = .returned (.tuple #[.agg #[.int .i64 0, .slice none 0 0, .slice none 0 0], .int .i64 flt])
    | .ok p => (∃ dv fv, e = .returned (.tuple #[.agg #[.int .i64 p.mem, dv, fv], .int .i64 0]) ∧ PgU w.heap.size w' (.agg #[.int .i64 p.mem, dv, fv]) p) ∧ p.Ok
theorem DecQR.bad {xs : List Int} {w wr : World} {f : Int} (h : decPD xs = .error f) (hk : Kept (fun _ => False) w wr) : DecQR xs w (.returned (.tuple #[.agg #[.int .i64 0, .slice none 0 0, .slice none 0 0], .int .i64 f])) (wr.setRow w.heap.size #[.int .i64 0, .slice none 0 0, .slice none 0 0]) :=
  ⟨hk.step (kept_row _ _ _) (fun i hi e => by omega), by rw [h]⟩
/-- What holds at the head of its loop. -/
structure PrQ (w wr : World) (v : Value) (xs : List Int) (N0 gp : Nat) (mem : Int) (dv : Value) (d : List Int) (fv : Value) (fs : List FN) (cvs : List Value) (n : Nat) (ys0 ys : List Int) : Prop where
  pl : fnsD n ys0 = joinF fs (fnsD (n - fs.length) ys)
  di : DqI w wr v xs (.ok ys)
  blk : wr.heap[gp]? = some (.cells #[.int .i64 mem, dv, fv] 25 (0, 0))
  own : OwnF N0 wr fv fs cvs
  dat : IsB wr dv d
  datb : ∀ b, dv.ownBlock = some b → gp < b ∧ b < N0
  ok : BytesOk ys
  all : ∀ F ∈ fs, F.Ok
  off : w.heap.size + 1 < gp ∧ gp < N0 ∧ N0 ≤ wr.heap.size
theorem PrQ.next {w wr W : World} {v : Value} {xs : List Int} {N0 gp : Nat} {mem : Int} {dv : Value} {d : List Int} {fv : Value} {fs : List FN} {cvs : List Value} {n : Nat} {ys0 ys ys' : List Int} {F : FN} {cv : Value} (h : PrQ w wr v xs N0 gp mem dv d fv fs cvs n ys0 ys) (hvl : ∀ b, v.ownBlock = some b → b < w.heap.size) (hd : fnD ys = .ok (F, ys')) (hn : fs.length < n) (hsz : n ≤ 64) (hk : Kept (fun q => q = w.heap.size + 1) wr W) (hdi : DqI w W v xs (.ok ys')) (hcv : W.ownsRow wr.heap.size 52 2 cv F.code.length (icells F.code)) (hF : F.Ok) (hone : cv.oneCell' = true) :
    ∃ fv' w7, (Builtin.append_ #[23, 23] 23 #[fv, .slice (some ⟨W.heap.size, 0, none⟩) 1 1]).run Try.prog (W.alloc (.cells #[.int .i64 F.a, .int .i64 F.l, .int .i64 F.r, cv] 50)) = .ok fv' w7 ∧ w7.heap[gp]? = some (.cells #[.int .i64 mem, dv, fv] 25 (0, 0)) ∧ PrQ w (w7.setCell ⟨gp, 2, none⟩ fv') v xs N0 gp mem dv d fv' (fs ++ [F]) (cvs ++ [cv]) n ys0 ys' := by
  have ho := h.off
  have hs := hk.size
  have hown := h.own.kept hk (fun q hq e => by omega)
  have blkW := box_kept hk h.blk (by omega)
  obtain ⟨fv', w7, hr, hO, hka⟩ := hown.app F cv (own_mono hcv ho.2.2) (fun q hq c hc e => by
    obtain ⟨i, G, _, _, hG⟩ := h.own.mem hc
    have h1 := (hcv.lt q hq).1
    have h2 := (hG.lt q e).2
    omega) hone (by omega) (by omega)
  have hfb : ∀ q, fv.ownBlock = some q → N0 ≤ q := fun q hq => (hown.row.lt q hq).1
  have blk7 := box_kept hka blkW (own_box hown.row blkW (by decide))
  have hks := kept_set w7 gp 2 fv'
  have hdat : IsB (w7.setCell ⟨gp, 2, none⟩ fv') dv d := ((h.dat.kept hk (fun b hb e => by have := h.datb b hb; omega)).kept hka (fun b hb e => by have := h.datb b hb; have := hfb b e; omega)).kept hks (fun b hb e => by have := h.datb b hb; omega)
  refine ⟨fv', w7, hr, blk7, ⟨?_, (hdi.step hka (fun i hi e => by have := hfb i e; omega) hvl).step hks (fun i hi e => by omega) hvl, set_block _ gp 2 _ _ _ blk7 fv', hO.box blk7 (by decide) (by decide) hks, hdat, h.datb, fnD_rest h.ok hd, fun G hG => ?_, ⟨ho.1, ho.2.1, by have := hka.size; have := hks.size; omega⟩⟩⟩
  · rw [h.pl, show n - fs.length = (n - (fs ++ [F]).length) + 1 by rw [List.length_append]; simp; omega]
    exact joinF_ok hd
  · rcases List.mem_append.1 hG with hG | hG
    · exact h.all G hG
    · have : G = F := by simpa using hG
      rw [this]; exact hF

theorem field63_1 (a b : Int) (v : Value) (w : World) : (Instr.field 63 (.agg #[.int .i64 a, .int .i64 b, v]) 1).run Try.prog w = .ok (.int .i64 b) w := by kernel_rfl
theorem field63_2 (a b : Int) (bo : Option Addr) (bn bc : Nat) (w : World) : (Instr.field 63 (.agg #[.int .i64 a, .int .i64 b, .slice bo bn bc]) 2).run Try.prog w = .ok (.slice bo bn bc) w := by kernel_rfl

set_option maxHeartbeats 32000000 in
theorem rdecode_any (bao : Option Addr) (bc : Nat) (xs : List Int) (w : World) (hx : IsB w (.slice bao xs.length bc) xs) (hb : BytesOk xs) (hc : Capd (.slice bao xs.length bc) xs.length) (hvl : ∀ b, (Value.slice bao xs.length bc).ownBlock = some b → b < w.heap.size) :
    Calls Try.prog 18 #[.slice bao xs.length bc] w (DecQR xs w) := by
  obtain ⟨n, hn⟩ : ∃ n, n = xs.length := ⟨_, rfl⟩
  have hk0 : Kept (fun _ => False) w (w.alloc (.cells #[.int .i64 0, .slice none 0 0, .slice none 0 0] 25)) := (Kept.refl _ _).alloc _
  have hz0 := heap_alloc_new w (.cells #[.int .i64 0, .slice none 0 0, .slice none 0 0] 25)
  by_cases hlong : 1048576 < xs.length
  · have HR : Hid (∀ w', Kept (fun _ => False) w w' → DecQR xs w (.returned (.tuple #[.agg #[.int .i64 0, .slice none 0 0, .slice none 0 0], .int .i64 2])) w') := fun w' h => ⟨h, by unfold decPD; rw [if_pos hlong]⟩
    have hb2 := hb.2
    rw [← hn] at hlong hb2 ⊢
    have hlI : (1048576 : Int) < (n : Int) := by omega
    have HK0 := hid_of hk0
    have HZ0 := hid_of hz0
    clear hx hn hb hk0 hz0 hvl hc
    go_enter Try.func18, Try.ntmps18
    go_wp2
    refine bodyPost_ret (v := .tuple #[.agg #[.int .i64 0, .slice none 0 0, .slice none 0 0], .int .i64 2]) ?_ rfl (HR.out _ HK0.out)
    exact results_rowtmp (fn := Try.f18) (p := 2) (u := 3) (by rfl) _ _ w.heap.size 25 _ (0, 0) _ (by rfl) HZ0.out Try.underlying25 rfl size25
  · have hlI : (n : Int) ≤ 1048576 := by omega
    have HL : Hid (decPD xs = match progD xs with
      | .error f => .error f
      | .ok (p, rest) => if rest.length = 0 then (if checkP p = 0 then .ok p else .error (checkP p)) else .error 13) := if_neg hlong
    have HPE : Hid (∀ f, progD xs = .error f → decPD xs = .error f) := fun f h => by rw [HL.out, h]
    rw [← hn] at hx hc hvl ⊢
    have HN := hid_of hn
    have HB := hid_of hb
    have HVL := hid_of hvl
    have HC := hid_of hc
    have hk1 : Kept (fun _ => False) w ((w.alloc (.cells #[.int .i64 0, .slice none 0 0, .slice none 0 0] 25)).alloc (.cells #[.slice bao n bc, .int .i64 0, .int .i64 0] 71)) := ((Kept.refl _ _).alloc _).alloc _
    have hz1 : ((w.alloc (.cells #[.int .i64 0, .slice none 0 0, .slice none 0 0] 25)).alloc (.cells #[.slice bao n bc, .int .i64 0, .int .i64 0] 71)).heap[w.heap.size]? = some (.cells #[.int .i64 0, .slice none 0 0, .slice none 0 0] 25 (0, 0)) := by
      rw [heap_alloc_old _ _ (by simp)]
      exact hz0
    have hr1 := heap_alloc_new (w.alloc (.cells #[.int .i64 0, .slice none 0 0, .slice none 0 0] 25)) (.cells #[.slice bao n bc, .int .i64 0, .int .i64 0] 71)
    rw [show (w.alloc (.cells #[.int .i64 0, .slice none 0 0, .slice none 0 0] 25)).heap.size = w.heap.size + 1 by simp] at hr1
    have HI1 : Hid (DqI w ((w.alloc (.cells #[.int .i64 0, .slice none 0 0, .slice none 0 0] 25)).alloc (.cells #[.slice bao n bc, .int .i64 0, .int .i64 0] 71)) (.slice bao n bc) xs (.ok xs)) := ⟨⟨0, by simp, Nat.zero_le _, hr1⟩, hx.kept hk1 (fun _ _ f => f), hz1, hk1⟩
    clear hk0 hz0 hk1 hz1 hr1 hx hn hb hc hvl hlong
    go_enter Try.func18, Try.ntmps18
    go_upto_region 4 with fail
    generalize (w.alloc (.cells #[.int .i64 0, .slice none 0 0, .slice none 0 0] 25)).alloc (.cells #[.slice bao n bc, .int .i64 0, .int .i64 0] 71) = w1 at *
    obtain ⟨gz, hgz⟩ : ∃ g, g = w.heap.size := ⟨_, rfl⟩
    rw [← hgz]
    have HGZ := hid_of hgz
    -- the tag
    have hG := get_n (gz + 1) (.slice bao n bc) xs (.ok xs) w1 (by rw [hgz]; exact HI1.out.rs) HI1.out.isb HB.out
    obtain ⟨t, ht⟩ : ∃ t, t = (stN (.ok xs)).1 := ⟨_, rfl⟩
    obtain ⟨s1, hs1⟩ : ∃ s, s = (stN (.ok xs)).2 := ⟨_, rfl⟩
    unfold GtN at hG
    rw [← ht, ← hs1] at hG
    have HG1 := hid_of hG
    have HT1 : Hid ((t, s1) = stN (.ok xs)) := by unfold Hid; rw [ht, hs1]
    have HO1 : Hid (okS s1) := by unfold Hid; rw [hs1]; exact (stN_ok (s := .ok xs) HB.out).1
    clear hG ht hs1 hgz
    go_wp2_with fail
    refine HG1.out.mono ?_
    rintro e w2 ⟨⟨kk, bo, bn, bcc, rfl⟩, hrs, hk2⟩
    have hi2 := HI1.out.read (by rw [← HGZ.out]; exact hrs) (by rw [← HGZ.out]; exact hk2) HVL.out
    have hkT : Kept (fun _ => False) w2 (w2.alloc (.cells #[.int .i64 kk, .int .i64 t, .slice bo bn bcc] 63)) := (Kept.refl _ _).alloc _
    have HI2 := hid_of (hi2.step hkT (fun _ _ f => f) HVL.out)
    have HBT := hid_of (heap_alloc_new w2 (.cells #[.int .i64 kk, .int .i64 t, .slice bo bn bcc] 63))
    clear hrs hk2 hi2 hkT HG1 HI1
    go_upto_region 5 with fail
    generalize w2.alloc (.cells #[.int .i64 kk, .int .i64 t, .slice bo bn bcc] 63) = w2b at *
    generalize w2.heap.size = gt at *
    obtain ⟨q2, hq2⟩ := HI2.out.rs.blk
    rw [← HGZ.out] at hq2
    have c2 := cell_block _ (gz + 1) 2 _ _ _ hq2
    have y1 := cell_block _ gt 1 _ _ _ HBT.out
    obtain ⟨f1, hf1⟩ : ∃ f, f = erS s1 := ⟨_, rfl⟩
    rw [← hf1] at c2
    have HF1 := hid_of hf1
    clear hq2 hf1
    by_cases he1 : f1 = 0
    · subst he1
      by_cases ht2 : t = 2
      · subst ht2
        go_upto_region 7 with fail
        clear c2 y1 HBT
        have hG := get_n (gz + 1) (.slice bao n bc) xs s1 w2b (by rw [HGZ.out]; exact HI2.out.rs) HI2.out.isb HB.out
        obtain ⟨mem, hmem⟩ : ∃ t, t = (stN s1).1 := ⟨_, rfl⟩
        obtain ⟨s2, hs2⟩ : ∃ z, z = (stN s1).2 := ⟨_, rfl⟩
        unfold GtN at hG
        rw [← hmem, ← hs2] at hG
        have HGn := hid_of hG
        have HT2 : Hid ((mem, s2) = stN s1) := by unfold Hid; rw [hmem, hs2]
        have HO2 : Hid (okS s2) := by unfold Hid; rw [hs2]; exact (stN_ok HO1.out).1
        have hm0 := (stN_ok HO1.out).2.1
        have hm1 := (stN_ok HO1.out).2.2
        rw [← hmem] at hm0 hm1
        clear hG hmem hs2
        go_wp2_with fail
        refine HGn.out.mono ?_
        rintro e w3 ⟨⟨kk3, bo3, bn3, bc3, rfl⟩, hrs, hkn⟩
        have hfi : ∀ W : World, (Instr.field 63 (.agg #[.int .i64 kk3, .int .i64 mem, .slice bo3 bn3 bc3]) 1).run Try.prog W = .ok (.int .i64 mem) W := fun W => field63_1 _ _ _ W
        have hi3 := (HI2.out.read (by rw [← HGZ.out]; exact hrs) (by rw [← HGZ.out]; exact hkn) HVL.out)
        have hkP : Kept (fun _ => False) w3 (w3.alloc (.cells #[.int .i64 mem, .slice none 0 0, .slice none 0 0] 25)) := (Kept.refl _ _).alloc _
        have HI3 := hid_of (hi3.step hkP (fun _ _ f => f) HVL.out)
        have HBP := hid_of (heap_alloc_new w3 (.cells #[.int .i64 mem, .slice none 0 0, .slice none 0 0] 25))
        have HOF : Hid (w.heap.size + 1 < w3.heap.size) := by
          have h1 := hi3.rs.blk
          obtain ⟨qq, h1⟩ := h1
          exact (Array.getElem?_eq_some_iff.1 h1).1
        clear hrs hkn hi3 hkP HGn HI2
        go_upto_region 8 with fail
        clear hfi
        generalize w3.alloc (.cells #[.int .i64 mem, .slice none 0 0, .slice none 0 0] 25) = w3b at *
        generalize w3.heap.size = gp at *
        have hG := get_b (gz + 1) (.slice bao n bc) xs s2 w3b (by rw [HGZ.out]; exact HI3.out.rs) HI3.out.isb HB.out (by rw [← HN.out]; exact HC.out)
        obtain ⟨d, hd⟩ : ∃ t, t = (stB s2).1 := ⟨_, rfl⟩
        obtain ⟨s3, hs3⟩ : ∃ z, z = (stB s2).2 := ⟨_, rfl⟩
        unfold GtB at hG
        rw [← hd, ← hs3] at hG
        have HGn := hid_of hG
        have HT3 : Hid ((d, s3) = stB s2) := by unfold Hid; rw [hd, hs3]
        have HO3 : Hid (okS s3) := by unfold Hid; rw [hs3]; exact (stB_ok HO2.out).1
        have HDO : Hid (BytesOk d) := by unfold Hid; rw [hd]; exact (stB_ok HO2.out).2
        clear hG hd hs3
        go_wp2_with fail
        refine HGn.out.mono ?_
        rintro e w4 ⟨⟨kk4, nn4, dv, rfl, hdv, hdb⟩, hrs, hkn⟩
        obtain ⟨dao, dc, hdsh⟩ := hdv.shape
        obtain ⟨nd, hnd⟩ : ∃ n, n = d.length := ⟨_, rfl⟩
        rw [← hnd] at hdsh
        subst hdsh
        have hfi : ∀ W : World, (Instr.field 63 (.agg #[.int .i64 kk4, .int .i64 nn4, .slice dao nd dc]) 2).run Try.prog W = .ok (.slice dao nd dc) W := fun W => field63_2 _ _ _ _ _ W
        have hi4 := (HI3.out.read (by rw [← HGZ.out]; exact hrs) (by rw [← HGZ.out]; exact hkn) HVL.out)
        have hbp4 := box_kept hkn HBP.out (by have := HOF.out; have := HGZ.out; omega)
        have p1 := cell_block _ gp 1 _ _ _ hbp4
        have pf := frozen_block _ gp 1 _ _ hbp4
        have hks := kept_set w4 gp 1 (.slice dao nd dc)
        have hbp5 : (w4.setCell ⟨gp, 1, none⟩ (.slice dao nd dc)).heap[gp]? = some (.cells #[.int .i64 mem, .slice dao nd dc, .slice none 0 0] 25 (0, 0)) := set_block _ _ 1 _ _ _ hbp4 _
        have hgpl : gp < w3b.heap.size := (Array.getElem?_eq_some_iff.1 HBP.out).1
        have HD5 := hid_of (hdv.kept hks (fun b hb e => by have := (hdb b hb).1; omega))
        have HDB5 : Hid (∀ b, (Value.slice dao nd dc).ownBlock = some b → gp < b ∧ b < (w4.setCell ⟨gp, 1, none⟩ (.slice dao nd dc)).heap.size) := fun b hb => ⟨by have := (hdb b hb).1; omega, Nat.lt_of_lt_of_le (hdb b hb).2 hks.size⟩
        have HI5 := hid_of (hi4.step hks (fun i hi e => by have := HOF.out; omega) HVL.out)
        have HBP5 := hid_of hbp5
        clear hdv hdb hrs hkn hnd hi4 hbp4 hks hbp5 hgpl HGn HI3 HBP
        go_upto_region 9 with fail
        clear p1 pf hfi
        generalize w4.setCell ⟨gp, 1, none⟩ (.slice dao nd dc) = w5 at *
        have hG := get_n (gz + 1) (.slice bao n bc) xs s3 w5 (by rw [HGZ.out]; exact HI5.out.rs) HI5.out.isb HB.out
        obtain ⟨nn0, hnq⟩ : ∃ t, t = (stN s3).1 := ⟨_, rfl⟩
        obtain ⟨s4, hs4⟩ : ∃ z, z = (stN s3).2 := ⟨_, rfl⟩
        unfold GtN at hG
        rw [← hnq, ← hs4] at hG
        have HGn := hid_of hG
        have HT4 : Hid ((nn0, s4) = stN s3) := by unfold Hid; rw [hnq, hs4]
        have HO4 : Hid (okS s4) := by unfold Hid; rw [hs4]; exact (stN_ok HO3.out).1
        have hnn0 := (stN_ok HO3.out).2.1
        have hnn1 := (stN_ok HO3.out).2.2
        rw [← hnq] at hnn0 hnn1
        clear hG hs4 hnq
        go_wp2_with fail
        refine HGn.out.mono ?_
        rintro e w6 ⟨⟨kk6, bo6, bn6, bc6, rfl⟩, hrs, hkn⟩
        have hfi : ∀ W : World, (Instr.field 63 (.agg #[.int .i64 kk6, .int .i64 nn0, .slice bo6 bn6 bc6]) 1).run Try.prog W = .ok (.int .i64 nn0) W := fun W => field63_1 _ _ _ W
        have HI4 := hid_of (HI5.out.read (by rw [← HGZ.out]; exact hrs) (by rw [← HGZ.out]; exact hkn) HVL.out)
        have HBP4 := hid_of (box_kept hkn HBP5.out (by have := HOF.out; have := HGZ.out; omega))
        have HD4 := hid_of (HD5.out.kept hkn (fun b hb e => by have := (HDB5.out b hb).1; have := HOF.out; have := HGZ.out; omega))
        have HDB4 : Hid (∀ b, (Value.slice dao nd dc).ownBlock = some b → gp < b ∧ b < w6.heap.size) := fun b hb => ⟨(HDB5.out b hb).1, Nat.lt_of_lt_of_le (HDB5.out b hb).2 hkn.size⟩
        clear hrs hkn HGn HI5 HBP5 HD5 HDB5
        go_upto_region 10 with fail
        clear hfi
        obtain ⟨qq, hqq⟩ := HI4.out.rs.blk
        rw [← HGZ.out] at hqq
        obtain ⟨f4, hf4⟩ : ∃ f, f = erS s4 := ⟨_, rfl⟩
        rw [← hf4] at hqq
        have HQ4 := hid_of hqq
        have c4 := cell_block _ (gz + 1) 2 _ _ _ hqq
        have HF4 := hid_of hf4
        clear hqq hf4
        by_cases he4 : f4 = 0
        · subst he4
          go_upto_region 12 with fail
          clear c4
          obtain ⟨ys0, hs4, hby⟩ := okS_zero HO4.out HF4.out.symm
          have HPR := hid_of (((progD_steps xs HB.out 2 mem nn0 d s1 s2 s3 s4 HT1.out HT2.out HT3.out HT4.out).2 (.inr rfl)).2 ys0 hs4)
          have HI4c := HI4.out
          rw [hs4] at HI4c
          have HBY := hid_of hby
          clear hs4 hby
          by_cases hbig : 64 < nn0
          · have hpe := HPR.out
            rw [if_pos hbig] at hpe
            have hz4 := HI4c.res
            rw [← HGZ.out] at hz4
            have hfin := DecQR.bad (HPE.out _ hpe) HI4c.kept
            rw [← HGZ.out] at hfin
            have HFIN := hid_of hfin
            clear hpe HI4c hfin
            have HXR := hid_of (setRow_heap w6 gz _ #[.int .i64 0, .slice none 0 0, .slice none 0 0] 25 (0, 0) hz4)
            go_wp2_with (refine wpList_store_row rfl 25 _ _ rfl gz #[.int .i64 0, .slice none 0 0, .slice none 0 0] rfl rfl 25 _ hz4 size25 rfl (three_one _ _ _ rfl rfl rfl) ?_)
            refine bodyPost_ret (v := .tuple #[.agg #[.int .i64 0, .slice none 0 0, .slice none 0 0], .int .i64 121]) ?_ rfl HFIN.out
            exact results_rowtmp (fn := Try.f18) (p := 2) (u := 3) (by rfl) _ _ gz 25 _ (0, 0) _ (by rfl) HXR.out Try.underlying25 rfl size25
          · obtain ⟨nn, rfl⟩ := Int.eq_ofNat_of_zero_le hnn0
            have hPD := HPR.out
            rw [if_neg hbig, Int.toNat_natCast] at hPD
            have HPD2 := hid_of hPD
            have hnn : nn ≤ 64 := by omega
            have hnI : ¬ ((64 : Int) < (nn : Int)) := by omega
            have HXS := hid_of hnn
            have HP0 : Hid (PrQ w w6 (.slice bao n bc) xs w6.heap.size gp mem (.slice dao nd dc) d (.slice none 0 0) [] [] nn ys0 ys0) := ⟨(joinF_nil _).symm, HI4c, HBP4.out, OwnF.nil _ _, HD4.out, HDB4.out, HBY.out, fun F hF => by simp at hF, ⟨HOF.out, (Array.getElem?_eq_some_iff.1 HBP4.out).1, Nat.le_refl _⟩⟩
            clear HPR hPD hbig hnn0 hnn1 HI4c HI4 HBP4 HD4 HDB4 HBY
            obtain ⟨N0, hN0⟩ : ∃ N, N = w6.heap.size := ⟨_, rfl⟩
            rw [← hN0] at HP0
            clear hN0
            go_wp2_with fail
            go_loopw [8] (fun i wr => ∃ (k : Nat) (fv : Value) (fs : List FN) (cvs : List Value) (ys : List Int), k ≤ nn ∧ i = .int .i64 (k : Int) ∧ fs.length = k ∧ Hid (PrQ w wr (.slice bao n bc) xs N0 gp mem (.slice dao nd dc) d fv fs cvs nn ys0 ys)) (fun i _ => nn - (intOf i).toNat)
            case atStart => exact ⟨0, _, [], [], ys0, by omega, rfl, rfl, HP0⟩
            case round =>
              obtain ⟨k, fv, fs, cvs, ys, hk, rfl, hfl, HPQ⟩ := hrel
              have HFL := hid_of hfl
              clear hfl HP0
              obtain ⟨fo, fc, hfv⟩ := ownsRow_shape HPQ.out.own.row
              rw [HFL.out] at hfv
              subst hfv
              by_cases hlt : k < nn
              · have hltI : (k : Int) < (nn : Int) := by omega
                have HNK : Hid (fs.length < nn) := by unfold Hid; rw [HFL.out]; exact hlt
                have hG := get_n (gz + 1) (.slice bao n bc) xs (.ok ys) wr (by rw [HGZ.out]; exact HPQ.out.di.rs) HPQ.out.di.isb HB.out
                obtain ⟨fa, hfa⟩ : ∃ t, t = (stN (.ok ys)).1 := ⟨_, rfl⟩
                obtain ⟨z1, hz1⟩ : ∃ z, z = (stN (.ok ys)).2 := ⟨_, rfl⟩
                unfold GtN at hG
                rw [← hfa, ← hz1] at hG
                have HGn := hid_of hG
                have HTa : Hid ((fa, z1) = stN (.ok ys)) := by unfold Hid; rw [hfa, hz1]
                have HZ1 : Hid (okS z1) := by unfold Hid; rw [hz1]; exact (stN_ok (s := .ok ys) HPQ.out.ok).1
                have ha0 := (stN_ok (s := .ok ys) HPQ.out.ok).2
                rw [← hfa] at ha0
                clear hG hfa hz1
                go_wp2_with fail
                refine HGn.out.mono ?_
                rintro e v1 ⟨⟨k1, b1, n1, c1, rfl⟩, hrs, hkn⟩
                have hfi : ∀ W : World, (Instr.field 63 (.agg #[.int .i64 k1, .int .i64 fa, .slice b1 n1 c1]) 1).run Try.prog W = .ok (.int .i64 fa) W := fun W => field63_1 _ _ _ W
                have hj1 := (HPQ.out.di.read (by rw [← HGZ.out]; exact hrs) (by rw [← HGZ.out]; exact hkn) HVL.out)
                have hkX : Kept (fun _ => False) v1 (v1.alloc (.cells #[.int .i64 fa, .int .i64 0, .int .i64 0, .slice none 0 0] 50)) := (Kept.refl _ _).alloc _
                have HJ1 := hid_of (hj1.step hkX (fun _ _ f => f) HVL.out)
                have HBX := hid_of (heap_alloc_new v1 (.cells #[.int .i64 fa, .int .i64 0, .int .i64 0, .slice none 0 0] 50))
                have HKX : Hid (Kept (fun q => q = w.heap.size + 1) wr (v1.alloc (.cells #[.int .i64 fa, .int .i64 0, .int .i64 0, .slice none 0 0] 50))) := by rw [← HGZ.out]; exact hkn.trans (hkX.mono (fun _ _ f => f.elim))
                have HGX : Hid (wr.heap.size ≤ v1.heap.size) := hkn.size
                clear hrs hkn hj1 hkX HGn
                go_upto_region 18 with fail
                clear hfi
                generalize v1.alloc (.cells #[.int .i64 fa, .int .i64 0, .int .i64 0, .slice none 0 0] 50) = v1b at *
                generalize v1.heap.size = gx at *
                have HGW : Hid (gz + 1 < wr.heap.size) := by
                  obtain ⟨qk, hqk⟩ := HPQ.out.di.rs.blk
                  have := (Array.getElem?_eq_some_iff.1 hqk).1
                  have := HGZ.out
                  unfold Hid
                  omega
                have hG := get_n (gz + 1) (.slice bao n bc) xs z1 v1b (by rw [HGZ.out]; exact HJ1.out.rs) HJ1.out.isb HB.out
                obtain ⟨fl, hfl⟩ : ∃ t, t = (stN z1).1 := ⟨_, rfl⟩
                obtain ⟨z2, hz2⟩ : ∃ z, z = (stN z1).2 := ⟨_, rfl⟩
                unfold GtN at hG
                rw [← hfl, ← hz2] at hG
                have HGn := hid_of hG
                have HTl : Hid ((fl, z2) = stN z1) := by unfold Hid; rw [hfl, hz2]
                have HZ2 : Hid (okS z2) := by unfold Hid; rw [hz2]; exact (stN_ok HZ1.out).1
                have hfl0 := (stN_ok HZ1.out).2
                rw [← hfl] at hfl0
                clear hG hfl hz2
                go_wp2_with fail
                refine HGn.out.mono ?_
                rintro e v2 ⟨⟨k1, b1, n1, c1, rfl⟩, hrs, hkn⟩
                have hfi : ∀ W : World, (Instr.field 63 (.agg #[.int .i64 k1, .int .i64 fl, .slice b1 n1 c1]) 1).run Try.prog W = .ok (.int .i64 fl) W := fun W => field63_1 _ _ _ W
                have hj1 := (HJ1.out.read (by rw [← HGZ.out]; exact hrs) (by rw [← HGZ.out]; exact hkn) HVL.out)
                have hbx := box_kept hkn HBX.out (by have := HGX.out; have := HGW.out; omega)
                have x1 := cell_block _ gx 1 _ _ _ hbx
                have xf := frozen_block _ gx 1 _ _ hbx
                have hks := kept_set v2 gx 1 (.int .i64 fl)
                have HBX2 : Hid ((v2.setCell ⟨gx, 1, none⟩ (.int .i64 fl)).heap[gx]? = some (.cells #[.int .i64 fa, .int .i64 fl, .int .i64 0, .slice none 0 0] 50 (0, 0))) := set_block _ _ 1 _ _ _ hbx _
                have HJ2 := hid_of (hj1.step hks (fun i hi e => by have := HGX.out; have := HGW.out; have := HGZ.out; omega) HVL.out)
                have HKX2 : Hid (Kept (fun q => q = w.heap.size + 1) wr (v2.setCell ⟨gx, 1, none⟩ (.int .i64 fl))) := (HKX.out.trans (by rw [← HGZ.out]; exact hkn)).step hks (fun i hi e => by have := HGX.out; omega)
                clear hrs hkn hj1 hbx hks HGn HBX HJ1 HKX
                go_upto_region 19 with fail
                clear x1 xf hfi
                generalize v2.setCell ⟨gx, 1, none⟩ (.int .i64 fl) = v2b at *
                have hG := get_n (gz + 1) (.slice bao n bc) xs z2 v2b (by rw [HGZ.out]; exact HJ2.out.rs) HJ2.out.isb HB.out
                obtain ⟨fr, hfr⟩ : ∃ t, t = (stN z2).1 := ⟨_, rfl⟩
                obtain ⟨z3, hz3⟩ : ∃ z, z = (stN z2).2 := ⟨_, rfl⟩
                unfold GtN at hG
                rw [← hfr, ← hz3] at hG
                have HGn := hid_of hG
                have HTr : Hid ((fr, z3) = stN z2) := by unfold Hid; rw [hfr, hz3]
                have HZ3 : Hid (okS z3) := by unfold Hid; rw [hz3]; exact (stN_ok HZ2.out).1
                have hfr0 := (stN_ok HZ2.out).2
                rw [← hfr] at hfr0
                clear hG hfr hz3
                go_wp2_with fail
                refine HGn.out.mono ?_
                rintro e v3 ⟨⟨k1, b1, n1, c1, rfl⟩, hrs, hkn⟩
                have hfi : ∀ W : World, (Instr.field 63 (.agg #[.int .i64 k1, .int .i64 fr, .slice b1 n1 c1]) 1).run Try.prog W = .ok (.int .i64 fr) W := fun W => field63_1 _ _ _ W
                have hj1 := (HJ2.out.read (by rw [← HGZ.out]; exact hrs) (by rw [← HGZ.out]; exact hkn) HVL.out)
                have hbx := box_kept hkn HBX2.out (by have := HGX.out; have := HGW.out; omega)
                have x1 := cell_block _ gx 2 _ _ _ hbx
                have xf := frozen_block _ gx 2 _ _ hbx
                have hks := kept_set v3 gx 2 (.int .i64 fr)
                have HBX3 : Hid ((v3.setCell ⟨gx, 2, none⟩ (.int .i64 fr)).heap[gx]? = some (.cells #[.int .i64 fa, .int .i64 fl, .int .i64 fr, .slice none 0 0] 50 (0, 0))) := set_block _ _ 2 _ _ _ hbx _
                have HJ3 := hid_of (hj1.step hks (fun i hi e => by have := HGX.out; have := HGW.out; have := HGZ.out; omega) HVL.out)
                have HKX3 : Hid (Kept (fun q => q = w.heap.size + 1) wr (v3.setCell ⟨gx, 2, none⟩ (.int .i64 fr))) := (HKX2.out.trans (by rw [← HGZ.out]; exact hkn)).step hks (fun i hi e => by have := HGX.out; omega)
                clear hrs hkn hj1 hbx hks HGn HBX2 HJ2 HKX2
                go_upto_region 20 with fail
                clear x1 xf hfi
                generalize v3.setCell ⟨gx, 2, none⟩ (.int .i64 fr) = v3b at *
                have hG := get_b (gz + 1) (.slice bao n bc) xs z3 v3b (by rw [HGZ.out]; exact HJ3.out.rs) HJ3.out.isb HB.out (by rw [← HN.out]; exact HC.out)
                obtain ⟨cb, hcb⟩ : ∃ t, t = (stB z3).1 := ⟨_, rfl⟩
                obtain ⟨z4, hz4⟩ : ∃ z, z = (stB z3).2 := ⟨_, rfl⟩
                unfold GtB at hG
                rw [← hcb, ← hz4] at hG
                have HGn := hid_of hG
                have HTc : Hid ((cb, z4) = stB z3) := by unfold Hid; rw [hcb, hz4]
                have HZ4 : Hid (okS z4) := by unfold Hid; rw [hz4]; exact (stB_ok HZ3.out).1
                have HCO : Hid (BytesOk cb) := by unfold Hid; rw [hcb]; exact (stB_ok HZ3.out).2
                clear hG hcb hz4
                go_wp2_with fail
                refine HGn.out.mono ?_
                rintro e v4 ⟨⟨k4, n4, cbv, rfl, hcv, hcbb⟩, hrs, hkn⟩
                obtain ⟨cbo, cbc, hcsh⟩ := hcv.shape
                obtain ⟨ncb, hncb⟩ : ∃ n, n = cb.length := ⟨_, rfl⟩
                rw [← hncb] at hcsh
                subst hcsh
                have hfi : ∀ W : World, (Instr.field 63 (.agg #[.int .i64 k4, .int .i64 n4, .slice cbo ncb cbc]) 2).run Try.prog W = .ok (.slice cbo ncb cbc) W := fun W => field63_2 _ _ _ _ _ W
                have HJ4 := hid_of (HJ3.out.read (by rw [← HGZ.out]; exact hrs) (by rw [← HGZ.out]; exact hkn) HVL.out)
                have HBX4 := hid_of (box_kept hkn HBX3.out (by have := HGX.out; have := HGW.out; omega))
                have HKX4 : Hid (Kept (fun q => q = w.heap.size + 1) wr v4) := HKX3.out.trans (by rw [← HGZ.out]; exact hkn)
                have HCV := hid_of hcv
                have HCB : Hid (∀ b, (Value.slice cbo ncb cbc).ownBlock = some b → b < v4.heap.size) := fun b hb => (hcbb b hb).2
                have HNCB := hid_of hncb
                clear hrs hkn hcv hcbb hncb HGn HJ3 HBX3 HKX3
                go_upto_region 21 with fail
                clear hfi
                obtain ⟨qq, hqq⟩ := HJ4.out.rs.blk
                rw [← HGZ.out] at hqq
                obtain ⟨f4, hf4⟩ : ∃ f, f = erS z4 := ⟨_, rfl⟩
                rw [← hf4] at hqq
                have HQ4 := hid_of hqq
                have c4 := cell_block _ (gz + 1) 2 _ _ _ hqq
                have HF4 := hid_of hf4
                clear hqq hf4
                have HFS := hid_of (fnD_steps ys HPQ.out.ok fa fl fr cb z1 z2 z3 z4 HTa.out HTl.out HTr.out HTc.out)
                by_cases he4 : f4 = 0
                · subst he4
                  obtain ⟨ys1, hz4, hby1⟩ := okS_zero HZ4.out HF4.out.symm
                  have HFD := hid_of (HFS.out.2 ys1 hz4)
                  have HJ5 : Hid (DqI w v4 (.slice bao n bc) xs (.ok ys1)) := by unfold Hid; rw [← hz4]; exact HJ4.out
                  have hDC := decode_ref cbo cbc cb v4 (by rw [← HNCB.out]; exact HCV.out) HCO.out (by rw [← HNCB.out]; exact HCB.out)
                  rw [← HNCB.out] at hDC
                  have HDC := hid_of hDC
                  clear hz4 hby1 hDC
                  go_wp2_with fail
                  clear c4
                  refine HDC.out.mono ?_
                  rintro e v5 ⟨hk5, he5⟩
                  have HBX5 := hid_of (box_kept hk5 HBX4.out (fun f => f))
                  have HKX5 := hid_of (HKX4.out.trans (hk5.mono (fun _ _ f => f.elim)))
                  have HJ6 := hid_of (HJ5.out.step hk5 (fun _ _ f => f) HVL.out)
                  have HS45 : Hid (wr.heap.size ≤ v4.heap.size ∧ gx < v4.heap.size) := ⟨HKX4.out.size, (Array.getElem?_eq_some_iff.1 HBX4.out).1⟩
                  clear hk5 HDC HJ4 HJ5 HBX4 HKX4 HQ4 HF4
                  cases hdc : decD cb with
                  | error flt =>
                    have hpe : progD xs = .error flt := by
                      have hfd := HFD.out
                      rw [hdc] at hfd
                      rw [HPD2.out, HPQ.out.pl, HFL.out, show nn - k = (nn - k - 1) + 1 by omega, joinF_bad hfd]
                    have hfl := decD_fault HCO.out hdc
                    rw [hdc] at he5
                    subst he5
                    have hb1 : (flt == 0) = false := by simp; exact hfl
                    have hb2 : (flt != 0) = true := by simp; exact hfl
                    have hz5 := HJ6.out.res
                    rw [← HGZ.out] at hz5
                    have hfin := DecQR.bad (HPE.out _ hpe) HJ6.out.kept
                    rw [← HGZ.out] at hfin
                    have HFIN := hid_of hfin
                    clear hpe hfin hfl hdc
                    have HXR := hid_of (setRow_heap v5 gz _ #[.int .i64 0, .slice none 0 0, .slice none 0 0] 25 (0, 0) hz5)
                    go_wp2_with (refine wpList_store_row rfl 25 _ _ rfl gz #[.int .i64 0, .slice none 0 0, .slice none 0 0] rfl rfl 25 _ hz5 size25 rfl (three_one _ _ _ rfl rfl rfl) ?_)
                    refine bodyPost_ret (v := .tuple #[.agg #[.int .i64 0, .slice none 0 0, .slice none 0 0], .int .i64 flt]) ?_ rfl HFIN.out
                    exact results_rowtmp (fn := Try.f18) (p := 2) (u := 3) (by rfl) _ _ gz 25 _ (0, 0) _ (by rfl) HXR.out Try.underlying25 rfl size25
                  | ok cs =>
                    have hfd := HFD.out
                    rw [hdc] at hfd
                    dsimp only at hfd
                    have hylen := decD_len hdc
                    rw [hdc] at he5
                    obtain ⟨⟨cv, rfl, hcv⟩, hyok⟩ := he5
                    obtain ⟨co, cc, hcs⟩ := ownsRow_shape hcv
                    obtain ⟨nc, hnc⟩ : ∃ n, n = cs.length := ⟨_, rfl⟩
                    rw [← hnc] at hcs
                    subst hcs
                    have x3 := cell_block _ gx 3 _ _ _ HBX5.out
                    have xf := frozen_block _ gx 3 _ _ HBX5.out
                    have hks := kept_set v5 gx 3 (.slice co nc cc)
                    have hbx6 : (v5.setCell ⟨gx, 3, none⟩ (.slice co nc cc)).heap[gx]? = some (.cells #[.int .i64 fa, .int .i64 fl, .int .i64 fr, .slice co nc cc] 50 (0, 0)) := set_block _ _ 3 _ _ _ HBX5.out _
                    have hkw6 : Kept (fun q => q = w.heap.size + 1) wr (v5.setCell ⟨gx, 3, none⟩ (.slice co nc cc)) := HKX5.out.step hks (fun i hi e => by have := HGX.out; omega)
                    have hcv6 := own_mono (hks.ownsRow hcv (fun q hq e => by have := (hcv.lt q hq).1; have := HS45.out.2; omega)) HS45.out.1
                    have hdi6 := HJ6.out.step hks (fun i hi e => by have := HGX.out; have := HGW.out; have := HGZ.out; omega) HVL.out
                    obtain ⟨fv', w7, hr7, hb7, hP7⟩ := HPQ.out.next HVL.out hfd HNK.out HXS.out hkw6 hdi6 hcv6 ⟨⟨by show (-9223372036854775808 : Int) ≤ fa; omega, by show fa < 9223372036854775808; omega⟩, ⟨by show (-9223372036854775808 : Int) ≤ fl; omega, by show fl < 9223372036854775808; omega⟩, ⟨by show (-9223372036854775808 : Int) ≤ fr; omega, by show fr < 9223372036854775808; omega⟩, hyok, by show cs.length * 16 ≤ _; omega⟩ rfl
                    obtain ⟨fo', fc', hfv'⟩ := ownsRow_shape hP7.own.row
                    rw [show (fs ++ [(⟨fa, fl, fr, cs⟩ : FN)]).length = k + 1 by rw [List.length_append, HFL.out]; rfl] at hfv'
                    subst hfv'
                    have HR7 := hid_of hr7
                    have HP7 := hid_of hP7
                    have HB7 := hid_of hb7
                    have hgp6 := box_kept hkw6 HPQ.out.blk (by have := HPQ.out.off; omega)
                    have g2 := cell_block _ gp 2 _ _ _ hgp6
                    have HBX6 := hid_of hbx6
                    clear hfd hylen hcv hyok hnc hks hbx6 hkw6 hcv6 hdi6 hr7 hP7 hb7 hgp6 hdc HFD HFS
                    go_upto_region 27 with fail
                    clear x3 xf
                    generalize v5.setCell ⟨gx, 3, none⟩ (.slice co nc cc) = v6 at *
                    have z0 := cell_block _ gx 0 _ _ _ HBX6.out
                    have z1x := cell_block _ gx 1 _ _ _ HBX6.out
                    have z2x := cell_block _ gx 2 _ _ _ HBX6.out
                    have z3x := cell_block _ gx 3 _ _ _ HBX6.out
                    have c7 := cell_block _ gp 2 _ _ _ HB7.out
                    have cf7 := frozen_block _ gp 2 _ _ HB7.out
                    go_wp2_with (at_builtin; refine wp_app2 rfl (.tmp 100) (.tmp 102) 23 23 rfl _ _ rfl rfl _ w7 HR7.out ?_)
                    go_roundw
                    case rel => exact ⟨k + 1, _, fs ++ [⟨fa, fl, fr, cs⟩], cvs ++ [.slice co nc cc], ys1, by omega, by go_num, (by rw [List.length_append, HFL.out]; rfl), HP7⟩
                    case measure => simp [intOf]; omega
                · have HFE : Hid (f4 ≠ 0) := he4
                  have hpe : progD xs = .error (erS z4) := by
                    rw [HPD2.out, HPQ.out.pl, HFL.out, show nn - k = (nn - k - 1) + 1 by omega, joinF_bad (HFS.out.1 (by rw [← HF4.out]; exact he4))]
                  rw [← HF4.out] at hpe
                  have hz4 := HJ4.out.res
                  rw [← HGZ.out] at hz4
                  have hfin := DecQR.bad (wr := v4.drew) (HPE.out _ hpe) (HJ4.out.kept.drew)
                  rw [← HGZ.out] at hfin
                  have HFIN := hid_of hfin
                  have HXR := hid_of (setRow_heap v4.drew gz _ #[.int .i64 0, .slice none 0 0, .slice none 0 0] 25 (0, 0) hz4)
                  have hb1 : (f4 == 0) = false := by simp; exact HFE.out
                  have hb2 : (f4 != 0) = true := by simp; exact HFE.out
                  clear hpe hfin
                  go_upto_region 22 with fail
                  clear c4
                  obtain ⟨ff, hff⟩ : ∃ f, f = f4 := ⟨_, rfl⟩
                  rw [← hff] at HFIN HQ4
                  have HQB : Hid (v4.drew.heap[gz + 1]? = some (.cells #[.slice bao n bc, .int .i64 (qq : Int), .int .i64 ff] 71 (0, 0))) := HQ4.out
                  clear hff
                  refine wp_region_held_drew (S := fun w' => w'.heap[gz + 1]? = some (.cells #[.slice bao n bc, .int .i64 (qq : Int), .int .i64 ff] 71 (0, 0))) (by kernel_rfl) HQB.out (fun hHeld => ?_)
                  refine wpAnyH_take (i := 0) (v := ?_) rfl (by kernel_rfl) (by kernel_rfl) (by kernel_rfl) (fun _ _ _ h => h) (Or.inl ⟨by rfl, ?_⟩) (by assumption) ?_
                  rotate_left 1
                  · intro w hSw
                    go_simp
                    try with_reducible rfl
                  try simp only [Act.put, List.getElem_toArray, List.getElem_cons_zero, List.getElem_cons_succ, List.setIfInBounds_toArray, List.set_cons_zero, List.set_cons_succ]
                  refine wpAnyH_take (i := 1) (v := ?_) rfl (by kernel_rfl) (by kernel_rfl) (by kernel_rfl) (fun _ _ _ h => h) (Or.inl ⟨by rfl, ?_⟩) (by assumption) ?_
                  rotate_left 1
                  · intro w hSw
                    go_simp
                    try with_reducible rfl
                  try simp only [Act.put, List.getElem_toArray, List.getElem_cons_zero, List.getElem_cons_succ, List.setIfInBounds_toArray, List.set_cons_zero, List.set_cons_succ]
                  refine wpAnyH_take (i := 2) (v := ?_) rfl (by kernel_rfl) (by kernel_rfl) (by kernel_rfl) (fun _ _ _ h => h) (Or.inl ⟨by rfl, ?_⟩) (by assumption) ?_
                  rotate_left 1
                  · intro w hSw
                    go_simp
                    try with_reducible rfl
                  try simp only [Act.put, List.getElem_toArray, List.getElem_cons_zero, List.getElem_cons_succ, List.setIfInBounds_toArray, List.set_cons_zero, List.set_cons_succ]
                  refine wpAnyH_take (i := 3) (v := ?_) rfl (by kernel_rfl) (by kernel_rfl) (by kernel_rfl) (fun _ _ _ h => h) (Or.inl ⟨by rfl, ?_⟩) (by assumption) ?_
                  rotate_left 1
                  · intro w hSw
                    go_simp
                    try with_reducible rfl
                  try simp only [Act.put, List.getElem_toArray, List.getElem_cons_zero, List.getElem_cons_succ, List.setIfInBounds_toArray, List.set_cons_zero, List.set_cons_succ]
                  refine wpAnyH_take (i := 4) (v := ?_) rfl (by kernel_rfl) (by kernel_rfl) (by kernel_rfl) (fun _ _ _ h => h) (Or.inl ⟨by rfl, ?_⟩) (by assumption) ?_
                  rotate_left 1
                  · intro w hSw
                    have q2 := cell_block _ (gz + 1) 2 _ _ _ hSw
                    go_simp
                    try with_reducible rfl
                  try simp only [Act.put, List.getElem_toArray, List.getElem_cons_zero, List.getElem_cons_succ, List.setIfInBounds_toArray, List.set_cons_zero, List.set_cons_succ]
                  refine wpAnyH_ready (rs := [5]) (by kernel_rfl) (by simp) ?_
                  refine AllReadyH.cons rfl (fun K hK => ?_) AllReadyH.nil
                  refine stp_store_row rfl 25 _ _ rfl gz #[.int .i64 0, .slice none 0 0, .slice none 0 0] rfl rfl 25 _ hz4 size25 rfl (three_one _ _ _ rfl rfl rfl) ?_
                  refine hK.out _ _ (box_kept (kept_row _ _ _) HQB.out (by omega)) (fun hHeld => ?_)
                  clear hK K
                  try simp only [Act.put, List.getElem_toArray, List.getElem_cons_zero, List.getElem_cons_succ, List.setIfInBounds_toArray, List.set_cons_zero, List.set_cons_succ]
                  refine wpAnyH_take (i := 6) (v := ?_) rfl (by kernel_rfl) (by kernel_rfl) (by kernel_rfl) (fun _ _ _ h => h) (Or.inl ⟨by rfl, ?_⟩) (by assumption) ?_
                  rotate_left 1
                  · intro w hSw
                    go_simp
                    try with_reducible rfl
                  try simp only [Act.put, List.getElem_toArray, List.getElem_cons_zero, List.getElem_cons_succ, List.setIfInBounds_toArray, List.set_cons_zero, List.set_cons_succ]
                  refine wpAnyH_done (by kernel_rfl) ?_ _
                  go_wp2
                  refine bodyPost_ret (v := .tuple #[.agg #[.int .i64 0, .slice none 0 0, .slice none 0 0], .int .i64 ff]) ?_ rfl HFIN.out
                  exact results_rowtmp (fn := Try.f18) (p := 2) (u := 3) (by rfl) _ _ gz 25 _ (0, 0) _ (by rfl) HXR.out Try.underlying25 rfl size25
              · have hnl : ¬ ((k : Int) < (nn : Int)) := by omega
                have hkn : k = nn := by omega
                obtain ⟨qe, he1, he2, hrr⟩ := HPQ.out.di.rs
                have HPX : Hid (progD xs = .ok (⟨mem, d, fs⟩, ys)) := by
                  unfold Hid
                  rw [HPD2.out, HPQ.out.pl, HFL.out, hkn, Nat.sub_self]
                  simp [fnsD, joinF]
                have hqn : qe ≤ n := by rw [HN.out]; exact he2
                have HYL : Hid (ys.length = n - qe) := by unfold Hid; rw [he1, List.length_drop, ← HN.out]
                rw [← HGZ.out] at hrr
                have HLF := hid_of (left_ref (gz + 1) bao n bc qe 0 wr hrr hqn (by omega))
                clear he1 he2 hrr hkn
                go_wp2_with fail
                refine HLF.out.mono ?_
                rintro e v1 ⟨rfl, d1, rfl⟩
                have hkd : Kept (fun _ => False) wr (wr.drewN d1) := kept_drewN (Kept.refl _ _) d1
                have HJ := hid_of (HPQ.out.di.step hkd (fun _ _ f => f) HVL.out)
                have HOWN := hid_of (HPQ.out.own.kept hkd (fun _ _ f => f))
                have HDAT := hid_of (HPQ.out.dat.kept hkd (fun _ _ f => f))
                have HBL := hid_of (box_kept hkd HPQ.out.blk (fun f => f))
                have HALL := hid_of HPQ.out.all
                have HDBB := hid_of HPQ.out.datb
                have HOFF := hid_of HPQ.out.off
                have HSZ := hid_of hkd.size
                clear hkd HLF HPQ
                generalize wr.drewN d1 = v1 at *
                by_cases hend : qe = n
                · have hz5 := HJ.out.res
                  rw [← HGZ.out] at hz5
                  have hsub : (n : Int) - (qe : Int) = 0 := by omega
                  rw [hsub]
                  have hL := HL.out
                  rw [HPX.out] at hL
                  dsimp only at hL
                  rw [if_pos (by rw [HYL.out]; omega)] at hL
                  have hPG : PgIs v1 v1.heap.size (.agg #[.int .i64 mem, .slice dao nd dc, .slice fo k fc]) ⟨mem, d, fs⟩ := ⟨_, _, rfl, HDAT.out, fun b hb => by have := HDBB.out b hb; have := HOFF.out.2.2; have := HSZ.out; omega, HOWN.out.rowF⟩
                  have hOK : (⟨mem, d, fs⟩ : PG).Ok := ⟨⟨by show (-9223372036854775808 : Int) ≤ mem; omega, by show mem < 9223372036854775808; omega⟩, HDO.out, HALL.out, by show fs.length * 48 ≤ _; rw [HFL.out]; omega⟩
                  have HCK := hid_of (rcheck_any _ ⟨mem, d, fs⟩ v1 v1.heap.size hPG (Nat.le_refl _) hOK)
                  have HPG := hid_of hPG
                  have HOK := hid_of hOK
                  have g0 := cell_block _ gp 0 _ _ _ HBL.out
                  have g1 := cell_block _ gp 1 _ _ _ HBL.out
                  have g2 := cell_block _ gp 2 _ _ _ HBL.out
                  have HL2 := hid_of hL
                  clear hL hPG hOK hend hsub hqn
                  go_wp2_with fail
                  refine HCK.out.mono ?_
                  rintro e v2 ⟨rfl, hk2⟩
                  have HK2 := hid_of (HJ.out.kept.trans hk2)
                  have hz6 := box_kept hk2 hz5 (fun f => f)
                  have hbl2 := box_kept hk2 HBL.out (fun f => f)
                  have HPG2 := hid_of ((HPG.out.kept hk2 (fun _ _ f => f)).up hk2.size)
                  have HOWN2 := hid_of (HOWN.out.kept hk2 (fun _ _ f => f))
                  clear hk2 HCK g0 g1 g2 hz5 HBL HPG
                  by_cases hck : checkP ⟨mem, d, fs⟩ = 0
                  · have hL := HL2.out
                    rw [if_pos hck] at hL
                    rw [hck]
                    have hkr := kept_row v2 gz #[.int .i64 mem, .slice dao nd dc, .slice fo k fc]
                    have HXR := hid_of (setRow_heap v2 gz _ #[.int .i64 mem, .slice dao nd dc, .slice fo k fc] 25 (0, 0) hz6)
                    have HFIN : Hid (DecQR xs w (.returned (.tuple #[.agg #[.int .i64 mem, .slice dao nd dc, .slice fo k fc], .int .i64 0])) (v2.setRow gz #[.int .i64 mem, .slice dao nd dc, .slice fo k fc])) := by
                      refine ⟨HK2.out.step hkr (fun i hi e => by have := HGZ.out; omega), ?_⟩
                      rw [hL]
                      refine ⟨⟨_, _, rfl, ?_⟩, HOK.out⟩
                      obtain ⟨dv9, fv9, e9, i1, i2, i3⟩ := HPG2.out
                      cases e9
                      have hsz9 := hkr.size
                      refine ⟨_, _, cvs, rfl, i1.kept hkr (fun b hb e => by have := HDBB.out b hb; have := HOFF.out; have := HGZ.out; omega), fun b hb => ⟨by have := HDBB.out b hb; have := HOFF.out; omega, Nat.lt_of_lt_of_le (i2 b hb) hsz9⟩, ?_⟩
                      exact ((HOWN2.out).box hz6 (by decide) (by decide) hkr).mono (by have := HOFF.out; omega)
                    have y0 := cell_block _ gp 0 _ _ _ hbl2
                    have y1 := cell_block _ gp 1 _ _ _ hbl2
                    have y2 := cell_block _ gp 2 _ _ _ hbl2
                    clear hL hck hkr HPG2 HK2 hbl2
                    go_wp2_with (refine wpList_store_row rfl 25 _ _ rfl gz #[.int .i64 mem, .slice dao nd dc, .slice fo k fc] rfl rfl 25 _ hz6 size25 rfl (three_one _ _ _ rfl rfl rfl) ?_)
                    refine bodyPost_ret (v := .tuple #[.agg #[.int .i64 mem, .slice dao nd dc, .slice fo k fc], .int .i64 0]) ?_ rfl HFIN.out
                    exact results_rowtmp (fn := Try.f18) (p := 2) (u := 3) (by rfl) _ _ gz 25 _ (0, 0) _ (by rfl) HXR.out Try.underlying25 rfl size25
                  · have hL := HL2.out
                    rw [if_neg hck] at hL
                    have hb1 : (checkP ⟨mem, d, fs⟩ == 0) = false := by simp; exact hck
                    have hb2 : (checkP ⟨mem, d, fs⟩ != 0) = true := by simp; exact hck
                    have hfin := DecQR.bad hL HK2.out
                    rw [← HGZ.out] at hfin
                    have HFIN := hid_of hfin
                    clear hL hfin hck HL2
                    generalize checkP ⟨mem, d, fs⟩ = ee at *
                    have HXR := hid_of (setRow_heap v2 gz _ #[.int .i64 0, .slice none 0 0, .slice none 0 0] 25 (0, 0) hz6)
                    go_wp2_with (refine wpList_store_row rfl 25 _ _ rfl gz #[.int .i64 0, .slice none 0 0, .slice none 0 0] rfl rfl 25 _ hz6 size25 rfl (three_one _ _ _ rfl rfl rfl) ?_)
                    refine bodyPost_ret (v := .tuple #[.agg #[.int .i64 0, .slice none 0 0, .slice none 0 0], .int .i64 ee]) ?_ rfl HFIN.out
                    exact results_rowtmp (fn := Try.f18) (p := 2) (u := 3) (by rfl) _ _ gz 25 _ (0, 0) _ (by rfl) HXR.out Try.underlying25 rfl size25
                · have hz5 := HJ.out.res
                  rw [← HGZ.out] at hz5
                  have hL := HL.out
                  rw [HPX.out] at hL
                  dsimp only at hL
                  rw [if_neg (by rw [HYL.out]; omega)] at hL
                  have hfin := DecQR.bad hL HJ.out.kept
                  rw [← HGZ.out] at hfin
                  have HFIN := hid_of hfin
                  obtain ⟨lf, hlf⟩ : ∃ l, l = (n : Int) - (qe : Int) := ⟨_, rfl⟩
                  have hlp : (0 : Int) < lf := by omega
                  rw [← hlf]
                  clear hL hfin hlf hend hqn
                  have HXR := hid_of (setRow_heap v1 gz _ #[.int .i64 0, .slice none 0 0, .slice none 0 0] 25 (0, 0) hz5)
                  go_wp2_with (refine wpList_store_row rfl 25 _ _ rfl gz #[.int .i64 0, .slice none 0 0, .slice none 0 0] rfl rfl 25 _ hz5 size25 rfl (three_one _ _ _ rfl rfl rfl) ?_)
                  refine bodyPost_ret (v := .tuple #[.agg #[.int .i64 0, .slice none 0 0, .slice none 0 0], .int .i64 13]) ?_ rfl HFIN.out
                  exact results_rowtmp (fn := Try.f18) (p := 2) (u := 3) (by rfl) _ _ gz 25 _ (0, 0) _ (by rfl) HXR.out Try.underlying25 rfl size25
        · have HFE : Hid (f4 ≠ 0) := he4
          have hpe := ((progD_steps xs HB.out 2 mem nn0 d s1 s2 s3 s4 HT1.out HT2.out HT3.out HT4.out).2 (.inr rfl)).1 (by rw [← HF4.out]; exact he4)
          rw [← HF4.out] at hpe
          have hz4 := HI4.out.res
          rw [← HGZ.out] at hz4
          have hfin := DecQR.bad (wr := w6.drew) (HPE.out _ hpe) (HI4.out.kept.drew)
          rw [← HGZ.out] at hfin
          have HFIN := hid_of hfin
          have HXR := hid_of (setRow_heap w6.drew gz _ #[.int .i64 0, .slice none 0 0, .slice none 0 0] 25 (0, 0) hz4)
          have hb1 : (f4 == 0) = false := by simp; exact HFE.out
          have hb2 : (f4 != 0) = true := by simp; exact HFE.out
          clear hpe hfin
          go_upto_region 11 with fail
          clear c4
          obtain ⟨ff, hff⟩ : ∃ f, f = f4 := ⟨_, rfl⟩
          rw [← hff] at HFIN HQ4
          have HQB : Hid (w6.drew.heap[gz + 1]? = some (.cells #[.slice bao n bc, .int .i64 (qq : Int), .int .i64 ff] 71 (0, 0))) := HQ4.out
          clear hff
          refine wp_region_held_drew (S := fun w' => w'.heap[gz + 1]? = some (.cells #[.slice bao n bc, .int .i64 (qq : Int), .int .i64 ff] 71 (0, 0))) (by kernel_rfl) HQB.out (fun hHeld => ?_)
          refine wpAnyH_take (i := 0) (v := ?_) rfl (by kernel_rfl) (by kernel_rfl) (by kernel_rfl) (fun _ _ _ h => h) (Or.inl ⟨by rfl, ?_⟩) (by assumption) ?_
          rotate_left 1
          · intro w hSw
            go_simp
            try with_reducible rfl
          try simp only [Act.put, List.getElem_toArray, List.getElem_cons_zero, List.getElem_cons_succ, List.setIfInBounds_toArray, List.set_cons_zero, List.set_cons_succ]
          refine wpAnyH_take (i := 1) (v := ?_) rfl (by kernel_rfl) (by kernel_rfl) (by kernel_rfl) (fun _ _ _ h => h) (Or.inl ⟨by rfl, ?_⟩) (by assumption) ?_
          rotate_left 1
          · intro w hSw
            go_simp
            try with_reducible rfl
          try simp only [Act.put, List.getElem_toArray, List.getElem_cons_zero, List.getElem_cons_succ, List.setIfInBounds_toArray, List.set_cons_zero, List.set_cons_succ]
          refine wpAnyH_take (i := 2) (v := ?_) rfl (by kernel_rfl) (by kernel_rfl) (by kernel_rfl) (fun _ _ _ h => h) (Or.inl ⟨by rfl, ?_⟩) (by assumption) ?_
          rotate_left 1
          · intro w hSw
            go_simp
            try with_reducible rfl
          try simp only [Act.put, List.getElem_toArray, List.getElem_cons_zero, List.getElem_cons_succ, List.setIfInBounds_toArray, List.set_cons_zero, List.set_cons_succ]
          refine wpAnyH_take (i := 3) (v := ?_) rfl (by kernel_rfl) (by kernel_rfl) (by kernel_rfl) (fun _ _ _ h => h) (Or.inl ⟨by rfl, ?_⟩) (by assumption) ?_
          rotate_left 1
          · intro w hSw
            go_simp
            try with_reducible rfl
          try simp only [Act.put, List.getElem_toArray, List.getElem_cons_zero, List.getElem_cons_succ, List.setIfInBounds_toArray, List.set_cons_zero, List.set_cons_succ]
          refine wpAnyH_take (i := 4) (v := ?_) rfl (by kernel_rfl) (by kernel_rfl) (by kernel_rfl) (fun _ _ _ h => h) (Or.inl ⟨by rfl, ?_⟩) (by assumption) ?_
          rotate_left 1
          · intro w hSw
            have q2 := cell_block _ (gz + 1) 2 _ _ _ hSw
            go_simp
            try with_reducible rfl
          try simp only [Act.put, List.getElem_toArray, List.getElem_cons_zero, List.getElem_cons_succ, List.setIfInBounds_toArray, List.set_cons_zero, List.set_cons_succ]
          refine wpAnyH_ready (rs := [5]) (by kernel_rfl) (by simp) ?_
          refine AllReadyH.cons rfl (fun K hK => ?_) AllReadyH.nil
          refine stp_store_row rfl 25 _ _ rfl gz #[.int .i64 0, .slice none 0 0, .slice none 0 0] rfl rfl 25 _ hz4 size25 rfl (three_one _ _ _ rfl rfl rfl) ?_
          refine hK.out _ _ (box_kept (kept_row _ _ _) HQB.out (by omega)) (fun hHeld => ?_)
          clear hK K
          try simp only [Act.put, List.getElem_toArray, List.getElem_cons_zero, List.getElem_cons_succ, List.setIfInBounds_toArray, List.set_cons_zero, List.set_cons_succ]
          refine wpAnyH_take (i := 6) (v := ?_) rfl (by kernel_rfl) (by kernel_rfl) (by kernel_rfl) (fun _ _ _ h => h) (Or.inl ⟨by rfl, ?_⟩) (by assumption) ?_
          rotate_left 1
          · intro w hSw
            go_simp
            try with_reducible rfl
          try simp only [Act.put, List.getElem_toArray, List.getElem_cons_zero, List.getElem_cons_succ, List.setIfInBounds_toArray, List.set_cons_zero, List.set_cons_succ]
          refine wpAnyH_done (by kernel_rfl) ?_ _
          go_wp2
          refine bodyPost_ret (v := .tuple #[.agg #[.int .i64 0, .slice none 0 0, .slice none 0 0], .int .i64 ff]) ?_ rfl HFIN.out
          exact results_rowtmp (fn := Try.f18) (p := 2) (u := 3) (by rfl) _ _ gz 25 _ (0, 0) _ (by rfl) HXR.out Try.underlying25 rfl size25
      · have hpe := (progD_steps xs HB.out t (stN s1).1 (stN (stB (stN s1).2).2).1 (stB (stN s1).2).1 s1 (stN s1).2 (stB (stN s1).2).2 (stN (stB (stN s1).2).2).2 HT1.out rfl rfl rfl).1 HF1.out.symm ht2
        have hb1 : (t == 2) = false := by simp; exact ht2
        have hb2 : (t != 2) = true := by simp; exact ht2
        have hz2 := HI2.out.res
        rw [← HGZ.out] at hz2
        have hfin := DecQR.bad (HPE.out _ hpe) HI2.out.kept
        rw [← HGZ.out] at hfin
        have HFIN := hid_of hfin
        clear hpe HI2 hfin ht2
        have HXR := hid_of (setRow_heap w2b gz _ #[.int .i64 0, .slice none 0 0, .slice none 0 0] 25 (0, 0) hz2)
        go_wp2_with (refine wpList_store_row rfl 25 _ _ rfl gz #[.int .i64 0, .slice none 0 0, .slice none 0 0] rfl rfl 25 _ hz2 size25 rfl (three_one _ _ _ rfl rfl rfl) ?_)
        refine bodyPost_ret (v := .tuple #[.agg #[.int .i64 0, .slice none 0 0, .slice none 0 0], .int .i64 52]) ?_ rfl HFIN.out
        exact results_rowtmp (fn := Try.f18) (p := 2) (u := 3) (by rfl) _ _ gz 25 _ (0, 0) _ (by rfl) HXR.out Try.underlying25 rfl size25
    · have hb1 : (f1 == 0) = false := by simp; exact he1
      have hb2 : (f1 != 0) = true := by simp; exact he1
      have HTT : Hid (erS s1 ≠ 0 ∨ t = 2) := .inl (by rw [← HF1.out]; exact he1)
      go_upto_region 7 with fail
      clear c2 y1 HBT hb1 hb2
      have hG := get_n (gz + 1) (.slice bao n bc) xs s1 w2b (by rw [HGZ.out]; exact HI2.out.rs) HI2.out.isb HB.out
      obtain ⟨mem, hmem⟩ : ∃ t, t = (stN s1).1 := ⟨_, rfl⟩
      obtain ⟨s2, hs2⟩ : ∃ z, z = (stN s1).2 := ⟨_, rfl⟩
      unfold GtN at hG
      rw [← hmem, ← hs2] at hG
      have HGn := hid_of hG
      have HT2 : Hid ((mem, s2) = stN s1) := by unfold Hid; rw [hmem, hs2]
      have HO2 : Hid (okS s2) := by unfold Hid; rw [hs2]; exact (stN_ok HO1.out).1
      have hm0 := (stN_ok HO1.out).2.1
      have hm1 := (stN_ok HO1.out).2.2
      rw [← hmem] at hm0 hm1
      clear hG hmem hs2
      go_wp2_with fail
      refine HGn.out.mono ?_
      rintro e w3 ⟨⟨kk3, bo3, bn3, bc3, rfl⟩, hrs, hkn⟩
      have hfi : ∀ W : World, (Instr.field 63 (.agg #[.int .i64 kk3, .int .i64 mem, .slice bo3 bn3 bc3]) 1).run Try.prog W = .ok (.int .i64 mem) W := fun W => field63_1 _ _ _ W
      have hi3 := (HI2.out.read (by rw [← HGZ.out]; exact hrs) (by rw [← HGZ.out]; exact hkn) HVL.out)
      have hkP : Kept (fun _ => False) w3 (w3.alloc (.cells #[.int .i64 mem, .slice none 0 0, .slice none 0 0] 25)) := (Kept.refl _ _).alloc _
      have HI3 := hid_of (hi3.step hkP (fun _ _ f => f) HVL.out)
      have HBP := hid_of (heap_alloc_new w3 (.cells #[.int .i64 mem, .slice none 0 0, .slice none 0 0] 25))
      have HOF : Hid (w.heap.size + 1 < w3.heap.size) := by
        have h1 := hi3.rs.blk
        obtain ⟨qq, h1⟩ := h1
        exact (Array.getElem?_eq_some_iff.1 h1).1
      clear hrs hkn hi3 hkP HGn HI2
      go_upto_region 8 with fail
      clear hfi
      generalize w3.alloc (.cells #[.int .i64 mem, .slice none 0 0, .slice none 0 0] 25) = w3b at *
      generalize w3.heap.size = gp at *
      have hG := get_b (gz + 1) (.slice bao n bc) xs s2 w3b (by rw [HGZ.out]; exact HI3.out.rs) HI3.out.isb HB.out (by rw [← HN.out]; exact HC.out)
      obtain ⟨d, hd⟩ : ∃ t, t = (stB s2).1 := ⟨_, rfl⟩
      obtain ⟨s3, hs3⟩ : ∃ z, z = (stB s2).2 := ⟨_, rfl⟩
      unfold GtB at hG
      rw [← hd, ← hs3] at hG
      have HGn := hid_of hG
      have HT3 : Hid ((d, s3) = stB s2) := by unfold Hid; rw [hd, hs3]
      have HO3 : Hid (okS s3) := by unfold Hid; rw [hs3]; exact (stB_ok HO2.out).1
      have HDO : Hid (BytesOk d) := by unfold Hid; rw [hd]; exact (stB_ok HO2.out).2
      clear hG hd hs3
      go_wp2_with fail
      refine HGn.out.mono ?_
      rintro e w4 ⟨⟨kk4, nn4, dv, rfl, hdv, hdb⟩, hrs, hkn⟩
      obtain ⟨dao, dc, hdsh⟩ := hdv.shape
      obtain ⟨nd, hnd⟩ : ∃ n, n = d.length := ⟨_, rfl⟩
      rw [← hnd] at hdsh
      subst hdsh
      have hfi : ∀ W : World, (Instr.field 63 (.agg #[.int .i64 kk4, .int .i64 nn4, .slice dao nd dc]) 2).run Try.prog W = .ok (.slice dao nd dc) W := fun W => field63_2 _ _ _ _ _ W
      have hi4 := (HI3.out.read (by rw [← HGZ.out]; exact hrs) (by rw [← HGZ.out]; exact hkn) HVL.out)
      have hbp4 := box_kept hkn HBP.out (by have := HOF.out; have := HGZ.out; omega)
      have p1 := cell_block _ gp 1 _ _ _ hbp4
      have pf := frozen_block _ gp 1 _ _ hbp4
      have hks := kept_set w4 gp 1 (.slice dao nd dc)
      have hbp5 : (w4.setCell ⟨gp, 1, none⟩ (.slice dao nd dc)).heap[gp]? = some (.cells #[.int .i64 mem, .slice dao nd dc, .slice none 0 0] 25 (0, 0)) := set_block _ _ 1 _ _ _ hbp4 _
      have hgpl : gp < w3b.heap.size := (Array.getElem?_eq_some_iff.1 HBP.out).1
      have HD5 := hid_of (hdv.kept hks (fun b hb e => by have := (hdb b hb).1; omega))
      have HDB5 : Hid (∀ b, (Value.slice dao nd dc).ownBlock = some b → gp < b ∧ b < (w4.setCell ⟨gp, 1, none⟩ (.slice dao nd dc)).heap.size) := fun b hb => ⟨by have := (hdb b hb).1; omega, Nat.lt_of_lt_of_le (hdb b hb).2 hks.size⟩
      have HI5 := hid_of (hi4.step hks (fun i hi e => by have := HOF.out; omega) HVL.out)
      have HBP5 := hid_of hbp5
      clear hdv hdb hrs hkn hnd hi4 hbp4 hks hbp5 hgpl HGn HI3 HBP
      go_upto_region 9 with fail
      clear p1 pf hfi
      generalize w4.setCell ⟨gp, 1, none⟩ (.slice dao nd dc) = w5 at *
      have hG := get_n (gz + 1) (.slice bao n bc) xs s3 w5 (by rw [HGZ.out]; exact HI5.out.rs) HI5.out.isb HB.out
      obtain ⟨nn0, hnq⟩ : ∃ t, t = (stN s3).1 := ⟨_, rfl⟩
      obtain ⟨s4, hs4⟩ : ∃ z, z = (stN s3).2 := ⟨_, rfl⟩
      unfold GtN at hG
      rw [← hnq, ← hs4] at hG
      have HGn := hid_of hG
      have HT4 : Hid ((nn0, s4) = stN s3) := by unfold Hid; rw [hnq, hs4]
      have HO4 : Hid (okS s4) := by unfold Hid; rw [hs4]; exact (stN_ok HO3.out).1
      have hnn0 := (stN_ok HO3.out).2.1
      have hnn1 := (stN_ok HO3.out).2.2
      rw [← hnq] at hnn0 hnn1
      clear hG hs4 hnq
      go_wp2_with fail
      refine HGn.out.mono ?_
      rintro e w6 ⟨⟨kk6, bo6, bn6, bc6, rfl⟩, hrs, hkn⟩
      have hfi : ∀ W : World, (Instr.field 63 (.agg #[.int .i64 kk6, .int .i64 nn0, .slice bo6 bn6 bc6]) 1).run Try.prog W = .ok (.int .i64 nn0) W := fun W => field63_1 _ _ _ W
      have HI4 := hid_of (HI5.out.read (by rw [← HGZ.out]; exact hrs) (by rw [← HGZ.out]; exact hkn) HVL.out)
      have HBP4 := hid_of (box_kept hkn HBP5.out (by have := HOF.out; have := HGZ.out; omega))
      have HD4 := hid_of (HD5.out.kept hkn (fun b hb e => by have := (HDB5.out b hb).1; have := HOF.out; have := HGZ.out; omega))
      have HDB4 : Hid (∀ b, (Value.slice dao nd dc).ownBlock = some b → gp < b ∧ b < w6.heap.size) := fun b hb => ⟨(HDB5.out b hb).1, Nat.lt_of_lt_of_le (HDB5.out b hb).2 hkn.size⟩
      clear hrs hkn HGn HI5 HBP5 HD5 HDB5
      go_upto_region 10 with fail
      clear hfi
      obtain ⟨qq, hqq⟩ := HI4.out.rs.blk
      rw [← HGZ.out] at hqq
      obtain ⟨f4, hf4⟩ : ∃ f, f = erS s4 := ⟨_, rfl⟩
      rw [← hf4] at hqq
      have HQ4 := hid_of hqq
      have c4 := cell_block _ (gz + 1) 2 _ _ _ hqq
      have HF4 := hid_of hf4
      clear hqq hf4
      have HF1N : Hid (erS s4 ≠ 0) := by
        unfold Hid
        have h0 : erS s1 ≠ 0 := by rw [← HF1.out]; exact he1
        cases s1 with
        | ok ys => exact absurd rfl h0
        | error f =>
          have e2 := HT2.out
          cases e2
          have e3 := HT3.out
          cases e3
          have e4 := HT4.out
          cases e4
          exact h0
      have he4 : f4 ≠ 0 := by rw [HF4.out]; exact HF1N.out
      have HFE : Hid (f4 ≠ 0) := he4
      have hpe := ((progD_steps xs HB.out t mem nn0 d s1 s2 s3 s4 HT1.out HT2.out HT3.out HT4.out).2 HTT.out).1 HF1N.out
      rw [← HF4.out] at hpe
      have hz4 := HI4.out.res
      rw [← HGZ.out] at hz4
      have hfin := DecQR.bad (wr := w6.drew) (HPE.out _ hpe) (HI4.out.kept.drew)
      rw [← HGZ.out] at hfin
      have HFIN := hid_of hfin
      have HXR := hid_of (setRow_heap w6.drew gz _ #[.int .i64 0, .slice none 0 0, .slice none 0 0] 25 (0, 0) hz4)
      have hb1 : (f4 == 0) = false := by simp; exact HFE.out
      have hb2 : (f4 != 0) = true := by simp; exact HFE.out
      clear hpe hfin
      go_upto_region 11 with fail
      clear c4
      obtain ⟨ff, hff⟩ : ∃ f, f = f4 := ⟨_, rfl⟩
      rw [← hff] at HFIN HQ4
      have HQB : Hid (w6.drew.heap[gz + 1]? = some (.cells #[.slice bao n bc, .int .i64 (qq : Int), .int .i64 ff] 71 (0, 0))) := HQ4.out
      clear hff
      refine wp_region_held_drew (S := fun w' => w'.heap[gz + 1]? = some (.cells #[.slice bao n bc, .int .i64 (qq : Int), .int .i64 ff] 71 (0, 0))) (by kernel_rfl) HQB.out (fun hHeld => ?_)
      refine wpAnyH_take (i := 0) (v := ?_) rfl (by kernel_rfl) (by kernel_rfl) (by kernel_rfl) (fun _ _ _ h => h) (Or.inl ⟨by rfl, ?_⟩) (by assumption) ?_
      rotate_left 1
      · intro w hSw
        go_simp
        try with_reducible rfl
      try simp only [Act.put, List.getElem_toArray, List.getElem_cons_zero, List.getElem_cons_succ, List.setIfInBounds_toArray, List.set_cons_zero, List.set_cons_succ]
      refine wpAnyH_take (i := 1) (v := ?_) rfl (by kernel_rfl) (by kernel_rfl) (by kernel_rfl) (fun _ _ _ h => h) (Or.inl ⟨by rfl, ?_⟩) (by assumption) ?_
      rotate_left 1
      · intro w hSw
        go_simp
        try with_reducible rfl
      try simp only [Act.put, List.getElem_toArray, List.getElem_cons_zero, List.getElem_cons_succ, List.setIfInBounds_toArray, List.set_cons_zero, List.set_cons_succ]
      refine wpAnyH_take (i := 2) (v := ?_) rfl (by kernel_rfl) (by kernel_rfl) (by kernel_rfl) (fun _ _ _ h => h) (Or.inl ⟨by rfl, ?_⟩) (by assumption) ?_
      rotate_left 1
      · intro w hSw
        go_simp
        try with_reducible rfl
      try simp only [Act.put, List.getElem_toArray, List.getElem_cons_zero, List.getElem_cons_succ, List.setIfInBounds_toArray, List.set_cons_zero, List.set_cons_succ]
      refine wpAnyH_take (i := 3) (v := ?_) rfl (by kernel_rfl) (by kernel_rfl) (by kernel_rfl) (fun _ _ _ h => h) (Or.inl ⟨by rfl, ?_⟩) (by assumption) ?_
      rotate_left 1
      · intro w hSw
        go_simp
        try with_reducible rfl
      try simp only [Act.put, List.getElem_toArray, List.getElem_cons_zero, List.getElem_cons_succ, List.setIfInBounds_toArray, List.set_cons_zero, List.set_cons_succ]
      refine wpAnyH_take (i := 4) (v := ?_) rfl (by kernel_rfl) (by kernel_rfl) (by kernel_rfl) (fun _ _ _ h => h) (Or.inl ⟨by rfl, ?_⟩) (by assumption) ?_
      rotate_left 1
      · intro w hSw
        have q2 := cell_block _ (gz + 1) 2 _ _ _ hSw
        go_simp
        try with_reducible rfl
      try simp only [Act.put, List.getElem_toArray, List.getElem_cons_zero, List.getElem_cons_succ, List.setIfInBounds_toArray, List.set_cons_zero, List.set_cons_succ]
      refine wpAnyH_ready (rs := [5]) (by kernel_rfl) (by simp) ?_
      refine AllReadyH.cons rfl (fun K hK => ?_) AllReadyH.nil
      refine stp_store_row rfl 25 _ _ rfl gz #[.int .i64 0, .slice none 0 0, .slice none 0 0] rfl rfl 25 _ hz4 size25 rfl (three_one _ _ _ rfl rfl rfl) ?_
      refine hK.out _ _ (box_kept (kept_row _ _ _) HQB.out (by omega)) (fun hHeld => ?_)
      clear hK K
      try simp only [Act.put, List.getElem_toArray, List.getElem_cons_zero, List.getElem_cons_succ, List.setIfInBounds_toArray, List.set_cons_zero, List.set_cons_succ]
      refine wpAnyH_take (i := 6) (v := ?_) rfl (by kernel_rfl) (by kernel_rfl) (by kernel_rfl) (fun _ _ _ h => h) (Or.inl ⟨by rfl, ?_⟩) (by assumption) ?_
      rotate_left 1
      · intro w hSw
        go_simp
        try with_reducible rfl
      try simp only [Act.put, List.getElem_toArray, List.getElem_cons_zero, List.getElem_cons_succ, List.setIfInBounds_toArray, List.set_cons_zero, List.set_cons_succ]
      refine wpAnyH_done (by kernel_rfl) ?_ _
      go_wp2
      refine bodyPost_ret (v := .tuple #[.agg #[.int .i64 0, .slice none 0 0, .slice none 0 0], .int .i64 ff]) ?_ rfl HFIN.out
      exact results_rowtmp (fn := Try.f18) (p := 2) (u := 3) (by rfl) _ _ gz 25 _ (0, 0) _ (by rfl) HXR.out Try.underlying25 rfl size25
end Go.Proofs.Ytnjhnlohjhdcpaa
