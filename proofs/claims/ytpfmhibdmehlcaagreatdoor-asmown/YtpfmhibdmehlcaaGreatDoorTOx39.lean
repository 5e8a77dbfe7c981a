import Derived.Test.YtpfmhibdmehlcaaGreatDoorTOx16
import Derived.Test.YtpfmhibdmehlcaaGreatDoorTOx37
import Derived.Test.YtpfmhibdmehlcaaGreatDoorTOx38
import Derived.Deep.MidRow
namespace Go.Proofs.YtpfmhibdmehlcaaGreatDoor
open Go.ChangeShapes Go.WideShapes Go.ChangeAt Go.RowKit Go.Deep
set_option linter.unusedVariables false
set_option linter.unusedSimpArgs false
def mkF (i k : Nat) : List Value := [.int .i64 (100 + (i : Int)), .int .i64 (k : Int), .int .i64 0, .slice none 0 0]
def anF (i k : Nat) : List Value := [.int .i64 (-1 - (i : Int)), .int .i64 (k : Int), .int .i64 0, .slice none 0 0]
theorem Tryz.info22h : (Tryz.prog.info? 22).map (fun i => (i.zero, i.size, i.bytes)) = some (some (.slice none 0 0), 1, 24) := by kernel_rfl
theorem Tryz.info23h : (Tryz.prog.info? 23).map (fun i => (i.zero, i.size, i.bytes)) = some (some (.slice none 0 0), 1, 24) := by kernel_rfl
theorem Tryz.info51h : (Tryz.prog.info? 51).map (fun i => (i.zero, i.size, i.bytes)) = some (some (.agg #[.int .i64 0, .int .i64 0, .int .i64 0, .slice none 0 0]), 4, 48) := by kernel_rfl
theorem cell_row_newG (w : World) (cs : List Value) (t : TypeId) : ∀ j u, cs[j]? = some u → (w.alloc (.cells cs.toArray t)).cell? ((⟨w.heap.size, 0, none⟩ : Addr).add j) = some u := by
 intro j u hu
 rw [Addr.add_lit, Nat.zero_add, cell_of_row _ _ j cs.toArray t (0, 0) (heap_alloc_new w _)]
 simpa using hu
theorem look4r {w : World} {g o : Nat} {a b c d : Value} (h : w.rangeAt g o [a, b, c, d]) : w.cell? ⟨g, o, none⟩ = some a ∧ w.cell? ⟨g, o + 1, none⟩ = some b ∧ w.cell? ⟨g, o + 2, none⟩ = some c ∧ w.cell? ⟨g, o + 3, none⟩ = some d := ⟨h 0 a rfl, h 1 b rfl, h 2 c rfl, h 3 d rfl⟩
theorem kept_grown1 {w3 w5 : World} {o : Obj} {row : Option Nat} (h : (w3.alloc o).grownBy w5 row) : Kept (fun q => row = some q) w3 w5 := kept_grown h ((Kept.refl _ w3).alloc _)
def setL : List Value → Nat → List Value → List Value
 | xs, _, [] => xs
 | xs, o, v :: r => setL (xs.set o v) (o + 1) r
theorem setL_app : ∀ (vs A T : List Value), vs.length ≤ T.length → setL (A ++ T) A.length vs = A ++ vs ++ T.drop vs.length
 | [], A, T, _ => by simp [setL]
 | v :: r, A, [], h => by simp at h
 | v :: r, A, x :: T, h => by
  have e : (A ++ x :: T).set A.length v = (A ++ [v]) ++ T := by simp [List.set_append]
  have := setL_app r (A ++ [v]) T (by simpa using h)
  rw [setL, e, show A.length + 1 = (A ++ [v]).length by simp, this]
  simp
theorem own_setCells {B e s g n c : Nat} : ∀ (vs : List Value) (o : Nat) (xs : List Value) (w : World), w.ownsRow B e s (.slice (some ⟨g, 0, none⟩) n c) n xs → (w.setCells g o vs).ownsRow B e s (.slice (some ⟨g, 0, none⟩) n c) n (setL xs o vs)
 | [], _, _, _, h => h
 | v :: r, o, xs, w, h => own_setCells r (o + 1) _ _ (World.ownsRow.stored h o v).1
theorem own_range {B e s n : Nat} {v : Value} {xs : List Value} {w : World} (h : w.ownsRow B e s v n xs) {g : Nat} (hg : v.ownBlock = some g) (o : Nat) (cs : List Value) (hc : ∀ j u, cs[j]? = some u → xs[o + j]? = some u) : w.rangeAt g o cs := by
 intro j u hu
 exact own_cell (own_mono h (Nat.zero_le _)) hg (o + j) u (hc j u hu)
section
variable {s : Nat} {mk : Nat → Nat → List Value}
theorem cAt_any {ls : List RL} {i j n : Nat} (hm : ∀ k, (mk i k).length = s) (hx : (rlAt ls i).xs.length = n * s) (hj : j < n) : setL (cAt mk s ls i j i) (j * s) (mk i j) = cAt mk s ls i (j + 1) i := by
 have h1 : (j + 1) * s ≤ n * s := Nat.mul_le_mul_right _ hj
 rw [Nat.succ_mul] at h1
 have h2 := setL_app (mk i j) (rowOf (mk i) j) ((rlAt ls i).xs.drop (j * s)) (by rw [hm, List.length_drop, hx]; omega)
 rw [rowOf_len hm] at h2
 rw [cAt_self, cAt_self, h2, rowOf_succ, hm, List.drop_drop, Nat.succ_mul]
theorem rowOf_range {mk : Nat → List Value} (h : ∀ k, (mk k).length = s) (k n : Nat) (hk : k < n) : ∀ j u, (mk k)[j]? = some u → (rowOf mk n)[k * s + j]? = some u := by
 intro j u hu
 have hj := (List.getElem?_eq_some_iff.1 hu).1
 rw [rowOf_at h k j (by rw [← h k]; exact hj) n hk]
 exact hu
end
set_option maxRecDepth 100000 in
set_option maxHeartbeats 16000000 in
theorem grown_some (gl lc N : Nat) (ps : List PO) (w : World) (h : w.ownsRow 0 25 3 (.slice (some ⟨gl, 0, none⟩) N lc) ps.length (ps.flatMap PO.cells)) (ha : Apt w ps) (hN : N = ps.length) (hn : N ≤ 9) (hp : 0 < N) :
  Calls Tryz.prog 15 #[.slice (some ⟨gl, 0, none⟩) N lc] w fun e w' => e = .returned (.bool true) ∧ Kept (PBO ps) w w' := by
 obtain ⟨i22, hi22, z220, z221, z222⟩ := info_parts Tryz.info22h
 obtain ⟨i23, hi23, z230, z231, z232⟩ := info_parts Tryz.info23h
 obtain ⟨i49, hi49, z490, z491, z492⟩ := info_parts Tryz.info49g
 obtain ⟨i51, hi51, z510, z511, z512⟩ := info_parts Tryz.info51h
 have HB := hid_of h
 have HA := hid_of ha
 have HN := hid_of hN
 have HMX : Hid ((clO ps).length ≤ 576) := by
  have := clO_max (m := 64) ps (fun x hx => by rw [PO.c_len (ha.fit x hx).cv]; exact (ha.fit x hx).f2)
  unfold Hid; omega
 clear h ha hN
 go_enter Tryz.func15, Tryz.ntmps15
 go_wp2_with fail
 go_loopw [3, 4, 5, 6] (fun bv cv fv i wr => ∃ (k m : Nat) (bo co fo : Option Addr) (bc cc fc : Nat), k ≤ N ∧ i = .int .i64 k ∧ bv = .slice bo k bc ∧ cv = .slice co m cc ∧ fv = .slice fo k fc ∧ Hid (m = (clO (ps.take k)).length) ∧ Hid (GatO w wr (.slice (some ⟨gl, 0, none⟩) N lc) ps bv cv fv k k m)) (fun _ _ _ i _ => N - (intOf i).toNat)
 case atStart => exact ⟨0, 0, none, none, none, 0, 0, 0, Nat.zero_le _, rfl, rfl, rfl, rfl, by unfold Hid; simp [clO], GatO.start HB.out HA.out⟩
 case round =>
  obtain ⟨k, m, bo, co, fo, bc, cc, fc, hk, rfl, rfl, rfl, rfl, HM, HG⟩ := hrel
  by_cases hlt : k < N
  ·have hltI : (k : Int) < (N : Int) := by omega
   have hkl : k < ps.length := by rw [← HN.out]; exact hlt
   obtain ⟨x, hx⟩ : ∃ x, ps[k]? = some x := ⟨_, List.getElem?_eq_getElem hkl⟩
   have HX := hid_of hx
   have HFT := hid_of (HA.out.fit x (List.mem_of_getElem? hx))
   have HKL := hid_of hkl
   have hdn := (HG.out.apt.dat.own k (by rw [dlO_len]; exact hkl))
   have hfn := (HG.out.apt.fns.own k (by rw [flO_len]; exact hkl))
   have HDA : Hid (rlAt (dlO ps) k = x.d) := dlO_at hx
   have HFA : Hid (rlAt (flO ps) k = x.f) := flO_at hx
   rw [HDA.out] at hdn
   rw [HFA.out] at hfn
   obtain ⟨do_, dc, hdv⟩ := ownsRow_shape hdn
   obtain ⟨nd, hnd⟩ := nmd (x.d.n)
   obtain ⟨nf, hnf⟩ := nmd (x.f.n)
   obtain ⟨gf, fcap, hfv⟩ := own_at hfn (by have := HFT.out.f1; exact this)
   rw [← hnd] at hdv
   rw [← hnf] at hfv
   have HNF := hid_of hnf
   have HDV := hid_of hdv
   have HFV := hid_of hfv
   have hnf2 : nf ≤ 64 := by rw [hnf]; exact HFT.out.f2
   have HC1 : Hid (∀ W : World, W.ownsRow 0 25 3 (.slice (some ⟨gl, 0, none⟩) N lc) ps.length (ps.flatMap PO.cells) → W.cell? ⟨gl, k * 3 + 1, none⟩ = some (.slice do_ nd dc) ∧ W.cell? ⟨gl, k * 3 + 2, none⟩ = some (.slice (some ⟨gf, 0, none⟩) nf fcap)) := fun W hW => by
    constructor
    ·rw [← HDV.out]; exact own_cell hW (g := gl) rfl _ _ (by rw [pocells_at ps k x HX.out 1 (by omega)]; rfl)
    ·rw [← HFV.out]; exact own_cell hW (g := gl) rfl _ _ (by rw [pocells_at ps k x HX.out 2 (by omega)]; rfl)
   obtain ⟨c1, c2⟩ := HC1.out wr HG.out.row
   clear hx hkl hdn hfn hdv hfv hnd hnf
   go_upto_region 8 with (at_builtin; refine wpList_append_old _ rfl (.tmp 23) (.tmp 29) 68 rfl 0 22 i22 (.slice none 0 0) 1 24 Tryz.underlying68 hi22 z220 z221 z222 rfl (by decide) _ k (((dlO ps).take k).map RL.v) rfl (by have h9 := HG.out.b.row; rw [List.length_take, dlO_len, Nat.min_eq_left (by rw [← HN.out]; omega)] at h9; exact h9.alloc _) ⟨_, 0, none⟩ 1 1 [.slice do_ nd dc] rfl rfl (cell_row_newG _ [_] _) (by intro u hu; simp at hu; subst hu; rfl) (by unfold maxLen; omega) (by omega) (Nat.zero_le _) ?_)
   intro bv' w2 hown hgrow hat hold
   have HG2 := hid_of (HG.out.byt HKL.out (bv' := bv') (by rw [HDA.out, List.map_take, HDV.out]; exact hown) (kept_grown1 hgrow) (at_of hat (by simp [World.alloc]; try omega)))
   obtain ⟨bo', bc', hbv'⟩ := ownsRow_shape hown
   subst hbv'
   clear hown hgrow hat hold c1 c2 HG
   obtain ⟨c1, c2⟩ := HC1.out w2 HG2.out.row
   go_upto_region 9 with (at_builtin; refine wpList_append_old _ rfl (.tmp 31) (.tmp 37) 70 rfl 0 23 i23 (.slice none 0 0) 1 24 Tryz.underlying70 hi23 z230 z231 z232 rfl (by decide) _ k (((flO ps).take k).map RL.v) rfl (by have h9 := HG2.out.f.row; rw [List.length_take, flO_len, Nat.min_eq_left (by rw [← HN.out]; omega)] at h9; exact h9.alloc _) ⟨_, 0, none⟩ 1 1 [.slice (some ⟨gf, 0, none⟩) nf fcap] rfl rfl (cell_row_newG _ [_] _) (by intro u hu; simp at hu; subst hu; rfl) (by unfold maxLen; omega) (by omega) (Nat.zero_le _) ?_)
   intro fv' w3 hown hgrow hat hold
   have HG3 := hid_of (HG2.out.fnc HKL.out (fv' := fv') (by rw [HFA.out, List.map_take, HFV.out]; exact hown) (kept_grown1 hgrow) (at_of hat (by simp [World.alloc]; try omega)))
   obtain ⟨fo', fc', hfv'⟩ := ownsRow_shape hown
   subst hfv'
   clear hown hgrow hat hold c1 c2 HG2
   obtain ⟨k1, hk1⟩ := nmd (k + 1)
   rw [← hk1] at HG3 ⊢
   have HK1 := hid_of hk1
   clear hk1
   go_wp2_with fail
   go_loopw [4, 7] (fun cv j wr => ∃ (q m' : Nat) (co : Option Addr) (cc : Nat), q ≤ nf ∧ j = .int .i64 q ∧ cv = .slice co m' cc ∧ Hid (m' = m + q) ∧ Hid (GatO w wr (.slice (some ⟨gl, 0, none⟩) N lc) ps (.slice bo' k1 bc') cv (.slice fo' k1 fc') k1 k1 m')) (fun _ j _ => nf - (intOf j).toNat)
   case atStart => exact ⟨0, m, _, _, Nat.zero_le _, rfl, rfl, rfl, HG3⟩
   case round =>
    clear HG3
    obtain ⟨q, m', co', cc', hq, rfl, rfl, HM2, HG⟩ := hrel
    obtain ⟨c1, c2⟩ := HC1.out _ HG.out.row
    by_cases hqn : q < nf
    ·have hqI : (q : Int) < (nf : Int) := by omega
     have hql : q < x.R.fs.length := by have := HNF.out; show q < x.f.n; omega
     have hcl : q < x.c.length := by rw [PO.c_len HFT.out.cv]; exact hql
     have hml : m' < (clO ps).length := by have := clO_le HX.out; have := HM.out; have := HM2.out; omega
     have HML := hid_of hml
     have hmx : m' ≤ 576 := by have := HMX.out; omega
     have hrl : rlAt (clO ps) m' = rlAt x.c q := by rw [HM2.out, HM.out]; exact clO_at HX.out hcl
     have hfq := List.getElem?_eq_getElem hql
     have hcq := List.getElem?_eq_getElem (l := x.CV) (i := q) (by rw [HFT.out.cv]; exact hql)
     have hcc := HG.out.apt.cod.own m' hml
     rw [hrl, PO.c_at hfq hcq] at hcc
     have hrv : (rlAt (clO ps) m').v = x.CV[q]'(by rw [HFT.out.cv]; exact hql) := by rw [hrl, PO.c_at hfq hcq]
     obtain ⟨eo, ec, hev⟩ := ownsRow_shape hcc
     obtain ⟨ne, hne⟩ := nmd ((x.R.fs[q]'hql).code.length)
     have hfo := HG.out.apt.fns.own k (by rw [flO_len]; exact HKL.out)
     rw [HFA.out] at hfo
     have c3 := own_cell hfo (g := gf) (by rw [HFV.out]; rfl) (q * 4 + 3) _ (by show (fnCells x.R.fs x.CV)[q * 4 + 3]? = _; rw [fnCells_at _ _ q _ _ hfq hcq 3 (by omega)]; rfl)
     have HRV : Hid ((rlAt (clO ps) m').v = .slice eo ne ec) := by unfold Hid; rw [hrv, hne]; exact hev
     have hev2 : x.CV[q]'(by rw [HFT.out.cv]; exact hql) = .slice eo (x.R.fs[q]'hql).code.length ec := hev
     rw [hev2, ← hne] at c3
     clear hev2
     clear hql hcl hml hrl hfq hcq hcc hrv hev hne hfo
     go_wp2_with (at_builtin; refine wpList_append_old _ rfl (.tmp 49) (.tmp 59) 69 rfl 0 49 i49 (.slice none 0 0) 1 24 Tryz.underlying69 hi49 z490 z491 z492 rfl (by decide) _ m' (((clO ps).take m').map RL.v) rfl (by have h9 := HG.out.c.row; rw [List.length_take, Nat.min_eq_left (by have := HML.out; omega)] at h9; exact h9.alloc _) ⟨_, 0, none⟩ 1 1 [.slice eo ne ec] rfl rfl (cell_row_newG _ [_] _) (by intro u hu; simp at hu; subst hu; rfl) (by unfold maxLen; omega) (by omega) (Nat.zero_le _) ?_)
     intro cv' w5 hown hgrow hat hold
     have HG5 := hid_of (HG.out.cod HML.out (cv' := cv') (by rw [HRV.out, List.map_take]; exact hown) (kept_grown1 hgrow) (at_of hat (by simp [World.alloc]; try omega)))
     obtain ⟨co2, cc2, hcv'⟩ := ownsRow_shape hown
     subst hcv'
     obtain ⟨m2, hm2⟩ := nmd (m' + 1)
     rw [← hm2] at HG5 ⊢
     have HM3 : Hid (m2 = m + (q + 1)) := by have := HM2.out; unfold Hid; omega
     clear hown hgrow hat hold c1 c2 c3 HG hm2
     go_wp2
     go_roundw
     case rel => exact ⟨q + 1, m2, _, _, by omega, by go_num, rfl, HM3, HG5⟩
     case measure => simp [intOf]; omega
    ·have hqe : q = nf := by omega
     subst hqe
     have hqI : ¬ ((q : Int) < (q : Int)) := by omega
     have HM4 : Hid (m' = (clO (ps.take k1)).length) := by
      have h1 := clO_succ HX.out
      have h2 := PO.c_len HFT.out.cv
      have h3 : q = x.R.fs.length := HNF.out
      have h4 := HM.out
      have h5 := HM2.out
      unfold Hid
      rw [HK1.out, h1, h2]
      omega
     have hk1N : k1 ≤ N := by have := HK1.out; omega
     have hk1I : (k1 : Int) = (k : Int) + 1 := by have := HK1.out; omega
     have HK1I := hid_of hk1I
     have HK1N := hid_of hk1N
     clear hk1N hk1I
     go_wp2
     go_roundw
     case rel => exact ⟨k1, m', _, _, _, _, _, _, HK1N.out, by rw [HK1I.out], rfl, rfl, rfl, HM4, HG⟩
     case measure => have := HK1.out; simp [intOf]; omega
  ·have hkN : k = N := by omega
   subst hkN
   have hkI : ¬ ((k : Int) < (k : Int)) := by omega
   have HNL : Hid (ps.take k = ps) := List.take_of_length_le (by rw [← HN.out]; exact Nat.le_refl _)
   have hb := HG.out.b
   have hf := HG.out.f
   have hc := HG.out.c
   rw [List.take_of_length_le (by rw [dlO_len, ← HN.out]; exact Nat.le_refl _)] at hb
   rw [List.take_of_length_le (by rw [flO_len, ← HN.out]; exact Nat.le_refl _)] at hf
   have hmm : m = (clO ps).length := by rw [HM.out, HNL.out]
   rw [List.take_of_length_le (by rw [hmm]; exact Nat.le_refl _)] at hc
   have hmx : m ≤ 576 := by rw [hmm]; exact HMX.out
   have hm0 : 0 < m := by
    obtain ⟨x, hx⟩ : ∃ x, ps[0]? = some x := ⟨_, List.getElem?_eq_getElem (by rw [← HN.out]; exact hp)⟩
    have h1 := clO_le hx
    have h2 := PO.c_len (HA.out.fit x (List.mem_of_getElem? hx)).cv
    have h3 := (HA.out.fit x (List.mem_of_getElem? hx)).f1
    omega
   have HMM := hid_of hmm
   obtain ⟨gb, bcb, hbb⟩ := own_at hb.row (by rw [dlO_len, ← HN.out]; exact hp)
   obtain ⟨gq, fcq, hfq⟩ := own_at hf.row (by rw [flO_len, ← HN.out]; exact hp)
   obtain ⟨gc, ccq, hcq⟩ := own_at hc.row (by rw [← hmm]; exact hm0)
   simp only [Value.slice.injEq] at hbb hfq hcq
   obtain ⟨rfl, -, rfl⟩ := hbb
   obtain ⟨rfl, -, rfl⟩ := hfq
   obtain ⟨rfl, -, rfl⟩ := hcq
   have HGB := hid_of (grownB_some gb bc k (dlO ps) wr hb (by rw [dlO_len]; exact HN.out) (by omega) hp (fun i hi => by
    rw [dlO_len] at hi
    rw [dlO_at (List.getElem?_eq_getElem hi)]
    exact (HA.out.fit _ (List.getElem_mem hi)).d))
   have HRC := hid_of hc
   have HRF := hid_of hf
   have HQ := hid_of (RLn.is ⟨hb.own, hb.apart⟩)
   have HKW := hid_of HG.out.kept
   have HAP := hid_of HG.out.apt
   clear hb hf hc hmm HG HNL HM
   go_wp2_with fail
   refine HGB.out.mono ?_
   rintro e w2 ⟨rfl, hk2⟩
   have hc2 := HRC.out.ch hk2 HAP.out.dat.is (by decide) (by decide)
   have hf2 := HRF.out.ch hk2 HAP.out.dat.is (by decide) (by decide)
   have HGI := hid_of (grownI_some gc cc m (clO ps) w2 hc2 HMM.out (by omega) hm0 (fun i hi => by
    obtain ⟨x, hx, j, hj, e⟩ := clO_mem hi
    have hft := HAP.out.fit x hx
    rw [PO.c_len hft.cv] at hj
    rw [e, PO.c_at (List.getElem?_eq_getElem hj) (List.getElem?_eq_getElem (by rw [hft.cv]; exact hj))]
    exact hft.c _ (List.getElem_mem hj)))
   have HKX : Hid (Kept (fun q => Blk (dlO ps) q ∨ Blk (clO ps) q) w w2) := HKW.out.mono (fun _ _ f => f.elim) |>.step hk2 (fun q hq e => .inl e)
   have HQC := hid_of (RLn.is ⟨hc2.own, hc2.apart⟩)
   have HF2 := hid_of hf2
   clear hk2 hc2 hf2 HGB HRC HRF HQ HKW
   go_wp2_with fail
   refine HGI.out.mono ?_
   rintro e w3 ⟨rfl, hk3⟩
   have HB3 := hid_of (HF2.out.ch hk3 HQC.out (by decide) (by decide))
   have HKX3 : Hid (Kept (fun q => Blk (dlO ps) q ∨ Blk (clO ps) q) w w3) := HKX.out.step hk3 (fun q hq e => .inr e)
   obtain ⟨ls, hls⟩ := nmd (flO ps)
   have HLS := hid_of hls
   have HLN : Hid (k = ls.length) := by unfold Hid; rw [hls, flO_len]; exact HN.out
   have HLONG : Hid (∀ i, i < ls.length → (rlAt ls i).n ≤ 64) := fun i hi => by
    rw [hls] at hi ⊢
    rw [flO_len] at hi
    rw [flO_at (List.getElem?_eq_getElem hi)]
    exact (HA.out.fit _ (List.getElem_mem hi)).f2
   rw [← hls] at HB3
   clear hls hk3 HGI HQC HF2 HKX HAP HMM hmx hm0
   have hkI3 : True := trivial
   go_wp2_with fail
   go_loopw [8] (fun i wr => ∃ a : Nat, a ≤ k ∧ i = .int .i64 a ∧ Fil 51 23 4 mkF w3 wr (.slice (some ⟨gq, 0, none⟩) k fc) ls a 0) (fun i _ => k - (intOf i).toNat)
   case atStart => exact ⟨0, Nat.zero_le _, rfl, Fil.start HB3.out⟩
   case round =>
    obtain ⟨a, hak, rfl, hf⟩ := hrel
    by_cases hlt : a < k
    ·have hltI : (a : Int) < (k : Int) := by omega
     have hal : a < ls.length := by rw [← HLN.out]; exact hlt
     have HAL := hid_of hal
     have HF := hid_of hf
     obtain ⟨n, hn⟩ := nmd ((rlAt ls a).n)
     have hn2 : n ≤ 64 := by rw [hn]; exact HLONG.out a hal
     have HNN := hid_of hn
     obtain ⟨vao, vc, hv⟩ := ownsRow_shape (HF.out.own a hal)
     rw [← hn] at hv
     have HV := hid_of hv
     clear hv hn hal hf
     go_wp2_with fail
     go_loopw [9] (fun j wr => ∃ m : Nat, m ≤ n ∧ j = .int .i64 m ∧ Fil 51 23 4 mkF w3 wr (.slice (some ⟨gq, 0, none⟩) k fc) ls a m) (fun j _ => n - (intOf j).toNat)
     case atStart => exact ⟨0, Nat.zero_le _, rfl, HF.out⟩
     case round =>
      obtain ⟨m, hm, rfl, hf⟩ := hrel
      have c0 := row_cell hf.row (g := gq) rfl a HAL.out
      rw [HV.out] at c0
      have HF2 := hid_of hf
      clear hf
      by_cases hml : m < n
      ·have hmlI : (m : Int) < (n : Int) := by omega
       obtain ⟨g, hvg⟩ : ∃ g, vao = some ⟨g, 0, none⟩ := by
        obtain ⟨g, c, e⟩ := own_at (HF2.out.own a HAL.out) (by rw [← HNN.out]; omega)
        rw [HV.out] at e
        cases e
        exact ⟨g, rfl⟩
       subst hvg
       have hown := HF2.out.own a HAL.out
       rw [HV.out, ← HNN.out] at hown
       have hcl : ∀ j, j < 4 → ∃ u, wr.cell? ⟨g, m * 4 + j, none⟩ = some u := fun j hj => ⟨_, own_cell hown (g := g) rfl (m * 4 + j) _ (List.getElem?_eq_getElem (by rw [hown.1]; omega))⟩
       obtain ⟨y0, d0⟩ := hcl 0 (by omega)
       obtain ⟨y1, d1⟩ := hcl 1 (by omega)
       obtain ⟨y2, d2⟩ := hcl 2 (by omega)
       obtain ⟨y3, d3⟩ := hcl 3 (by omega)
       rw [Nat.add_zero] at d0
       have f0 := hown.frozenAt (m * 4)
       have f1 := hown.frozenAt (m * 4 + 1)
       have f2 := hown.frozenAt (m * 4 + 2)
       have f3 := hown.frozenAt (m * 4 + 3)
       have hs := own_setCells (mkF a m) (m * 4) _ _ hown
       rw [cAt_any (n := n) (fun _ => rfl) (by have := (HB3.out.own a HAL.out).1; rw [← HNN.out] at this; exact this) hml] at hs
       have HS := hid_of (Fil.step HB3.out HF2.out HAL.out (by rw [HV.out, ← HNN.out]; exact hs) (by rw [HV.out]; exact (kept_cells g (mkF a m) (m * 4) _).mono (fun q _ e => by rw [e]; rfl)))
       clear hown hs hcl
       have hF1 : True := trivial
       go_wp2
       go_roundw
       case rel => exact ⟨m + 1, by omega, by go_num, HS.out⟩
       case measure => simp [intOf]; omega
      ·have hmn : m = n := by omega
       subst hmn
       have HNX := hid_of (Fil.next HB3.out HAL.out (by rw [← HNN.out]; exact HF2.out))
       have hmI : ¬ ((m : Int) < (m : Int)) := by omega
       go_wp2
       go_roundw
       case rel => exact ⟨a + 1, by omega, by go_num, HNX.out⟩
       case measure => simp [intOf]; omega
    ·have hae : a = k := by omega
     subst hae
     have HF := hid_of (show Fil 51 23 4 mkF w3 _ _ ls ls.length 0 by rw [← HLN.out]; exact hf)
     have haI : ¬ ((a : Int) < (a : Int)) := by omega
     clear hf
     rename World => w4
     go_wp2_with (at_builtin; refine wpList_append_old _ rfl (.tmp 94) (.tmp 95) 70 rfl w4.heap.size 23 i23 (.slice none 0 0) 1 24 Tryz.underlying70 hi23 z230 z231 z232 rfl (by decide) _ 0 [] rfl (World.ownsRow_nil _ _ _ _) ⟨gq, 0, none⟩ a fc (ls.map RL.v) rfl (by rw [List.length_map, ← HLN.out, Nat.mul_one]) (fun j u hu => (HF.out.row.cells (g := gq) rfl j u hu)) HB3.out.one (by unfold maxLen; omega) (by omega) (Nat.le_refl _) ?_)
     intro mv w5 hown2 hgrow2 _
     have hk12 : Kept (fun _ => False) w4 w5 := (kept_grown hgrow2 (Kept.refl _ _)).mono (fun q _ e => by simp [Value.ownBlock] at e)
     obtain ⟨gm, mc, hmv⟩ := own_at hown2 hp
     subst hmv
     have HM0 := hid_of (Mor.start (an := anF) HB3.out HF.out hk12 (by rw [← HLN.out]; exact hown2))
     clear hown2 hgrow2 hk12 HF
     go_wp2_with fail
     go_loopw [11] (fun j wr => ∃ (m : Nat) (ms : List RL), m ≤ 9 ∧ j = .int .i64 m ∧ Mor 51 23 4 mkF anF w3 wr (.slice (some ⟨gq, 0, none⟩) a fc) (.slice (some ⟨gm, 0, none⟩) a mc) ls ms m 0) (fun j _ => 9 - (intOf j).toNat)
     case atStart => exact ⟨0, _, by omega, rfl, HM0.out⟩
     case round =>
      obtain ⟨m, ms, hm, rfl, hmo⟩ := hrel
      by_cases hml : m < 9
      ·have hmlI : (m : Int) < 9 := by omega
       have HMO := hid_of hmo
       clear hmo
       go_wp2_with fail
       go_loopw [12] (fun i wr => ∃ (i' : Nat) (ms : List RL), i' ≤ a ∧ i = .int .i64 i' ∧ Mor 51 23 4 mkF anF w3 wr (.slice (some ⟨gq, 0, none⟩) a fc) (.slice (some ⟨gm, 0, none⟩) a mc) ls ms m i') (fun i _ => a - (intOf i).toNat)
       case atStart => exact ⟨0, _, by omega, rfl, HMO.out⟩
       case round =>
        obtain ⟨i, ms', hi, rfl, hmo⟩ := hrel
        by_cases hil : i < a
        ·have hilI : (i : Int) < (a : Int) := by omega
         have hkl : i < ls.length := by rw [← HLN.out]; exact hil
         have hml2 : i < ms'.length := by rw [hmo.len]; exact hkl
         have c0 := row_cell hmo.bls.row (g := gm) rfl i hml2
         have hrw := hmo.bls.row
         rw [hmo.len, ← HLN.out] at hrw
         have f0 := hrw.frozenAt i
         have hown := hmo.bls.own i hml2
         have hnn := hmo.n i hkl
         rw [if_neg (by omega)] at hnn
         have hn2 := HLONG.out i hkl
         obtain ⟨n, hn⟩ := nmd ((rlAt ms' i).n)
         obtain ⟨X, hX⟩ := nmd ((rlAt ms' i).xs)
         have hn3 : n ≤ 64 + 9 := by omega
         have hgm : gm < wr.heap.size := hmo.bls.lt gm rfl
         have hoff : (rlAt ms' i).v.ownBlock ≠ some gm := fun e => hmo.bls.off i hml2 gm e rfl
         obtain ⟨vo, vc, hv⟩ := ownsRow_shape hown
         rw [← hn] at hv
         rw [hv] at c0
         have HO := hid_of (show wr.ownsRow 0 51 4 (.slice vo n vc) n X by rw [hX, ← hv, hn]; exact hown)
         have HKL := hid_of hkl
         have HNN := hid_of hn
         have HX := hid_of hX
         have HV := hid_of hv
         have HMO2 := hid_of hmo
         have HOFF := hid_of hoff
         have HGM := hid_of hgm
         have HC0 := hid_of c0
         have HF0 := hid_of f0
         clear hown hnn hn2 hn hX hv hmo hrw f0 hoff hgm hkl hml2
         go_wp2_with (at_builtin; refine wpList_append_old _ rfl (.tmp 112) (.tmp 117) 23 rfl 0 51 i51 (.agg #[.int .i64 0, .int .i64 0, .int .i64 0, .slice none 0 0]) 4 48 Tryz.underlying23 hi51 z510 z511 z512 rfl (by decide) _ n X rfl (HO.out.alloc _) ⟨_, 0, none⟩ 1 1 [.int .i64 (-1 - (i : Int)), .int .i64 (m : Int), .int .i64 0, .slice none 0 0] rfl rfl (cell_row_newG _ [_, _, _, _] _) (by intro u hu; simp at hu; rcases hu with rfl | rfl | rfl | rfl <;> rfl) (by unfold maxLen; omega) (by omega) (Nat.zero_le _) ?_)
         intro gv' w' hown' hgrow hat hold
         have hkp : Kept (fun q => (rlAt ms' i).v.ownBlock = some q) wr w' := by
          rw [HV.out]
          exact kept_grown hgrow ((Kept.refl _ wr).alloc _)
         have R := hid_of (Mor.step (an := anF) HB3.out HMO2.out HKL.out (by rw [← HNN.out, ← HX.out]; exact hown') hkp (by rw [HV.out]; exact at_of hat (by omega)) (by rw [HV.out, ← HX.out]; exact hold))
         have c1 := hkp.cell HC0.out (show ¬ (rlAt ms' i).v.ownBlock = some gm from HOFF.out)
         have f1 := hkp.frozen HGM.out HF0.out (show ¬ (rlAt ms' i).v.ownBlock = some gm from HOFF.out)
         obtain ⟨ga, gc, hgv⟩ := ownsRow_shape hown'
         obtain ⟨gn, hgn⟩ := nmd (n + 1)
         rw [← hgn] at hgv
         clear hgn hown' hgrow hat hold hkp c0 HO HC0 HF0
         subst hgv
         go_wp2
         go_roundw
         case rel => exact ⟨i + 1, _, by omega, by go_num, R.out⟩
         case measure => simp [intOf]; omega
        ·have hik : i = a := by omega
         subst hik
         have R := hid_of (Mor.turn hmo HLN.out)
         have hkI2 : ¬ ((i : Int) < (i : Int)) := by omega
         clear hmo
         go_wp2
         go_roundw
         case rel => exact ⟨m + 1, _, by omega, by go_num, R.out⟩
         case measure => simp [intOf]; omega
      ·have hm9 : m = 9 := by omega
       subst hm9
       have HMO := hid_of hmo
       clear hmo
       rename World => w6
       go_wp2_with fail
       go_loopw [13] (fun i wr => ∃ (i' : Nat), i' ≤ a ∧ i = .int .i64 i' ∧ Mor 51 23 4 mkF anF w3 wr (.slice (some ⟨gq, 0, none⟩) a fc) (.slice (some ⟨gm, 0, none⟩) a mc) ls ms 9 0) (fun i _ => a - (intOf i).toNat)
       case atStart => exact ⟨0, by omega, rfl, HMO.out⟩
       case round =>
        obtain ⟨i, hi, rfl, hmo⟩ := hrel
        by_cases hil : i < a
        ·have hilI : (i : Int) < (a : Int) := by omega
         have hkl : i < ls.length := by rw [← HLN.out]; exact hil
         have hml2 : i < ms.length := by rw [hmo.len]; exact hkl
         have c0 := row_cell hmo.row (g := gq) rfl i hkl
         obtain ⟨n, hn⟩ := nmd ((rlAt ls i).n)
         have hn2 : n ≤ 64 := by rw [hn]; exact HLONG.out i hkl
         obtain ⟨vo, vc, hv⟩ := ownsRow_shape (HB3.out.own i hkl)
         rw [← hn] at hv
         have hvn : 0 < n → ∃ g, vo = some ⟨g, 0, none⟩ := fun h0 => by
          obtain ⟨g, c, e⟩ := own_at (HB3.out.own i hkl) (by rw [← hn]; exact h0)
          rw [hv] at e
          cases e
          exact ⟨g, rfl⟩
         have hmn := hmo.n i hkl
         rw [if_neg (by omega), ← hn] at hmn
         obtain ⟨g2, c2, hm2⟩ := own_at (hmo.bls.own i hml2) (by omega)
         obtain ⟨nm, hnm⟩ := nmd (n + 9)
         rw [hmn, ← hnm] at hm2
         rw [hv] at c0
         have HNM := hid_of hnm
         have HNN := hid_of hn
         have HV := hid_of hv
         have HVN := hid_of hvn
         have HM2 := hid_of hm2
         have HKL := hid_of hkl
         have HML := hid_of hml2
         have hnmI : (nm : Int) = (n : Int) + 9 := by omega
         have HNI := hid_of hnmI
         have HMO2 := hid_of hmo
         clear hmo hn hv hvn hmn hm2 hnm hkl hml2 hnmI
         go_wp2_with fail
         go_loopw [15] (fun j wr => ∃ m : Nat, m ≤ n + 9 ∧ j = .int .i64 m ∧ Mor 51 23 4 mkF anF w3 wr (.slice (some ⟨gq, 0, none⟩) a fc) (.slice (some ⟨gm, 0, none⟩) a mc) ls ms 9 0) (fun j _ => n + 9 - (intOf j).toNat)
         case atStart => exact ⟨0, by omega, rfl, HMO2.out⟩
         case round =>
          obtain ⟨m, hm, rfl, hmo⟩ := hrel
          have c0 := row_cell hmo.row (g := gq) rfl i HKL.out
          rw [HV.out] at c0
          have c2 := row_cell hmo.bls.row (g := gm) rfl i HML.out
          rw [HM2.out] at c2
          by_cases hml : m < n + 9
          ·have hmlI : (m : Int) < (n : Int) + 9 := by omega
           have hmnm : (m : Int) < (nm : Int) := by rw [HNI.out]; exact hmlI
           have hxs := hmo.xs i HKL.out
           rw [if_neg (by omega), ← HNN.out] at hxs
           by_cases hmn : m < n
           ·have hmnI : (m : Int) < (n : Int) := by omega
            have hnd : ¬ ((n : Int) ≤ (m : Int)) := by omega
            obtain ⟨g, hvg⟩ := HVN.out (by omega)
            subst hvg
            have hat := rowOf_range (mk := mkF i) (s := 4) (fun _ => rfl) m n hmn
            have c10 := hmo.cells i HKL.out g (by rw [HV.out]; rfl) (m * 4 + 0) _ (by rw [← HNN.out]; exact hat 0 _ rfl)
            have c11 := hmo.cells i HKL.out g (by rw [HV.out]; rfl) (m * 4 + 1) _ (by rw [← HNN.out]; exact hat 1 _ rfl)
            rw [Nat.add_zero] at c10
            have HR : Hid (wr.rangeAt g2 (m * 4) (mkF i m)) := own_range (hmo.bls.own i HML.out) (g := g2) (by rw [HM2.out]; rfl) (m * 4) _ (fun j u hu => by
             have h1 := hat j u hu
             rw [hxs, List.getElem?_append_left (List.getElem?_eq_some_iff.1 h1).1]
             exact h1)
            have HMO4 := hid_of hmo
            have hw9 : IntKind.i64.wrap (100 + (i : Int)) = 100 + (i : Int) := by simp [IntKind.wrap, IntKind.bits, IntKind.signed]; omega
            clear hmo hxs hat
            obtain ⟨c30, c31, c32, c33⟩ := look4r HR.out
            clear HR
            go_upto_region 39 with fail
            have hkA : Kept (fun _ => False) wr (wr.alloc (.cells #[.int .i64 (100 + (i : Int)), .int .i64 (m : Int), .int .i64 0, .slice none 0 0] 51)) := (Kept.refl _ _).alloc _
            have HM5 := hid_of (HMO4.out.same hkA)
            have d0 := hkA.cell c0 id
            have d10 := hkA.cell c10 id
            have d11 := hkA.cell c11 id
            clear c0 c10 c11
            have hx4 := heap_alloc_new wr (.cells #[.int .i64 (100 + (i : Int)), .int .i64 (m : Int), .int .i64 0, .slice none 0 0] 51)
            have d40 := cell_block _ wr.heap.size 0 _ _ _ hx4
            have d41 := cell_block _ wr.heap.size 1 _ _ _ hx4
            clear hkA c30 c31 c32 c33 hx4 HMO4
            generalize wr.alloc (.cells #[.int .i64 (100 + (i : Int)), .int .i64 (m : Int), .int .i64 0, .slice none 0 0] 51) = w5 at *
            generalize wr.heap.size = gx at *
            go_wp2
            go_roundw
            case rel => exact ⟨m + 1, by omega, by go_num, HM5.out⟩
            case measure => simp [intOf]; omega
           ·have hmnI : (n : Int) ≤ (m : Int) := by omega
            have hnd : ¬ ((m : Int) < (n : Int)) := by omega
            have hat := rowOf_range (mk := anF i) (s := 4) (fun _ => rfl) (m - n) 9 (by omega)
            have HR : Hid (wr.rangeAt g2 (m * 4) [.int .i64 (-1 - (i : Int)), .int .i64 ((m : Int) - (n : Int)), .int .i64 0, .slice none 0 0]) := own_range (hmo.bls.own i HML.out) (g := g2) (by rw [HM2.out]; rfl) (m * 4) _ (fun j u hu => by
             have h1 := hat j u (by rw [anF, show (((m - n : Nat)) : Int) = (m : Int) - (n : Int) by omega]; exact hu)
             rw [hxs, List.getElem?_append_right (by rw [rowOf_len (s := 4) (fun _ => rfl)]; omega), rowOf_len (s := 4) (fun _ => rfl), show m * 4 + j - n * 4 = (m - n) * 4 + j by omega]
             exact h1)
            have HMO4 := hid_of hmo
            clear hmo hxs hat
            have hw8 : IntKind.i64.wrap ((m : Int) - (n : Int)) = (m : Int) - (n : Int) := by simp [IntKind.wrap, IntKind.bits, IntKind.signed]; omega
            have hw7 : IntKind.i64.wrap (-1 - (i : Int)) = -1 - (i : Int) := by simp [IntKind.wrap, IntKind.bits, IntKind.signed]; omega
            obtain ⟨c30, c31, c32, c33⟩ := look4r HR.out
            clear HR
            go_upto_region 39 with fail
            have hkA : Kept (fun _ => False) wr (wr.alloc (.cells #[.int .i64 (-1 - (i : Int)), .int .i64 ((m : Int) - (n : Int)), .int .i64 0, .slice none 0 0] 51)) := (Kept.refl _ _).alloc _
            have HM5 := hid_of (HMO4.out.same hkA)
            have hx4 := heap_alloc_new wr (.cells #[.int .i64 (-1 - (i : Int)), .int .i64 ((m : Int) - (n : Int)), .int .i64 0, .slice none 0 0] 51)
            have d40 := cell_block _ wr.heap.size 0 _ _ _ hx4
            have d41 := cell_block _ wr.heap.size 1 _ _ _ hx4
            clear hkA c30 c31 c32 c33 hx4 HMO4
            generalize wr.alloc (.cells #[.int .i64 (-1 - (i : Int)), .int .i64 ((m : Int) - (n : Int)), .int .i64 0, .slice none 0 0] 51) = w5 at *
            generalize wr.heap.size = gx at *
            go_wp2
            go_roundw
            case rel => exact ⟨m + 1, by omega, by go_num, HM5.out⟩
            case measure => simp [intOf]; omega
          ·have hmN : m = n + 9 := by omega
           have hmI : ¬ ((m : Int) < (n : Int) + 9) := by omega
           have HMO4 := hid_of hmo
           clear hmo hmN
           go_wp2
           go_roundw
           case rel => exact ⟨i + 1, by omega, by go_num, HMO4.out⟩
           case measure => simp [intOf]; omega
        ·have hik : i = a := by omega
         subst hik
         have hkI3 : ¬ ((i : Int) < (i : Int)) := by omega
         have HKP := hid_of hmo.kept
         clear hmo HMO
         go_wp2
         go_ret
         exact ⟨rfl, (HKX3.out.mono (fun q _ e => e.elim .inl (fun e => .inr (.inr e)))).step HKP.out (fun q _ e => .inr (.inl (by rw [HLS.out] at e; exact e)))⟩
end Go.Proofs.YtpfmhibdmehlcaaGreatDoor
