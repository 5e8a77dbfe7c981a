import Derived.Test.YtpfmhibdmehlcaaGreatDoorTOx30
import Derived.Test.YtpfmhibdmehlcaaGreatDoorTOx9
import Derived.Test.YtpfmhibdmehlcaaGreatDoorTOx8
import Derived.Test.YtpfmhibdmehlcaaGreatDoorTOx14
namespace Go.Proofs.YtpfmhibdmehlcaaGreatDoor
open Go.RowKit
set_option linter.unusedVariables false
set_option linter.unusedSimpArgs false
set_option maxRecDepth 100000
variable {w0 w : World} {r gm : Nat} {R : Rdr} {NL : List (ByteArray × Int)} {dv fv lv wv : Value} {CV : List Value} {GM : List Nat}
abbrev R0 : Rdr := ⟨0, false, [], [], []⟩
def readP (b : List UInt8) : (Int × Int) ⊕ Rdr :=
 if 65536 < b.length then .inl (0, 2) else match linesP R0 1 (linesL b) with
  | .inl e => .inl e
  | .inr R => match settleF R.ws R.fs with
   | .inl ln => .inl (ln, 142)
   | .inr fs' => if checkP (pgG ⟨R.mem, R.sized, R.data, fs', R.ws⟩) = 0 then .inr ⟨R.mem, R.sized, R.data, fs', R.ws⟩ else .inl (0, checkP (pgG ⟨R.mem, R.sized, R.data, fs', R.ws⟩))
theorem codeF_bad {R : Rdr} {gs : List Fnc} {f : Fnc} {ln : Int} {ls : List ByteArray} {l : List Pf} {e : Int} (h : codeF R gs f ln ls l = .bad e) : 141 ≤ e ∧ e ≤ 143 := by
 unfold codeF at h
 repeat' split at h
 all_goals first | (cases h; done) | skip
 all_goals
  injection h with h
  omega
theorem codeP_bad {R : Rdr} {ln : Int} {ls : List ByteArray} {l : List Pf} {e : Int} (h : codeP R ln ls l = .bad e) : 141 ≤ e ∧ e ≤ 143 := by
 unfold codeP at h
 split at h
 ·injection h with h
  omega
 ·exact codeF_bad h
theorem lineP_bad {R : Rdr} {ln : Int} {o : Option (List Pf)} {e : Int} (h : lineP R ln o = .bad e) : 141 ≤ e ∧ e ≤ 143 := by
 unfold lineP at h
 split at h
 ·injection h with h
  omega
 ·split at h
  ·unfold headP at h
   split at h
   ·cases h
   ·split at h
    ·injection h with h
     omega
    ·split at h
     ·unfold memP at h
      repeat' split at h
      all_goals first | (cases h; done) | skip
      all_goals
       injection h with h
       omega
     ·split at h
      ·unfold datP at h
       repeat' split at h
       all_goals first | (cases h; done) | skip
       all_goals
        injection h with h
        omega
      ·split at h
       ·unfold funP at h
        repeat' split at h
        all_goals first | (cases h; done) | skip
        all_goals
         injection h with h
         omega
       ·exact codeP_bad h
  ·exact codeP_bad h
theorem Fam.mono {w : World} {B B' e s : Nat} {vs : List Value} {xss : List (Nat × List Value)} (h : Fam w B e s vs xss) (hB : B' ≤ B) : Fam w B' e s vs xss := ⟨h.len, fun i v x hv hx => own_mono (h.row i v x hv hx) hB, h.apart⟩
theorem RdX.mono {w00 : World} (h : RdX w0 w r R dv fv lv wv gm CV GM) (hk : Kept (fun _ => False) w00 w0) : RdX w00 w r R dv fv lv wv gm CV GM :=
 ⟨⟨h.box, own_mono h.data hk.size, own_mono h.fns hk.size, h.code.mono hk.size, own_mono h.mps hk.size, h.maps, h.names, h.nodup, fun g hg => Nat.le_trans hk.size (h.newer g hg), own_mono h.wts hk.size, hk.trans h.kept, Nat.le_trans hk.size h.lo⟩, h.glen⟩
theorem RdX.ch {S : Nat → Prop} {t : TypeId} {w' : World} (h : RdX w0 w r R dv fv lv wv gm CV GM) (hk : Kept S w w') (hc : Ch w S t) (hne : t ≠ 5 ∧ t ≠ 51 ∧ t ≠ 48 ∧ t ≠ 89 ∧ t ≠ 130) (hb : t ≠ 93) (hS : ∀ q, S q → w0.heap.size ≤ q) : RdX w0 w' r R dv fv lv wv gm CV GM :=
 ⟨(h.rest.ch hk hc hne).with (box_ch hk hc h.box hb) (h.kept.step hk (fun q hq e => by have := hS q e; omega)) h.lo, h.glen⟩
def ReadR (o : (Int × Int) ⊕ Rdr) (w : World) (e : Ending) (w' : World) : Prop :=
 ∃ (m : Int) (a a' : Option Addr) (k c k' c' : Nat) (ln er : Int), e = .returned (.tuple #[.agg #[.int .i64 m, .slice a k c, .slice a' k' c'], .int .i64 ln, .int .i64 er]) ∧ Kept (fun _ => False) w w' ∧
  ((o = .inl (ln, er) ∧ er ≠ 0) ∨ (∃ R', o = .inr R' ∧ er = 0 ∧ ∃ r fv lv wv gm CV GM, fv = .slice a' k' c' ∧ m = R'.mem ∧ R'.Nums ∧ R'.Ok ∧ checkP (pgG R') = 0 ∧ RdX w w' r R' (.slice a k c) fv lv wv gm CV GM))
set_option maxHeartbeats 16000000 in
theorem readG (D : ByteArray) (hD : D.size ≤ 9223372036854775807) (w : World) (hG : Gs w) : Calls Tryz.prog 21 #[.string D] w (ReadR (readP D.data.toList) w) := by
 obtain ⟨O, hO⟩ := nmd (readP D.data.toList)
 rw [← hO]
 have HOO := hid_of hO
 clear hO
 have hDI : (D.size : Int) ≤ 9223372036854775807 := by omega
 obtain ⟨W1, hW1⟩ := nmd (w.alloc (.cells #[.int .i64 0, .slice none 0 0, .slice none 0 0] 25))
 have k1 : Kept (fun _ => False) w W1 := by rw [hW1]; exact (Kept.refl _ _).alloc _
 have x1 : W1.heap[w.heap.size]? = some (.cells #[.int .i64 0, .slice none 0 0, .slice none 0 0] 25 (0, 0)) := by rw [hW1]; exact heap_alloc_new _ _
 have hs1 : W1.heap.size = w.heap.size + 1 := by rw [hW1]; simp
 have HG1 := hid_of (hG.same k1)
 have HK1 := hid_of k1
 have HX1 := hid_of x1
 have hmm := @run_makeMap Tryz.prog
 clear hG k1 x1
 by_cases hbig : 65536 < D.size
 ·have hbI : (65536 : Int) < (D.size : Int) := by omega
  have HE : Hid (O = .inl (0, 2)) := by
   show O = _
   rw [HOO.out]
   unfold readP
   rw [if_pos (by rw [← Lib.size_eq]; exact hbig)]
  go_enter Tryz.func21, Tryz.ntmps21
  go_upto_region 1 with fail
  rw [← hW1]
  obtain ⟨p0, hp0⟩ := nmd (w.heap.size)
  rw [← hp0] at HX1 ⊢
  have HPW : Hid (w.heap.size ≤ p0) := by rw [hp0]; exact Nat.le_refl _
  clear hW1 hs1 hp0 hbig
  obtain ⟨c0, c1, c2, f0, f1, f2⟩ := look3 HX1.out
  obtain ⟨hx, hkx⟩ := set3 W1 p0 25 _ _ _ (.int .i64 0) (.slice none 0 0) (.slice none 0 0) HX1.out
  have HX2 := hid_of hx
  have HK2 := hid_of (HK1.out.step hkx (fun q hq e => by have := HPW.out; omega))
  clear hx hkx
  go_wp2
  refine bodyPost_ret (v := .tuple #[.agg #[.int .i64 0, .slice none 0 0, .slice none 0 0], .int .i64 0, .int .i64 2]) ?_ rfl ⟨0, none, none, 0, 0, 0, 0, 0, 2, rfl, HK2.out, .inl ⟨HE.out, by decide⟩⟩
  exact results_rowtt (by rfl) _ _ p0 25 _ (0, 0) _ _ _ (by rfl) (by rfl) (by rfl) HX2.out Tryz.underlying25 rfl size37
 have hbI : ¬ (65536 : Int) < (D.size : Int) := by omega
 have HSZ : Hid (D.data.toList.length ≤ 65536) := by show _ ≤ 65536; rw [← Lib.size_eq]; omega
 have HOL : Hid (O = match linesP R0 1 (linesL D.data.toList) with
  | .inl e => .inl e
  | .inr R => match settleF R.ws R.fs with
   | .inl ln => .inl (ln, 142)
   | .inr fs' => if checkP (pgG ⟨R.mem, R.sized, R.data, fs', R.ws⟩) = 0 then .inr ⟨R.mem, R.sized, R.data, fs', R.ws⟩ else .inl (0, checkP (pgG ⟨R.mem, R.sized, R.data, fs', R.ws⟩))) := by
  show O = _
  rw [HOO.out]
  unfold readP
  rw [if_neg (by rw [← Lib.size_eq]; exact hbig)]
 obtain ⟨LS, hLS⟩ := nmd (linesL D.data.toList)
 rw [← hLS] at HOL
 have HLS : Hid (LS.length ≤ 65537 ∧ ∀ l ∈ LS, l.length ≤ 65536) := by
  have h1 := linesL_len D.data.toList
  rw [← hLS] at h1
  have := HSZ.out
  exact ⟨by omega, fun l hl => by have := h1.2 l hl; omega⟩
 have HSP1 := hid_of (split_is2 D)
 have HCN := hid_of (count_is2 D)
 rw [← hLS] at HSP1 HCN
 clear hLS HOO
 go_enter Tryz.func21, Tryz.ntmps21
 go_upto_region 1 with fail
 rw [← hW1]
 obtain ⟨p0, hp0⟩ := nmd (w.heap.size)
 rw [← hp0] at HX1 ⊢
 have HPW : Hid (w.heap.size ≤ p0) := by rw [hp0]; exact Nat.le_refl _
 have HP1 : Hid (p0 < W1.heap.size) := by unfold Hid; rw [hs1, hp0]; omega
 clear hW1 hs1 hp0 hbig
 have hkm : Kept (fun _ => False) W1 (W1.alloc (.map #[] 0)) := (Kept.refl _ _).alloc _
 have hmp := heap_alloc_new W1 (.map #[] 0)
 have hszm : (W1.alloc (.map #[] 0)).heap.size = W1.heap.size + 1 := by simp
 obtain ⟨W3, hW3⟩ := nmd ((W1.alloc (.map #[] 0)).alloc (.cells #[.int .i64 0, .slice none 0 0, .slice none 0 0, .bool false, .map (some W1.heap.size), .slice none 0 0, .slice none 0 0] 93))
 have hkr : Kept (fun _ => False) (W1.alloc (.map #[] 0)) W3 := by rw [hW3]; exact (Kept.refl _ _).alloc _
 have hrd : W3.heap[W1.heap.size + 1]? = some (.cells #[.int .i64 0, .slice none 0 0, .slice none 0 0, .bool false, .map (some W1.heap.size), .slice none 0 0, .slice none 0 0] 93 (0, 0)) := by
  have := heap_alloc_new (W1.alloc (.map #[] 0)) (.cells #[.int .i64 0, .slice none 0 0, .slice none 0 0, .bool false, .map (some W1.heap.size), .slice none 0 0, .slice none 0 0] 93)
  rw [hszm, ← hW3] at this
  exact this
 have HRA : Hid (RdG W1 W3 (W1.heap.size + 1) R0) := ⟨.slice none 0 0, .slice none 0 0, .slice none 0 0, .slice none 0 0, W1.heap.size, [], [],
  ⟨⟨hrd, World.ownsRow_nil _ _ _ _, World.ownsRow_nil _ _ _ _, Fam.nil, World.ownsRow_nil _ _ _ _, fun i g f h => by simp at h, map_new (box_kept hkr hmp id), by simp, fun g hg => by rw [List.mem_singleton.1 hg]; exact Nat.le_refl _, World.ownsRow_nil _ _ _ _, hkm.trans hkr, Nat.le_succ _⟩, rfl⟩⟩
 have HK3 := hid_of (hkm.trans hkr)
 clear hkm hmp hszm hkr hrd
 go_upto_region 4 with fail
 rw [← hW3]
 generalize W1.heap.size + 1 = r at *
 clear hW3 hmm
 have HG3 := hid_of (HG1.out.same HK3.out)
 obtain ⟨m, q1⟩ := HG3.out.gl.len
 have HSP := hid_of (Tryz.strings_Split D nlB m W3 (by omega) q1 (by decide))
 rw [HSP1.out, HCN.out] at HSP
 clear q1 HSP1 HCN
 go_wp2_with fail
 refine HSP.out.mono ?_
 rintro e W4 ⟨rfl, hw4⟩
 have k4 : Kept (fun _ => False) W3 W4 := by rw [hw4]; exact (Kept.refl _ _).alloc _
 have x4 : W4.heap[W3.heap.size]? = some (.cells ((LS.map toB).map Value.string).toArray 9 (0, 0)) := by rw [hw4]; exact heap_alloc_new _ _
 have HRA4 := hid_of (HRA.out.same k4)
 have HT4 := hid_of x4
 clear hw4 k4 x4 HSP HRA HG3 HK3
 generalize W3.heap.size = gt at *
 obtain ⟨n, hn⟩ := nmd (LS.length)
 rw [← hn]
 have HN := hid_of hn
 have hnI : (n : Int) ≤ 65537 := by have := HLS.out.1; omega
 clear hn
 go_wp2_with fail
 go_loopw [22] (fun iv wr => ∃ (i : Nat) (R : Rdr), iv = .int .i64 (i : Int) ∧ i ≤ n ∧ Hid (RdG W1 wr r R) ∧ Hid (Inv R i) ∧ Hid (OthG W4 wr) ∧ Hid (linesP R0 1 LS = linesP R ((i : Int) + 1) (LS.drop i))) (fun iv _ => n - (intOf iv).toNat)
 case atStart => exact ⟨0, R0, rfl, Nat.zero_le _, HRA4, Inv.first, OthG.refl _, rfl⟩
 case round =>
  clear HRA4
  obtain ⟨i, R, rfl, hin, HRG, HIV, HOT, HLP⟩ := hrel
  by_cases hlt : i < n
  ·have hil : i < LS.length := by have := HN.out; omega
   have hltI : (i : Int) < (n : Int) := by omega
   obtain ⟨l, hl⟩ := nmd (LS[i]'hil)
   have hT := HOT.out gt _ 9 HT4.out (.inl rfl)
   have t0 : wr.cell? ⟨gt, i, none⟩ = some (.string (toB l)) := by
    rw [cell_block _ _ i _ _ _ hT, hl]
    simp [hil]
   have hlm : l ∈ LS := by rw [hl]; exact List.getElem_mem hil
   have hls := HLS.out.2 l hlm
   have HL := hid_of (lineG (w := wr) ((i : Int) + 1) (toB l) (by rw [Lib.size_eq, toB_list]; exact hls) (HG1.out.same HRG.out.kept) HRG.out (HIV.out.ok (by omega)))
   rw [toB_list] at HL
   have HD : Hid (linesP R0 1 LS = match lineP R ((i : Int) + 1) (cutV l) with | .bad e => .inl ((i : Int) + 1, e) | .good R' => linesP R' ((i : Int) + 1 + 1) (LS.drop (i + 1))) := by
    show _ = _
    rw [HLP.out, List.drop_eq_getElem_cons hil, ← hl]
    rfl
   have HIL : Hid (∀ R', lineP R ((i : Int) + 1) (cutV l) = .good R' → Inv R' (i + 1)) := fun R' e => inv_line HIV.out (by omega) hls e
   clear hl hT hlm hls hil HLP HIV
   go_wp2_with fail
   refine HL.out.mono ?_
   rintro e w5 ⟨hk5, ⟨R', hR', rfl, hg5, ho5⟩ | ⟨er, hbad, rfl⟩⟩
   ·have HG5 := hid_of hg5
    have HI5 := hid_of (HIL.out R' hR')
    have HO5 := hid_of (HOT.out.trans ho5)
    have HD5 : Hid (linesP R0 1 LS = linesP R' ((i : Int) + 1 + 1) (LS.drop (i + 1))) := by
     have := HD.out
     rw [hR'] at this
     exact this
    clear hk5 hR' hg5 ho5 HL HD HIL t0
    go_wp2
    go_roundw
    case rel => exact ⟨i + 1, R', by go_num, by omega, HG5, HI5, HO5, by have := HD5.out; show linesP R0 1 LS = linesP R' (((i + 1 : Nat) : Int) + 1) _; rw [this]; congr 1⟩
    case measure => simp [intOf]; omega
   ·have hb := lineP_bad hbad
    have HE : Hid (O = .inl ((i : Int) + 1, er)) := by
     show O = _
     rw [HOL.out, HD.out, hbad]
    have HB : Hid (er ≠ 0) := by show er ≠ 0; omega
    have e0 : (er != 0) = true := by simp; omega
    have HK5 := hid_of hk5
    obtain ⟨hx, hkx⟩ := set3 w5 p0 25 _ _ _ (.int .i64 0) (.slice none 0 0) (.slice none 0 0) (box_kept hk5 HX1.out id)
    obtain ⟨c0, c1, c2, f0, f1, f2⟩ := look3 (box_kept hk5 HX1.out id)
    have HX6 := hid_of hx
    have HK6 := hid_of ((HK1.out.trans hk5).step hkx (fun q hq e => by have := HPW.out; omega))
    clear hk5 hbad hb hx hkx HL HD HIL t0
    go_wp2
    refine bodyPost_ret (v := .tuple #[.agg #[.int .i64 0, .slice none 0 0, .slice none 0 0], .int .i64 ((i : Int) + 1), .int .i64 er]) ?_ rfl ⟨0, none, none, 0, 0, 0, 0, _, er, rfl, HK6.out, .inl ⟨HE.out, HB.out⟩⟩
    exact results_rowtt (by rfl) _ _ p0 25 _ (0, 0) _ _ _ (by rfl) (by rfl) (by rfl) HX6.out Tryz.underlying25 rfl size37
  ·have hlt' : ¬ (i : Int) < (n : Int) := by omega
   have HLE : Hid (linesP R0 1 LS = .inr R) := by
    show _ = _
    have := HLP.out
    rw [List.drop_of_length_le (by have := HN.out; omega)] at this
    exact this
   have hok := HIV.out.ok (by omega)
   have HIO := hid_of hok
   have HST := hid_of (settleG (w := wr) HRG.out HIV.out.wok hok.ws (by have := hok.fs; omega) hok.code)
   clear HLP hok
   go_wp2_with fail
   refine HST.out.mono ?_
   rintro e w5 ⟨hk5, ⟨fs', hfs, rfl, hg5⟩ | ⟨ln, hln, rfl⟩⟩
   ·obtain ⟨dv, fv, lv, wv, gm, CV, GM, hX⟩ := hg5
    obtain ⟨so, sl, sc⟩ := settle_ok _ _ _ hfs HIV.out.nums.fns (by have := HIO.out.fs; omega)
    obtain ⟨R', hR'⟩ := nmd ((⟨R.mem, R.sized, R.data, fs', R.ws⟩ : Rdr))
    rw [← hR'] at hX
    have hnum : R'.Nums := by rw [hR']; exact ⟨HIV.out.nums.mem, HIV.out.nums.data, so⟩
    have hok' : R'.Ok := by
     rw [hR']
     refine ⟨by show fs'.length ≤ _; rw [sl]; exact HIO.out.fs, fun f hf => ?_, HIO.out.ws, HIO.out.data, fun x hx => by show x.fn < fs'.length; rw [sl]; exact HIO.out.wf x hx⟩
     have hm : f.code.length ∈ fs'.map (fun f => f.code.length) := List.mem_map.2 ⟨f, hf, rfl⟩
     rw [sc] at hm
     obtain ⟨f0, h0, e0⟩ := List.mem_map.1 hm
     rw [← e0]
     exact HIO.out.code f0 h0
    have HNU := hid_of hnum
    have HOK := hid_of hok'
    have HOE : Hid (O = if checkP (pgG R') = 0 then .inr R' else .inl (0, checkP (pgG R'))) := by
     show O = _
     rw [HOL.out, HLE.out]
     simp only
     rw [hfs]
     simp only
     rw [← hR']
    have HCK := hid_of (check_p _ (pgG R') w5 _ hX.pg (Nat.le_refl _) (pgG_ok hnum hok'))
    have HX5 := hid_of hX
    obtain ⟨da, dc, hdv⟩ := ownsRow_shape hX.data
    obtain ⟨dn, hdn⟩ := nmd (R'.data.length)
    rw [← hdn] at hdv
    obtain ⟨fa, fc, hfv⟩ := ownsRow_shape hX.fns
    obtain ⟨fn, hfn⟩ := nmd (R'.fs.length)
    rw [← hfn] at hfv
    have HDV := hid_of hdv
    have HFV := hid_of hfv
    have hbox := hX.box
    rw [hdv, hfv] at hbox
    rw [hdv, hfv] at HCK
    obtain ⟨cz, hcz⟩ := nmd (checkP (pgG R'))
    rw [← hcz] at HCK HOE
    have HCZ := hid_of hcz
    obtain ⟨mz, hmz⟩ := nmd (R'.mem)
    rw [← hmz] at hbox HCK
    have HMZ := hid_of hmz
    have HBX := hid_of hbox
    have r0 := cell_block _ _ 0 _ _ _ hbox
    have r1 := cell_block _ _ 1 _ _ _ hbox
    have r2 := cell_block _ _ 2 _ _ _ hbox
    have HKX := hid_of hk5
    clear hX hfs so sl sc hR' hnum hok' hdv hfv hdn hfn hbox hk5 HST hcz hmz
    go_wp2_with fail
    refine HCK.out.mono ?_
    rintro e w6 ⟨rfl, hk6⟩
    have hx6 := box_kept (HKX.out.trans hk6) HX1.out id
    obtain ⟨hx, hkx⟩ := set3 w6 p0 25 _ _ _ (.int .i64 mz) (.slice da dn dc) (.slice fa fn fc) hx6
    have hXw := ((HX5.out.same hk6).mono HK1.out).ch hkx (ch_box hx6) (by decide) (by decide) (fun q hq => by have := HPW.out; omega)
    have HXF := hid_of hXw
    have HXX := hid_of hx
    obtain ⟨c0, c1, c2, f0, f1, f2⟩ := look3 hx6
    have hbox6 := box_kept hk6 HBX.out id
    clear r0 r1 r2
    have r0 := cell_block _ _ 0 _ _ _ hbox6
    have r1 := cell_block _ _ 1 _ _ _ hbox6
    have r2 := cell_block _ _ 2 _ _ _ hbox6
    clear hx hkx hx6 hXw hbox6 hk6 HCK
    go_wp2
    refine bodyPost_ret (v := .tuple #[.agg #[.int .i64 mz, .slice da dn dc, .slice fa fn fc], .int .i64 0, .int .i64 cz]) ?_ rfl ⟨mz, da, fa, dn, dc, fn, fc, 0, cz, rfl, HXF.out.kept, ?_⟩
    ·exact results_rowtt (by rfl) _ _ p0 25 _ (0, 0) _ _ _ (by rfl) (by rfl) (by rfl) HXX.out Tryz.underlying25 rfl size37
    ·by_cases hz : cz = 0
     ·refine .inr ⟨R', by rw [HOE.out, if_pos hz], hz, r, fv, lv, wv, gm, CV, GM, HFV.out, HMZ.out, HNU.out, HOK.out, by rw [← HCZ.out]; exact hz, ?_⟩
      have h9 := HXF.out
      rw [HDV.out] at h9
      exact h9
     ·exact .inl ⟨by rw [HOE.out, if_neg hz], hz⟩
   ·have HE : Hid (O = .inl (ln, 142)) := by
     show O = _
     rw [HOL.out, HLE.out]
     simp only
     rw [hln]
    obtain ⟨hx, hkx⟩ := set3 w5 p0 25 _ _ _ (.int .i64 0) (.slice none 0 0) (.slice none 0 0) (box_kept hk5 HX1.out id)
    obtain ⟨c0, c1, c2, f0, f1, f2⟩ := look3 (box_kept hk5 HX1.out id)
    have HX6 := hid_of hx
    have HK6 := hid_of ((HK1.out.trans hk5).step hkx (fun q hq e => by have := HPW.out; omega))
    clear hk5 hln hx hkx HST
    go_wp2
    refine bodyPost_ret (v := .tuple #[.agg #[.int .i64 0, .slice none 0 0, .slice none 0 0], .int .i64 ln, .int .i64 142]) ?_ rfl ⟨0, none, none, 0, 0, 0, 0, ln, 142, rfl, HK6.out, .inl ⟨HE.out, by decide⟩⟩
    exact results_rowtt (by rfl) _ _ p0 25 _ (0, 0) _ _ _ (by rfl) (by rfl) (by rfl) HX6.out Tryz.underlying25 rfl size37
end Go.Proofs.YtpfmhibdmehlcaaGreatDoor
namespace Go.Proofs.YtpfmhibdmehlcaaGreatDoor
open Go.RowKit
set_option linter.unusedVariables false
set_option linter.unusedSimpArgs false
set_option maxRecDepth 100000
def ParR (o : (Int × Int) ⊕ Rdr) (w : World) (e : Ending) (w' : World) : Prop :=
 Kept (fun _ => False) w w' ∧ ((∃ ln er g, o = .inl (ln, er) ∧ er ≠ 0 ∧ e = .returned (.tuple #[.agg #[.int .i64 0, .slice none 0 0, .slice none 0 0], .iface 59 (.pointer (some ⟨g, 0, none⟩))]) ∧ w'.heap[g]? = some (.cells #[.int .i64 ln, .iface 27 (.int .i64 er)] 61 (0, 0))) ∨
  (∃ R' v, o = .inr R' ∧ checkP (pgG R') = 0 ∧ R'.Nums ∧ R'.Ok ∧ e = .returned (.tuple #[v, .nilIface]) ∧ PgIs w' w'.heap.size v (pgG R')))
set_option maxHeartbeats 16000000 in
theorem parseG (D : ByteArray) (hD : D.size ≤ 9223372036854775807) (w : World) (hG : Gs w) : Calls Tryz.prog 10 #[.string D] w (ParR (readP D.data.toList) w) := by
 have hka : Kept (fun _ => False) w (w.alloc (.cells #[.int .i64 0, .slice none 0 0, .slice none 0 0] 25)) := (Kept.refl _ _).alloc _
 have HX := hid_of (heap_alloc_new w (.cells #[.int .i64 0, .slice none 0 0, .slice none 0 0] 25))
 have HR := hid_of (readG D hD _ (hG.same hka))
 have HK := hid_of hka
 have HKW := hid_of hka
 generalize readP D.data.toList = O at *
 clear hG hka hD
 go_enter Tryz.func10, Tryz.ntmps10
 go_wp2_with fail
 refine HR.out.mono ?_
 rintro e w2 ⟨m, a, a', k, c, k', c', ln, er, rfl, hk2, hcase⟩
 have HC := hid_of hcase
 have HX2 := hid_of (box_kept hk2 HX.out id)
 have HK2 := hid_of (HK.out.trans hk2)
 obtain ⟨p0, hp0⟩ := nmd (w.heap.size)
 rw [← hp0] at HX2 ⊢
 have HPW : Hid (w.heap.size ≤ p0) := by rw [hp0]; exact Nat.le_refl _
 have HPL : Hid (p0 < w2.heap.size) := (Array.getElem?_eq_some_iff.1 HX2.out).1
 have hka : Kept (fun _ => False) w2 (w2.alloc (.cells #[.int .i64 m, .slice a k c, .slice a' k' c'] 25)) := (Kept.refl _ _).alloc _
 have HX3 := hid_of (box_kept hka HX2.out id)
 have HY3 := hid_of (heap_alloc_new w2 (.cells #[.int .i64 m, .slice a k c, .slice a' k' c'] 25))
 have HK3 := hid_of (HK2.out.trans hka)
 have HKA := hid_of hka
 clear hk2 hka hcase HR HX HK HX2 HK2 hp0
 go_upto_region 2 with fail
 generalize w2.alloc (.cells #[.int .i64 m, .slice a k c, .slice a' k' c'] 25) = w3 at *
 generalize w2.heap.size = gy at *
 obtain ⟨c0, c1, c2, f0, f1, f2⟩ := look3 HX3.out
 obtain ⟨d0, d1, d2, _⟩ := look3 HY3.out
 rcases HC.out with ⟨hO, hne⟩ | ⟨R', hO, he0, r, fv, lv, wv, gm, CV, GM, hfv, hm, hnu, hok, hck, hX⟩
 ·have e0 : (er != 0) = true := by simp; exact hne
  have HO : Hid (O = .inl (ln, er) ∧ er ≠ 0) := ⟨hO, hne⟩
  clear hO hne HC HY3 d0 d1 d2
  have hkb : Kept (fun _ => False) w3 (w3.alloc (.cells #[.int .i64 ln, .iface 27 (.int .i64 er)] 61)) := (Kept.refl _ _).alloc _
  have hbx := heap_alloc_new w3 (.cells #[.int .i64 ln, .iface 27 (.int .i64 er)] 61)
  have hx4 := box_kept hkb HX3.out id
  obtain ⟨hx, hkx⟩ := set3 (w3.alloc (.cells #[.int .i64 ln, .iface 27 (.int .i64 er)] 61)) p0 25 _ _ _ (.int .i64 0) (.slice none 0 0) (.slice none 0 0) hx4
  obtain ⟨g0, g1, g2, h0, h1, h2⟩ := look3 hx4
  have HX5 := hid_of hx
  have HK5 := hid_of ((HK3.out.trans hkb).step hkx (fun q hq e => by have := HPW.out; omega))
  have HBX := hid_of (box_kept hkx hbx (fun e => box_ne hbx hx4 (by decide) e))
  clear hkb hbx hx4 hx hkx
  go_wp2
  refine bodyPost_ret (v := .tuple #[.agg #[.int .i64 0, .slice none 0 0, .slice none 0 0], .iface 59 (.pointer (some ⟨w3.heap.size, 0, none⟩))]) ?_ rfl ⟨HK5.out, .inl ⟨ln, er, _, HO.out.1, HO.out.2, rfl, HBX.out⟩⟩
  exact results_row_tmp (by rfl) _ _ ⟨p0, 0, none⟩ _ _ (by rfl) (by rfl) (run_loadVar_row _ p0 25 25 _ (0, 0) _ HX5.out Tryz.underlying25 rfl size37)
 ·have HO : Hid (O = .inr R' ∧ checkP (pgG R') = 0 ∧ R'.Nums ∧ R'.Ok) := ⟨hO, hck, hnu, hok⟩
  obtain ⟨hx, hkx⟩ := set3 w3 p0 25 _ _ _ (.int .i64 m) (.slice a k c) (.slice a' k' c') HX3.out
  have HX4 := hid_of hx
  have HK4 := hid_of (HK3.out.step hkx (fun q hq e => by have := HPW.out; omega))
  have hX4 : RdX w _ r R' (.slice a k c) fv lv wv gm CV GM := ((hX.mono HKW.out).same HKA.out).ch hkx (ch_box HX3.out) (by decide) (by decide) (fun q hq => by have := HPW.out; omega)
  have hpg := hX4.pg
  rw [hfv, ← hm] at hpg
  have HPG := hid_of hpg
  subst he0
  clear hO hck hnu hok hX hX4 hpg hx hkx HC HX3 HY3 HK3 hfv hm
  go_wp2
  refine bodyPost_ret (v := .tuple #[.agg #[.int .i64 m, .slice a k c, .slice a' k' c'], .nilIface]) ?_ rfl ⟨HK4.out, .inr ⟨R', _, HO.out.1, HO.out.2.1, HO.out.2.2.1, HO.out.2.2.2, rfl, HPG.out⟩⟩
  exact results_row_tmp (by rfl) _ _ ⟨p0, 0, none⟩ _ _ (by rfl) (by rfl) (run_loadVar_row _ p0 25 25 _ (0, 0) _ HX4.out Tryz.underlying25 rfl size37)
def PgO (w0 w : World) (v : Value) (R : Rdr) : Prop := ∃ dv fv CV, v = .agg #[.int .i64 R.mem, dv, fv] ∧ w.ownsRow w0.heap.size 5 1 dv R.data.length (byts R.data) ∧ w.ownsRow w0.heap.size 51 4 fv R.fs.length (fnCells R.fs CV) ∧ Fam w w0.heap.size 48 2 CV (R.fs.map codX)
def ParO (o : (Int × Int) ⊕ Rdr) (w : World) (e : Ending) (w' : World) : Prop :=
 Kept (fun _ => False) w w' ∧ ((∃ ln er g, o = .inl (ln, er) ∧ er ≠ 0 ∧ e = .returned (.tuple #[.agg #[.int .i64 0, .slice none 0 0, .slice none 0 0], .iface 59 (.pointer (some ⟨g, 0, none⟩))]) ∧ w'.heap[g]? = some (.cells #[.int .i64 ln, .iface 27 (.int .i64 er)] 61 (0, 0))) ∨
  (∃ R' v, o = .inr R' ∧ checkP (pgG R') = 0 ∧ R'.Nums ∧ R'.Ok ∧ e = .returned (.tuple #[v, .nilIface]) ∧ PgIs w' w'.heap.size v (pgG R') ∧ PgO w w' v R'))
set_option maxHeartbeats 16000000 in
theorem parseO (D : ByteArray) (hD : D.size ≤ 9223372036854775807) (w : World) (hG : Gs w) : Calls Tryz.prog 10 #[.string D] w (ParO (readP D.data.toList) w) := by
 have hka : Kept (fun _ => False) w (w.alloc (.cells #[.int .i64 0, .slice none 0 0, .slice none 0 0] 25)) := (Kept.refl _ _).alloc _
 have HX := hid_of (heap_alloc_new w (.cells #[.int .i64 0, .slice none 0 0, .slice none 0 0] 25))
 have HR := hid_of (readG D hD _ (hG.same hka))
 have HK := hid_of hka
 have HKW := hid_of hka
 generalize readP D.data.toList = O at *
 clear hG hka hD
 go_enter Tryz.func10, Tryz.ntmps10
 go_wp2_with fail
 refine HR.out.mono ?_
 rintro e w2 ⟨m, a, a', k, c, k', c', ln, er, rfl, hk2, hcase⟩
 have HC := hid_of hcase
 have HX2 := hid_of (box_kept hk2 HX.out id)
 have HK2 := hid_of (HK.out.trans hk2)
 obtain ⟨p0, hp0⟩ := nmd (w.heap.size)
 rw [← hp0] at HX2 ⊢
 have HPW : Hid (w.heap.size ≤ p0) := by rw [hp0]; exact Nat.le_refl _
 have HPL : Hid (p0 < w2.heap.size) := (Array.getElem?_eq_some_iff.1 HX2.out).1
 have hka : Kept (fun _ => False) w2 (w2.alloc (.cells #[.int .i64 m, .slice a k c, .slice a' k' c'] 25)) := (Kept.refl _ _).alloc _
 have HX3 := hid_of (box_kept hka HX2.out id)
 have HY3 := hid_of (heap_alloc_new w2 (.cells #[.int .i64 m, .slice a k c, .slice a' k' c'] 25))
 have HK3 := hid_of (HK2.out.trans hka)
 have HKA := hid_of hka
 clear hk2 hka hcase HR HX HK HX2 HK2 hp0
 go_upto_region 2 with fail
 generalize w2.alloc (.cells #[.int .i64 m, .slice a k c, .slice a' k' c'] 25) = w3 at *
 generalize w2.heap.size = gy at *
 obtain ⟨c0, c1, c2, f0, f1, f2⟩ := look3 HX3.out
 obtain ⟨d0, d1, d2, _⟩ := look3 HY3.out
 rcases HC.out with ⟨hO, hne⟩ | ⟨R', hO, he0, r, fv, lv, wv, gm, CV, GM, hfv, hm, hnu, hok, hck, hX⟩
 ·have e0 : (er != 0) = true := by simp; exact hne
  have HO : Hid (O = .inl (ln, er) ∧ er ≠ 0) := ⟨hO, hne⟩
  clear hO hne HC HY3 d0 d1 d2
  have hkb : Kept (fun _ => False) w3 (w3.alloc (.cells #[.int .i64 ln, .iface 27 (.int .i64 er)] 61)) := (Kept.refl _ _).alloc _
  have hbx := heap_alloc_new w3 (.cells #[.int .i64 ln, .iface 27 (.int .i64 er)] 61)
  have hx4 := box_kept hkb HX3.out id
  obtain ⟨hx, hkx⟩ := set3 (w3.alloc (.cells #[.int .i64 ln, .iface 27 (.int .i64 er)] 61)) p0 25 _ _ _ (.int .i64 0) (.slice none 0 0) (.slice none 0 0) hx4
  obtain ⟨g0, g1, g2, h0, h1, h2⟩ := look3 hx4
  have HX5 := hid_of hx
  have HK5 := hid_of ((HK3.out.trans hkb).step hkx (fun q hq e => by have := HPW.out; omega))
  have HBX := hid_of (box_kept hkx hbx (fun e => box_ne hbx hx4 (by decide) e))
  clear hkb hbx hx4 hx hkx
  go_wp2
  refine bodyPost_ret (v := .tuple #[.agg #[.int .i64 0, .slice none 0 0, .slice none 0 0], .iface 59 (.pointer (some ⟨w3.heap.size, 0, none⟩))]) ?_ rfl ⟨HK5.out, .inl ⟨ln, er, _, HO.out.1, HO.out.2, rfl, HBX.out⟩⟩
  exact results_row_tmp (by rfl) _ _ ⟨p0, 0, none⟩ _ _ (by rfl) (by rfl) (run_loadVar_row _ p0 25 25 _ (0, 0) _ HX5.out Tryz.underlying25 rfl size37)
 ·have HO : Hid (O = .inr R' ∧ checkP (pgG R') = 0 ∧ R'.Nums ∧ R'.Ok) := ⟨hO, hck, hnu, hok⟩
  obtain ⟨hx, hkx⟩ := set3 w3 p0 25 _ _ _ (.int .i64 m) (.slice a k c) (.slice a' k' c') HX3.out
  have HX4 := hid_of hx
  have HK4 := hid_of (HK3.out.step hkx (fun q hq e => by have := HPW.out; omega))
  have hX4 : RdX w _ r R' (.slice a k c) fv lv wv gm CV GM := ((hX.mono HKW.out).same HKA.out).ch hkx (ch_box HX3.out) (by decide) (by decide) (fun q hq => by have := HPW.out; omega)
  have hpg := hX4.pg
  have HOW : Hid (PgO w _ (.agg #[.int .i64 R'.mem, .slice a k c, fv]) R') := ⟨_, _, _, rfl, hX4.data, hX4.fns, hX4.code⟩
  rw [hfv, ← hm] at hpg HOW
  have HPG := hid_of hpg
  subst he0
  clear hO hck hnu hok hX hX4 hpg hx hkx HC HX3 HY3 HK3 hfv hm
  go_wp2
  refine bodyPost_ret (v := .tuple #[.agg #[.int .i64 m, .slice a k c, .slice a' k' c'], .nilIface]) ?_ rfl ⟨HK4.out, .inr ⟨R', _, HO.out.1, HO.out.2.1, HO.out.2.2.1, HO.out.2.2.2, rfl, HPG.out, HOW.out⟩⟩
  exact results_row_tmp (by rfl) _ _ ⟨p0, 0, none⟩ _ _ (by rfl) (by rfl) (run_loadVar_row _ p0 25 25 _ (0, 0) _ HX4.out Tryz.underlying25 rfl size37)
end Go.Proofs.YtpfmhibdmehlcaaGreatDoor
namespace Go.Proofs.YtpfmhibdmehlcaaGreatDoor
open Go.RowKit
set_option linter.unusedVariables false
set_option linter.unusedSimpArgs false
set_option maxRecDepth 100000
theorem str_of (D : ByteArray) (l : List UInt8) (h : D.data.toList = l) : str (l.map fun b => (b.toNat : Int)) = D := by
 apply ByteArray.ext
 apply Array.ext'
 unfold str
 rw [fold_data, h, List.map_map]
 have e : (ByteArray.empty.data.toList : List UInt8) = [] := rfl
 rw [e, List.nil_append]
 conv => rhs; rw [← List.map_id l]
 apply List.map_congr_left
 intro b _
 show UInt8.ofNat ((b.toNat : Int)).toNat = b
 rw [Int.toNat_natCast]
 simp
variable {bs : List UInt8} {i j : Nat} {ps : List Pf} {s : Int}
end Go.Proofs.YtpfmhibdmehlcaaGreatDoor
