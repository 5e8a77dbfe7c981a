import Derived.Test.YtpfmhibdmehlcaaGreatDoorTOx20
import Derived.Lib.SlBytesConst
import Derived.Test.YtpfmhibdmehlcaaGreatDoorTOx8
import Derived.Lib.ItoaLen
import Derived.Test.YtpfmhibdmehlcaaGreatDoorTOx2
import Derived.Deep.Strs
import Derived.Laws.IdiomStrings
import Derived.Test.YtpfmhibdmehlcaaGreatDoorTOx3
import Derived.Test.YtpfmhibdmehlcaaGreatDoorTOx10
import Derived.Laws.BytesString
import Derived.Laws.IdiomCopy
import Derived.Lib.ConvBytes
namespace Go.Proofs.YtpfmhibdmehlcaaGreatDoor
open Go.RowKit
set_option linter.unusedVariables false
set_option linter.unusedSimpArgs false
set_option maxRecDepth 100000
theorem jump_kind : ∀ i : Nat, i < 46 → (insL.getD i Sh.none).o = 3 → 2 ≤ kix i := by decide
theorem jump_pos {y : IN} (h : errI y = 0) (h3 : (rowS insL y.op).o = 3) : 0 ≤ y.a := by
 unfold errI at h
 by_cases hr : isRow insL y.op = true
 ·rw [if_pos hr] at h
  have hr2 := of_decide_eq_true hr
  obtain ⟨i, hi⟩ := Int.eq_ofNat_of_zero_le hr2.1
  have hi46 : i < 46 := by have := hr2.2; have e : insL.length = 46 := rfl; omega
  rw [hi, (row_at (L := insL) (k := i) (by have e : insL.length = 46 := rfl; omega)).1] at h3
  have hk := jump_kind i hi46 h3
  have hk2 : 2 ≤ kOf y.op := by unfold kOf; rw [hi]; exact hk
  by_cases hm : mayP (kOf y.op) y.a = true
  ·rw [may_ge hk2] at hm
   simp at hm
   exact hm.1
  ·rw [if_neg hm] at h
   exact absurd h (by decide)
 ·rw [if_neg hr] at h
  exact absurd h (by decide)
structure PgGood (p : PG) : Prop where
 mem : 0 ≤ p.mem ∧ p.mem ≤ 65536
 data : (p.data.length : Int) ≤ p.mem
 fns : 1 ≤ p.fns.length ∧ p.fns.length ≤ 64
 fn : ∀ f ∈ p.fns, f.code.length ≤ 4096 ∧ ∀ y ∈ f.code, errI y = 0
theorem check_good {p : PG} (h : checkP p = 0) : PgGood p := by
 unfold checkP at h
 by_cases hb : badP p = true
 ·rw [if_pos hb] at h; exact absurd h (by decide)
 ·rw [if_neg hb] at h
  rcases bad_cases p with ⟨_, hh⟩ | ⟨hh, _⟩
  ·exact absurd hh hb
  ·refine ⟨⟨hh.1, hh.2.1⟩, hh.2.2.1, ⟨by omega, by omega⟩, fun f hf => ?_⟩
   have h0 := firstF_zero p.fns h f hf
   rcases badF_cases f with ⟨_, hx⟩ | ⟨hx, he⟩
   ·rw [hx] at h0; exact absurd h0 (by decide)
   ·rw [he] at h0
    unfold encE at h0
    by_cases hl : 4096 < f.code.length
    ·rw [if_pos hl] at h0; exact absurd h0 (by decide)
    ·rw [if_neg hl] at h0
     exact ⟨by omega, (firstBad_zero _).1 h0⟩
def dataD (xs : List Int) : List Value := if xs.length = 0 then [] else Lib.strCells ⟨#[100, 97, 116, 97, 32]⟩ ++ byts (quoteA xs) ++ [.int .u8 10]
def fnAtD (fs : Int) (fns : List FN) (k : Nat) : List Value := match fns[k]? with
 | some f => fnD k f fs
 | none => []
def fnsD (fs : Int) (fns : List FN) (n : Nat) : List Value := (List.range n).flatMap (fnAtD fs fns)
theorem fnsD_succ (fs : Int) (fns : List FN) (n : Nat) : fnsD fs fns (n + 1) = fnsD fs fns n ++ fnAtD fs fns n := by simp [fnsD, List.range_succ, List.flatMap_append]
def headD (p : PG) : List Value := memY ++ numZ p.mem ++ [.int .u8 10] ++ dataD p.data
def progD (p : PG) : List Value := headD p ++ fnsD (p.fns.length : Int) p.fns p.fns.length
theorem quoteA_len (xs : List Int) : (quoteA xs).length ≤ 4 * xs.length + 2 := by
 have : ∀ l : List Int, (l.flatMap qa).length ≤ 4 * l.length := by
  intro l
  induction l with
  | nil => simp
  | cons x l ih =>
   have h : (qa x).length ≤ 4 := by
    unfold qa
    split
    ·simp
    ·split <;> simp
   rw [List.flatMap_cons, List.length_append, List.length_cons]
   omega
 have := this xs
 unfold quoteA
 simp only [List.length_append, List.length_cons, List.length_nil]
 omega
theorem dataD_len (xs : List Int) : (dataD xs).length ≤ 4 * xs.length + 20 := by
 unfold dataD
 split
 ·simp
 ·have h := quoteA_len xs
  have h3 : (Lib.strCells ⟨#[100, 97, 116, 97, 32]⟩).length = 5 := bl_cells _
  simp only [List.length_append, List.length_cons, List.length_nil, h3, byts, List.length_map]
  omega
theorem headD_len (p : PG) (hp : p.Ok) : (headD p).length ≤ 4 * p.data.length + 100 := by
 have h1 := dataD_len p.data
 have h2 := numZ_len p.mem hp.mem.1 hp.mem.2
 unfold headD
 simp only [List.length_append, List.length_cons, List.length_nil]
 omega
theorem fnsD_len (fs : Int) (fns : List FN) (hf : ∀ f ∈ fns, f.Ok ∧ f.code.length ≤ 4096) : ∀ n : Nat, n ≤ 64 → (fnsD fs fns n).length ≤ 2000000 * n
 | 0, _ => by simp [fnsD]
 | n + 1, hn => by
  rw [fnsD_succ]
  have h1 := fnsD_len fs fns hf n (by omega)
  have h2 : (fnAtD fs fns n).length ≤ 2000000 := by
   unfold fnAtD
   split
   ·rename_i f hq
    have h := hf f (List.mem_of_getElem? hq)
    have := fnD_len n f fs (by omega) h.1 (by omega)
    omega
   ·simp
  simp only [List.length_append]
  omega
set_option maxHeartbeats 4000000 in
theorem num_firstA (w0 wa : World) (i : Int) (h0 : -9223372036854775808 ≤ i) (h1 : i ≤ 9223372036854775807) (hG0 : 8 ≤ w0.heap.size) (hG : Gl wa) (hk : Kept (fun _ => False) w0 wa) :
  Calls Tryz.prog 29 #[.slice (some ⟨wa.heap.size, 0, none⟩) 6 6, .int .i64 i] (wa.alloc (.cells memC 5 (6, 7))) fun e w' => ∃ ao m c, e = .returned (.slice ao m c) ∧ Bs w0 wa w' ao m c (memY ++ numZ i) := by
 obtain ⟨a1, m1, c1, w2, hr, ho2, hk2⟩ := push_first w0 wa hk 32
 have hm1 : m1 = 7 := by have := ho2.1; have e : (memY ++ [Value.int .u8 32]).length = 7 := rfl; omega
 have HA := hid_of (Tryz.strconv_AppendInt_10 w0.heap.size m1 i h0 h1 _ _ w2 ho2 (hk.trans hk2).size (by omega) ((hG.same hk2).tab5 hG0))
 have HK2 := hid_of (hk.trans hk2)
 have HT2 := hid_of (oth5_kept hk2)
 have HR := hid_of hr
 have HO := hid_of hm1
 clear hr ho2 hk2 hk hG hG0 hm1 h0 h1
 go_enter Tryz.func29, Tryz.ntmps29
 go_wp2_with (at_builtin; refine wp_app2 rfl (.tmp 5) (.tmp 6) 22 22 rfl _ _ rfl rfl _ w2 HR.out ?_)
 refine HA.out.mono ?_
 rintro e w3 ⟨v3, rfl, ho3, hb3, hot3⟩
 rw [List.append_assoc] at ho3
 obtain ⟨a3, c3, hv3⟩ := ownsRow_shape ho3
 obtain ⟨m3, hm3⟩ := nmd (m1 + (Lib.itoa i).length)
 rw [← hm3] at hv3 ho3
 subst hv3
 have HB : Hid (Bs w0 wa w3 a3 m3 c3 (memY ++ numZ i)) := ⟨ho3, bel_kept HK2.out hb3, HT2.out.trans hot3⟩
 clear ho3 hb3 hot3 hm3 HA HR
 go_wp2
 go_ret
 exact ⟨_, _, _, rfl, HB.out⟩
set_option maxHeartbeats 16000000 in
theorem written_any (dv fv : Value) (p : PG) (B : Nat) (w : World) (hG : Gl w) (hP : PgIs w B (.agg #[.int .i64 p.mem, dv, fv]) p) (hok : p.Ok) (hpg : PgGood p) :
  Calls Tryz.prog 19 #[.agg #[.int .i64 p.mem, dv, fv]] w fun e w' => ∃ ao m c, e = .returned (.slice ao m c) ∧ w'.ownsRow w.heap.size 5 1 (.slice ao m c) m (progD p) ∧ Kept (fun _ => False) w w' := by
 obtain ⟨dv', fv', he, hd, hdB, hf⟩ := hP
 cases he
 obtain ⟨dao, dc, rfl⟩ := hd.shape
 obtain ⟨fao, fc, rfl⟩ := hf.shape
 have HG := hid_of hG
 have HOK := hid_of hok
 have HPG := hid_of hpg
 have HDL := hid_of (headD_len p hok)
 have HNU0 := fun (wa : World) (hk : Kept (fun _ => False) w wa) => num_firstA w wa p.mem hok.mem.1 (by have := hok.mem.2; omega) hG.lo (hG.same hk) hk
 have HPD : Hid (progD p = headD p ++ fnsD (p.fns.length : Int) p.fns p.fns.length) := rfl
 have HHD : Hid (headD p = memY ++ numZ p.mem ++ [.int .u8 10] ++ dataD p.data) := rfl
 have HFL := fun k hk => hid_of (fnsD_len (p.fns.length : Int) p.fns (fun f hf => ⟨hok.fns f hf, (hpg.fn f hf).1⟩) k hk)
 have HD := hid_of hd
 have HF := hid_of hf
 have HBO := hid_of hok.data
 have HDM : Hid (p.data.length ≤ 65536) := by show p.data.length ≤ 65536; have h1 := hpg.data; have h2 := hpg.mem.2; omega
 have HN6 := hid_of hpg.fns.2
 have HN2 := hid_of (numZ_len p.mem hok.mem.1 hok.mem.2)
 obtain ⟨mem, ds, fs⟩ := p
 simp only at HNU0 HPD HHD HFL HD HF HBO HDM HN6 HDL HN2 ⊢
 clear hd hf hG hok hpg hdB
 obtain ⟨nf, hnf⟩ := nmd (fs.length)
 obtain ⟨nd, hnd⟩ := nmd (ds.length)
 rw [← hnf] at HF HPD HFL HN6 ⊢
 rw [← hnd] at HD HDM HDL ⊢
 have HNF := hid_of hnf
 have HND := hid_of hnd
 clear hnf hnd
 have hka : Kept (fun _ => False) w (w.alloc (.cells #[.int .i64 mem, .slice dao nd dc, .slice fao nf fc] 25)) := (Kept.refl _ _).alloc _
 have HX := hid_of (heap_alloc_new w (.cells #[.int .i64 mem, .slice dao nd dc, .slice fao nf fc] 25))
 have HK := hid_of hka
 have HNU := hid_of (HNU0 _ hka)
 clear hka HNU0
 go_enter Tryz.func19, Tryz.ntmps19
 go_upto_region 1 with fail
 generalize w.alloc (.cells #[.int .i64 mem, .slice dao nd dc, .slice fao nf fc] 25) = wa at *
 generalize hgx : w.heap.size = gx at HX ⊢
 have HGX := hid_of hgx
 clear hgx
 have hkm : Kept (fun _ => False) wa (wa.alloc (.cells memC 5 (6, 7))) := (Kept.refl _ _).alloc _
 obtain ⟨x0, x1, x2, _⟩ := look3 (box_kept hkm HX.out id)
 have hcv := Lib.run_convert_bytes_const (P := Tryz.prog) wa 22 5 memC 6 6 Tryz.underlying22 Tryz.underlying5
 rw [show memC.size = 6 from rfl] at hcv
 clear hkm
 go_wp2_with fail
 refine HNU.out.mono ?_
 rintro e w2 ⟨a2, m2, c2, rfl, hb2⟩
 have HB2 := hid_of hb2
 have HM2 : Hid (m2 ≤ 100) := by
  have h1 := hb2.len
  have h2 := HN2.out
  rw [List.length_append] at h1
  have e : memY.length = 6 := rfl
  unfold Hid
  omega
 clear hb2 HNU hcv x0 x1 x2
 obtain ⟨a3, m3, c3, w3, hr3, hb3⟩ := HB2.out.push [.int .u8 10] (by simp [Value.oneCell']) (by have := HM2.out; simp; omega)
 have HR3 := hid_of hr3
 have HB3 := hid_of hb3
 have HM3 : Hid (m3 ≤ 101) := by
  have h1 := HB2.out.step hb3
  have h2 := HM2.out
  simp at h1
  unfold Hid
  omega
 obtain ⟨x0, x1, x2, _⟩ := look3 (Oth5.box hb3.oth HX.out (by decide))
 clear hr3 hb3 HM2
 by_cases hz : nd = 0
 ·have HB4 : Hid (Bs w wa w3 a3 m3 c3 (headD ⟨mem, ds, fs⟩ ++ fnsD (nf : Int) fs 0)) := by
   show Bs w wa w3 a3 m3 c3 _
   rw [HHD.out, show fnsD (nf : Int) fs 0 = [] from rfl, show dataD ds = [] by unfold dataD; rw [if_pos (by have := HND.out; omega)], List.append_nil, List.append_nil]
   exact HB3.out
  subst hz
  clear HHD
  generalize headD ⟨mem, ds, fs⟩ = HD at *
  go_wp2_with (at_builtin; refine wp_app2 rfl (.tmp 11) (.tmp 12) 22 22 rfl _ _ rfl rfl _ w3 HR3.out ?_)
  clear HR3 HB2 HB3 HM3
  clear x0 x1 x2
  go_loopw [3, 30] (fun bv iv wr => ∃ (k : Nat) (a : Option Addr) (m c : Nat), iv = .int .i64 (k : Int) ∧ bv = .slice a m c ∧ Hid (k ≤ nf) ∧ Hid (Bs w wa wr a m c (HD ++ fnsD (nf : Int) fs k))) (fun _ iv _ => nf - (intOf iv).toNat)
  case atStart => exact ⟨0, _, _, _, rfl, rfl, Nat.zero_le _, HB4⟩
  case round =>
   clear HB4
   obtain ⟨k, a, m, c, rfl, rfl, HK, HBk⟩ := hrel
   by_cases hlt : k < nf
   ·have hkl : k < fs.length := by have := HNF.out; omega
    have hltI : (k : Int) < (nf : Int) := by omega
    have HM : Hid (m ≤ 200000000) := by
     have h1 := HBk.out.len
     have h2 := (HFL k (by have := HN6.out; omega)).out
     have h3 := HDL.out
     rw [List.length_append] at h1
     have := HN6.out
     have h9 := HDM.out
     unfold Hid
     omega
    obtain ⟨gf, o, f, rfl, hgB, hfk, hfa⟩ := (HF.out.kept HBk.out.kept (fun _ _ f => f)).at hkl
    obtain ⟨co, cc, r0, r1, r2, r3, hrow, _⟩ := fn_read hfa
    have HRW : Hid (RowI w (.slice co f.code.length cc) f.code) := by
     obtain ⟨gf2, o2, f2, e2, hgB2, hfk2, hfa2⟩ := HF.out.at hkl
     cases e2
     have ef : f2 = f := by rw [hfk] at hfk2; exact (Option.some.inj hfk2).symm
     subst ef
     obtain ⟨cv, q1, q2, _⟩ := hfa2
     have hq : HBk.out.kept.cell (q1 3 _ rfl) id = HBk.out.kept.cell (q1 3 _ rfl) id := rfl
     have hq3 := HBk.out.kept.cell (q1 3 _ rfl) id
     rw [r3] at hq3
     cases hq3
     exact q2
    have HFI := hid_of (List.mem_of_getElem? hfk)
    have HSU : Hid (fnsD (nf : Int) fs (k + 1) = fnsD (nf : Int) fs k ++ fnD k f (nf : Int)) := by
     show _ = _
     rw [fnsD_succ]
     simp only [fnAtD, hfk]
    have hkc : Kept (fun _ => False) wr (wr.alloc (.cells #[.int .i64 f.a, .int .i64 f.l, .int .i64 f.r, .slice co f.code.length cc] 51)) := (Kept.refl _ _).alloc _
    have HY := hid_of (heap_alloc_new wr (.cells #[.int .i64 f.a, .int .i64 f.l, .int .i64 f.r, .slice co f.code.length cc] 51))
    have HB5 := hid_of (HBk.out.same hkc)
    have HK1 : Hid (k + 1 ≤ nf) := hlt
    clear hkc hfa hrow hfk hgB HBk HK hkl hlt
    obtain ⟨fa, fl, fr, ys⟩ := f
    simp only at r0 r1 r2 r3 HY HB5 HRW HFI HSU
    go_upto_region 10 with fail
    clear r0 r1 r2 r3
    generalize wr.alloc (.cells #[.int .i64 fa, .int .i64 fl, .int .i64 fr, .slice co ys.length cc] 51) = w5 at *
    generalize wr.heap.size = gy at *
    obtain ⟨y0, y1, y2, y3, _⟩ := look4 HY.out
    obtain ⟨x0, x1, x2, _⟩ := look3 (Oth5.box HB5.out.oth HX.out (by decide))
    have HFU := hid_of (funcB_any a m c (.slice co ys.length cc) _ k ⟨fa, fl, fr, ys⟩ (nf : Int) (HOK.out.fns _ HFI.out) (HPG.out.fn _ HFI.out).1 (by have := HK1.out; have := HN6.out; omega) (fun y hy => jump_pos ((HPG.out.fn _ HFI.out).2 y hy)) w wa w5 HG.out.lo HG.out HB5.out (by have := HM.out; omega) HRW.out)
    go_wp2_with fail
    refine HFU.out.mono ?_
    rintro e w6 ⟨a6, m6, c6, rfl, hb6⟩
    have HB6 : Hid (Bs w wa w6 a6 m6 c6 (HD ++ fnsD (nf : Int) fs (k + 1))) := by
     show Bs w wa w6 a6 m6 c6 _
     rw [HSU.out]
     simpa only [List.append_assoc] using hb6
    clear hb6 HFU HB5 HY x0 x1 x2 y0 y1 y2 y3
    have hkB : (k : Int) < 64 := by have := HK1.out; have := HN6.out; omega
    go_wp2
    go_roundw
    case rel => exact ⟨k + 1, _, _, _, by go_num, rfl, HK1, HB6⟩
    case measure => have := HK1.out; simp [intOf]; omega
   ·have hkn : k = nf := by have := HK.out; omega
    subst hkn
    have hnlt : ¬ (k : Int) < (k : Int) := by omega
    have HFF : Hid (progD ⟨mem, ds, fs⟩ = HD ++ fnsD (k : Int) fs k) := HPD.out
    clear hlt
    go_wp2
    go_ret
    exact ⟨_, _, _, rfl, by rw [HFF.out]; exact HBk.out.own, HBk.out.kept⟩
 ·have hnI : (nd : Int) > 0 := by omega
  have HND0 := hid_of hz
  clear hz
  obtain ⟨a4, m4, c4, w4, hr4, hb4⟩ := HB3.out.pushS ⟨#[100, 97, 116, 97, 32]⟩ (by have := HM3.out; show m3 + 5 ≤ 140737488355328; omega)
  have HR4 := hid_of hr4
  have HM4 : Hid (m4 ≤ 106) := by
   have h1 := HB3.out.step hb4
   have h2 := HM3.out
   rw [bl_cells] at h1
   have h4 : (⟨#[100, 97, 116, 97, 32]⟩ : ByteArray).size = 5 := rfl
   unfold Hid
   omega
  obtain ⟨z0, z1, z2, _⟩ := look3 (Oth5.box hb4.oth HX.out (by decide))
  have HST := hid_of (stringB_any a4 m4 c4 _ (.slice dao nd dc) ds w wa w4 HD.out (fun x hx => HBO.out.1 x hx) (by have := HDM.out; have := HND.out; omega) (by have := HM4.out; omega) hb4)
  have HB4s := hid_of hb4
  clear hr4 hb4
  go_wp2_with (at_builtin; first | (refine wp_app2 rfl (.tmp 11) (.tmp 12) 22 22 rfl _ _ rfl rfl _ w3 HR3.out ?_) | (refine wp_app2 rfl (.tmp 18) (.const (.string ⟨#[100, 97, 116, 97, 32]⟩)) 22 9 rfl _ _ rfl rfl _ w4 HR4.out ?_))
  clear HR3 HB2
  refine HST.out.mono ?_
  rintro e w5 ⟨a5, m5, c5, rfl, hb5⟩
  have hm5 : m5 ≤ 300000 := by
   have h1 := HB4s.out.step hb5
   have h2 := HM4.out
   have h3 := quoteA_len ds
   have h4 := HDM.out
   have h5 := HND.out
   simp only [byts, List.length_map] at h1
   omega
  obtain ⟨a6, m6, c6, w6, hr6, hb6⟩ := hb5.push [.int .u8 10] (by simp [Value.oneCell']) (by simp; omega)
  have HR6 := hid_of hr6
  have HB4 : Hid (Bs w wa w6 a6 m6 c6 (headD ⟨mem, ds, fs⟩ ++ fnsD (nf : Int) fs 0)) := by
   show Bs w wa w6 a6 m6 c6 _
   rw [HHD.out, show fnsD (nf : Int) fs 0 = [] from rfl, show dataD ds = Lib.strCells ⟨#[100, 97, 116, 97, 32]⟩ ++ byts (quoteA ds) ++ [.int .u8 10] by unfold dataD; rw [if_neg (by have := HND.out; have := HND0.out; omega)], List.append_nil]
   simpa only [List.append_assoc] using hb6
  clear hb5 hr6 hb6 HST HB4s HR4 HM4 HHD hm5 x0 x1 x2 z0 z1 z2
  obtain ⟨x0, x1, x2, _⟩ := look3 (Oth5.box HB4.out.oth HX.out (by decide))
  generalize headD ⟨mem, ds, fs⟩ = HD at *
  go_wp2_with (at_builtin; refine wp_app2 rfl (.tmp 24) (.tmp 25) 22 22 rfl _ _ rfl rfl _ w6 HR6.out ?_)
  clear HR6 HB3 HM3
  clear x0 x1 x2
  go_loopw [3, 30] (fun bv iv wr => ∃ (k : Nat) (a : Option Addr) (m c : Nat), iv = .int .i64 (k : Int) ∧ bv = .slice a m c ∧ Hid (k ≤ nf) ∧ Hid (Bs w wa wr a m c (HD ++ fnsD (nf : Int) fs k))) (fun _ iv _ => nf - (intOf iv).toNat)
  case atStart => exact ⟨0, _, _, _, rfl, rfl, Nat.zero_le _, HB4⟩
  case round =>
   clear HB4
   obtain ⟨k, a, m, c, rfl, rfl, HK, HBk⟩ := hrel
   by_cases hlt : k < nf
   ·have hkl : k < fs.length := by have := HNF.out; omega
    have hltI : (k : Int) < (nf : Int) := by omega
    have HM : Hid (m ≤ 200000000) := by
     have h1 := HBk.out.len
     have h2 := (HFL k (by have := HN6.out; omega)).out
     have h3 := HDL.out
     rw [List.length_append] at h1
     have := HN6.out
     have h9 := HDM.out
     unfold Hid
     omega
    obtain ⟨gf, o, f, rfl, hgB, hfk, hfa⟩ := (HF.out.kept HBk.out.kept (fun _ _ f => f)).at hkl
    obtain ⟨co, cc, r0, r1, r2, r3, hrow, _⟩ := fn_read hfa
    have HRW : Hid (RowI w (.slice co f.code.length cc) f.code) := by
     obtain ⟨gf2, o2, f2, e2, hgB2, hfk2, hfa2⟩ := HF.out.at hkl
     cases e2
     have ef : f2 = f := by rw [hfk] at hfk2; exact (Option.some.inj hfk2).symm
     subst ef
     obtain ⟨cv, q1, q2, _⟩ := hfa2
     have hq : HBk.out.kept.cell (q1 3 _ rfl) id = HBk.out.kept.cell (q1 3 _ rfl) id := rfl
     have hq3 := HBk.out.kept.cell (q1 3 _ rfl) id
     rw [r3] at hq3
     cases hq3
     exact q2
    have HFI := hid_of (List.mem_of_getElem? hfk)
    have HSU : Hid (fnsD (nf : Int) fs (k + 1) = fnsD (nf : Int) fs k ++ fnD k f (nf : Int)) := by
     show _ = _
     rw [fnsD_succ]
     simp only [fnAtD, hfk]
    have hkc : Kept (fun _ => False) wr (wr.alloc (.cells #[.int .i64 f.a, .int .i64 f.l, .int .i64 f.r, .slice co f.code.length cc] 51)) := (Kept.refl _ _).alloc _
    have HY := hid_of (heap_alloc_new wr (.cells #[.int .i64 f.a, .int .i64 f.l, .int .i64 f.r, .slice co f.code.length cc] 51))
    have HB5 := hid_of (HBk.out.same hkc)
    have HK1 : Hid (k + 1 ≤ nf) := hlt
    clear hkc hfa hrow hfk hgB HBk HK hkl hlt
    obtain ⟨fa, fl, fr, ys⟩ := f
    simp only at r0 r1 r2 r3 HY HB5 HRW HFI HSU
    go_upto_region 10 with fail
    clear r0 r1 r2 r3
    generalize wr.alloc (.cells #[.int .i64 fa, .int .i64 fl, .int .i64 fr, .slice co ys.length cc] 51) = w5 at *
    generalize wr.heap.size = gy at *
    obtain ⟨y0, y1, y2, y3, _⟩ := look4 HY.out
    obtain ⟨x0, x1, x2, _⟩ := look3 (Oth5.box HB5.out.oth HX.out (by decide))
    have HFU := hid_of (funcB_any a m c (.slice co ys.length cc) _ k ⟨fa, fl, fr, ys⟩ (nf : Int) (HOK.out.fns _ HFI.out) (HPG.out.fn _ HFI.out).1 (by have := HK1.out; have := HN6.out; omega) (fun y hy => jump_pos ((HPG.out.fn _ HFI.out).2 y hy)) w wa w5 HG.out.lo HG.out HB5.out (by have := HM.out; omega) HRW.out)
    go_wp2_with fail
    refine HFU.out.mono ?_
    rintro e w6 ⟨a6, m6, c6, rfl, hb6⟩
    have HB6 : Hid (Bs w wa w6 a6 m6 c6 (HD ++ fnsD (nf : Int) fs (k + 1))) := by
     show Bs w wa w6 a6 m6 c6 _
     rw [HSU.out]
     simpa only [List.append_assoc] using hb6
    clear hb6 HFU HB5 HY x0 x1 x2 y0 y1 y2 y3
    have hkB : (k : Int) < 64 := by have := HK1.out; have := HN6.out; omega
    go_wp2
    go_roundw
    case rel => exact ⟨k + 1, _, _, _, by go_num, rfl, HK1, HB6⟩
    case measure => have := HK1.out; simp [intOf]; omega
   ·have hkn : k = nf := by have := HK.out; omega
    subst hkn
    have hnlt : ¬ (k : Int) < (k : Int) := by omega
    have HFF : Hid (progD ⟨mem, ds, fs⟩ = HD ++ fnsD (k : Int) fs k) := HPD.out
    clear hlt
    go_wp2
    go_ret
    exact ⟨_, _, _, rfl, by rw [HFF.out]; exact HBk.out.own, HBk.out.kept⟩
def intV : Value → Int
 | .int _ x => x
 | _ => 0
def U8s (zs : List Value) : Prop := ∀ v ∈ zs, ∃ x : Int, v = .int .u8 x
theorem U8s.eq {zs : List Value} (h : U8s zs) : zs = byts (zs.map intV) := by
 induction zs with
 | nil => rfl
 | cons z zs ih =>
  obtain ⟨x, rfl⟩ := h z (by simp)
  have := ih (fun v hv => h v (by simp [hv]))
  exact congrArg (Value.int .u8 x :: ·) this
theorem U8s.app {a b : List Value} (ha : U8s a) (hb : U8s b) : U8s (a ++ b) := fun v hv => by
 rcases List.mem_append.1 hv with h | h
 ·exact ha v h
 ·exact hb v h
theorem U8s.cons {x : Int} {b : List Value} (hb : U8s b) : U8s (.int .u8 x :: b) := fun v hv => by
 rcases List.mem_cons.1 hv with h | h
 ·exact ⟨x, h⟩
 ·exact hb v h
theorem U8s.nil : U8s [] := fun v hv => by simp at hv
theorem U8s.str (s : ByteArray) : U8s (Lib.strCells s) := fun v hv => by
 simp only [Lib.strCells, List.mem_map] at hv
 obtain ⟨x, _, rfl⟩ := hv
 exact ⟨_, rfl⟩
theorem U8s.bts (l : List UInt8) : U8s (Lib.byteCells l) := fun v hv => by
 simp only [Lib.byteCells, List.mem_map] at hv
 obtain ⟨x, _, rfl⟩ := hv
 exact ⟨_, rfl⟩
theorem U8s.ints (l : List Int) : U8s (byts l) := fun v hv => by
 obtain ⟨x, _, rfl⟩ := List.mem_map.1 hv
 exact ⟨x, rfl⟩
theorem U8s.flat {α : Type} {l : List α} {f : α → List Value} (h : ∀ x ∈ l, U8s (f x)) : U8s (l.flatMap f) := fun v hv => by
 obtain ⟨x, hx, hm⟩ := List.mem_flatMap.1 hv
 exact h x hx v hm
theorem numZ_u8 (i : Int) : U8s (numZ i) := (U8s.bts _).cons
theorem insB_u8 (op a pl fs : Int) : U8s (insB op a pl fs) := by
 have h : U8s (opdD (rowS insL op) a pl fs) := by
  unfold opdD
  split
  ·exact U8s.nil
  ·split
   ·exact (U8s.bts _).cons.cons
   ·split
    ·exact (U8s.bts _).cons.cons
    ·split
     ·exact (U8s.str _).cons
     ·exact (U8s.bts _).cons
 unfold insB
 exact (((U8s.str _).cons).app h).app U8s.nil.cons
theorem lblD_u8 (b : Bool) (k : Nat) : U8s (lblD b k) := by
 unfold lblD
 split
 ·exact ((U8s.bts _).cons).app (U8s.str _)
 ·exact U8s.nil
theorem fnD_u8 (k : Nat) (f : FN) (fs : Int) : U8s (fnD k f fs) := by
 unfold fnD
 refine (U8s.app ?_ U8s.nil.cons).app ?_
 ·unfold hdF
  exact ((U8s.str _).app (U8s.bts _).cons).app (U8s.flat (fun x _ => numZ_u8 x))
 ·unfold bodD
  refine U8s.flat (fun n _ => (lblD_u8 _ _).app ?_)
  unfold insAt
  split
  ·exact insB_u8 _ _ _ _
  ·exact U8s.nil
theorem progD_u8 (p : PG) : U8s (progD p) := by
 unfold progD headD fnsD
 refine U8s.app (U8s.app (U8s.app (U8s.app ?_ (numZ_u8 _)) U8s.nil.cons) ?_) (U8s.flat (fun n _ => ?_))
 ·exact U8s.nil.cons.cons.cons.cons.cons.cons
 ·unfold dataD
  split
  ·exact U8s.nil
  ·exact ((U8s.str _).app (U8s.ints _)).app U8s.nil.cons
 ·unfold fnAtD
  split
  ·exact fnD_u8 _ _ _
  ·exact U8s.nil
def printE (p : PG) : Int := if checkP p = 0 then (if 65536 < (progD p).length then 2 else 0) else checkP p
def printS (p : PG) : ByteArray := if printE p = 0 then str ((progD p).map intV) else ⟨#[]⟩
set_option maxHeartbeats 8000000 in
theorem print_any (v : Value) (p : PG) (B : Nat) (w : World) (hG : Gl w) (hP : PgIs w B v p) (hB : B ≤ w.heap.size) (hok : p.Ok) :
  Calls Tryz.prog 8 #[v] w fun e w' => e = .returned (.tuple #[.string (printS p), .int .i64 (printE p)]) ∧ Kept (fun _ => False) w w' := by
 have hpg := hP
 obtain ⟨dv, fv, rfl, hd, hdB, hf⟩ := hP
 obtain ⟨dao, dc, rfl⟩ := hd.shape
 obtain ⟨fao, fc, rfl⟩ := hf.shape
 have hka : Kept (fun _ => False) w (w.alloc (.cells #[.int .i64 p.mem, .slice dao p.data.length dc, .slice fao p.fns.length fc] 25)) := (Kept.refl _ _).alloc _
 have HX := hid_of (heap_alloc_new w (.cells #[.int .i64 p.mem, .slice dao p.data.length dc, .slice fao p.fns.length fc] 25))
 have HCK := hid_of (check_p _ p _ B (hpg.kept hka (fun _ _ f => f)) (Nat.le_trans hB hka.size) hok)
 have HPG := hid_of (hpg.kept hka (fun _ _ f => f))
 have HG := hid_of (hG.same hka)
 have HK := hid_of hka
 have HOK := hid_of hok
 have HE : Hid (printE p = if checkP p = 0 then (if 65536 < (progD p).length then 2 else 0) else checkP p) := rfl
 have HS : Hid (printS p = if printE p = 0 then str ((progD p).map intV) else ⟨#[]⟩) := rfl
 clear hka hpg hd hdB hf hG hB hok
 generalize printE p = pe at *
 generalize printS p = ps at *
 have HCE : Hid (checkP p = 0 → PgGood p) := check_good
 generalize checkP p = ce at *
 go_enter Tryz.func8, Tryz.ntmps8
 go_upto_region 1 with fail
 generalize w.alloc (.cells #[.int .i64 p.mem, .slice dao p.data.length dc, .slice fao p.fns.length fc] 25) = wa at *
 generalize w.heap.size = gx at *
 obtain ⟨x0, x1, x2, _⟩ := look3 HX.out
 go_wp2_with fail
 refine HCK.out.mono ?_
 rintro e w2 ⟨rfl, hk2⟩
 have HX2 := hid_of (box_kept hk2 HX.out id)
 have HK2 := hid_of (HK.out.trans hk2)
 by_cases hz : ce = 0
 ·have HPEz : Hid (pe = if 65536 < (progD p).length then 2 else 0) := by show pe = _; rw [HE.out, if_pos hz]
  subst hz
  clear HE
  have HW := hid_of (written_any _ _ p B w2 (HG.out.same hk2) (HPG.out.kept hk2 (fun _ _ f => f)) HOK.out (HCE.out rfl))
  clear hk2 HCK HX HG HPG HK x0 x1 x2 HOK HCE
  obtain ⟨x0, x1, x2, _⟩ := look3 HX2.out
  go_wp2_with fail
  refine HW.out.mono ?_
  rintro e w3 ⟨a, m, c, rfl, ho, hk3⟩
  have HK3 := hid_of (HK2.out.trans hk3)
  have hm : m = (progD p).length := by have := ho.1; omega
  clear hk3 HW HX2 HK2 x0 x1 x2
  by_cases hl : 65536 < m
  ·have hlI : (m : Int) > 65536 := by omega
   have HPE : Hid (pe = 2) := by show pe = 2; rw [HPEz.out, if_pos (by omega)]
   have HPS : Hid (ps = ⟨#[]⟩) := by show ps = _; rw [HS.out, if_neg (by rw [HPE.out]; decide)]
   clear ho hm hl HPEz HS
   go_wp2
   refine bodyPost_ret (results_tmp2 rfl _ _ _) rfl ?_
   exact ⟨by rw [HPE.out, HPS.out]; rfl, HK3.out⟩
  ·have hlI : ¬ (m : Int) > 65536 := by omega
   have HPE : Hid (pe = 0) := by show pe = 0; rw [HPEz.out, if_neg (by omega)]
   have HPS : Hid (ps = str ((progD p).map intV)) := by show ps = _; rw [HS.out, if_pos HPE.out]
   rw [(progD_u8 p).eq] at ho
   have hcv := conv_str w3 (.slice a m c) ((progD p).map intV) (isB_own ho)
   clear ho hm hl HPEz HS
   generalize (progD p).map intV = PD at *
   go_wp2
   refine bodyPost_ret (results_tmp2 rfl _ _ _) rfl ?_
   exact ⟨by rw [HPE.out, HPS.out]; rfl, HK3.out⟩
 ·have HPE : Hid (pe = ce) := by show pe = ce; rw [HE.out, if_neg hz]
  have HPS : Hid (ps = ⟨#[]⟩) := by show ps = _; rw [HS.out, if_neg (by rw [HPE.out]; exact hz)]
  have hzb : (ce == 0) = false := by simp [hz]
  have hzn : (ce != 0) = true := by simp [hz]
  clear hk2 HCK HX HG HPG HK x0 x1 x2 HOK HCE HX2 HE HS hz
  go_wp2
  refine bodyPost_ret (results_tmp2 rfl _ _ _) rfl ?_
  exact ⟨by rw [HPE.out, HPS.out]; rfl, HK2.out⟩
theorem dec_cons (u : Nat) (h : 9 < u) : Lib.decDigits u = Lib.decDigits (u / 10) ++ [UInt8.ofNat (48 + u % 10)] := by
 rw [Lib.decDigits, dif_neg (by omega)]
theorem kept_setCells (g : Nat) (vs : List Value) (o : Nat) (w : World) : Kept (fun k => k = g) w (w.setCells g o vs) := by
 have hk : ∀ (vs : List Value) (o : Nat) (w1 : World), Kept (fun k => k = g) w w1 → Kept (fun k => k = g) w (w1.setCells g o vs) := by
  intro vs
  induction vs with
  | nil => exact fun o w1 h => h
  | cons v r ih => exact fun o w1 h => ih _ _ (h.setCell (.inr rfl) _)
 exact hk vs o w (Kept.refl _ _)
end Go.Proofs.YtpfmhibdmehlcaaGreatDoor
