import Derived.Test.YtcahibbfejomcaaGreatDoorTTx26
namespace Go.Proofs.YtcahibbfejomcaaGreatDoor
open Go.RowKit
set_option linter.unusedVariables false
set_option linter.unusedSimpArgs false
set_option maxRecDepth 100000
variable {w0 w : World} {r gm : Nat} {R : Rdr} {NL : List (ByteArray × Int)} {dv fv lv wv : Value} {CV : List Value} {GM : List Nat}
set_option maxHeartbeats 4000000 in
theorem labelled_nil (ao : Option Addr) (c : Nat) (w : World) : Calls Tryz.prog 59 #[.slice ao 0 c] w fun e w' => e = .returned (.tuple #[.slice none 0 0, .slice ao 0 c]) ∧ w' = w := by
 go_enter Tryz.func59, Tryz.ntmps59
 go_wp2_with fail
 refine wp_loop_rounds 1 ?_
 rw [rounds_succ]
 go_wp2
 refine bodyPost_ret (results_tmp2 rfl _ _ _) rfl ?_
 exact ⟨rfl, rfl⟩
theorem txt_noL {a b : ByteArray} (L : List UInt8) (hb : b.data.toList = L) (h : a ≠ b) : (a.toList == L) = false := by
 rw [← hb, ← ByteArray.toList_eq]
 exact txt_no h
structure Rdr.Ok (R : Rdr) : Prop where
 fs : R.fs.length ≤ 80000
 code : ∀ f ∈ R.fs, f.code.length ≤ 90000
 ws : R.ws.length ≤ 90000
 data : R.data.length ≤ 100000000000000
 wf : ∀ x ∈ R.ws, x.fn < R.fs.length
theorem code_any (g o n c : Nat) (ln : Int) (ps : List Pf) (B : Nat) (v : Value) (ls : List ByteArray) (h : RdG w0 w r R) (hP : FsAt w g o ps) (hn : n = ps.length) (hc : n ≤ c) (hnl : n ≤ 90000) (hv : w.ownsRow B 9 1 v ls.length (labs ls)) (hll : ls.length ≤ 90000) (hok : R.Ok) :
  Calls Tryz.prog 60 #[.pointer (some ⟨r, 0, none⟩), .int .i64 ln, v, .slice (some ⟨g, o, none⟩) n c] w (MethR w0 w r (codeP R ln ls ps)) := by
 by_cases hf : R.fs = []
 ·rw [codeP_nil R ln ls ps hf]
  exact codeG_nil ln v _ h hf
 ·obtain ⟨m, hm⟩ : ∃ m, R.fs.length = m + 1 := ⟨R.fs.length - 1, by have := List.length_pos_iff.2 hf; omega⟩
  obtain ⟨gs, f, hfs, hgl⟩ := snoc_of hm
  rw [codeP_snoc R ln ls ps gs f hfs]
  have h1 := hok.fs
  exact codeG g o n c ln ps B v ls gs f hfs h hP hn hc hnl hv (by omega) hll (hok.code f (by rw [hfs]; simp)) hok.ws
set_option maxHeartbeats 16000000 in
theorem lineG (ln : Int) (D : ByteArray) (hs : D.size ≤ 65536) (hG : Gs w) (h : RdG w0 w r R) (hok : R.Ok) :
  Calls Tryz.prog 42 #[.pointer (some ⟨r, 0, none⟩), .int .i64 ln, .string D] w (MethR w0 w r (lineP R ln (cutV D.data.toList))) := by
 have HCT := hid_of (cutG D hs w hG)
 have HG := hid_of h
 have HOK := hid_of hok
 have HKW := hid_of h.kept
 obtain ⟨O, hO⟩ := nmd (lineP R ln (cutV D.data.toList))
 have HO := hid_of hO
 rw [← hO]
 have HDS : Hid (D.data.toList.length ≤ 65536) := by show _ ≤ 65536; rw [← Lib.size_eq]; exact hs
 clear hO h hok hG hs
 go_enter Tryz.func42, Tryz.ntmps42
 go_wp2_with fail
 refine HCT.out.mono ?_
 rintro e w1 ⟨v, b, rfl, hk1, hcase⟩
 have HK1 := hid_of hk1
 clear hk1 HCT
 rcases hcase with ⟨rfl, ps, hps, hown⟩ | ⟨rfl, hno⟩
 ·have HPS := hid_of hps
  obtain ⟨hb1, hb2⟩ := cutV_bound hps
  have HBD : Hid (ps.length ≤ 65537 ∧ ∀ p ∈ ps, p.s.size ≤ 65536) := ⟨by have := HDS.out; omega, fun p hp => by have := HDS.out; have := hb2 p hp; omega⟩
  have HE0 : Hid (O = if (labP ps).1 = [] then headP R ln (labP ps).2 else codeP R ln (labP ps).1 (labP ps).2) := by
   show O = _
   rw [HO.out, hps]
   rfl
  have HOW := hid_of hown
  clear hps hb1 hb2 hown HPS HO
  by_cases hp0 : ps = []
  ·obtain ⟨a, c, hv⟩ := ownsRow_shape HOW.out
   have hv0 : v = .slice a 0 c := by rw [hv, hp0]; rfl
   subst hv0
   have HE : Hid (O = .good R) := by show O = _; rw [HE0.out, hp0]; rfl
   have HLN := hid_of (labelled_nil a c w1)
   clear hv HE0 hp0
   go_wp2_with fail
   refine HLN.out.mono ?_
   rintro e w2 ⟨rfl, hw⟩
   have hw := hw.symm
   subst hw
   go_wp2
   go_ret
   exact ⟨HKW.out.trans HK1.out, .inl ⟨R, HE.out, rfl, HG.out.same HK1.out, Kept.othG HK1.out⟩⟩
  ·obtain ⟨g, c, cs, hv, hnc, hg⟩ := own_is0 HOW.out (List.length_pos_iff.2 hp0)
   obtain ⟨n, hn⟩ := nmd (ps.length)
   rw [← hn] at hv hnc
   have how := HOW.out
   rw [hv, ← hn] at how
   have HLB := hid_of (labelledG g 0 n c ps w1 (fsAt_own (hn ▸ how)) hn (by have := HBD.out.1; omega) hnc)
   have HGG := hid_of hg
   subst hv
   have HNN := hid_of hn
   clear how hg hp0 HOW hnc hn
   go_wp2_with fail
   refine HLB.out.mono ?_
   rintro e w2 ⟨lbv, rv, rfl, hlo, ⟨o1, c1, hrv, hc1, hF⟩, hk2⟩
   have HK2 := hid_of (HK1.out.trans hk2)
   have hlen := labP_len ps
   have HG2 := hid_of (HG.out.same HK2.out)
   have HGG2 := hid_of (box_kept hk2 HGG.out id)
   have HF2 := hid_of (hF.kept hk2 id)
   obtain ⟨ls, hls⟩ := nmd ((labP ps).1)
   obtain ⟨qs, hqs⟩ := nmd ((labP ps).2)
   rw [← hls] at hlo hlen
   rw [← hqs] at hrv hc1 hlen
   rw [← hqs] at HF2
   rw [← hls, ← hqs] at HE0
   have HLO := hid_of hlo
   have HBB : Hid (ls.length + qs.length ≤ 65537 ∧ ∀ p ∈ qs, p.s.size ≤ 65536) := ⟨by have := HBD.out.1; omega, fun p hp => HBD.out.2 p (hlen.2 p hp)⟩
   obtain ⟨n1, hn1⟩ := nmd (qs.length)
   rw [← hn1] at hrv hc1
   have HN1 := hid_of hn1
   have HC1 := hid_of hc1
   obtain ⟨la, lc, hlv⟩ := ownsRow_shape hlo
   obtain ⟨nl, hnl⟩ := nmd (ls.length)
   rw [← hnl] at hlv
   have HNL := hid_of hnl
   have HLV := hid_of hlv
   subst hrv hlv
   have hn1I : (n1 : Int) ≤ 65537 := by have := HBB.out.1; have := HN1.out; omega
   have hnlI : (nl : Int) ≤ 65537 := by have := HBB.out.1; have := HNL.out; omega
   have HCD : Hid (Calls Tryz.prog 60 #[.pointer (some ⟨r, 0, none⟩), .int .i64 ln, .slice la nl lc, .slice (some ⟨g, o1, none⟩) n1 c1] w2 (MethR w0 w2 r (codeP R ln ls qs))) := code_any g o1 n1 c1 ln qs _ _ ls HG2.out HF2.out HN1.out HC1.out (by have := HBB.out.1; have := HN1.out; omega) HLO.out (by have := HBB.out.1; omega) HOK.out
   clear hlo hk2 hF hlen hls hqs hc1 hnl hn1 HLB HBD
   by_cases hl0 : ls = []
   ·have hz : nl = 0 := by rw [HNL.out, hl0]; rfl
    subst hz
    rw [if_pos hl0] at HE0
    cases qs with
    | nil =>
     have hz2 : n1 = 0 := HN1.out
     subst hz2
     have HE : Hid (O = .good R) := HE0.out
     clear HE0 hl0
     go_wp2
     go_ret
     exact ⟨HKW.out.trans HK2.out, .inl ⟨R, HE.out, rfl, HG2.out, Kept.othG HK2.out⟩⟩
    | cons p l =>
     have hp1 : (0 : Int) < (n1 : Int) := by have := HN1.out; simp only [List.length_cons] at this; omega
     have hp2 : ¬ (n1 : Int) = 0 := by omega
     have hp2' : ((n1 : Int) == 0) = false := by simp; omega
     have hc1I : (1 : Int) ≤ (c1 : Int) := by have := HC1.out; omega
     have p0 : w2.cell? ⟨g, o1, none⟩ = some (.int .i64 p.k) := HF2.out 0 _ rfl 0 _ rfl
     have p1 : w2.cell? ⟨g, o1 + 1, none⟩ = some (.string p.s) := HF2.out 0 _ rfl 1 _ rfl
     have HE1 : Hid (O = if p.k ≠ 0 then .bad 141 else if p.s = memB then memP R l else if p.s = datB then datP R l else if p.s = funB then funP R l else codeP R ln [] (p :: l)) := HE0.out
     clear HE0
     by_cases hk : p.k = 0
     ·rw [if_neg (not_not_intro hk)] at HE1
      rw [hk] at p0
      have HL1 := hid_of (show FsAt w2 g (if c1 = 1 then o1 else o1 + 4) l by
       split
       ·have h1 := HC1.out
        have h2 := HN1.out
        simp only [List.length_cons] at h2
        rw [show l = [] from List.length_eq_zero_iff.1 (by omega)]
        exact fun i p hp => by simp at hp
       ·exact HF2.out.drop 1)
      obtain ⟨o2, ho2⟩ := nmd ((if c1 = 1 then o1 else o1 + 4))
      rw [← ho2] at HL1
      obtain ⟨n2, hn2⟩ := nmd (n1 - 1)
      obtain ⟨c2, hc2⟩ := nmd (c1 - 1)
      have HS1 : Hid (c1 = 1 → Value.slice (some ({ block := g, off := o1 } : Addr)) (n1 - 1) 0 = .slice (some ⟨g, o2, none⟩) n2 c2) := fun h => by
       rw [hn2, hc2, ho2, if_pos h, h]
      have HS2 : Hid (¬ c1 = 1 → Value.slice (some ({ block := g, off := o1 + 4 } : Addr)) (n1 - 1) (c1 - 1) = .slice (some ⟨g, o2, none⟩) n2 c2) := fun h => by
       rw [hn2, hc2, ho2, if_neg h]
      have HN2 : Hid (n2 = l.length) := by have := HN1.out; simp only [List.length_cons] at this; show n2 = _; omega
      obtain ⟨dv, fv, lv, wv, gm, CV, GM, hX⟩ := HG2.out
      have HX := hid_of hX
      clear hX ho2 hn2 hc2 hl0
      by_cases hm : p.s = memB
      ·rw [if_pos hm] at HE1
       rw [hm] at p1
       have HM := hid_of (memoryG g o2 n2 c2 l cs HX.out HL1.out HGG2.out HN2.out (by have := HOK.out.fs; omega) (by have := HN2.out; have := HBB.out.1; simp only [List.length_cons] at this; omega))
       clear hm
       go_wp2_with fail
       ·rw [HS1.out (by assumption)]
        refine HM.out.mono ?_
        rintro e w3 hm
        rw [← HE1.out] at hm
        have HM3 := hid_of hm
        obtain ⟨_, ⟨R', _, rfl, _, _⟩ | ⟨k, _, rfl⟩⟩ := hm
        ·go_wp2
         go_ret
         exact HM3.out.from (Kept.othG HK2.out)
        ·go_wp2
         go_ret
         exact HM3.out.from (Kept.othG HK2.out)
       ·rw [HS2.out (by assumption)]
        refine HM.out.mono ?_
        rintro e w3 hm
        rw [← HE1.out] at hm
        have HM3 := hid_of hm
        obtain ⟨_, ⟨R', _, rfl, _, _⟩ | ⟨k, _, rfl⟩⟩ := hm
        ·go_wp2
         go_ret
         exact HM3.out.from (Kept.othG HK2.out)
        ·go_wp2
         go_ret
         exact HM3.out.from (Kept.othG HK2.out)
      rw [if_neg hm] at HE1
      by_cases hd : p.s = datB
      ·rw [if_pos hd] at HE1
       rw [hd] at p1
       have HM := hid_of (dataG g o2 n2 c2 l cs HX.out HL1.out HGG2.out HN2.out (by have := HOK.out.fs; omega) (by have := HN2.out; have := HBB.out.1; simp only [List.length_cons] at this; omega) (by have := HOK.out.data; omega) (fun q hq => HBB.out.2 q (List.mem_cons_of_mem _ hq)))
       clear hm hd
       go_wp2_with fail
       ·rw [HS1.out (by assumption)]
        refine HM.out.mono ?_
        rintro e w3 hm
        rw [← HE1.out] at hm
        have HM3 := hid_of hm
        obtain ⟨_, ⟨R', _, rfl, _, _⟩ | ⟨k, _, rfl⟩⟩ := hm
        ·go_wp2
         go_ret
         exact HM3.out.from (Kept.othG HK2.out)
        ·go_wp2
         go_ret
         exact HM3.out.from (Kept.othG HK2.out)
       ·rw [HS2.out (by assumption)]
        refine HM.out.mono ?_
        rintro e w3 hm
        rw [← HE1.out] at hm
        have HM3 := hid_of hm
        obtain ⟨_, ⟨R', _, rfl, _, _⟩ | ⟨k, _, rfl⟩⟩ := hm
        ·go_wp2
         go_ret
         exact HM3.out.from (Kept.othG HK2.out)
        ·go_wp2
         go_ret
         exact HM3.out.from (Kept.othG HK2.out)
      rw [if_neg hd] at HE1
      by_cases hf : p.s = funB
      ·rw [if_pos hf] at HE1
       rw [hf] at p1
       have HM := hid_of (functionG g o2 n2 c2 l cs HX.out HL1.out HGG2.out HN2.out HOK.out.fs (by have := HN2.out; have := HBB.out.1; simp only [List.length_cons] at this; omega) HOK.out.wf)
       clear hm hd hf
       go_wp2_with fail
       ·rw [HS1.out (by assumption)]
        refine HM.out.mono ?_
        rintro e w3 hm
        rw [← HE1.out] at hm
        have HM3 := hid_of hm
        obtain ⟨_, ⟨R', _, rfl, _, _⟩ | ⟨k, _, rfl⟩⟩ := hm
        ·go_wp2
         go_ret
         exact HM3.out.from (Kept.othG HK2.out)
        ·go_wp2
         go_ret
         exact HM3.out.from (Kept.othG HK2.out)
       ·rw [HS2.out (by assumption)]
        refine HM.out.mono ?_
        rintro e w3 hm
        rw [← HE1.out] at hm
        have HM3 := hid_of hm
        obtain ⟨_, ⟨R', _, rfl, _, _⟩ | ⟨k, _, rfl⟩⟩ := hm
        ·go_wp2
         go_ret
         exact HM3.out.from (Kept.othG HK2.out)
        ·go_wp2
         go_ret
         exact HM3.out.from (Kept.othG HK2.out)
      rw [if_neg hf] at HE1
      have e1 := txt_noL [109, 101, 109, 111, 114, 121] rfl hm
      have e2 := txt_noL [100, 97, 116, 97] rfl hd
      have e3 := txt_noL [102, 117, 110, 99] rfl hf
      have HCN : Hid (Calls Tryz.prog 60 #[.pointer (some ⟨r, 0, none⟩), .int .i64 ln, .slice none 0 0, .slice (some ⟨g, o1, none⟩) n1 c1] w2 (MethR w0 w2 r (codeP R ln [] (p :: l)))) := code_any g o1 n1 c1 ln (p :: l) 0 _ [] HG2.out HF2.out HN1.out HC1.out (by have := HBB.out.1; have := HN1.out; omega) (World.ownsRow_nil _ _ _ _) (by simp) HOK.out
      obtain ⟨ps', hps'⟩ := nmd (p.s)
      rw [← hps'] at p1 e1 e2 e3
      clear hm hd hf hps'
      go_wp2_with fail
      refine HCN.out.mono ?_
      rintro e w3 hm
      rw [← HE1.out] at hm
      have HM3 := hid_of hm
      obtain ⟨_, ⟨R', _, rfl, _, _⟩ | ⟨k, _, rfl⟩⟩ := hm
      ·go_wp2
       go_ret
       exact HM3.out.from (Kept.othG HK2.out)
      ·go_wp2
       go_ret
       exact HM3.out.from (Kept.othG HK2.out)
     ·have HE : Hid (O = .bad 141) := by
       show O = _
       rw [HE1.out, if_pos hk]
      have hk' : (p.k != 0) = true := by simp; exact hk
      obtain ⟨pk, hpk⟩ := nmd (p.k)
      rw [← hpk] at p0 hk'
      clear HE1 hl0 hk hpk
      go_wp2
      go_ret
      exact ⟨HKW.out.trans HK2.out, .inr ⟨_, HE.out, rfl⟩⟩
   ·have hz : (0 : Int) < (nl : Int) := by have := List.length_pos_iff.2 hl0; have := HNL.out; omega
    have hz2 : ¬ (nl : Int) = 0 := by omega
    have hz3 : ((nl : Int) == 0) = false := by simp; omega
    rw [if_neg hl0] at HE0
    clear hl0
    go_wp2_with fail
    refine HCD.out.mono ?_
    rintro e w3 hm
    rw [← HE0.out] at hm
    have HM3 := hid_of hm
    have hm2 := hm
    obtain ⟨_, ⟨R', _, rfl, _, _⟩ | ⟨k, _, rfl⟩⟩ := hm
    ·go_wp2
     go_ret
     exact HM3.out.from (Kept.othG HK2.out)
    ·go_wp2
     go_ret
     exact HM3.out.from (Kept.othG HK2.out)
 ·have HE : Hid (O = .bad 141) := by
   show O = _
   rw [HO.out, hno]
   rfl
  clear hno
  go_wp2
  go_ret
  exact ⟨HKW.out.trans HK1.out, .inr ⟨_, HE.out, rfl⟩⟩
end Go.Proofs.YtcahibbfejomcaaGreatDoor
