import Derived.Test.YtcahibbfejomcaaGreatDoorTTx6
import Derived.Test.YtcahibbfejomcaaGreatDoorTTx5
import Derived.Test.YtcahibbfejomcaaGreatDoorTTx4
import Derived.Test.YtcahibbfejomcaaGreatDoorTTx41
import Derived.Test.YtcahibbfejomcaaGreatDoorTTx3
import Derived.Test.YtcahibbfejomcaaGreatDoorTTx2
import Derived.Test.YtcahibbfejomcaaGreatDoorTTx1
import Derived.Laws.Tables
import Derived.Laws.Rows
import Derived.Laws.ResultCell
import Derived.Deep.MidRow
import Derived.Deep.DeepCutAuto
import Derived.Deep.CutBlock
import Derived.Laws.OwnMore
import Derived.Test.YtcahibbfejomcaaGreatDoorTTx42
namespace Go.Proofs.YtcahibbfejomcaaGreatDoor
open Go.ChangeShapes Go.WideShapes Go.ChangeAt Go.RowKit Go.Deep
set_option linter.unusedVariables false
set_option linter.unusedSimpArgs false
set_option maxRecDepth 100000
def EnP (w : World) (a : Nat) (wv : Value) (l : List Int) (wr : World) (e : Ending) (w' : World) : Prop :=
 e = .returned (.tuple #[]) ∧ ∃ wv', EnI w w' a wv' (.ok l) ∧ Kept (fun k => k = a ∨ wv.ownBlock = some k) wr w' ∧ (∀ g, wv'.ownBlock = some g → wv.ownBlock = some g ∨ wr.heap.size ≤ g)
theorem EnI.num {w wr : World} {a : Nat} {wv : Value} {l : List Int} (h : EnI w wr a wv (.ok l)) (n : Int) (h0 : 0 ≤ n) (h1 : n < 9223372036854775808) (hl : l.length ≤ 4194000) :
  Calls Tryz.prog 13 #[.pointer (some ⟨a, 0, none⟩), .int .i64 n] wr (EnP w a wv (l ++ Mth.form n) wr) := by
 have hn := num_s a wv (.ok l) n wr h.ws (by omega) h1
 rw [num_ok l n h0 h1 hl] at hn
 exact hn.mono fun e w' hp => h.put hp
theorem EnI.byt {w wr : World} {a : Nat} {wv : Value} {l : List Int} (h : EnI w wr a wv (.ok l)) (bv : Value) (xs : List Int) (hb : IsB wr bv xs) (hx : xs.length ≤ 65536) (hl : l.length ≤ 4000000) (hlt : ∀ g, bv.ownBlock = some g → g < w.heap.size) :
  Calls Tryz.prog 14 #[.pointer (some ⟨a, 0, none⟩), bv] wr (EnP w a wv (l ++ (Mth.form xs.length ++ xs)) wr) := by
 have hf := (Mth.form_length (xs.length : Int) (by omega)).2
 have hn := bytes_p a wv (.ok l) bv xs wr h.ws hb (by unfold maxLen; omega) (fun g hg => ⟨by have := hlt g hg; have := h.new.1; omega, fun e => by have := hlt g hg; have := h.new.2 g e; omega⟩)
 rw [put_ok _ _ (by rw [List.length_append]; omega)] at hn
 exact hn.mono fun e w' hp => h.put hp
structure EnF (w wr : World) (a : Nat) (wv : Value) (l : List Int) (gx : Nat) (cs : Array Value) : Prop where
 en : EnI w wr a wv (.ok l)
 blk : wr.heap[gx]? = some (.cells cs 56 (0, 0))
 ne : gx ≠ a ∧ wv.ownBlock ≠ some gx
theorem EnF.put {w wr w' : World} {a : Nat} {wv : Value} {l l' : List Int} {gx : Nat} {cs : Array Value} {e : Ending} (h : EnF w wr a wv l gx cs) (hp : EnP w a wv l' wr e w') : e = .returned (.tuple #[]) ∧ ∃ wv', EnF w w' a wv' l' gx cs := by
 obtain ⟨he, wv', h1, h2, h3⟩ := hp
 have hl : gx < wr.heap.size := (Array.getElem?_eq_some_iff.1 h.blk).1
 refine ⟨he, wv', h1, (h2.block gx hl (fun e => ?_)).trans h.blk, h.ne.1, fun e => ?_⟩
 ·rcases e with e | e
  ·exact h.ne.1 e
  ·exact h.ne.2 e
 ·rcases h3 gx e with e | e
  ·exact h.ne.2 e
  ·omega
set_option maxHeartbeats 8000000 in
theorem encode_p (v : Value) (p : PG) (w : World) (B : Nat) (h : PgIs w B v p) (hB : B ≤ w.heap.size) (ho : p.Ok) : Calls Tryz.prog 5 #[v] w (EncPR p w) := by
 have hpg := h
 obtain ⟨dv, fv, rfl, hd, hdl, hf⟩ := h
 obtain ⟨dao, dc, rfl⟩ := hd.shape
 obtain ⟨fao, fc, rfl⟩ := hf.shape
 obtain ⟨nd, hnd⟩ := nmd (p.data.length)
 obtain ⟨nf, hnf⟩ := nmd (p.fns.length)
 obtain ⟨mem, hmem⟩ := nmd (p.mem)
 rw [← hmem, ← hnd, ← hnf] at hpg
 rw [← hnf] at hf
 rw [← hnd] at hd hdl
 rw [← hmem, ← hnd, ← hnf]
 have hkA : Kept (fun _ => False) w (w.alloc (.cells #[.int .i64 mem, .slice dao nd dc, .slice fao nf fc] 25)) := (Kept.refl _ _).alloc _
 have hbA := heap_alloc_new w (.cells #[.int .i64 mem, .slice dao nd dc, .slice fao nf fc] 25)
 have c0 := cell_block _ w.heap.size 0 _ _ _ hbA
 have c1 := cell_block _ w.heap.size 1 _ _ _ hbA
 have c2 := cell_block _ w.heap.size 2 _ _ _ hbA
 have HCO := hid_of (codes_p _ p _ B (hpg.kept hkA (fun _ _ f => f)) (Nat.le_trans hB hkA.size) ho)
 have HD := hid_of hd
 have HDL := hid_of hdl
 have HF := hid_of hf
 have HO := hid_of ho
 have HNF := hid_of hnf
 have HND := hid_of hnd
 have HMEM := hid_of hmem
 have HB0 := hid_of hB
 have HKA := hid_of hkA
 have HBA := hid_of hbA
 clear hpg hd hdl hf ho hnf hnd hmem hB hkA hbA
 go_enter Tryz.func5, Tryz.ntmps5
 go_wp2_with fail
 generalize w.alloc (.cells #[.int .i64 mem, .slice dao nd dc, .slice fao nf fc] 25) = w0 at *
 refine HCO.out.mono ?_
 rintro e w1 ⟨hk1, he⟩
 have HK1 := hid_of (HKA.out.trans hk1)
 have HB1 : Hid (w1.heap[w.heap.size]? = some (.cells #[.int .i64 mem, .slice dao nd dc, .slice fao nf fc] 25 (0, 0))) := (hk1.block _ (Array.getElem?_eq_some_iff.1 HBA.out).1 id).trans HBA.out
 obtain ⟨gp, hgp⟩ := nmd (w.heap.size)
 rw [← hgp] at HB1
 rw [← hgp]
 have HGP := hid_of hgp
 clear hk1 HCO c0 c1 c2 hgp HBA
 by_cases hck : checkP p = 0
 ·rw [if_pos hck] at he
  obtain ⟨lv, vs, rfl, hco⟩ := he
  obtain ⟨lo, lc, hlv⟩ := ownsRow_shape hco.row
  have hvl : vs.length = nf := by rw [hco.len, HNF.out]
  rw [hvl] at hlv
  subst hlv
  obtain ⟨hm, hdl, hf1, hf2, hfs⟩ := checkP_zero hck
  have HPE : Hid (encPE p = if 1048576 < (bytesP p).length then 2 else 0) := by unfold Hid encPE; rw [if_pos hck]
  have HRH := hid_of (run_head p (.slice dao nd dc) hm hdl hf2)
  have HFS := hid_of hfs
  have HCO := hid_of hco
  have HVL := hid_of hvl
  rw [← HMEM.out] at hm
  rw [← HND.out] at hdl
  rw [← HNF.out] at hf1 hf2
  have HNW := hid_of (new_any w1)
  clear hck hfs hco hvl
  go_wp2_with fail
  refine HNW.out.mono ?_
  rintro e w2 ⟨rfl, hw2⟩
  have HE2 : Hid (EnI w1 w2 w1.heap.size (.slice none 0 0) (.ok [])) := by unfold Hid; rw [hw2]; exact ws_new w1
  clear hw2 HNW
  have HN1 := hid_of (HE2.out.num 2 (by decide) (by decide) (by simp))
  go_wp2_with fail
  refine HN1.out.mono ?_
  rintro e w3 ⟨rfl, wv3, hE3, _, _⟩
  have HE3 := hid_of hE3
  have hb3 : w3.heap[gp]? = some (.cells #[.int .i64 mem, .slice dao nd dc, .slice fao nf fc] 25 (0, 0)) := (hE3.kept.block gp (Array.getElem?_eq_some_iff.1 HB1.out).1 id).trans HB1.out
  have c0 := cell_block _ gp 0 _ _ _ hb3
  have HN3 := hid_of (hE3.num mem hm.1 (by omega) (by have := (Mth.form_length 2 (by omega)).2; rw [List.nil_append]; omega))
  clear hE3 HE2 HN1 hb3
  go_wp2_with fail
  refine HN3.out.mono ?_
  rintro e w4 ⟨rfl, wv4, hE4, _, _⟩
  have hb4 : w4.heap[gp]? = some (.cells #[.int .i64 mem, .slice dao nd dc, .slice fao nf fc] 25 (0, 0)) := (hE4.kept.block gp (Array.getElem?_eq_some_iff.1 HB1.out).1 id).trans HB1.out
  have c1 := cell_block _ gp 1 _ _ _ hb4
  have HN4 := hid_of (hE4.byt (.slice dao nd dc) p.data (HD.out.kept (HK1.out.trans hE4.kept) (fun _ _ f => f)) (by rw [← HND.out]; exact hdl) (by have := (Mth.form_length 2 (by omega)).2; have := (Mth.form_length mem (by omega)).2; simp only [List.length_append, List.length_nil]; omega) (fun g hg => by have h1 := HDL.out g hg; have h2 := HB0.out; have h3 := HK1.out.size; omega))
  clear hE4 HE3 HN3 hb4 c0
  go_wp2_with fail
  refine HN4.out.mono ?_
  rintro e w5 ⟨rfl, wv5, hE5, _, _⟩
  have hb5 : w5.heap[gp]? = some (.cells #[.int .i64 mem, .slice dao nd dc, .slice fao nf fc] 25 (0, 0)) := (hE5.kept.block gp (Array.getElem?_eq_some_iff.1 HB1.out).1 id).trans HB1.out
  have c2 := cell_block _ gp 2 _ _ _ hb5
  have HN5 := hid_of (hE5.num (nf : Int) (by omega) (by omega) (by have := (Mth.form_length 2 (by omega)).2; have := (Mth.form_length mem (by omega)).2; have := (Mth.form_length (p.data.length : Int) (by rw [← HND.out]; omega)).2; simp only [List.length_append, List.length_nil, ← HND.out]; rw [← HND.out] at this; omega))
  clear hE5 HN4 hb5 c1
  go_wp2_with fail
  refine HN5.out.mono ?_
  rintro e w6 ⟨rfl, wv6, hE6, _, _⟩
  have hb6 : w6.heap[gp]? = some (.cells #[.int .i64 mem, .slice dao nd dc, .slice fao nf fc] 25 (0, 0)) := (hE6.kept.block gp (Array.getElem?_eq_some_iff.1 HB1.out).1 id).trans HB1.out
  have c2' := cell_block _ gp 2 _ _ _ hb6
  have HE6 : Hid (EnI w1 w6 w1.heap.size wv6 (.ok (headB p ++ (p.fns.take 0).flatMap fnB))) := by
   unfold Hid
   have e : headB p ++ (p.fns.take 0).flatMap fnB = [] ++ Mth.form 2 ++ Mth.form mem ++ (Mth.form p.data.length ++ p.data) ++ Mth.form (nf : Int) := by rw [HMEM.out, HNF.out]; simp [headB]
   rw [e]
   exact hE6
  have HL6 : Hid ((headB p ++ (p.fns.take 0).flatMap fnB).length ≤ 65600 + 41000 * 0) := by unfold Hid; have := HRH.out.2; simpa using this
  clear hE6 HN5 hb6 c2
  generalize w1.heap.size = ga at *
  go_wp2_with fail
  clear c2'
  go_loopw [37] (fun iv wr => ∃ (k : Nat) (wv : Value), k ≤ nf ∧ iv = .int .i64 k ∧ Hid (EnI w1 wr ga wv (.ok (headB p ++ (p.fns.take k).flatMap fnB))) ∧ Hid ((headB p ++ (p.fns.take k).flatMap fnB).length ≤ 65600 + 41000 * k)) (fun iv _ => nf - (intOf iv).toNat)
  case atStart => exact ⟨0, wv6, by omega, rfl, HE6, HL6⟩
  case round =>
   obtain ⟨k, wv, hk, rfl, HER, HLN⟩ := hrel
   by_cases hlt : k < nf
   ·have hltI : (k : Int) < (nf : Int) := by omega
    obtain ⟨g, o, f, e1, hgB, hfi, hfa⟩ := (HF.out.kept (HK1.out.trans HER.out.kept) (fun _ _ f => f)).at (i := k) (by rw [← HNF.out]; exact hlt)
    subst e1
    obtain ⟨cao, cc, x0, x1, x2, x3, hri, hcl⟩ := fn_read hfa
    have hfm := List.mem_of_getElem? hfi
    have hfo := HO.out.fns f hfm
    obtain ⟨⟨r1, r2, r3⟩, r4⟩ := HFS.out f hfm
    have hrb := right_bytes hfo.code r4
    have HFL := hid_of (fnB_len r1 r2 r3 hrb.2)
    have htk : p.fns.take (k + 1) = p.fns.take k ++ [f] := by rw [List.take_add_one, hfi]; rfl
    obtain ⟨vk, hvk⟩ : ∃ vk, vs[k]? = some vk := ⟨_, List.getElem?_eq_getElem (by rw [HVL.out]; exact hlt)⟩
    obtain ⟨hvb, hvo⟩ := HCO.out.at' k vk f hvk hfi
    obtain ⟨bo, bc, hbk⟩ := hvb.shape
    obtain ⟨lg, hlo, hlc⟩ : ∃ lg, lo = some ⟨lg, 0, none⟩ ∧ wr.cell? ⟨lg, k, none⟩ = some vk := by
     have hrow := HER.out.kept.ownsRow HCO.out.row (fun _ _ f => f)
     rw [HVL.out] at hrow
     rcases World.ownsRow.mk' hrow with ⟨_, e⟩ | ⟨lg, cap, e⟩
     ·omega
     ·cases e
      refine ⟨lg, rfl, ?_⟩
      rw [hrow.cellAt k (by omega)]
      exact hvk
    subst hlo
    obtain ⟨fa, hfa'⟩ := nmd (f.a)
    obtain ⟨fl, hfl'⟩ := nmd (f.l)
    obtain ⟨fr, hfr'⟩ := nmd (f.r)
    obtain ⟨nc, hnc⟩ := nmd (f.code.length)
    obtain ⟨nb, hnb⟩ := nmd ((encB f.code).length)
    rw [← hnb] at hbk
    subst hbk
    have HFB : Hid (fnB f = Mth.form fa ++ Mth.form fl ++ Mth.form fr ++ (Mth.form (encB f.code).length ++ encB f.code)) := by unfold Hid fnB; rw [hfa', hfl', hfr']
    rw [← hfa'] at x0 r1
    rw [← hfl'] at x1 r2
    rw [← hfr'] at x2 r3
    rw [← hnc] at x3
    have hkB : Kept (fun _ => False) wr (wr.alloc (.cells #[.int .i64 fa, .int .i64 fl, .int .i64 fr, .slice cao nc cc] 56)) := (Kept.refl _ _).alloc _
    have hbB := heap_alloc_new wr (.cells #[.int .i64 fa, .int .i64 fl, .int .i64 fr, .slice cao nc cc] 56)
    have hEF : EnF w1 (wr.alloc (.cells #[.int .i64 fa, .int .i64 fl, .int .i64 fr, .slice cao nc cc] 56)) ga wv (headB p ++ (p.fns.take k).flatMap fnB) wr.heap.size #[.int .i64 fa, .int .i64 fl, .int .i64 fr, .slice cao nc cc] :=
     ⟨HER.out.step hkB (fun _ _ f => f), hbB, fun e => by have := HER.out.ws.size; omega, fun e => by have := (HER.out.ws.lt _ e).1; omega⟩
    have HEF := hid_of hEF
    have y0 := cell_block _ wr.heap.size 0 _ _ _ hbB
    have HFI := hid_of hfi
    have HTK := hid_of htk
    have HRB := hid_of hrb
    have HVB := hid_of hvb
    have HVO := hid_of hvo
    have HNB := hid_of hnb
    have HLC : Hid (w1.cell? ⟨lg, k, none⟩ = some (.slice bo nb bc)) := by
     unfold Hid
     have hrow := HCO.out.row
     rw [HVL.out] at hrow
     rw [hrow.cellAt k (by omega)]
     exact hvk
    have q1 := (Mth.form_length fa (by omega)).2
    have q2 := (Mth.form_length fl (by omega)).2
    have q3 := (Mth.form_length fr (by omega)).2
    have HQ : Hid ((Mth.form fa).length ≤ 9 ∧ (Mth.form fl).length ≤ 9 ∧ (Mth.form fr).length ≤ 9) := ⟨q1, q2, q3⟩
    have HN7 := hid_of (hEF.en.num fa r1.1 (by omega) (by have := HLN.out; omega))
    clear hfa hri hcl hfo hfa' hfl' hfr' hnc hkB hbB hfi hfm hrb r4 htk hvk hvb hvo hnb hlc hEF q1 q2 q3 HER
    go_wp2_with fail
    clear x0 x1 x2 x3
    generalize wr.alloc (.cells #[.int .i64 fa, .int .i64 fl, .int .i64 fr, .slice cao nc cc] 56) = w7 at *
    generalize wr.heap.size = gx at *
    refine HN7.out.mono ?_
    intro e w8 hp
    obtain ⟨rfl, wv8, hE8⟩ := HEF.out.put hp
    have y1 := cell_block _ gx 1 _ _ _ hE8.blk
    have HE8 := hid_of hE8
    have HN8 := hid_of (hE8.en.num fl r2.1 (by omega) (by have := HLN.out; have := HQ.out; rw [List.length_append]; omega))
    clear hp hE8 HN7 y0 HEF
    go_wp2_with fail
    refine HN8.out.mono ?_
    intro e w9 hp
    obtain ⟨rfl, wv9, hE9⟩ := HE8.out.put hp
    have y2 := cell_block _ gx 2 _ _ _ hE9.blk
    have HE9 := hid_of hE9
    have HN9 := hid_of (hE9.en.num fr r3.1 (by omega) (by have := HLN.out; have := HQ.out; rw [List.length_append, List.length_append]; omega))
    clear hp hE9 HN8 y1 HE8
    go_wp2_with fail
    refine HN9.out.mono ?_
    intro e w10 hp
    obtain ⟨rfl, wv10, hE10⟩ := HE9.out.put hp
    have hlc := hE10.en.kept.cell HLC.out id
    have HE10 := hid_of hE10
    have HN10 := hid_of (hE10.en.byt (.slice bo nb bc) (encB f.code) (HVB.out.kept hE10.en.kept (fun _ _ f => f)) (by have := HRB.out.2; omega) (by have := HLN.out; have := HQ.out; rw [List.length_append, List.length_append, List.length_append]; omega) (fun g hg => (HVO.out g hg).2.1))
    clear hp hE10 HN9 y2 HE9
    go_wp2_with fail
    refine HN10.out.mono ?_
    intro e w11 hp
    obtain ⟨rfl, wv11, hE11⟩ := HE10.out.put hp
    have HE11 : Hid (EnI w1 w11 ga wv11 (.ok (headB p ++ (p.fns.take (k + 1)).flatMap fnB))) := by
     unfold Hid
     have h9 := hE11.en
     have e : headB p ++ (p.fns.take (k + 1)).flatMap fnB = headB p ++ (p.fns.take k).flatMap fnB ++ Mth.form fa ++ Mth.form fl ++ Mth.form fr ++ (Mth.form (encB f.code).length ++ encB f.code) := by
      rw [HTK.out, List.flatMap_append]
      simp only [List.flatMap_cons, List.flatMap_nil, List.append_nil, HFB.out, List.append_assoc]
     rw [e]
     exact h9
    have HLN2 : Hid ((headB p ++ (p.fns.take (k + 1)).flatMap fnB).length ≤ 65600 + 41000 * (k + 1)) := by
     unfold Hid
     have h1 := HLN.out
     have h2 := HFL.out
     rw [HTK.out, List.flatMap_append, ← List.append_assoc, List.length_append]
     simp only [List.flatMap_cons, List.flatMap_nil, List.append_nil]
     omega
    clear hp hE11 HN10 HE10 hlc
    go_wp2
    go_roundw
    case rel => exact ⟨k + 1, wv11, by omega, by go_num, HE11, HLN2⟩
    case measure => simp [intOf]; omega
   ·have hnl : ¬ ((k : Int) < (nf : Int)) := by omega
    have HEB : Hid (EnI w1 wr ga wv (.ok (bytesP p))) := by
     have h9 := HER.out
     rw [List.take_of_length_le (by rw [← HNF.out]; omega)] at h9
     exact h9
    have HKE := hid_of (HK1.out.trans HEB.out.kept)
    have HDN := hid_of (done_s ga wv (.ok (bytesP p)) wr HEB.out.ws)
    have hbig := HEB.out.ws.2
    clear HER HLN
    go_wp2_with fail
    refine HDN.out.mono ?_
    rintro e w9 ⟨v9, rfl, ho9, hk9⟩
    rw [show (St.err (.ok (bytesP p))) = 0 from rfl]
    rw [show (St.bytes (.ok (bytesP p))) = bytesP p from rfl] at ho9
    have hob : w9.ownsRow w.heap.size 5 1 v9 (bytesP p).length ((bytesP p).map (Value.int .u8)) := own_mono ho9 HKE.out.size
    have HK9 : Hid (Kept (fun _ => False) w w9) := HKE.out.step (kept_of_below hk9) (fun i hi e => by have := HKE.out.size; omega)
    obtain ⟨bl, hbl⟩ := nmd ((bytesP p).length)
    obtain ⟨bo, bc, hv9⟩ := ownsRow_shape hob
    rw [← hbl] at hv9 hbig
    subst hv9
    have HOB := hid_of hob
    have HBLN := hid_of hbl
    clear hob ho9 hk9 HDN hbl
    by_cases hlong : 1048576 < bl
    ·have hlI : (1048576 : Int) < (bl : Int) := by omega
     have HR : Hid (EncPR p w (.returned (.tuple #[.slice none 0 0, .int .i64 2])) w9) := ⟨HK9.out, by rw [HPE.out, ← HBLN.out, if_pos hlong, if_neg (by decide)]⟩
     go_wp2
     go_ret2
     exact HR.out
    ·have hlI : ¬ ((1048576 : Int) < (bl : Int)) := by omega
     have HR : Hid (EncPR p w (.returned (.tuple #[.slice bo bl bc, .int .i64 0])) w9) := ⟨HK9.out, by rw [HPE.out, ← HBLN.out, if_neg hlong, if_pos rfl]; exact ⟨_, rfl, by have h9 := HOB.out; rw [← HBLN.out] at h9; exact h9⟩⟩
     go_wp2
     go_ret2
     exact HR.out
 ·rw [if_neg hck] at he
  subst he
  have HPE : Hid (encPE p = checkP p) := by unfold Hid encPE; rw [if_neg hck]
  have HR : Hid (EncPR p w (.returned (.tuple #[.slice none 0 0, .int .i64 (checkP p)])) w1) := ⟨HK1.out, by rw [HPE.out, if_neg hck]⟩
  have hb : (checkP p == 0) = false := by simp; exact hck
  have hb2 : (checkP p != 0) = true := by simp; exact hck
  generalize checkP p = ee at *
  go_wp2
  go_ret2
  exact HR.out
def sameF (f g : FN) : Bool := f.a == g.a && (f.l == g.l && (f.r == g.r && sameI f.code g.code))
def sameFs : List FN → List FN → Bool
 | [], [] => true
 | f :: fs, g :: gs => sameF f g && sameFs fs gs
 | _, _ => false
def sameP (p q : PG) : Bool := p.mem == q.mem && (((str p.data).toList == (str q.data).toList) && sameFs p.fns q.fns)
theorem sameF_refl (f : FN) : sameF f f = true := by simp [sameF, sameI_refl]
theorem sameFs_refl : ∀ fs : List FN, sameFs fs fs = true
 | [] => rfl
 | f :: fs => by rw [sameFs, sameF_refl, sameFs_refl fs]; rfl
theorem sameP_refl (p : PG) : sameP p p = true := by simp [sameP, sameFs_refl]
theorem sameFs_len : ∀ fs gs : List FN, fs.length ≠ gs.length → sameFs fs gs = false
 | [], [], h => absurd rfl h
 | [], _ :: _, _ => rfl
 | _ :: _, [], _ => rfl
 | f :: fs, g :: gs, h => by rw [sameFs, sameFs_len fs gs (by simpa using h), Bool.and_false]
theorem sameFs_drop : ∀ (fs gs : List FN) (i : Nat) (f g : FN), fs[i]? = some f → gs[i]? = some g → sameFs (fs.drop i) (gs.drop i) = (sameF f g && sameFs (fs.drop (i + 1)) (gs.drop (i + 1)))
 | [], _, i, _, _, h, _ => by simp at h
 | _ :: _, [], i, _, _, _, h => by simp at h
 | a :: fs, b :: gs, 0, f, g, h1, h2 => by
  simp at h1 h2
  subst h1
  subst h2
  rfl
 | a :: fs, b :: gs, i + 1, f, g, h1, h2 => by
  have := sameFs_drop fs gs i f g (by simpa using h1) (by simpa using h2)
  simpa using this
theorem sameI_lens : ∀ ys zs : List IN, ys.length ≠ zs.length → sameI ys zs = false
 | [], [], h => absurd rfl h
 | [], _ :: _, _ => rfl
 | _ :: _, [], _ => rfl
 | y :: ys, z :: zs, h => by rw [sameI, sameI_lens ys zs (by simpa using h)]; simp
end Go.Proofs.YtcahibbfejomcaaGreatDoor
