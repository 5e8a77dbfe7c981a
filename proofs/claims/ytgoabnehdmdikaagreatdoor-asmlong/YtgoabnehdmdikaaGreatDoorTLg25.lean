import Derived.Test.YtgoabnehdmdikaaGreatDoorTLg24
set_option linter.unusedVariables false
set_option linter.unusedSimpArgs false
set_option maxRecDepth 100000
set_option maxHeartbeats 64000000
namespace Go.Proofs.YtgoabnehdmdikaaGreatDoor
open Go.RowKit
theorem Zke {w : World} {B g c n : Nat} {ps : List Pf} (h : w.ownsRow B 108 4 (.slice (some ⟨g, 0, none⟩) n c) ps.length (Xn ps)) : FsAt w g 0 ps := fun i p hp j v hv => by
 have hj : j < 4 := by
  have := (List.getElem?_eq_some_iff.1 hv).1
  exact this
 have := h.cells (g := g) rfl (i * 4 + j) v (by rw [Zi3 ps i p hp j hj]; exact hv)
 rw [Addr.add_lit, Nat.zero_add] at this
 show w.cell? ⟨g, 0 + i * 4 + j, none⟩ = _
 rw [Nat.zero_add]
 exact this
def Yy : List Pf → List ByteArray × List Pf
 | p :: q :: l => if p.k = 1 ∧ q.k = 4 then (p.s :: (Yy l).1, (Yy l).2) else ([], p :: q :: l)
 | [p] => ([], [p])
 | [] => ([], [])
theorem Zdy (p q : Pf) (l : List Pf) (h : p.k = 1 ∧ q.k = 4) : Yy (p :: q :: l) = (p.s :: (Yy l).1, (Yy l).2) := by rw [Yy, if_pos h]
theorem Zc9 (p q : Pf) (l : List Pf) (h : ¬ (p.k = 1 ∧ q.k = 4)) : Yy (p :: q :: l) = ([], p :: q :: l) := by rw [Yy, if_neg h]
theorem Zgo : ∀ (ps : List Pf), (Yy ps).1 = [] → (Yy ps).2 = ps
 | [], _ => rfl
 | [p], _ => rfl
 | p :: q :: l, h => by
  by_cases hc : p.k = 1 ∧ q.k = 4
  ·rw [Zdy p q l hc] at h
   cases h
  ·rw [Zc9 p q l hc]
theorem Ze3 {w : World} {g : Nat} (h : ∃ v, w.heap[g]? = some v) : g < w.heap.size := by
 obtain ⟨v, hv⟩ := h
 exact (Array.getElem?_eq_some_iff.1 hv).1
structure SD where
 k : Int
 ls : List ByteArray
 nm : ByteArray
 n0 : Int
 n1 : Int
 n2 : Int
 dt : ByteArray
 op : Int
 a : Int
 wd : ByteArray
 big : Bool
def Wh (ls : List ByteArray) (l : List Pf) (big : Bool) : Option SD := match Zas l with
 | some (op, a, wd) => some ⟨4, ls, ⟨#[]⟩, 0, 0, 0, ⟨#[]⟩, op, a, wd, big⟩
 | none => none
def Zgp (big : Bool) : List Pf → Option SD
 | [q, x, y, z] => if q.k = 1 ∧ Xt 3 [x, y, z] = true then some ⟨3, [], q.s, x.n, y.n, z.n, ⟨#[]⟩, 0, 0, ⟨#[]⟩, big⟩ else none
 | _ => none
def Zdh (big : Bool) (p : Pf) (r : List Pf) : Option SD :=
 if p.s = Zhk then (if Xt 1 r = true then some ⟨1, [], ⟨#[]⟩, (r.map Pf.n).headD 0, 0, 0, ⟨#[]⟩, 0, 0, ⟨#[]⟩, big⟩ else none)
 else if p.s = Zhl then (if r.map Pf.k = [3] then some ⟨2, [], ⟨#[]⟩, 0, 0, 0, (r.map Pf.s).headD ⟨#[]⟩, 0, 0, ⟨#[]⟩, big⟩ else none)
 else if p.s = Zhm then Zgp big r
 else Wh [] (p :: r) big
def Zek (big : Bool) : List Pf → Option SD
 | [] => none
 | p :: r => if p.k = 1 then Zdh big p r else Wh [] (p :: r) big
def Yt (ds : List Pf) : Option SD :=
 if ds = [] then some ⟨0, [], ⟨#[]⟩, 0, 0, 0, ⟨#[]⟩, 0, 0, ⟨#[]⟩, false⟩
 else if (Yy ds).1 = [] then Zek (ds.any Pf.f) (Yy ds).2
 else Wh (Yy ds).1 (Yy ds).2 (ds.any Pf.f)
structure SLis (B : Nat) (w' : World) (x : SL) (y : SD) : Prop where
 k : x.k = y.k
 nm : x.nm = y.nm
 n0 : x.n0 = y.n0
 n1 : x.n1 = y.n1
 n2 : x.n2 = y.n2
 dt : x.dt = y.dt
 op : x.op = y.op
 a : x.a = y.a
 wd : x.wd = y.wd
 big : x.big = y.big
 ls : w'.ownsRow B 9 1 x.lv y.ls.length (labs y.ls)
def Zs8 (bs : List UInt8) (w : World) (e : Ending) (w' : World) : Prop :=
 ∃ (x : SL) (b : Bool), e = .returned (.tuple #[.agg x.cells, .bool b]) ∧ (∃ a n c, x.lv = .slice a n c) ∧ Kept nF w w' ∧
  ((b = true ∧ ∃ ps ds y, Yc bs = some ps ∧ Sim ps ds ∧ Yt ds = some y ∧ SLis w.heap.size w' x y) ∨ (b = false ∧ (Yc bs = none ∨ ∃ ps ds, Yc bs = some ps ∧ Sim ps ds ∧ Yt ds = none)))
abbrev ZC (lv : Value) (bg : Bool) : Array Value := #[.int .i64 0, lv, .string ⟨#[]⟩, .int .i64 0, .int .i64 0, .int .i64 0, .string ⟨#[]⟩, .int .i64 0, .int .i64 0, .string ⟨#[]⟩, .bool bg]
theorem Zxa (D : ByteArray) (hs : D.size ≤ 65536) (w : World) : Calls Tryz.prog 21 #[.string D] w (Zs8 D.data.toList w) := by
 have hka : Kept nF w (w.alloc (.cells (ZC (.slice none 0 0) false) 66)) := (Kept.refl _ _).alloc _
 have hba := heap_alloc_new w (.cells (ZC (.slice none 0 0) false) 66)
 have HPC := Za (Zud D hs (w.alloc (.cells (ZC (.slice none 0 0) false) 66)))
 have HKA := Za hka
 have HGR := Za hba
 have HDS : Hid (D.data.toList.length ≤ 65536) := by show _ ≤ 65536; rw [← Lib.size_eq]; exact hs
 generalize D.data.toList = bs at *
 clear hka hba hs
 go_enter Tryz.func21, Tryz.ntmps21
 go_upto_region 1 with fail
 generalize w.alloc (.cells (ZC (.slice none 0 0) false) 66) = w1 at *
 obtain ⟨gr, hgr⟩ := nmd (w.heap.size)
 rw [← hgr] at HGR ⊢
 have HGW : Hid (w.heap.size ≤ gr) := by rw [hgr]; exact Nat.le_refl _
 clear hgr
 go_wp2_with fail
 refine HPC.out.mono ?_
 rintro e w2 ⟨v, b, rfl, hk2, hcase⟩
 have HK2 := Za (HKA.out.trans hk2)
 have HG2 := Za (Zc hk2 HGR.out id)
 have hsz2 := hk2.size
 have HSZ : Hid (w.heap.size ≤ w1.heap.size) := HKA.out.size
 clear hk2 HPC HGR HKA
 rcases hcase with ⟨rfl, ps, ds, n, hps, hsim, hn, hown⟩ | ⟨rfl, hno⟩
 ·have HPS : Hid (Yc bs = some ps ∧ Sim ps ds) := ⟨hps, hsim⟩
  have HN := Za hn
  have HBN : Hid (n ≤ 65537) := by
   have := (Zdg hps).1
   have := hsim.len
   have := HDS.out
   show n ≤ _
   omega
  have hnI : (n : Int) ≤ 65537 := by have := HBN.out; omega
  have HOW := Za hown
  obtain ⟨va, vc, hv⟩ := Zd hown
  subst hv
  have hkb : Kept nF w2 (w2.alloc (.cells (ZC (.slice none 0 0) false) 66)) := (Kept.refl _ _).alloc _
  have HBX := Za (heap_alloc_new w2 (.cells (ZC (.slice none 0 0) false) 66))
  have HG3 := Za (Zc hkb HG2.out id)
  have HK3 := Za (HK2.out.trans hkb)
  have HO3 := Za (hkb.ownsRow HOW.out (fun _ _ f => f))
  have HNE : Hid (¬ gr = w2.heap.size) := fun e => by have := (Array.getElem?_eq_some_iff.1 HG2.out).1; omega
  have HXW : Hid (w.heap.size ≤ w2.heap.size) := HK2.out.size
  clear hps hsim hn hown hkb HG2 HK2 HOW hsz2
  go_upto_region 5 with fail
  generalize w2.alloc (.cells (ZC (.slice none 0 0) false) 66) = w3 at *
  generalize w2.heap.size = gx at *
  have HWB : Hid (w.heap.size ≤ w1.heap.size ∧ w.heap.size ≤ gx) := ⟨HSZ.out, HXW.out⟩
  go_wp2
  go_loopw [7] (fun iv wr => ∃ (i : Nat), iv = .int .i64 (i : Int) ∧ i ≤ n ∧ Hid (wr.heap[gx]? = some (.cells (ZC (.slice none 0 0) ((ds.take i).any Pf.f)) 66 (0, 0))) ∧ Hid (Kept (fun q => q = gx) w3 wr)) (fun iv _ => n - (intOf iv).toNat)
  case atStart => exact ⟨0, by go_num, Nat.zero_le _, HBX, Kept.refl _ _⟩
  case round =>
   obtain ⟨i, rfl, hin, HX, HK⟩ := hrel
   have howr := Za (Zi HK.out (Yx HBX.out) HO3.out (by decide))
   have hgrr := Za (Zc HK.out HG3.out (fun e => HNE.out e))
   by_cases hlt : i < n
   ·have hil : i < ds.length := by have := HN.out; omega
    have hltI : (i : Int) < (n : Int) := by omega
    obtain ⟨g, c, cs, hgv, _, _⟩ := Yw howr.out (by omega)
    obtain ⟨d, hd⟩ := nmd (ds[i]'hil)
    have hva : va = some ⟨g, 0, none⟩ := by injection hgv
    subst hva
    have hown := howr.out
    rw [HN.out] at hown
    have q3 : wr.cell? ⟨g, i * 4 + 3, none⟩ = some (.bool d.f) := by
     have := Zke hown i d (by rw [hd]; exact List.getElem?_eq_getElem hil) 3 _ rfl
     simpa using this
    have HTK : Hid ((ds.take (i + 1)).any Pf.f = ((ds.take i).any Pf.f || d.f)) := by
     show _ = _
     rw [List.take_succ_eq_append_getElem hil, List.any_append, hd]
     simp
    obtain ⟨B, hB⟩ := nmd ((ds.take i).any Pf.f)
    rw [← hB] at HTK HX
    obtain ⟨df, hdf⟩ := nmd (d.f)
    rw [← hdf] at q3 HTK
    have x10 := Zb _ _ 10 _ _ _ HX.out
    have xf10 := Ze _ _ 10 _ _ HX.out
    have hk9 := Zg wr gx 10 (.bool (B || df))
    have hb9 := Zf _ _ 10 _ _ _ HX.out (.bool (B || df))
    have HK9 := Za (HK.out.trans hk9)
    have HX9 : Hid ((wr.setCell ⟨gx, 10, none⟩ (.bool (B || df))).heap[gx]? = some (.cells (ZC (.slice none 0 0) ((ds.take (i + 1)).any Pf.f)) 66 (0, 0))) := by
     show _ = _
     rw [HTK.out]
     exact hb9
    clear hB hdf hd hown hgv hil HX HK howr hgrr hk9 hb9 HTK
    cases B
    ·go_wp2
     go_roundw
     case rel => exact ⟨i + 1, by go_num, by omega, HX9, HK9⟩
     case measure => simp [intOf]; omega
    ·go_wp2
     go_roundw
     case rel => exact ⟨i + 1, by go_num, by omega, HX9, HK9⟩
     case measure => simp [intOf]; omega
   ·have hlt' : ¬ (i : Int) < (n : Int) := by omega
    have hie : ds.take i = ds := List.take_of_length_le (by have := HN.out; omega)
    rw [hie] at HX
    have HKw := Za (HK3.out.step HK.out (fun q hq e => by have := HWB.out.2; omega))
    have HK := HKw
    clear hie hlt hin
    by_cases hd0 : ds = []
    ·have hz : n = 0 := by rw [HN.out, hd0]; rfl
     subst hz
     have HSA : Hid (Yt ds = some ⟨0, [], ⟨#[]⟩, 0, 0, 0, ⟨#[]⟩, 0, 0, ⟨#[]⟩, false⟩) := if_pos hd0
     have hany : ds.any Pf.f = false := by rw [hd0]; rfl
     rw [hany] at HX
     clear hd0 hany
     obtain ⟨⟨b0, b1, b2, b3, b4, b5, b6, b7, b8, b9, b10⟩, bf7, bf8, bf9⟩ := Zq HX.out
     have hO := hgrr.out
     obtain ⟨hr1, hk1⟩ := Yh wr gr (ZC (.slice none 0 0) false) _ 66 hO rfl
     have HB7 := Za hr1
     have HK7 := Za (HK.out.step hk1 (fun i hi e => by have := HGW.out; omega))
     have HL7 := Za ((⟨rfl, rfl, rfl, rfl, rfl, rfl, rfl, rfl, rfl, rfl, World.ownsRow_nil _ _ _ _⟩ : SLis w.heap.size (wr.setRow gr (ZC (.slice none 0 0) false)) ZL ⟨0, [], ⟨#[]⟩, 0, 0, 0, ⟨#[]⟩, 0, 0, ⟨#[]⟩, false⟩))
     clear hr1 hk1
     go_wp2_with (refine wpList_store_row rfl 66 _ _ rfl gr (ZC (.slice none 0 0) false) rfl rfl 66 _ hO Zp rfl (Ys ZL none 0 0 rfl) ?_)
     all_goals
      refine bodyPost_ret (v := .tuple #[.agg (ZC (.slice none 0 0) false), .bool true]) ?_ rfl ⟨ZL, true, rfl, ⟨none, 0, 0, rfl⟩, HK7.out, .inl ⟨rfl, ps, ds, _, HPS.out.1, HPS.out.2, HSA.out, HL7.out⟩⟩
      exact Zh (by rfl) _ _ ⟨gr, 0, none⟩ _ _ (by rfl) (by rfl) (run_loadVar_row _ gr 66 66 _ (0, 0) _ HB7.out Tryz.underlying66 rfl Zp)
    obtain ⟨B, hB⟩ := nmd (ds.any Pf.f)
    rw [← hB] at HX
    obtain ⟨g, c, cbs, hgv, hnc, hgb⟩ := Yw howr.out (by have := List.length_pos_iff.2 hd0; have := HN.out; omega)
    have hva : va = some ⟨g, 0, none⟩ := by injection hgv
    have hvc : vc = c := by injection hgv
    subst hva
    subst hvc
    have hown := howr.out
    rw [HN.out] at hown
    have HF0 : Hid (FsAt wr g 0 ds) := Zke hown
    have HSD : Hid (Yt ds = if (Yy ds).1 = [] then Zek B (Yy ds).2 else Wh (Yy ds).1 (Yy ds).2 B) := by
     show Yt ds = _
     unfold Yt
     rw [if_neg hd0, ← hB]
    have HGB := Za hgb
    have hn0 : ((n : Int) == 0) = false := by have := List.length_pos_iff.2 hd0; have := HN.out; simp; omega
    have HNC : Hid (n ≤ vc) := hnc
    have HD0 := Za hd0
    have HBY : Hid (B = ds.any Pf.f) := hB
    have HX0 := HX
    have hOR := hgrr
    clear hgv hown hgb hd0 hB howr hnc HX
    have HCEL : Hid (wr.heap[gx]? = some (.cells (ZC (.slice none 0 0) B) 66 (0, 0))) := HX0.out
    obtain ⟨⟨b0, b1, b2, b3, b4, b5, b6, b7, b8, b9, b10⟩, bf7, bf8, bf9⟩ := Zq HX0.out
    clear b0 b2 b3 b4 b5 b6 b7 b8 b9 b10 bf7 bf8 bf9 b1
    go_upto_block 2 with fail
    go_cut [4] from 38 to 65 (fun v4 wx => ∃ (ls : List ByteArray) (qs : List Pf) (o' n' c' : Nat) (la : Option Addr) (lc k : Nat), v4 = .slice (some ⟨g, o', none⟩) n' c' ∧ Hid (FsAt wx g o' qs) ∧ Hid (n' = qs.length) ∧ n' ≤ c' ∧ n' + k ≤ n ∧ Hid (ls.length = k) ∧ Hid (Yy ds = (ls, qs)) ∧ Hid (wx.heap[gx]? = some (.cells (ZC (.slice la k lc) B) 66 (0, 0))) ∧ Hid (wx.ownsRow w.heap.size 9 1 (.slice la k lc) k (labs ls)) ∧ Hid (Kept nF w wx) ∧ Hid (wx.heap[gr]? = some (.cells (ZC (.slice none 0 0) false) 66 (0, 0))) ∧ Hid (∃ cs, wx.heap[g]? = some (.cells cs 108 (0, 0))))
    case first =>
     go_wp2_with fail
     go_loopw [4] (fun v4 wx => ∃ (ls : List ByteArray) (qs : List Pf) (o' n' c' : Nat) (la : Option Addr) (lc k : Nat), v4 = .slice (some ⟨g, o', none⟩) n' c' ∧ Hid (FsAt wx g o' qs) ∧ Hid (n' = qs.length) ∧ n' ≤ c' ∧ n' + k ≤ n ∧ Hid (ls.length = k) ∧ Hid (Yy ds = (ls ++ (Yy qs).1, (Yy qs).2)) ∧ Hid (wx.heap[gx]? = some (.cells (ZC (.slice la k lc) B) 66 (0, 0))) ∧ Hid (wx.ownsRow w.heap.size 9 1 (.slice la k lc) k (labs ls)) ∧ Hid (Kept nF w wx) ∧ Hid (wx.heap[gr]? = some (.cells (ZC (.slice none 0 0) false) 66 (0, 0))) ∧ Hid (∃ cs, wx.heap[g]? = some (.cells cs 108 (0, 0)))) (fun v4 _ => Zjk v4)
     case atStart => exact ⟨[], ds, 0, n, vc, none, 0, 0, rfl, HF0, HN, HNC.out, Nat.le_refl _, rfl, by show _ = _; rw [List.nil_append], HX0, World.ownsRow_nil _ _ _ _, HK, hOR, ⟨cbs, HGB.out⟩⟩
     case round =>
      clear HF0 HX0 hOR HCEL HK HGB
      obtain ⟨ls, qs, o', n', c', la, lc, k, rfl, HF, HNq, hnc', hnk, HLk, HLD, HX, HOL, HK, HGR', HGB⟩ := hrel
      by_cases h2 : 2 ≤ n'
      ·obtain ⟨p, q, l, rfl⟩ : ∃ p q l, qs = p :: q :: l := by
        have hq := HNq.out
        match qs, hq with
        | [], h => simp at h; omega
        | [p], h => simp at h; omega
        | p :: q :: l, _ => exact ⟨p, q, l, rfl⟩
       have h2I : (2 : Int) ≤ (n' : Int) := by omega
       have h0N : 0 < n' := by omega
       have h1N : 1 < n' := by omega
       have h2c : (2 : Int) ≤ (c' : Int) := by omega
       have hnI' : (n' : Int) ≤ 65537 := by omega
       have p0 : wr.cell? ⟨g, o', none⟩ = some (.int .i64 p.k) := HF.out 0 _ rfl 0 _ rfl
       have p4 : wr.cell? ⟨g, o' + 4, none⟩ = some (.int .i64 q.k) := by
        have := HF.out 1 q rfl 0 _ rfl
        simpa using this
       have p1 : wr.cell? ⟨g, o' + 1, none⟩ = some (.string p.s) := HF.out 0 _ rfl 1 _ rfl
       obtain ⟨pk, hpk⟩ := nmd (p.k)
       obtain ⟨qk, hqk⟩ := nmd (q.k)
       obtain ⟨px, hpx⟩ := nmd (p.s)
       rw [← hpk] at p0
       rw [← hqk] at p4
       rw [← hpx] at p1
       by_cases hp : pk = 1
       ·by_cases hq : qk = 4
        ·have HLD2 : Hid (Yy ds = ((ls ++ [px]) ++ (Yy l).1, (Yy l).2)) := by
          have := HLD.out
          rw [Zdy p q l ⟨by rw [← hpk]; exact hp, by rw [← hqk]; exact hq⟩] at this
          show Yy ds = _
          rw [this, hpx]
          simp
         have HF2 : Hid (FsAt wr g (o' + 8) l) := HF.out.drop 2
         have HNl : Hid (n' = l.length + 2) := HNq.out
         subst hp hq
         clear hpk hqk hpx HLD HF HNq
         go_upto_region 12 with fail
         clear p0 p4
         have hkd : Kept nF wr wr.drew := (Kept.refl _ _).drew
         have HXd := Za (Zc hkd HX.out id)
         have HOd := Za (hkd.ownsRow HOL.out (fun _ _ f => f))
         have HKd := Za (HK.out.trans hkd)
         have HGd := Za (Zc hkd HGR'.out id)
         have HFd := Za (HF2.out.kept hkd id)
         obtain ⟨cs0, hcs0⟩ := HGB.out
         have HBd := Za (Zc hkd hcs0 id)
         have hp1 := hkd.cell p1 id
         clear hcs0 p1 hkd HX HOL HK HGR' HF2 HGB
         refine wp_region_held_drew (S := fun w' => Kept (fun q => (Value.slice la k lc).ownBlock = some q ∨ q = gx) wr.drew w') (by kernel_rfl) (Kept.refl _ _) (fun qh => ?_)
         generalize wr.drew = wd at *
         have hng : ¬ ((Value.slice la k lc).ownBlock = some g ∨ g = gx) := fun e => e.elim (fun e => Zs HOd.out HBd.out (by decide) e) (fun e => Xi HBd.out HXd.out (by decide) e)
         have HSM : Hid (∀ w', Kept (fun q => (Value.slice la k lc).ownBlock = some q ∨ q = gx) wd w' → w'.cell? ⟨g, o' + 1, none⟩ = some (.string px)) := fun w' hw => hw.cell hp1 hng
         obtain ⟨v', w5, hr, ho, hk0, hk1, hn0⟩ := Zc1 HOd.out (.string px) rfl HKd.out (by omega)
         have l0 : wd.cell? ⟨gx, 1, none⟩ = some (.slice la k lc) := Zb _ _ 1 _ _ _ HXd.out
         have hch := Yz HOd.out
         have hb5 := Zah hk1 hch HXd.out (by decide)
         have hg5 := Zah hk1 hch HGd.out (by decide)
         have hgb5 := Zah hk1 hch HBd.out (by decide)
         have hs := Zg w5 gx 1 v'
         have hcx := Yx hb5
         have HKS5 := Za (hk1.mono (T := fun q => (Value.slice la k lc).ownBlock = some q ∨ q = gx) (fun _ _ e => .inl e))
         have HKS6 := Za (HKS5.out.setCell (p := ⟨gx, 1, none⟩) (.inr (.inr rfl)) v')
         have HG1 : Hid (w5.cell? ⟨gx, 1, none⟩ = some (.slice la k lc) ∧ w5.frozen? ⟨gx, 1, none⟩ = false) := And.intro (Zb _ _ 1 _ _ _ hb5) (Ze _ _ 1 _ _ hb5)
         have HX6 : Hid ((w5.setCell ⟨gx, 1, none⟩ v').heap[gx]? = some (.cells (ZC v' B) 66 (0, 0))) := Zf _ _ 1 _ _ _ hb5 v'
         have HGR6 := Za (Zc hs hg5 (fun e => HNE.out e))
         have HGB6 : Hid (∃ cs, (w5.setCell ⟨gx, 1, none⟩ v').heap[g]? = some (.cells cs 108 (0, 0))) := ⟨_, Zah hs hcx hgb5 (by decide)⟩
         have HK6 := Za (hk0.setCell (p := ⟨gx, 1, none⟩) (.inl HXW.out) v')
         have HF6 := Za ((HFd.out.kept hk1 (fun e => hng (.inl e))).kept hs (fun e => hng (.inr e)))
         have HO6 : Hid ((w5.setCell ⟨gx, 1, none⟩ v').ownsRow w.heap.size 9 1 v' (k + 1) (labs (ls ++ [px]))) := by
          show World.ownsRow _ _ _ _ _ _ _
          unfold labs
          rw [List.map_append]
          exact Zi hs hcx ho (by decide)
         obtain ⟨la2, lc2, hbv2⟩ := Zd ho
         obtain ⟨k2, hk2e⟩ := nmd (k + 1)
         rw [← hk2e] at hbv2 HO6
         have HKE := Za hk2e
         subst hbv2
         have HR := Za hr
         clear hr ho hk0 hk1 hn0 hb5 hg5 hgb5 hs hcx hch hk2e hng hp1
         iterate 1
          refine tkn (v := ?_) 0 rfl ?_ ?_; rotate_left
          ·intro w hSw; go_simp; try with_reducible rfl
          try simp only [Act.put, tdy]
         iterate 3
          refine tkn (v := ?_) 2 rfl ?_ ?_; rotate_left
          ·intro w hSw; go_simp; try with_reducible rfl
          try simp only [Act.put, tdy]
         iterate 1
          refine tkn (v := ?_) 5 rfl ?_ ?_; rotate_left
          ·intro w hSw; have s1 := HSM.out w hSw; go_simp; try with_reducible rfl
          try simp only [Act.put, tdy]
         refine (fun (hfin : ?G) => ?main) ?fin
         case main =>
          refine wpAnyH_ready (rs := [1, 6]) (by kernel_rfl) (by simp) ?_
          refine AllReadyH.cons rfl (fun K hK => ?_) (AllReadyH.cons rfl (fun K hK => ?_) AllReadyH.nil)
          ·have l1 := l0
           go_simp
           refine hK.out _ _ qh (fun qh => ?_)
           clear hK K
           try simp only [Act.put, tdy]
           clear l1
           refine rdy 6 rfl (fun K hK => ?_)
           go_simp
           refine hK.out _ _ (qh.alloc _) (fun qh => ?_)
           clear hK K
           try simp only [Act.put, tdy]
           refine rdy 7 rfl (fun K hK => ?_)
           refine Zm rfl (.tmp 56) (.tmp 61) 37 37 rfl _ _ rfl rfl (.slice la2 k2 lc2) w5 HR.out ?_
           refine hK.out _ _ HKS5.out (fun qh => ?_)
           clear hK K
           try simp only [Act.put, tdy]
           iterate 1
            refine tkn (v := ?_) 8 rfl ?_ ?_; rotate_left
            ·intro w hSw; go_simp; try with_reducible rfl
            try simp only [Act.put, tdy]
           obtain ⟨g1, gf1⟩ := HG1.out
           refine rdy 9 rfl (fun K hK => ?_)
           go_simp
           refine hK.out _ _ HKS6.out (fun qh => ?_)
           clear hK K
           try simp only [Act.put, tdy]
           refine wpAnyH_done (by kernel_rfl) ?_ _
           exact hfin
          ·go_simp
           refine hK.out _ _ (qh.alloc _) (fun qh => ?_)
           clear hK K
           try simp only [Act.put, tdy]
           have l1 : (wd.alloc (.cells #[.string px] 9)).cell? ⟨gx, 1, none⟩ = some (.slice la k lc) := ((Kept.refl nF wd).alloc _).cell l0 id
           refine rdy 1 rfl (fun K hK => ?_)
           go_simp
           refine hK.out _ _ qh (fun qh => ?_)
           clear hK K
           try simp only [Act.put, tdy]
           clear l1
           refine rdy 7 rfl (fun K hK => ?_)
           refine Zm rfl (.tmp 56) (.tmp 61) 37 37 rfl _ _ rfl rfl (.slice la2 k2 lc2) w5 HR.out ?_
           refine hK.out _ _ HKS5.out (fun qh => ?_)
           clear hK K
           try simp only [Act.put, tdy]
           iterate 1
            refine tkn (v := ?_) 8 rfl ?_ ?_; rotate_left
            ·intro w hSw; go_simp; try with_reducible rfl
            try simp only [Act.put, tdy]
           obtain ⟨g1, gf1⟩ := HG1.out
           refine rdy 9 rfl (fun K hK => ?_)
           go_simp
           refine hK.out _ _ HKS6.out (fun qh => ?_)
           clear hK K
           try simp only [Act.put, tdy]
           refine wpAnyH_done (by kernel_rfl) ?_ _
           exact hfin
         clear l0 HSM HKS5 HKS6 HG1 HR qh HXd HOd HKd HGd HFd HBd
         generalize w5.setCell ⟨gx, 1, none⟩ (.slice la2 k2 lc2) = w6 at *
         go_wp2
         go_roundw
         case rel => exact ⟨ls ++ [px], l, (if c' = 2 then o' else o' + 8), n' - 2, c' - 2, la2, lc2, k2, by split <;> rfl, (by
          split
          ·rw [show l = [] from List.length_eq_zero_iff.1 (by have := HNl.out; omega)]
           exact fun i p hp => by simp at hp
          ·exact HF6), (by have := HNl.out; show n' - 2 = _; omega), by omega, by have := HKE.out; omega, (by have := HKE.out; have := HLk.out; show (ls ++ [px]).length = _; simp only [List.length_append, List.length_cons, List.length_nil]; omega), HLD2, HX6, HO6, HK6, HGR6, HGB6⟩
         case measure => simp [Zjk]; omega
        ·have hq' : (qk == 4) = false := by simp; exact hq
         have HLE : Hid (Yy ds = (ls, p :: q :: l)) := by
          have := HLD.out
          rw [Zc9 p q l (fun e => hq (by rw [hqk]; exact e.2))] at this
          show Yy ds = _
          rw [this]
          simp
         subst hp
         clear hpk hqk hpx HLD hq
         go_wp2
         go_meet
         case rel => exact ⟨ls, _, o', n', c', la, lc, k, rfl, HF, HNq, hnc', hnk, HLk, HLE, HX, HOL, HK, HGR', HGB⟩
       ·have hp' : (pk == 1) = false := by simp; exact hp
        have HLE : Hid (Yy ds = (ls, p :: q :: l)) := by
         have := HLD.out
         rw [Zc9 p q l (fun e => hp (by rw [hpk]; exact e.1))] at this
         show Yy ds = _
         rw [this]
         simp
        clear hpk hqk hpx HLD hp
        go_wp2
        go_meet
        case rel => exact ⟨ls, _, o', n', c', la, lc, k, rfl, HF, HNq, hnc', hnk, HLk, HLE, HX, HOL, HK, HGR', HGB⟩
      ·have h2' : ¬ (2 : Int) ≤ (n' : Int) := by omega
       have HLE : Hid (Yy ds = (ls, qs)) := by
        have := HLD.out
        have hq : Yy qs = ([], qs) := by
         have hq := HNq.out
         match qs, hq with
         | [], _ => rfl
         | [p], _ => rfl
         | p :: q :: l, h => simp at h; omega
        rw [hq] at this
        show Yy ds = _
        rw [this]
        simp
       clear HLD
       go_wp2
       go_meet
       case rel => exact ⟨ls, qs, o', n', c', la, lc, k, rfl, HF, HNq, hnc', hnk, HLk, HLE, HX, HOL, HK, HGR', HGB⟩
    case rest =>
     obtain ⟨ls, qs, o', n', c', la, lc, k, rfl, HF, HNq, hnc', hnk, HLk, HLD, HX, HOL, HK', HGR', HGB⟩ := hcut
     have HS0 : Hid (Yt ds = if ls = [] then Zek B qs else Wh ls qs B) := by
      have := HSD.out
      rw [HLD.out] at this
      exact this
     have hnI' : (n' : Int) ≤ 65537 := by omega
     have hkI' : (k : Int) ≤ 65537 := by omega
     have HGX : Hid (¬ g = gx) := by
      obtain ⟨gcs, hgb⟩ := HGB.out
      exact Xi hgb HX.out (by decide)
     have HKG : Hid (∃ v, wc.heap[g]? = some v) := by
      obtain ⟨gcs, hgb⟩ := HGB.out
      exact ⟨_, hgb⟩
     have HQN : Hid (ls = [] → qs ≠ []) := fun e => by
      have h1 := HLD.out
      rw [e] at h1
      have h2 := Zgo ds (by rw [h1])
      rw [h1] at h2
      intro e2
      exact HD0.out (by rw [← h2]; exact e2)
     clear HSD HX0 HF0 hOR HCEL HK HGB HBX HG3 HK3 HO3
     by_cases hl0 : ls = []
     ·have hk0 : k = 0 := by rw [← HLk.out, hl0]; rfl
      have HLS : Hid (ls = []) := hl0
      subst hk0
      rw [if_pos hl0] at HS0
      have hqn := HQN.out hl0
      obtain ⟨p, l, rfl⟩ : ∃ p l, qs = p :: l := by
       cases qs with
       | nil => exact absurd rfl hqn
       | cons p l => exact ⟨p, l, rfl⟩
      have HS1 : Hid (Yt ds = if p.k = 1 then Zdh B p l else Wh [] (p :: l) B) := HS0.out
      have hn0' : 0 < n' := by have := HNq.out; simp only [List.length_cons] at this; omega
      have hnI0 : (0 : Int) < (n' : Int) := by omega
      have p0 : wc.cell? ⟨g, o', none⟩ = some (.int .i64 p.k) := HF.out 0 _ rfl 0 _ rfl
      have p1 : wc.cell? ⟨g, o' + 1, none⟩ = some (.string p.s) := HF.out 0 _ rfl 1 _ rfl
      obtain ⟨pk, hpk⟩ := nmd (p.k)
      rw [← hpk] at p0 HS1
      clear HS0 hqn
      by_cases hp : pk = 1
      ·rw [if_pos hp] at HS1
       subst hp
       by_cases hm : p.s = Zhk
       ·have HSW : Hid (Yt ds = if Xt 1 l = true then some ⟨1, [], ⟨#[]⟩, (l.map Pf.n).headD 0, 0, 0, ⟨#[]⟩, 0, 0, ⟨#[]⟩, B⟩ else none) := by
         show _ = _
         rw [HS1.out]
         unfold Zdh
         rw [if_pos hm]
        rw [hm] at p1
        clear HS1 hm hpk
        obtain ⟨⟨b0, b1, b2, b3, b4, b5, b6, b7, b8, b9, b10⟩, bf7, bf8, bf9⟩ := Zq HX.out
        have f0 := Ze _ _ 0 _ _ HX.out
        have hb9 := Zf _ _ 0 _ _ _ HX.out (.int .i64 1)
        have hk9 := Zg wc gx 0 (.int .i64 1)
        have HXn : Hid ((wc.setCell ⟨gx, 0, none⟩ (.int .i64 1)).heap[gx]? = some (.cells #[.int .i64 1, .slice la 0 lc, .string ⟨#[]⟩, .int .i64 0, .int .i64 0, .int .i64 0, .string ⟨#[]⟩, .int .i64 0, .int .i64 0, .string ⟨#[]⟩, .bool B] 66 (0, 0))) := hb9
        have HOn := Za (Zi hk9 (Yx HX.out) HOL.out (by decide))
        have HGn := Za (Zc hk9 HGR'.out (fun e => HNE.out e))
        have HKn := Za (HK'.out.step hk9 (fun i hi e => by have := HWB.out.2; omega))
        have HFn := Za (HF.out.kept hk9 (fun e => HGX.out e))
        clear hb9 hk9
        go_upto_region 18 with fail
        clear f0 p0 p1
        clear b0 b1 b2 b3 b4 b5 b6 b7 b8 b9 b10 bf7 bf8 bf9
        generalize wc.setCell ⟨gx, 0, none⟩ (.int .i64 1) = wd at *
        clear HX HOL HGR' HK' HF
        have HX := HXn
        have HOL := HOn
        have HGR' := HGn
        have HK' := HKn
        have HF := HFn
        clear HXn HOn HGn HKn HFn
        have HNL : Hid (n' = l.length + 1) := HNq.out
        have hcI : (1 : Int) ≤ (c' : Int) := by omega
        have hcN : 1 ≤ c' := by omega
        have HNU1 : Hid (c' = 1 → Calls Tryz.prog 41 #[.slice (some ⟨g, o', none⟩) (n' - 1) 0, .int .i64 1] wd fun e w' => e = .returned (.bool (Xt 1 l)) ∧ w' = wd) := fun h => Zgn g o' (n' - 1) 0 1 l wd (by
         rw [show l = [] from List.length_eq_zero_iff.1 (by have := HNL.out; omega)]
         exact fun i p hp => by simp at hp) (by have := HNL.out; omega) (by omega) (by decide)
        have HNU2 : Hid (¬ c' = 1 → Calls Tryz.prog 41 #[.slice (some ⟨g, o' + 4, none⟩) (n' - 1) (c' - 1), .int .i64 1] wd fun e w' => e = .returned (.bool (Xt 1 l)) ∧ w' = wd) := fun h => Zgn g (o' + 4) (n' - 1) (c' - 1) 1 l wd (HF.out.drop 1) (by have := HNL.out; omega) (by omega) (by decide)
        have HLN : Hid (c' = 1 → Xt 1 l = false) := fun h => by
         rw [show l = [] from List.length_eq_zero_iff.1 (by have := HNL.out; omega)]
         rfl
        go_wp2_with fail
        ·have hc1 : c' = 1 := by assumption
         refine (HNU1.out hc1).mono ?_
         rw [HLN.out hc1]
         rintro e w9 ⟨rfl, hw⟩
         have hw := hw.symm
         subst hw
         have HSE : Hid (Yt ds = none) := by
          show _ = _
          rw [HSW.out, HLN.out hc1]
          rfl
         clear hc1
         obtain ⟨⟨b0, b1, b2, b3, b4, b5, b6, b7, b8, b9, b10⟩, bf7, bf8, bf9⟩ := Zq HX.out
         have hO := HGR'.out
         obtain ⟨hr1, hk1⟩ := Yh wd gr #[.int .i64 1, .slice la 0 lc, .string ⟨#[]⟩, .int .i64 0, .int .i64 0, .int .i64 0, .string ⟨#[]⟩, .int .i64 0, .int .i64 0, .string ⟨#[]⟩, .bool B] _ 66 hO rfl
         have HB7 := Za hr1
         have HK7 := Za (HK'.out.step hk1 (fun i hi e => by have := HGW.out; omega))
         have HL7 := Za (trivial)
         clear hr1 hk1
         go_wp2_with (refine wpList_store_row rfl 66 _ _ rfl gr #[.int .i64 1, .slice la 0 lc, .string ⟨#[]⟩, .int .i64 0, .int .i64 0, .int .i64 0, .string ⟨#[]⟩, .int .i64 0, .int .i64 0, .string ⟨#[]⟩, .bool B] rfl rfl 66 _ hO Zp rfl (Ys (⟨1, .slice la 0 lc, ⟨#[]⟩, 0, 0, 0, ⟨#[]⟩, 0, 0, ⟨#[]⟩, B⟩ : SL) la 0 lc rfl) ?_)
         all_goals
          refine bodyPost_ret (v := .tuple #[.agg #[.int .i64 1, .slice la 0 lc, .string ⟨#[]⟩, .int .i64 0, .int .i64 0, .int .i64 0, .string ⟨#[]⟩, .int .i64 0, .int .i64 0, .string ⟨#[]⟩, .bool B], .bool false]) ?_ rfl ⟨(⟨1, .slice la 0 lc, ⟨#[]⟩, 0, 0, 0, ⟨#[]⟩, 0, 0, ⟨#[]⟩, B⟩ : SL), false, rfl, ⟨la, 0, lc, rfl⟩, HK7.out, .inr ⟨rfl, .inr ⟨ps, ds, HPS.out.1, HPS.out.2, HSE.out⟩⟩⟩
          exact Zh (by rfl) _ _ ⟨gr, 0, none⟩ _ _ (by rfl) (by rfl) (run_loadVar_row _ gr 66 66 _ (0, 0) _ HB7.out Tryz.underlying66 rfl Zp)
        ·have hc1 : ¬ c' = 1 := by assumption
         refine (HNU2.out hc1).mono ?_
         by_cases hnu : Xt 1 l = true
         ·rw [hnu]
          rintro e w9 ⟨rfl, hw⟩
          have hw := hw.symm
          subst hw
          have hl1 : l.length = 1 := by
           unfold Xt at hnu
           rw [Bool.and_eq_true] at hnu
           exact of_decide_eq_true hnu.1
          obtain ⟨q, rfl⟩ := List.length_eq_one_iff.1 hl1
          have hn2 : n' = 2 := HNL.out
          obtain ⟨qn, hqn⟩ := nmd (q.n)
          have HSE : Hid (Yt ds = some (⟨1, [], ⟨#[]⟩, qn, 0, 0, ⟨#[]⟩, 0, 0, ⟨#[]⟩, B⟩ : SD)) := by
           show _ = _
           rw [HSW.out, if_pos hnu, hqn]
           rfl
          have q2 : wd.cell? ⟨g, o' + 6, none⟩ = some (.int .i64 qn) := by
           have := HF.out 1 q rfl 2 _ rfl
           rw [← hqn] at this
           simpa using this
          subst hn2
          clear hnu hl1 hqn HNU1 HNU2 HLN hc1
          obtain ⟨⟨b0, b1, b2, b3, b4, b5, b6, b7, b8, b9, b10⟩, bf7, bf8, bf9⟩ := Zq HX.out
          have f3 := Ze _ _ 3 _ _ HX.out
          have hb9 := Zf _ _ 3 _ _ _ HX.out (.int .i64 qn)
          have hk9 := Zg wd gx 3 (.int .i64 qn)
          have HXn : Hid ((wd.setCell ⟨gx, 3, none⟩ (.int .i64 qn)).heap[gx]? = some (.cells #[.int .i64 1, .slice la 0 lc, .string ⟨#[]⟩, .int .i64 qn, .int .i64 0, .int .i64 0, .string ⟨#[]⟩, .int .i64 0, .int .i64 0, .string ⟨#[]⟩, .bool B] 66 (0, 0))) := hb9
          have HOn := Za (Zi hk9 (Yx HX.out) HOL.out (by decide))
          have HGn := Za (Zc hk9 HGR'.out (fun e => HNE.out e))
          have HKn := Za (HK'.out.step hk9 (fun i hi e => by have := HWB.out.2; omega))
          have HFn := Za (HF.out.kept hk9 (fun e => HGX.out e))
          clear hb9 hk9
          go_upto_region 21 with fail
          clear f3 q2
          clear b0 b1 b2 b3 b4 b5 b6 b7 b8 b9 b10 bf7 bf8 bf9
          generalize wd.setCell ⟨gx, 3, none⟩ (.int .i64 qn) = we at *
          clear HX HOL HGR' HK' HF
          have HX := HXn
          have HOL := HOn
          have HGR' := HGn
          have HK' := HKn
          have HF := HFn
          clear HXn HOn HGn HKn HFn
          obtain ⟨⟨b0, b1, b2, b3, b4, b5, b6, b7, b8, b9, b10⟩, bf7, bf8, bf9⟩ := Zq HX.out
          have hO := HGR'.out
          obtain ⟨hr1, hk1⟩ := Yh we gr #[.int .i64 1, .slice la 0 lc, .string ⟨#[]⟩, .int .i64 qn, .int .i64 0, .int .i64 0, .string ⟨#[]⟩, .int .i64 0, .int .i64 0, .string ⟨#[]⟩, .bool B] _ 66 hO rfl
          have HB7 := Za hr1
          have HK7 := Za (HK'.out.step hk1 (fun i hi e => by have := HGW.out; omega))
          have HL7 := Za ((⟨rfl, rfl, rfl, rfl, rfl, rfl, rfl, rfl, rfl, rfl, (by
            have h9 := HOL.out
            rw [HLS.out] at h9
            exact Zi (Zaq _ gr _) (Yx HGR'.out) h9 (by decide))⟩ : SLis w.heap.size (we.setRow gr #[.int .i64 1, .slice la 0 lc, .string ⟨#[]⟩, .int .i64 qn, .int .i64 0, .int .i64 0, .string ⟨#[]⟩, .int .i64 0, .int .i64 0, .string ⟨#[]⟩, .bool B]) (⟨1, .slice la 0 lc, ⟨#[]⟩, qn, 0, 0, ⟨#[]⟩, 0, 0, ⟨#[]⟩, B⟩ : SL) (⟨1, [], ⟨#[]⟩, qn, 0, 0, ⟨#[]⟩, 0, 0, ⟨#[]⟩, B⟩ : SD)))
          clear hr1 hk1
          go_wp2_with (refine wpList_store_row rfl 66 _ _ rfl gr #[.int .i64 1, .slice la 0 lc, .string ⟨#[]⟩, .int .i64 qn, .int .i64 0, .int .i64 0, .string ⟨#[]⟩, .int .i64 0, .int .i64 0, .string ⟨#[]⟩, .bool B] rfl rfl 66 _ hO Zp rfl (Ys (⟨1, .slice la 0 lc, ⟨#[]⟩, qn, 0, 0, ⟨#[]⟩, 0, 0, ⟨#[]⟩, B⟩ : SL) la 0 lc rfl) ?_)
          all_goals
           refine bodyPost_ret (v := .tuple #[.agg #[.int .i64 1, .slice la 0 lc, .string ⟨#[]⟩, .int .i64 qn, .int .i64 0, .int .i64 0, .string ⟨#[]⟩, .int .i64 0, .int .i64 0, .string ⟨#[]⟩, .bool B], .bool true]) ?_ rfl ⟨(⟨1, .slice la 0 lc, ⟨#[]⟩, qn, 0, 0, ⟨#[]⟩, 0, 0, ⟨#[]⟩, B⟩ : SL), true, rfl, ⟨la, 0, lc, rfl⟩, HK7.out, .inl ⟨rfl, ps, ds, _, HPS.out.1, HPS.out.2, HSE.out, HL7.out⟩⟩
           exact Zh (by rfl) _ _ ⟨gr, 0, none⟩ _ _ (by rfl) (by rfl) (run_loadVar_row _ gr 66 66 _ (0, 0) _ HB7.out Tryz.underlying66 rfl Zp)
         ·rw [show Xt 1 l = false by simpa using hnu]
          rintro e w9 ⟨rfl, hw⟩
          have hw := hw.symm
          subst hw
          have HSE : Hid (Yt ds = none) := by
           show _ = _
           rw [HSW.out, if_neg hnu]
          clear hnu hc1
          obtain ⟨⟨b0, b1, b2, b3, b4, b5, b6, b7, b8, b9, b10⟩, bf7, bf8, bf9⟩ := Zq HX.out
          have hO := HGR'.out
          obtain ⟨hr1, hk1⟩ := Yh wd gr #[.int .i64 1, .slice la 0 lc, .string ⟨#[]⟩, .int .i64 0, .int .i64 0, .int .i64 0, .string ⟨#[]⟩, .int .i64 0, .int .i64 0, .string ⟨#[]⟩, .bool B] _ 66 hO rfl
          have HB7 := Za hr1
          have HK7 := Za (HK'.out.step hk1 (fun i hi e => by have := HGW.out; omega))
          have HL7 := Za (trivial)
          clear hr1 hk1
          go_wp2_with (refine wpList_store_row rfl 66 _ _ rfl gr #[.int .i64 1, .slice la 0 lc, .string ⟨#[]⟩, .int .i64 0, .int .i64 0, .int .i64 0, .string ⟨#[]⟩, .int .i64 0, .int .i64 0, .string ⟨#[]⟩, .bool B] rfl rfl 66 _ hO Zp rfl (Ys (⟨1, .slice la 0 lc, ⟨#[]⟩, 0, 0, 0, ⟨#[]⟩, 0, 0, ⟨#[]⟩, B⟩ : SL) la 0 lc rfl) ?_)
          all_goals
           refine bodyPost_ret (v := .tuple #[.agg #[.int .i64 1, .slice la 0 lc, .string ⟨#[]⟩, .int .i64 0, .int .i64 0, .int .i64 0, .string ⟨#[]⟩, .int .i64 0, .int .i64 0, .string ⟨#[]⟩, .bool B], .bool false]) ?_ rfl ⟨(⟨1, .slice la 0 lc, ⟨#[]⟩, 0, 0, 0, ⟨#[]⟩, 0, 0, ⟨#[]⟩, B⟩ : SL), false, rfl, ⟨la, 0, lc, rfl⟩, HK7.out, .inr ⟨rfl, .inr ⟨ps, ds, HPS.out.1, HPS.out.2, HSE.out⟩⟩⟩
           exact Zh (by rfl) _ _ ⟨gr, 0, none⟩ _ _ (by rfl) (by rfl) (run_loadVar_row _ gr 66 66 _ (0, 0) _ HB7.out Tryz.underlying66 rfl Zp)
       by_cases hd : p.s = Zhl
       ·have HSW : Hid (Yt ds = if l.map Pf.k = [3] then some ⟨2, [], ⟨#[]⟩, 0, 0, 0, (l.map Pf.s).headD ⟨#[]⟩, 0, 0, ⟨#[]⟩, B⟩ else none) := by
         show _ = _
         rw [HS1.out]
         unfold Zdh
         rw [if_neg hm, if_pos hd]
        rw [hd] at p1
        clear HS1 hm hd hpk
        obtain ⟨⟨b0, b1, b2, b3, b4, b5, b6, b7, b8, b9, b10⟩, bf7, bf8, bf9⟩ := Zq HX.out
        have f0 := Ze _ _ 0 _ _ HX.out
        have hb9 := Zf _ _ 0 _ _ _ HX.out (.int .i64 2)
        have hk9 := Zg wc gx 0 (.int .i64 2)
        have HXn : Hid ((wc.setCell ⟨gx, 0, none⟩ (.int .i64 2)).heap[gx]? = some (.cells #[.int .i64 2, .slice la 0 lc, .string ⟨#[]⟩, .int .i64 0, .int .i64 0, .int .i64 0, .string ⟨#[]⟩, .int .i64 0, .int .i64 0, .string ⟨#[]⟩, .bool B] 66 (0, 0))) := hb9
        have HOn := Za (Zi hk9 (Yx HX.out) HOL.out (by decide))
        have HGn := Za (Zc hk9 HGR'.out (fun e => HNE.out e))
        have HKn := Za (HK'.out.step hk9 (fun i hi e => by have := HWB.out.2; omega))
        have HFn := Za (HF.out.kept hk9 (fun e => HGX.out e))
        clear hb9 hk9
        go_upto_region 24 with fail
        clear f0 p0 p1
        clear b0 b1 b2 b3 b4 b5 b6 b7 b8 b9 b10 bf7 bf8 bf9
        generalize wc.setCell ⟨gx, 0, none⟩ (.int .i64 2) = wd at *
        clear HX HOL HGR' HK' HF
        have HX := HXn
        have HOL := HOn
        have HGR' := HGn
        have HK' := HKn
        have HF := HFn
        clear HXn HOn HGn HKn HFn
        have HNL : Hid (n' = l.length + 1) := HNq.out
        by_cases hl1 : l.length = 1
        ·obtain ⟨q, rfl⟩ := List.length_eq_one_iff.1 hl1
         have hn2 : n' = 2 := HNL.out
         subst hn2
         obtain ⟨qk, hqk⟩ := nmd (q.k)
         obtain ⟨qs, hqs⟩ := nmd (q.s)
         have q0 : wd.cell? ⟨g, o' + 4, none⟩ = some (.int .i64 qk) := by
          have := HF.out 1 q rfl 0 _ rfl
          rw [← hqk] at this
          simpa using this
         have q1 : wd.cell? ⟨g, o' + 5, none⟩ = some (.string qs) := by
          have := HF.out 1 q rfl 1 _ rfl
          rw [← hqs] at this
          simpa using this
         by_cases h3 : qk = 3
         ·have HSE : Hid (Yt ds = some (⟨2, [], ⟨#[]⟩, 0, 0, 0, qs, 0, 0, ⟨#[]⟩, B⟩ : SD)) := by
           show _ = _
           rw [HSW.out, if_pos (by simp [← hqk, h3]), hqs]
           rfl
          subst h3
          clear hqk hqs hl1
          obtain ⟨⟨b0, b1, b2, b3, b4, b5, b6, b7, b8, b9, b10⟩, bf7, bf8, bf9⟩ := Zq HX.out
          have f6 := Ze _ _ 6 _ _ HX.out
          have hb9 := Zf _ _ 6 _ _ _ HX.out (.string qs)
          have hk9 := Zg wd gx 6 (.string qs)
          have HXn : Hid ((wd.setCell ⟨gx, 6, none⟩ (.string qs)).heap[gx]? = some (.cells #[.int .i64 2, .slice la 0 lc, .string ⟨#[]⟩, .int .i64 0, .int .i64 0, .int .i64 0, .string qs, .int .i64 0, .int .i64 0, .string ⟨#[]⟩, .bool B] 66 (0, 0))) := hb9
          have HOn := Za (Zi hk9 (Yx HX.out) HOL.out (by decide))
          have HGn := Za (Zc hk9 HGR'.out (fun e => HNE.out e))
          have HKn := Za (HK'.out.step hk9 (fun i hi e => by have := HWB.out.2; omega))
          have HFn := Za (HF.out.kept hk9 (fun e => HGX.out e))
          clear hb9 hk9
          go_upto_region 27 with fail
          clear f6 q0 q1
          clear b0 b1 b2 b3 b4 b5 b6 b7 b8 b9 b10 bf7 bf8 bf9
          generalize wd.setCell ⟨gx, 6, none⟩ (.string qs) = we at *
          clear HX HOL HGR' HK' HF
          have HX := HXn
          have HOL := HOn
          have HGR' := HGn
          have HK' := HKn
          have HF := HFn
          clear HXn HOn HGn HKn HFn
          obtain ⟨⟨b0, b1, b2, b3, b4, b5, b6, b7, b8, b9, b10⟩, bf7, bf8, bf9⟩ := Zq HX.out
          have hO := HGR'.out
          obtain ⟨hr1, hk1⟩ := Yh we gr #[.int .i64 2, .slice la 0 lc, .string ⟨#[]⟩, .int .i64 0, .int .i64 0, .int .i64 0, .string qs, .int .i64 0, .int .i64 0, .string ⟨#[]⟩, .bool B] _ 66 hO rfl
          have HB7 := Za hr1
          have HK7 := Za (HK'.out.step hk1 (fun i hi e => by have := HGW.out; omega))
          have HL7 := Za ((⟨rfl, rfl, rfl, rfl, rfl, rfl, rfl, rfl, rfl, rfl, (by
            have h9 := HOL.out
            rw [HLS.out] at h9
            exact Zi (Zaq _ gr _) (Yx HGR'.out) h9 (by decide))⟩ : SLis w.heap.size (we.setRow gr #[.int .i64 2, .slice la 0 lc, .string ⟨#[]⟩, .int .i64 0, .int .i64 0, .int .i64 0, .string qs, .int .i64 0, .int .i64 0, .string ⟨#[]⟩, .bool B]) (⟨2, .slice la 0 lc, ⟨#[]⟩, 0, 0, 0, qs, 0, 0, ⟨#[]⟩, B⟩ : SL) (⟨2, [], ⟨#[]⟩, 0, 0, 0, qs, 0, 0, ⟨#[]⟩, B⟩ : SD)))
          clear hr1 hk1
          go_wp2_with (refine wpList_store_row rfl 66 _ _ rfl gr #[.int .i64 2, .slice la 0 lc, .string ⟨#[]⟩, .int .i64 0, .int .i64 0, .int .i64 0, .string qs, .int .i64 0, .int .i64 0, .string ⟨#[]⟩, .bool B] rfl rfl 66 _ hO Zp rfl (Ys (⟨2, .slice la 0 lc, ⟨#[]⟩, 0, 0, 0, qs, 0, 0, ⟨#[]⟩, B⟩ : SL) la 0 lc rfl) ?_)
          all_goals
           refine bodyPost_ret (v := .tuple #[.agg #[.int .i64 2, .slice la 0 lc, .string ⟨#[]⟩, .int .i64 0, .int .i64 0, .int .i64 0, .string qs, .int .i64 0, .int .i64 0, .string ⟨#[]⟩, .bool B], .bool true]) ?_ rfl ⟨(⟨2, .slice la 0 lc, ⟨#[]⟩, 0, 0, 0, qs, 0, 0, ⟨#[]⟩, B⟩ : SL), true, rfl, ⟨la, 0, lc, rfl⟩, HK7.out, .inl ⟨rfl, ps, ds, _, HPS.out.1, HPS.out.2, HSE.out, HL7.out⟩⟩
           exact Zh (by rfl) _ _ ⟨gr, 0, none⟩ _ _ (by rfl) (by rfl) (run_loadVar_row _ gr 66 66 _ (0, 0) _ HB7.out Tryz.underlying66 rfl Zp)
         ·have HSE : Hid (Yt ds = none) := by
           show _ = _
           rw [HSW.out, if_neg (fun e => h3 (by rw [hqk]; simpa using e))]
          have h3' : (qk != 3) = true := by simp; exact h3
          clear hqk hqs hl1 h3
          obtain ⟨⟨b0, b1, b2, b3, b4, b5, b6, b7, b8, b9, b10⟩, bf7, bf8, bf9⟩ := Zq HX.out
          have hO := HGR'.out
          obtain ⟨hr1, hk1⟩ := Yh wd gr #[.int .i64 2, .slice la 0 lc, .string ⟨#[]⟩, .int .i64 0, .int .i64 0, .int .i64 0, .string ⟨#[]⟩, .int .i64 0, .int .i64 0, .string ⟨#[]⟩, .bool B] _ 66 hO rfl
          have HB7 := Za hr1
          have HK7 := Za (HK'.out.step hk1 (fun i hi e => by have := HGW.out; omega))
          have HL7 := Za (trivial)
          clear hr1 hk1
          go_wp2_with (refine wpList_store_row rfl 66 _ _ rfl gr #[.int .i64 2, .slice la 0 lc, .string ⟨#[]⟩, .int .i64 0, .int .i64 0, .int .i64 0, .string ⟨#[]⟩, .int .i64 0, .int .i64 0, .string ⟨#[]⟩, .bool B] rfl rfl 66 _ hO Zp rfl (Ys (⟨2, .slice la 0 lc, ⟨#[]⟩, 0, 0, 0, ⟨#[]⟩, 0, 0, ⟨#[]⟩, B⟩ : SL) la 0 lc rfl) ?_)
          all_goals
           refine bodyPost_ret (v := .tuple #[.agg #[.int .i64 2, .slice la 0 lc, .string ⟨#[]⟩, .int .i64 0, .int .i64 0, .int .i64 0, .string ⟨#[]⟩, .int .i64 0, .int .i64 0, .string ⟨#[]⟩, .bool B], .bool false]) ?_ rfl ⟨(⟨2, .slice la 0 lc, ⟨#[]⟩, 0, 0, 0, ⟨#[]⟩, 0, 0, ⟨#[]⟩, B⟩ : SL), false, rfl, ⟨la, 0, lc, rfl⟩, HK7.out, .inr ⟨rfl, .inr ⟨ps, ds, HPS.out.1, HPS.out.2, HSE.out⟩⟩⟩
           exact Zh (by rfl) _ _ ⟨gr, 0, none⟩ _ _ (by rfl) (by rfl) (run_loadVar_row _ gr 66 66 _ (0, 0) _ HB7.out Tryz.underlying66 rfl Zp)
        ·have HSE : Hid (Yt ds = none) := by
          show _ = _
          rw [HSW.out, if_neg (fun e => hl1 (by have := congrArg List.length e; simpa using this))]
         have hn2 : ((n' : Int) != 2) = true := by have := HNL.out; simp; omega
         clear hl1
         obtain ⟨⟨b0, b1, b2, b3, b4, b5, b6, b7, b8, b9, b10⟩, bf7, bf8, bf9⟩ := Zq HX.out
         have hO := HGR'.out
         obtain ⟨hr1, hk1⟩ := Yh wd gr #[.int .i64 2, .slice la 0 lc, .string ⟨#[]⟩, .int .i64 0, .int .i64 0, .int .i64 0, .string ⟨#[]⟩, .int .i64 0, .int .i64 0, .string ⟨#[]⟩, .bool B] _ 66 hO rfl
         have HB7 := Za hr1
         have HK7 := Za (HK'.out.step hk1 (fun i hi e => by have := HGW.out; omega))
         have HL7 := Za (trivial)
         clear hr1 hk1
         go_wp2_with (refine wpList_store_row rfl 66 _ _ rfl gr #[.int .i64 2, .slice la 0 lc, .string ⟨#[]⟩, .int .i64 0, .int .i64 0, .int .i64 0, .string ⟨#[]⟩, .int .i64 0, .int .i64 0, .string ⟨#[]⟩, .bool B] rfl rfl 66 _ hO Zp rfl (Ys (⟨2, .slice la 0 lc, ⟨#[]⟩, 0, 0, 0, ⟨#[]⟩, 0, 0, ⟨#[]⟩, B⟩ : SL) la 0 lc rfl) ?_)
         all_goals
          refine bodyPost_ret (v := .tuple #[.agg #[.int .i64 2, .slice la 0 lc, .string ⟨#[]⟩, .int .i64 0, .int .i64 0, .int .i64 0, .string ⟨#[]⟩, .int .i64 0, .int .i64 0, .string ⟨#[]⟩, .bool B], .bool false]) ?_ rfl ⟨(⟨2, .slice la 0 lc, ⟨#[]⟩, 0, 0, 0, ⟨#[]⟩, 0, 0, ⟨#[]⟩, B⟩ : SL), false, rfl, ⟨la, 0, lc, rfl⟩, HK7.out, .inr ⟨rfl, .inr ⟨ps, ds, HPS.out.1, HPS.out.2, HSE.out⟩⟩⟩
          exact Zh (by rfl) _ _ ⟨gr, 0, none⟩ _ _ (by rfl) (by rfl) (run_loadVar_row _ gr 66 66 _ (0, 0) _ HB7.out Tryz.underlying66 rfl Zp)
       by_cases hf : p.s = Zhm
       ·have HSW : Hid (Yt ds = Zgp B l) := by
         show _ = _
         rw [HS1.out]
         unfold Zdh
         rw [if_neg hm, if_neg hd, if_pos hf]
        rw [hf] at p1
        clear HS1 hm hd hf hpk
        obtain ⟨⟨b0, b1, b2, b3, b4, b5, b6, b7, b8, b9, b10⟩, bf7, bf8, bf9⟩ := Zq HX.out
        have f0 := Ze _ _ 0 _ _ HX.out
        have hb9 := Zf _ _ 0 _ _ _ HX.out (.int .i64 3)
        have hk9 := Zg wc gx 0 (.int .i64 3)
        have HXn : Hid ((wc.setCell ⟨gx, 0, none⟩ (.int .i64 3)).heap[gx]? = some (.cells #[.int .i64 3, .slice la 0 lc, .string ⟨#[]⟩, .int .i64 0, .int .i64 0, .int .i64 0, .string ⟨#[]⟩, .int .i64 0, .int .i64 0, .string ⟨#[]⟩, .bool B] 66 (0, 0))) := hb9
        have HOn := Za (Zi hk9 (Yx HX.out) HOL.out (by decide))
        have HGn := Za (Zc hk9 HGR'.out (fun e => HNE.out e))
        have HKn := Za (HK'.out.step hk9 (fun i hi e => by have := HWB.out.2; omega))
        have HFn := Za (HF.out.kept hk9 (fun e => HGX.out e))
        clear hb9 hk9
        go_upto_region 30 with fail
        clear f0 p0 p1
        clear b0 b1 b2 b3 b4 b5 b6 b7 b8 b9 b10 bf7 bf8 bf9
        generalize wc.setCell ⟨gx, 0, none⟩ (.int .i64 3) = wd at *
        clear HX HOL HGR' HK' HF
        have HX := HXn
        have HOL := HOn
        have HGR' := HGn
        have HK' := HKn
        have HF := HFn
        clear HXn HOn HGn HKn HFn
        have HNL : Hid (n' = l.length + 1) := HNq.out
        by_cases hl4 : l.length = 4
        ·obtain ⟨q, x, y, z, rfl⟩ : ∃ q x y z, l = [q, x, y, z] := by
          match l, hl4 with
          | [q, x, y, z], _ => exact ⟨q, x, y, z, rfl⟩
         have hn5 : n' = 5 := HNL.out
         subst hn5
         have hc2 : ¬ c' = 2 := by omega
         have hcI : (2 : Int) ≤ (c' : Int) := by omega
         obtain ⟨qk, hqk⟩ := nmd (q.k)
         obtain ⟨qs, hqs⟩ := nmd (q.s)
         obtain ⟨xn, hxn⟩ := nmd (x.n)
         obtain ⟨yn, hyn⟩ := nmd (y.n)
         obtain ⟨zn, hzn⟩ := nmd (z.n)
         have q0 : wd.cell? ⟨g, o' + 4, none⟩ = some (.int .i64 qk) := by
          have := HF.out 1 q rfl 0 _ rfl
          rw [← hqk] at this
          simpa using this
         have q1 : wd.cell? ⟨g, o' + 5, none⟩ = some (.string qs) := by
          have := HF.out 1 q rfl 1 _ rfl
          rw [← hqs] at this
          simpa using this
         have HSF : Hid (Yt ds = if qk = 1 ∧ Xt 3 [x, y, z] = true then some ⟨3, [], qs, xn, yn, zn, ⟨#[]⟩, 0, 0, ⟨#[]⟩, B⟩ else none) := by
          show _ = _
          rw [HSW.out, hqk, hqs, hxn, hyn, hzn]
          rfl
         by_cases h1 : qk = 1
         ·subst h1
          have HNU : Hid (Calls Tryz.prog 41 #[.slice (some ⟨g, o' + 8, none⟩) 3 (c' - 2), .int .i64 3] wd fun e w' => e = .returned (.bool (Xt 3 [x, y, z])) ∧ w' = wd) := Zgn g (o' + 8) 3 (c' - 2) 3 [x, y, z] wd (HF.out.drop 2) rfl (by decide) (by decide)
          by_cases hnu : Xt 3 [x, y, z] = true
          ·have HSE : Hid (Yt ds = some (⟨3, [], qs, xn, yn, zn, ⟨#[]⟩, 0, 0, ⟨#[]⟩, B⟩ : SD)) := by
            show _ = _
            rw [HSF.out, if_pos ⟨rfl, hnu⟩]
           rw [hnu] at HNU
           clear hqk hqs hl4 HSF HSW hnu
           go_wp2_with fail
           refine HNU.out.mono ?_
           rintro e w9 ⟨rfl, hw⟩
           have hw := hw.symm
           subst hw
           clear HNU q0
           have u0 : wd.cell? ⟨g, o' + 10, none⟩ = some (.int .i64 xn) := by
            have := HF.out 2 x rfl 2 _ rfl
            rw [← hxn] at this
            simpa using this
           have u1 : wd.cell? ⟨g, o' + 14, none⟩ = some (.int .i64 yn) := by
            have := HF.out 3 y rfl 2 _ rfl
            rw [← hyn] at this
            simpa using this
           have u2 : wd.cell? ⟨g, o' + 18, none⟩ = some (.int .i64 zn) := by
            have := HF.out 4 z rfl 2 _ rfl
            rw [← hzn] at this
            simpa using this
           have HU : Hid (∀ w', Kept (fun q => q = gx) wd w' → w'.cell? ⟨g, o' + 10, none⟩ = some (.int .i64 xn) ∧ w'.cell? ⟨g, o' + 14, none⟩ = some (.int .i64 yn) ∧ w'.cell? ⟨g, o' + 18, none⟩ = some (.int .i64 zn)) := fun w' hw =>
            ⟨hw.cell u0 (fun e => HGX.out e), hw.cell u1 (fun e => HGX.out e), hw.cell u2 (fun e => HGX.out e)⟩
           clear u0 u1 u2 hxn hyn hzn
           obtain ⟨⟨b0, b1, b2, b3, b4, b5, b6, b7, b8, b9, b10⟩, bf7, bf8, bf9⟩ := Zq HX.out
           have f2 := Ze _ _ 2 _ _ HX.out
           have hb9 := Zf _ _ 2 _ _ _ HX.out (.string qs)
           have hk9 := Zg wd gx 2 (.string qs)
           have HXn : Hid ((wd.setCell ⟨gx, 2, none⟩ (.string qs)).heap[gx]? = some (.cells #[.int .i64 3, .slice la 0 lc, .string qs, .int .i64 0, .int .i64 0, .int .i64 0, .string ⟨#[]⟩, .int .i64 0, .int .i64 0, .string ⟨#[]⟩, .bool B] 66 (0, 0))) := hb9
           have HOn := Za (Zi hk9 (Yx HX.out) HOL.out (by decide))
           have HGn := Za (Zc hk9 HGR'.out (fun e => HNE.out e))
           have HKn := Za (HK'.out.step hk9 (fun i hi e => by have := HWB.out.2; omega))
           have HFn := Za (HF.out.kept hk9 (fun e => HGX.out e))
           clear hb9 hk9
           have HKU0 := Za (Zg wd gx 2 (.string qs))
           go_upto_region 33 with fail
           clear f2 q1
           clear b0 b1 b2 b3 b4 b5 b6 b7 b8 b9 b10 bf7 bf8 bf9
           generalize wd.setCell ⟨gx, 2, none⟩ (.string qs) = we at *
           clear HX HOL HGR' HK' HF
           have HX := HXn
           have HOL := HOn
           have HGR' := HGn
           have HK' := HKn
           have HF := HFn
           clear HXn HOn HGn HKn HFn
           go_wp2
           go_loopw [8] (fun iv wx => Hid (Kept (fun q => q = gx) wd wx) ∧ Hid (wx.ownsRow w.heap.size 9 1 (.slice la 0 lc) 0 (labs ls)) ∧ Hid (Kept nF w wx) ∧ Hid (wx.heap[gr]? = some (.cells (ZC (.slice none 0 0) false) 66 (0, 0))) ∧ ((iv = .int .i64 0 ∧ Hid (wx.heap[gx]? = some (.cells #[.int .i64 3, .slice la 0 lc, .string qs, .int .i64 0, .int .i64 0, .int .i64 0, .string ⟨#[]⟩, .int .i64 0, .int .i64 0, .string ⟨#[]⟩, .bool B] 66 (0, 0)))) ∨ (iv = .int .i64 1 ∧ Hid (wx.heap[gx]? = some (.cells #[.int .i64 3, .slice la 0 lc, .string qs, .int .i64 xn, .int .i64 0, .int .i64 0, .string ⟨#[]⟩, .int .i64 0, .int .i64 0, .string ⟨#[]⟩, .bool B] 66 (0, 0)))) ∨ (iv = .int .i64 2 ∧ Hid (wx.heap[gx]? = some (.cells #[.int .i64 3, .slice la 0 lc, .string qs, .int .i64 xn, .int .i64 yn, .int .i64 0, .string ⟨#[]⟩, .int .i64 0, .int .i64 0, .string ⟨#[]⟩, .bool B] 66 (0, 0)))) ∨ (iv = .int .i64 3 ∧ Hid (wx.heap[gx]? = some (.cells #[.int .i64 3, .slice la 0 lc, .string qs, .int .i64 xn, .int .i64 yn, .int .i64 zn, .string ⟨#[]⟩, .int .i64 0, .int .i64 0, .string ⟨#[]⟩, .bool B] 66 (0, 0)))))) (fun iv _ => 3 - (intOf iv).toNat)
           case atStart => exact ⟨HKU0, HOL, HK', HGR', .inl ⟨rfl, HX⟩⟩
           case round =>
            clear HKU0 HOL HK' HGR' HX HF
            obtain ⟨HKU, HOL, HK', HGR', hcs⟩ := hrel
            obtain ⟨u0, u1, u2⟩ := HU.out _ HKU.out
            rcases hcs with ⟨rfl, HX⟩ | ⟨rfl, HX⟩ | ⟨rfl, HX⟩ | ⟨rfl, HX⟩
            ·have x0 := Zb _ _ 3 _ _ _ HX.out
             have xf0 := Ze _ _ 3 _ _ HX.out
             have hk9 := Zg wr gx 3 (.int .i64 xn)
             have HX9 : Hid ((wr.setCell ⟨gx, 3, none⟩ (.int .i64 xn)).heap[gx]? = some (.cells #[.int .i64 3, .slice la 0 lc, .string qs, .int .i64 xn, .int .i64 0, .int .i64 0, .string ⟨#[]⟩, .int .i64 0, .int .i64 0, .string ⟨#[]⟩, .bool B] 66 (0, 0))) := Zf _ _ 3 _ _ _ HX.out (.int .i64 xn)
             have HKU9 := Za (HKU.out.trans hk9)
             have HOL9 := Za (Zi hk9 (Yx HX.out) HOL.out (by decide))
             have HGR9 := Za (Zc hk9 HGR'.out (fun e => HNE.out e))
             have HK9 := Za (HK'.out.step hk9 (fun i hi e => by have := HWB.out.2; omega))
             clear hk9 HX HKU HOL HGR' HK'
             go_wp2
             go_roundw
             case rel => exact ⟨HKU9, HOL9, HK9, HGR9, .inr (.inl ⟨rfl, HX9⟩)⟩
             case measure => simp [intOf]
            ·have x1 := Zb _ _ 4 _ _ _ HX.out
             have xf1 := Ze _ _ 4 _ _ HX.out
             have hk9 := Zg wr gx 4 (.int .i64 yn)
             have HX9 : Hid ((wr.setCell ⟨gx, 4, none⟩ (.int .i64 yn)).heap[gx]? = some (.cells #[.int .i64 3, .slice la 0 lc, .string qs, .int .i64 xn, .int .i64 yn, .int .i64 0, .string ⟨#[]⟩, .int .i64 0, .int .i64 0, .string ⟨#[]⟩, .bool B] 66 (0, 0))) := Zf _ _ 4 _ _ _ HX.out (.int .i64 yn)
             have HKU9 := Za (HKU.out.trans hk9)
             have HOL9 := Za (Zi hk9 (Yx HX.out) HOL.out (by decide))
             have HGR9 := Za (Zc hk9 HGR'.out (fun e => HNE.out e))
             have HK9 := Za (HK'.out.step hk9 (fun i hi e => by have := HWB.out.2; omega))
             clear hk9 HX HKU HOL HGR' HK'
             go_wp2
             go_roundw
             case rel => exact ⟨HKU9, HOL9, HK9, HGR9, .inr (.inr (.inl ⟨rfl, HX9⟩))⟩
             case measure => simp [intOf]
            ·have x2 := Zb _ _ 5 _ _ _ HX.out
             have xf2 := Ze _ _ 5 _ _ HX.out
             have hk9 := Zg wr gx 5 (.int .i64 zn)
             have HX9 : Hid ((wr.setCell ⟨gx, 5, none⟩ (.int .i64 zn)).heap[gx]? = some (.cells #[.int .i64 3, .slice la 0 lc, .string qs, .int .i64 xn, .int .i64 yn, .int .i64 zn, .string ⟨#[]⟩, .int .i64 0, .int .i64 0, .string ⟨#[]⟩, .bool B] 66 (0, 0))) := Zf _ _ 5 _ _ _ HX.out (.int .i64 zn)
             have HKU9 := Za (HKU.out.trans hk9)
             have HOL9 := Za (Zi hk9 (Yx HX.out) HOL.out (by decide))
             have HGR9 := Za (Zc hk9 HGR'.out (fun e => HNE.out e))
             have HK9 := Za (HK'.out.step hk9 (fun i hi e => by have := HWB.out.2; omega))
             clear hk9 HX HKU HOL HGR' HK'
             go_wp2
             go_roundw
             case rel => exact ⟨HKU9, HOL9, HK9, HGR9, .inr (.inr (.inr ⟨rfl, HX9⟩))⟩
             case measure => simp [intOf]
            ·clear u0 u1 u2
             obtain ⟨⟨b0, b1, b2, b3, b4, b5, b6, b7, b8, b9, b10⟩, bf7, bf8, bf9⟩ := Zq HX.out
             have hO := HGR'.out
             obtain ⟨hr1, hk1⟩ := Yh wr gr #[.int .i64 3, .slice la 0 lc, .string qs, .int .i64 xn, .int .i64 yn, .int .i64 zn, .string ⟨#[]⟩, .int .i64 0, .int .i64 0, .string ⟨#[]⟩, .bool B] _ 66 hO rfl
             have HB7 := Za hr1
             have HK7 := Za (HK'.out.step hk1 (fun i hi e => by have := HGW.out; omega))
             have HL7 := Za ((⟨rfl, rfl, rfl, rfl, rfl, rfl, rfl, rfl, rfl, rfl, (by
               have h9 := HOL.out
               rw [HLS.out] at h9
               exact Zi (Zaq _ gr _) (Yx HGR'.out) h9 (by decide))⟩ : SLis w.heap.size (wr.setRow gr #[.int .i64 3, .slice la 0 lc, .string qs, .int .i64 xn, .int .i64 yn, .int .i64 zn, .string ⟨#[]⟩, .int .i64 0, .int .i64 0, .string ⟨#[]⟩, .bool B]) (⟨3, .slice la 0 lc, qs, xn, yn, zn, ⟨#[]⟩, 0, 0, ⟨#[]⟩, B⟩ : SL) (⟨3, [], qs, xn, yn, zn, ⟨#[]⟩, 0, 0, ⟨#[]⟩, B⟩ : SD)))
             clear hr1 hk1
             go_wp2_with (refine wpList_store_row rfl 66 _ _ rfl gr #[.int .i64 3, .slice la 0 lc, .string qs, .int .i64 xn, .int .i64 yn, .int .i64 zn, .string ⟨#[]⟩, .int .i64 0, .int .i64 0, .string ⟨#[]⟩, .bool B] rfl rfl 66 _ hO Zp rfl (Ys (⟨3, .slice la 0 lc, qs, xn, yn, zn, ⟨#[]⟩, 0, 0, ⟨#[]⟩, B⟩ : SL) la 0 lc rfl) ?_)
             all_goals
              refine bodyPost_ret (v := .tuple #[.agg #[.int .i64 3, .slice la 0 lc, .string qs, .int .i64 xn, .int .i64 yn, .int .i64 zn, .string ⟨#[]⟩, .int .i64 0, .int .i64 0, .string ⟨#[]⟩, .bool B], .bool true]) ?_ rfl ⟨(⟨3, .slice la 0 lc, qs, xn, yn, zn, ⟨#[]⟩, 0, 0, ⟨#[]⟩, B⟩ : SL), true, rfl, ⟨la, 0, lc, rfl⟩, HK7.out, .inl ⟨rfl, ps, ds, _, HPS.out.1, HPS.out.2, HSE.out, HL7.out⟩⟩
              exact Zh (by rfl) _ _ ⟨gr, 0, none⟩ _ _ (by rfl) (by rfl) (run_loadVar_row _ gr 66 66 _ (0, 0) _ HB7.out Tryz.underlying66 rfl Zp)
          ·have HSE : Hid (Yt ds = none) := by
            show _ = _
            rw [HSF.out, if_neg (fun e => hnu e.2)]
           rw [show Xt 3 [x, y, z] = false by simpa using hnu] at HNU
           clear hqk hqs hl4 HSF HSW hnu hxn hyn hzn
           go_wp2_with fail
           refine HNU.out.mono ?_
           rintro e w9 ⟨rfl, hw⟩
           have hw := hw.symm
           subst hw
           obtain ⟨⟨b0, b1, b2, b3, b4, b5, b6, b7, b8, b9, b10⟩, bf7, bf8, bf9⟩ := Zq HX.out
           have hO := HGR'.out
           obtain ⟨hr1, hk1⟩ := Yh wd gr #[.int .i64 3, .slice la 0 lc, .string ⟨#[]⟩, .int .i64 0, .int .i64 0, .int .i64 0, .string ⟨#[]⟩, .int .i64 0, .int .i64 0, .string ⟨#[]⟩, .bool B] _ 66 hO rfl
           have HB7 := Za hr1
           have HK7 := Za (HK'.out.step hk1 (fun i hi e => by have := HGW.out; omega))
           have HL7 := Za (trivial)
           clear hr1 hk1
           go_wp2_with (refine wpList_store_row rfl 66 _ _ rfl gr #[.int .i64 3, .slice la 0 lc, .string ⟨#[]⟩, .int .i64 0, .int .i64 0, .int .i64 0, .string ⟨#[]⟩, .int .i64 0, .int .i64 0, .string ⟨#[]⟩, .bool B] rfl rfl 66 _ hO Zp rfl (Ys (⟨3, .slice la 0 lc, ⟨#[]⟩, 0, 0, 0, ⟨#[]⟩, 0, 0, ⟨#[]⟩, B⟩ : SL) la 0 lc rfl) ?_)
           all_goals
            refine bodyPost_ret (v := .tuple #[.agg #[.int .i64 3, .slice la 0 lc, .string ⟨#[]⟩, .int .i64 0, .int .i64 0, .int .i64 0, .string ⟨#[]⟩, .int .i64 0, .int .i64 0, .string ⟨#[]⟩, .bool B], .bool false]) ?_ rfl ⟨(⟨3, .slice la 0 lc, ⟨#[]⟩, 0, 0, 0, ⟨#[]⟩, 0, 0, ⟨#[]⟩, B⟩ : SL), false, rfl, ⟨la, 0, lc, rfl⟩, HK7.out, .inr ⟨rfl, .inr ⟨ps, ds, HPS.out.1, HPS.out.2, HSE.out⟩⟩⟩
            exact Zh (by rfl) _ _ ⟨gr, 0, none⟩ _ _ (by rfl) (by rfl) (run_loadVar_row _ gr 66 66 _ (0, 0) _ HB7.out Tryz.underlying66 rfl Zp)
         ·have HSE : Hid (Yt ds = none) := by
           show _ = _
           rw [HSF.out, if_neg (fun e => h1 e.1)]
          have h1' : (qk != 1) = true := by simp; exact h1
          clear hqk hqs hl4 HSF HSW h1 hxn hyn hzn
          obtain ⟨⟨b0, b1, b2, b3, b4, b5, b6, b7, b8, b9, b10⟩, bf7, bf8, bf9⟩ := Zq HX.out
          have hO := HGR'.out
          obtain ⟨hr1, hk1⟩ := Yh wd gr #[.int .i64 3, .slice la 0 lc, .string ⟨#[]⟩, .int .i64 0, .int .i64 0, .int .i64 0, .string ⟨#[]⟩, .int .i64 0, .int .i64 0, .string ⟨#[]⟩, .bool B] _ 66 hO rfl
          have HB7 := Za hr1
          have HK7 := Za (HK'.out.step hk1 (fun i hi e => by have := HGW.out; omega))
          have HL7 := Za (trivial)
          clear hr1 hk1
          go_wp2_with (refine wpList_store_row rfl 66 _ _ rfl gr #[.int .i64 3, .slice la 0 lc, .string ⟨#[]⟩, .int .i64 0, .int .i64 0, .int .i64 0, .string ⟨#[]⟩, .int .i64 0, .int .i64 0, .string ⟨#[]⟩, .bool B] rfl rfl 66 _ hO Zp rfl (Ys (⟨3, .slice la 0 lc, ⟨#[]⟩, 0, 0, 0, ⟨#[]⟩, 0, 0, ⟨#[]⟩, B⟩ : SL) la 0 lc rfl) ?_)
          all_goals
           refine bodyPost_ret (v := .tuple #[.agg #[.int .i64 3, .slice la 0 lc, .string ⟨#[]⟩, .int .i64 0, .int .i64 0, .int .i64 0, .string ⟨#[]⟩, .int .i64 0, .int .i64 0, .string ⟨#[]⟩, .bool B], .bool false]) ?_ rfl ⟨(⟨3, .slice la 0 lc, ⟨#[]⟩, 0, 0, 0, ⟨#[]⟩, 0, 0, ⟨#[]⟩, B⟩ : SL), false, rfl, ⟨la, 0, lc, rfl⟩, HK7.out, .inr ⟨rfl, .inr ⟨ps, ds, HPS.out.1, HPS.out.2, HSE.out⟩⟩⟩
           exact Zh (by rfl) _ _ ⟨gr, 0, none⟩ _ _ (by rfl) (by rfl) (run_loadVar_row _ gr 66 66 _ (0, 0) _ HB7.out Tryz.underlying66 rfl Zp)
        ·have HSE : Hid (Yt ds = none) := by
          show _ = _
          rw [HSW.out]
          unfold Zgp
          split
          ·exact absurd rfl hl4
          ·rfl
         have hn2 : ((n' : Int) != 5) = true := by have := HNL.out; simp; omega
         clear hl4
         obtain ⟨⟨b0, b1, b2, b3, b4, b5, b6, b7, b8, b9, b10⟩, bf7, bf8, bf9⟩ := Zq HX.out
         have hO := HGR'.out
         obtain ⟨hr1, hk1⟩ := Yh wd gr #[.int .i64 3, .slice la 0 lc, .string ⟨#[]⟩, .int .i64 0, .int .i64 0, .int .i64 0, .string ⟨#[]⟩, .int .i64 0, .int .i64 0, .string ⟨#[]⟩, .bool B] _ 66 hO rfl
         have HB7 := Za hr1
         have HK7 := Za (HK'.out.step hk1 (fun i hi e => by have := HGW.out; omega))
         have HL7 := Za (trivial)
         clear hr1 hk1
         go_wp2_with (refine wpList_store_row rfl 66 _ _ rfl gr #[.int .i64 3, .slice la 0 lc, .string ⟨#[]⟩, .int .i64 0, .int .i64 0, .int .i64 0, .string ⟨#[]⟩, .int .i64 0, .int .i64 0, .string ⟨#[]⟩, .bool B] rfl rfl 66 _ hO Zp rfl (Ys (⟨3, .slice la 0 lc, ⟨#[]⟩, 0, 0, 0, ⟨#[]⟩, 0, 0, ⟨#[]⟩, B⟩ : SL) la 0 lc rfl) ?_)
         all_goals
          refine bodyPost_ret (v := .tuple #[.agg #[.int .i64 3, .slice la 0 lc, .string ⟨#[]⟩, .int .i64 0, .int .i64 0, .int .i64 0, .string ⟨#[]⟩, .int .i64 0, .int .i64 0, .string ⟨#[]⟩, .bool B], .bool false]) ?_ rfl ⟨(⟨3, .slice la 0 lc, ⟨#[]⟩, 0, 0, 0, ⟨#[]⟩, 0, 0, ⟨#[]⟩, B⟩ : SL), false, rfl, ⟨la, 0, lc, rfl⟩, HK7.out, .inr ⟨rfl, .inr ⟨ps, ds, HPS.out.1, HPS.out.2, HSE.out⟩⟩⟩
          exact Zh (by rfl) _ _ ⟨gr, 0, none⟩ _ _ (by rfl) (by rfl) (run_loadVar_row _ gr 66 66 _ (0, 0) _ HB7.out Tryz.underlying66 rfl Zp)
       have e1 := Zdk [109, 101, 109, 111, 114, 121] rfl hm
       have e2 := Zdk [100, 97, 116, 97] rfl hd
       have e3 := Zdk [102, 117, 110, 99] rfl hf
       have HSC : Hid (Yt ds = Wh ls (p :: l) B) := by
        show _ = _
        rw [hl0, HS1.out]
        unfold Zdh
        rw [if_neg hm, if_neg hd, if_neg hf]
       obtain ⟨px, hpx⟩ := nmd (p.s)
       rw [← hpx] at p1 e1 e2 e3
       clear HS1 hm hd hf hpk hpx hl0
       obtain ⟨⟨b0, b1, b2, b3, b4, b5, b6, b7, b8, b9, b10⟩, bf7, bf8, bf9⟩ := Zq HX.out
       have f0 := Ze _ _ 0 _ _ HX.out
       have hb9 := Zf _ _ 0 _ _ _ HX.out (.int .i64 4)
       have hk9 := Zg wc gx 0 (.int .i64 4)
       have HXn : Hid ((wc.setCell ⟨gx, 0, none⟩ (.int .i64 4)).heap[gx]? = some (.cells #[.int .i64 4, .slice la 0 lc, .string ⟨#[]⟩, .int .i64 0, .int .i64 0, .int .i64 0, .string ⟨#[]⟩, .int .i64 0, .int .i64 0, .string ⟨#[]⟩, .bool B] 66 (0, 0))) := hb9
       have HOn := Za (Zi hk9 (Yx HX.out) HOL.out (by decide))
       have HGn := Za (Zc hk9 HGR'.out (fun e => HNE.out e))
       have HKn := Za (HK'.out.step hk9 (fun i hi e => by have := HWB.out.2; omega))
       have HFn := Za (HF.out.kept hk9 (fun e => HGX.out e))
       clear hb9 hk9
       go_upto_region 39 with fail
       clear f0
       clear b0 b1 b2 b3 b4 b5 b6 b7 b8 b9 b10 bf7 bf8 bf9
       have HSZd : Hid (wc.heap.size ≤ (wc.setCell ⟨gx, 0, none⟩ (.int .i64 4)).heap.size) := (Zg wc gx 0 (.int .i64 4)).size
       generalize wc.setCell ⟨gx, 0, none⟩ (.int .i64 4) = wd at *
       clear HX HOL HGR' HK' HF
       have HX := HXn
       have HOL := HOn
       have HGR' := HGn
       have HK' := HKn
       have HF := HFn
       clear HXn HOn HGn HKn HFn
       obtain ⟨⟨b0, b1, b2, b3, b4, b5, b6, b7, b8, b9, b10⟩, bf7, bf8, bf9⟩ := Zq HX.out
       have hgl : g < wd.heap.size := Nat.lt_of_lt_of_le (Ze3 HKG.out) HSZd.out
       have HIN := Za (Zdp g o' n' c' (p :: l) 4 0 0 0 0 la 0 lc ⟨#[]⟩ ⟨#[]⟩ B wd HF.out HNq.out hnc' (by omega) hgl)
       clear hgl
       go_wp2_with fail
       refine HIN.out.mono ?_
       rintro e w9 ⟨op, ar, wd', ok, rfl, hk9, hcase⟩
       have HC9 := Za hcase
       have HG9 := Za (Zc hk9 HGR'.out id)
       have HK9 := Za (HK'.out.trans hk9)
       have HO9 := Za (hk9.ownsRow HOL.out (fun _ _ f => f))
       clear hcase hk9 HIN HX HGR' HK' HOL HF
       clear b0 b1 b2 b3 b4 b5 b6 b7 b8 b9 b10 bf7 bf8 bf9
       have hO := HG9.out
       obtain ⟨hr1, hk1⟩ := Yh w9 gr #[.int .i64 4, .slice la 0 lc, .string ⟨#[]⟩, .int .i64 0, .int .i64 0, .int .i64 0, .string ⟨#[]⟩, .int .i64 op, .int .i64 ar, .string wd', .bool B] _ 66 hO rfl
       have HB7 := Za hr1
       have HK7 := Za (HK9.out.step hk1 (fun i hi e => by have := HGW.out; omega))
       have HL7 := Za (Zi hk1 (Yx hO) HO9.out (by decide))
       clear hr1 hk1
       go_wp2_with (refine wpList_store_row rfl 66 _ _ rfl gr #[.int .i64 4, .slice la 0 lc, .string ⟨#[]⟩, .int .i64 0, .int .i64 0, .int .i64 0, .string ⟨#[]⟩, .int .i64 op, .int .i64 ar, .string wd', .bool B] rfl rfl 66 _ hO Zp rfl (Ys ⟨4, .slice la 0 lc, ⟨#[]⟩, 0, 0, 0, ⟨#[]⟩, op, ar, wd', B⟩ la 0 lc rfl) ?_)
       all_goals
        refine bodyPost_ret (v := .tuple #[.agg #[.int .i64 4, .slice la 0 lc, .string ⟨#[]⟩, .int .i64 0, .int .i64 0, .int .i64 0, .string ⟨#[]⟩, .int .i64 op, .int .i64 ar, .string wd', .bool B], .bool ok]) ?_ rfl ⟨⟨4, .slice la 0 lc, ⟨#[]⟩, 0, 0, 0, ⟨#[]⟩, op, ar, wd', B⟩, ok, rfl, ⟨la, 0, lc, rfl⟩, HK7.out, ?_⟩
        ·exact Zh (by rfl) _ _ ⟨gr, 0, none⟩ _ _ (by rfl) (by rfl) (run_loadVar_row _ gr 66 66 _ (0, 0) _ HB7.out Tryz.underlying66 rfl Zp)
        ·rcases HC9.out with ⟨h1, h2⟩ | ⟨h1, h2⟩
         ·refine .inl ⟨h1, ps, ds, ⟨4, ls, ⟨#[]⟩, 0, 0, 0, ⟨#[]⟩, op, ar, wd', B⟩, HPS.out.1, HPS.out.2, ?_, ⟨rfl, rfl, rfl, rfl, rfl, rfl, rfl, rfl, rfl, rfl, ?_⟩⟩
          ·rw [HSC.out]
           unfold Wh
           rw [h2]
          ·show World.ownsRow _ _ _ _ _ ls.length (labs ls)
           rw [HLk.out]
           exact HL7.out
         ·refine .inr ⟨h1, .inr ⟨ps, ds, HPS.out.1, HPS.out.2, ?_⟩⟩
          rw [HSC.out]
          unfold Wh
          rw [h2]
      ·rw [if_neg hp] at HS1
       have hp' : (pk == 1) = false := by simp; exact hp
       have HSC : Hid (Yt ds = Wh ls (p :: l) B) := by show _ = _; rw [hl0]; exact HS1.out
       clear HS1 hp hpk p1 hl0
       obtain ⟨⟨b0, b1, b2, b3, b4, b5, b6, b7, b8, b9, b10⟩, bf7, bf8, bf9⟩ := Zq HX.out
       have f0 := Ze _ _ 0 _ _ HX.out
       have hb9 := Zf _ _ 0 _ _ _ HX.out (.int .i64 4)
       have hk9 := Zg wc gx 0 (.int .i64 4)
       have HXn : Hid ((wc.setCell ⟨gx, 0, none⟩ (.int .i64 4)).heap[gx]? = some (.cells #[.int .i64 4, .slice la 0 lc, .string ⟨#[]⟩, .int .i64 0, .int .i64 0, .int .i64 0, .string ⟨#[]⟩, .int .i64 0, .int .i64 0, .string ⟨#[]⟩, .bool B] 66 (0, 0))) := hb9
       have HOn := Za (Zi hk9 (Yx HX.out) HOL.out (by decide))
       have HGn := Za (Zc hk9 HGR'.out (fun e => HNE.out e))
       have HKn := Za (HK'.out.step hk9 (fun i hi e => by have := HWB.out.2; omega))
       have HFn := Za (HF.out.kept hk9 (fun e => HGX.out e))
       clear hb9 hk9
       go_upto_region 39 with fail
       clear f0
       clear b0 b1 b2 b3 b4 b5 b6 b7 b8 b9 b10 bf7 bf8 bf9
       have HSZd : Hid (wc.heap.size ≤ (wc.setCell ⟨gx, 0, none⟩ (.int .i64 4)).heap.size) := (Zg wc gx 0 (.int .i64 4)).size
       generalize wc.setCell ⟨gx, 0, none⟩ (.int .i64 4) = wd at *
       clear HX HOL HGR' HK' HF
       have HX := HXn
       have HOL := HOn
       have HGR' := HGn
       have HK' := HKn
       have HF := HFn
       clear HXn HOn HGn HKn HFn
       obtain ⟨⟨b0, b1, b2, b3, b4, b5, b6, b7, b8, b9, b10⟩, bf7, bf8, bf9⟩ := Zq HX.out
       have hgl : g < wd.heap.size := Nat.lt_of_lt_of_le (Ze3 HKG.out) HSZd.out
       have HIN := Za (Zdp g o' n' c' (p :: l) 4 0 0 0 0 la 0 lc ⟨#[]⟩ ⟨#[]⟩ B wd HF.out HNq.out hnc' (by omega) hgl)
       clear hgl
       go_wp2_with fail
       refine HIN.out.mono ?_
       rintro e w9 ⟨op, ar, wd', ok, rfl, hk9, hcase⟩
       have HC9 := Za hcase
       have HG9 := Za (Zc hk9 HGR'.out id)
       have HK9 := Za (HK'.out.trans hk9)
       have HO9 := Za (hk9.ownsRow HOL.out (fun _ _ f => f))
       clear hcase hk9 HIN HX HGR' HK' HOL HF
       clear b0 b1 b2 b3 b4 b5 b6 b7 b8 b9 b10 bf7 bf8 bf9
       have hO := HG9.out
       obtain ⟨hr1, hk1⟩ := Yh w9 gr #[.int .i64 4, .slice la 0 lc, .string ⟨#[]⟩, .int .i64 0, .int .i64 0, .int .i64 0, .string ⟨#[]⟩, .int .i64 op, .int .i64 ar, .string wd', .bool B] _ 66 hO rfl
       have HB7 := Za hr1
       have HK7 := Za (HK9.out.step hk1 (fun i hi e => by have := HGW.out; omega))
       have HL7 := Za (Zi hk1 (Yx hO) HO9.out (by decide))
       clear hr1 hk1
       go_wp2_with (refine wpList_store_row rfl 66 _ _ rfl gr #[.int .i64 4, .slice la 0 lc, .string ⟨#[]⟩, .int .i64 0, .int .i64 0, .int .i64 0, .string ⟨#[]⟩, .int .i64 op, .int .i64 ar, .string wd', .bool B] rfl rfl 66 _ hO Zp rfl (Ys ⟨4, .slice la 0 lc, ⟨#[]⟩, 0, 0, 0, ⟨#[]⟩, op, ar, wd', B⟩ la 0 lc rfl) ?_)
       all_goals
        refine bodyPost_ret (v := .tuple #[.agg #[.int .i64 4, .slice la 0 lc, .string ⟨#[]⟩, .int .i64 0, .int .i64 0, .int .i64 0, .string ⟨#[]⟩, .int .i64 op, .int .i64 ar, .string wd', .bool B], .bool ok]) ?_ rfl ⟨⟨4, .slice la 0 lc, ⟨#[]⟩, 0, 0, 0, ⟨#[]⟩, op, ar, wd', B⟩, ok, rfl, ⟨la, 0, lc, rfl⟩, HK7.out, ?_⟩
        ·exact Zh (by rfl) _ _ ⟨gr, 0, none⟩ _ _ (by rfl) (by rfl) (run_loadVar_row _ gr 66 66 _ (0, 0) _ HB7.out Tryz.underlying66 rfl Zp)
        ·rcases HC9.out with ⟨h1, h2⟩ | ⟨h1, h2⟩
         ·refine .inl ⟨h1, ps, ds, ⟨4, ls, ⟨#[]⟩, 0, 0, 0, ⟨#[]⟩, op, ar, wd', B⟩, HPS.out.1, HPS.out.2, ?_, ⟨rfl, rfl, rfl, rfl, rfl, rfl, rfl, rfl, rfl, rfl, ?_⟩⟩
          ·rw [HSC.out]
           unfold Wh
           rw [h2]
          ·show World.ownsRow _ _ _ _ _ ls.length (labs ls)
           rw [HLk.out]
           exact HL7.out
         ·refine .inr ⟨h1, .inr ⟨ps, ds, HPS.out.1, HPS.out.2, ?_⟩⟩
          rw [HSC.out]
          unfold Wh
          rw [h2]
     ·rw [if_neg hl0] at HS0
      have HSC := HS0
      have hk1 : ((k : Int) == 0) = false := by
       have := List.length_pos_iff.2 hl0
       have := HLk.out
       simp
       omega
      have hk1' : ¬ (k : Int) = 0 := by
       have := List.length_pos_iff.2 hl0
       have := HLk.out
       omega
      clear hl0 HS0
      obtain ⟨⟨b0, b1, b2, b3, b4, b5, b6, b7, b8, b9, b10⟩, bf7, bf8, bf9⟩ := Zq HX.out
      have f0 := Ze _ _ 0 _ _ HX.out
      have hb9 := Zf _ _ 0 _ _ _ HX.out (.int .i64 4)
      have hk9 := Zg wc gx 0 (.int .i64 4)
      have HXn : Hid ((wc.setCell ⟨gx, 0, none⟩ (.int .i64 4)).heap[gx]? = some (.cells #[.int .i64 4, .slice la k lc, .string ⟨#[]⟩, .int .i64 0, .int .i64 0, .int .i64 0, .string ⟨#[]⟩, .int .i64 0, .int .i64 0, .string ⟨#[]⟩, .bool B] 66 (0, 0))) := hb9
      have HOn := Za (Zi hk9 (Yx HX.out) HOL.out (by decide))
      have HGn := Za (Zc hk9 HGR'.out (fun e => HNE.out e))
      have HKn := Za (HK'.out.step hk9 (fun i hi e => by have := HWB.out.2; omega))
      have HFn := Za (HF.out.kept hk9 (fun e => HGX.out e))
      clear hb9 hk9
      go_upto_region 39 with fail
      clear f0
      clear b0 b1 b2 b3 b4 b5 b6 b7 b8 b9 b10 bf7 bf8 bf9
      have HSZd : Hid (wc.heap.size ≤ (wc.setCell ⟨gx, 0, none⟩ (.int .i64 4)).heap.size) := (Zg wc gx 0 (.int .i64 4)).size
      generalize wc.setCell ⟨gx, 0, none⟩ (.int .i64 4) = wd at *
      clear HX HOL HGR' HK' HF
      have HX := HXn
      have HOL := HOn
      have HGR' := HGn
      have HK' := HKn
      have HF := HFn
      clear HXn HOn HGn HKn HFn
      obtain ⟨⟨b0, b1, b2, b3, b4, b5, b6, b7, b8, b9, b10⟩, bf7, bf8, bf9⟩ := Zq HX.out
      have hgl : g < wd.heap.size := Nat.lt_of_lt_of_le (Ze3 HKG.out) HSZd.out
      have HIN := Za (Zdp g o' n' c' qs 4 0 0 0 0 la k lc ⟨#[]⟩ ⟨#[]⟩ B wd HF.out HNq.out hnc' (by omega) hgl)
      clear hgl
      go_wp2_with fail
      refine HIN.out.mono ?_
      rintro e w9 ⟨op, ar, wd', ok, rfl, hk9, hcase⟩
      have HC9 := Za hcase
      have HG9 := Za (Zc hk9 HGR'.out id)
      have HK9 := Za (HK'.out.trans hk9)
      have HO9 := Za (hk9.ownsRow HOL.out (fun _ _ f => f))
      clear hcase hk9 HIN HX HGR' HK' HOL HF
      clear b0 b1 b2 b3 b4 b5 b6 b7 b8 b9 b10 bf7 bf8 bf9
      have hO := HG9.out
      obtain ⟨hr1, hk1⟩ := Yh w9 gr #[.int .i64 4, .slice la k lc, .string ⟨#[]⟩, .int .i64 0, .int .i64 0, .int .i64 0, .string ⟨#[]⟩, .int .i64 op, .int .i64 ar, .string wd', .bool B] _ 66 hO rfl
      have HB7 := Za hr1
      have HK7 := Za (HK9.out.step hk1 (fun i hi e => by have := HGW.out; omega))
      have HL7 := Za (Zi hk1 (Yx hO) HO9.out (by decide))
      clear hr1 hk1
      go_wp2_with (refine wpList_store_row rfl 66 _ _ rfl gr #[.int .i64 4, .slice la k lc, .string ⟨#[]⟩, .int .i64 0, .int .i64 0, .int .i64 0, .string ⟨#[]⟩, .int .i64 op, .int .i64 ar, .string wd', .bool B] rfl rfl 66 _ hO Zp rfl (Ys ⟨4, .slice la k lc, ⟨#[]⟩, 0, 0, 0, ⟨#[]⟩, op, ar, wd', B⟩ la k lc rfl) ?_)
      all_goals
       refine bodyPost_ret (v := .tuple #[.agg #[.int .i64 4, .slice la k lc, .string ⟨#[]⟩, .int .i64 0, .int .i64 0, .int .i64 0, .string ⟨#[]⟩, .int .i64 op, .int .i64 ar, .string wd', .bool B], .bool ok]) ?_ rfl ⟨⟨4, .slice la k lc, ⟨#[]⟩, 0, 0, 0, ⟨#[]⟩, op, ar, wd', B⟩, ok, rfl, ⟨la, k, lc, rfl⟩, HK7.out, ?_⟩
       ·exact Zh (by rfl) _ _ ⟨gr, 0, none⟩ _ _ (by rfl) (by rfl) (run_loadVar_row _ gr 66 66 _ (0, 0) _ HB7.out Tryz.underlying66 rfl Zp)
       ·rcases HC9.out with ⟨h1, h2⟩ | ⟨h1, h2⟩
        ·refine .inl ⟨h1, ps, ds, ⟨4, ls, ⟨#[]⟩, 0, 0, 0, ⟨#[]⟩, op, ar, wd', B⟩, HPS.out.1, HPS.out.2, ?_, ⟨rfl, rfl, rfl, rfl, rfl, rfl, rfl, rfl, rfl, rfl, ?_⟩⟩
         ·rw [HSC.out]
          unfold Wh
          rw [h2]
         ·show World.ownsRow _ _ _ _ _ ls.length (labs ls)
          rw [HLk.out]
          exact HL7.out
        ·refine .inr ⟨h1, .inr ⟨ps, ds, HPS.out.1, HPS.out.2, ?_⟩⟩
         rw [HSC.out]
         unfold Wh
         rw [h2]
 ·have HE : Hid (Yc bs = none) := hno
  obtain ⟨hr1, hk1⟩ := Yh w2 gr (ZC (.slice none 0 0) false) _ 66 HG2.out rfl
  have hO := HG2.out
  have HB7 := Za hr1
  have HK7 := Za (HK2.out.step hk1 (fun i hi e => by have := HGW.out; omega))
  clear hno hr1 hk1 hsz2
  go_wp2_with (refine wpList_store_row rfl 66 _ _ rfl gr (ZC (.slice none 0 0) false) rfl rfl 66 _ hO Zp rfl (Ys ZL none 0 0 rfl) ?_)
  all_goals
   refine bodyPost_ret (v := .tuple #[.agg (ZC (.slice none 0 0) false), .bool false]) ?_ rfl ⟨ZL, false, rfl, ⟨none, 0, 0, rfl⟩, HK7.out, .inr ⟨rfl, .inl HE.out⟩⟩
   exact Zh (by rfl) _ _ ⟨gr, 0, none⟩ _ _ (by rfl) (by rfl) (run_loadVar_row _ gr 66 66 _ (0, 0) _ HB7.out Tryz.underlying66 rfl Zp)
end Go.Proofs.YtgoabnehdmdikaaGreatDoor
