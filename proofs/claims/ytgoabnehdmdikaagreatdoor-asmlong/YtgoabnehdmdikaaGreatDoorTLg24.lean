import Derived.Test.YtgoabnehdmdikaaGreatDoorTLg23
set_option linter.unusedVariables false
set_option linter.unusedSimpArgs false
set_option maxRecDepth 100000
set_option maxHeartbeats 64000000
namespace Go.Proofs.YtgoabnehdmdikaaGreatDoor
open Go.RowKit
structure SL where
 k : Int
 lv : Value
 nm : ByteArray
 n0 : Int
 n1 : Int
 n2 : Int
 dt : ByteArray
 op : Int
 a : Int
 wd : ByteArray
 big : Bool
def SL.cells (x : SL) : Array Value := #[.int .i64 x.k, x.lv, .string x.nm, .int .i64 x.n0, .int .i64 x.n1, .int .i64 x.n2, .string x.dt, .int .i64 x.op, .int .i64 x.a, .string x.wd, .bool x.big]
def ZL : SL := ⟨0, .slice none 0 0, ⟨#[]⟩, 0, 0, 0, ⟨#[]⟩, 0, 0, ⟨#[]⟩, false⟩
theorem Zp : (Tryz.prog.info? 66).map (·.size) = some 11 := by kernel_rfl
theorem Ys (x : SL) (a : Option Addr) (n c : Nat) (h : x.lv = .slice a n c) : x.cells.all (·.oneCell') = true := by
 unfold SL.cells
 rw [h]
 simp [Value.oneCell']
theorem Zq {w : World} {g : Nat} {t : TypeId} {a0 a1 a2 a3 a4 a5 a6 a7 a8 a9 a10 : Value} (h : w.heap[g]? = some (.cells #[a0, a1, a2, a3, a4, a5, a6, a7, a8, a9, a10] t (0, 0))) :
  (w.cell? ⟨g, 0, none⟩ = some a0 ∧ w.cell? ⟨g, 1, none⟩ = some a1 ∧ w.cell? ⟨g, 2, none⟩ = some a2 ∧ w.cell? ⟨g, 3, none⟩ = some a3 ∧ w.cell? ⟨g, 4, none⟩ = some a4 ∧ w.cell? ⟨g, 5, none⟩ = some a5 ∧ w.cell? ⟨g, 6, none⟩ = some a6 ∧ w.cell? ⟨g, 7, none⟩ = some a7 ∧ w.cell? ⟨g, 8, none⟩ = some a8 ∧ w.cell? ⟨g, 9, none⟩ = some a9 ∧ w.cell? ⟨g, 10, none⟩ = some a10) ∧ w.frozen? ⟨g, 7, none⟩ = false ∧ w.frozen? ⟨g, 8, none⟩ = false ∧ w.frozen? ⟨g, 9, none⟩ = false :=
 ⟨⟨Zb _ _ 0 _ _ _ h, Zb _ _ 1 _ _ _ h, Zb _ _ 2 _ _ _ h, Zb _ _ 3 _ _ _ h, Zb _ _ 4 _ _ _ h, Zb _ _ 5 _ _ _ h, Zb _ _ 6 _ _ _ h, Zb _ _ 7 _ _ _ h, Zb _ _ 8 _ _ _ h, Zb _ _ 9 _ _ _ h, Zb _ _ 10 _ _ _ h⟩, Ze _ _ 7 _ _ h, Ze _ _ 8 _ _ h, Ze _ _ 9 _ _ h⟩
def Zb5 (n : Nat) (kd : Nat) : List Pf → Option (Int × Int × ByteArray)
 | [] => if kd = 0 then some ((n : Int), 0, ⟨#[]⟩) else none
 | q :: r => if kd = 0 then none else if r = [] then (if q.k = 2 then some ((n : Int), q.n, ⟨#[]⟩) else if q.k = 1 then (if kd = 5 then (match ixN Zk q.s with | some c => some ((n : Int), (c : Int), ⟨#[]⟩) | none => none) else if kd = 3 ∨ kd = 4 then some ((n : Int), 0, q.s) else none) else none) else none
def Zas : List Pf → Option (Int × Int × ByteArray)
 | [] => some (-1, 0, ⟨#[]⟩)
 | p :: r => if p.k = 1 then (match ixN Zj p.s with | some n => Zb5 n (kix n) r | none => none) else none
def Zw9 (x : SL) (o : Option (Int × Int × ByteArray)) (w : World) (e : Ending) (w' : World) : Prop :=
 ∃ (op a : Int) (s : ByteArray) (b : Bool), e = .returned (.tuple #[.agg (⟨x.k, x.lv, x.nm, x.n0, x.n1, x.n2, x.dt, op, a, s, x.big⟩ : SL).cells, .bool b]) ∧ Kept nF w w' ∧ ((b = true ∧ o = some (op, a, s)) ∨ (b = false ∧ o = none))
theorem Yh (w : World) (g : Nat) (cs : Array Value) (C : Array Value) (t : TypeId) (h : w.heap[g]? = some (.cells C t (0, 0))) (hs : C.size = cs.size) : (w.setRow g cs).heap[g]? = some (.cells cs t (0, 0)) ∧ Kept (fun q => q = g) w (w.setRow g cs) := ⟨setRow_heap w g _ _ t _ h, Zaq w g cs⟩
theorem Zdp (g o n c : Nat) (ds : List Pf) (kk j0 j1 j2 op0 : Int) (la : Option Addr) (ll lc : Nat) (nm dt : ByteArray) (bg : Bool) (w : World) (hP : FsAt w g o ds) (hn : n = ds.length) (hc : n ≤ c) (hnl : n ≤ 90000) (hgw : g < w.heap.size) :
  Calls Tryz.prog 42 #[.agg (⟨kk, .slice la ll lc, nm, j0, j1, j2, dt, op0, 0, ⟨#[]⟩, bg⟩ : SL).cells, .slice (some ⟨g, o, none⟩) n c] w (Zw9 ⟨kk, .slice la ll lc, nm, j0, j1, j2, dt, op0, 0, ⟨#[]⟩, bg⟩ (Zas ds) w) := by
 show Calls Tryz.prog 42 #[.agg #[.int .i64 kk, .slice la ll lc, .string nm, .int .i64 j0, .int .i64 j1, .int .i64 j2, .string dt, .int .i64 op0, .int .i64 0, .string ⟨#[]⟩, .bool bg], .slice (some ⟨g, o, none⟩) n c] w _
 obtain ⟨F, hF⟩ := nmd (Zas ds)
 rw [← hF]
 have HF := Za hF
 have hka : Kept nF w (w.alloc (.cells #[.int .i64 kk, .slice la ll lc, .string nm, .int .i64 j0, .int .i64 j1, .int .i64 j2, .string dt, .int .i64 op0, .int .i64 0, .string ⟨#[]⟩, .bool bg] 66)) := (Kept.refl _ _).alloc _
 have hba := heap_alloc_new w (.cells #[.int .i64 kk, .slice la ll lc, .string nm, .int .i64 j0, .int .i64 j1, .int .i64 j2, .string dt, .int .i64 op0, .int .i64 0, .string ⟨#[]⟩, .bool bg] 66)
 obtain ⟨w1, hw1⟩ := nmd (w.alloc (.cells #[.int .i64 kk, .slice la ll lc, .string nm, .int .i64 j0, .int .i64 j1, .int .i64 j2, .string dt, .int .i64 op0, .int .i64 0, .string ⟨#[]⟩, .bool bg] 66))
 have hsz : w1.heap.size = w.heap.size + 1 := by rw [hw1]; simp
 rw [← hw1] at hka hba
 have hkb : Kept nF w1 (w1.alloc (.cells #[.int .i64 0, .slice none 0 0, .string ⟨#[]⟩, .int .i64 0, .int .i64 0, .int .i64 0, .string ⟨#[]⟩, .int .i64 0, .int .i64 0, .string ⟨#[]⟩, .bool false] 66)) := (Kept.refl _ _).alloc _
 have hbb := heap_alloc_new w1 (.cells #[.int .i64 0, .slice none 0 0, .string ⟨#[]⟩, .int .i64 0, .int .i64 0, .int .i64 0, .string ⟨#[]⟩, .int .i64 0, .int .i64 0, .string ⟨#[]⟩, .bool false] 66)
 rw [hsz] at hbb
 have HBX := Za (Zc hkb hba id)
 have HGR := Za hbb
 have HKX := Za (hka.trans hkb)
 have HPL := Za (hP.kept (hka.trans hkb) id)
 have HGX : Hid (¬ g = w.heap.size) := by show ¬ g = _; omega
 have HNE : Hid (¬ w.heap.size + 1 = w.heap.size) := by show ¬ _ = _; omega
 have HN := Za hn
 have HCC : Hid (n ≤ c ∧ n ≤ 90000) := ⟨hc, hnl⟩
 have hnI : (n : Int) ≤ 90000 := by omega
 clear hka hba hkb hbb hP hn hc hnl hF hgw
 go_enter Tryz.func42, Tryz.ntmps42
 go_upto_region 1 with fail
 rw [← hw1]
 obtain ⟨w2, hw2⟩ := nmd (w1.alloc (.cells #[.int .i64 0, .slice none 0 0, .string ⟨#[]⟩, .int .i64 0, .int .i64 0, .int .i64 0, .string ⟨#[]⟩, .int .i64 0, .int .i64 0, .string ⟨#[]⟩, .bool false] 66))
 rw [← hw2] at HBX HGR HKX HPL ⊢
 have HXW : Hid (w.heap.size ≤ w.heap.size ∧ w.heap.size ≤ w.heap.size + 1) := ⟨Nat.le_refl _, Nat.le_succ _⟩
 obtain ⟨gx, hgx⟩ := nmd (w.heap.size)
 rw [← hgx] at HBX HGR HGX HNE
 obtain ⟨gr, hgr⟩ := nmd (gx + 1)
 rw [← hgr] at HGR HNE
 replace HXW : Hid (w.heap.size ≤ gx ∧ w.heap.size ≤ gr) := by show _ ≤ _ ∧ _ ≤ _; omega
 rw [← hgx, ← hgr]
 clear hgx hgr hw1 hw2 hsz
 have hbx0 := HBX.out
 obtain ⟨⟨b0, b1, b2, b3, b4, b5, b6, b7, b8, b9, b10⟩, bf7, bf8, bf9⟩ := Zq hbx0
 have hb9 := Zf _ _ 7 _ _ _ HBX.out (.int .i64 (-1))
 have hk9 := Zg w2 gx 7 (.int .i64 (-1))
 have HB9 : Hid ((w2.setCell ⟨gx, 7, none⟩ (.int .i64 (-1))).heap[gx]? = some (.cells #[.int .i64 kk, .slice la ll lc, .string nm, .int .i64 j0, .int .i64 j1, .int .i64 j2, .string dt, .int .i64 (-1), .int .i64 0, .string ⟨#[]⟩, .bool bg] 66 (0, 0))) := hb9
 have HG9 := Za (Zc hk9 HGR.out (fun e => HNE.out e))
 have HK9 := Za (HKX.out.step hk9 (fun i hi e => by have := HXW.out; omega))
 have HP9 := Za (HPL.out.kept hk9 (fun e => HGX.out e))
 clear hbx0
 go_upto_region 2 with fail
 clear b0 b1 b2 b3 b4 b5 b6 b7 b8 b9 b10 bf7 bf8 bf9
 generalize w2.setCell ⟨gx, 7, none⟩ (.int .i64 (-1)) = w3 at *
 clear hb9 hk9 HBX HGR HKX HPL
 have HBX := HB9
 have HGR := HG9
 have HKX := HK9
 have HPL := HP9
 clear HB9 HG9 HK9 HP9
 cases ds with
 | nil =>
  have hz : n = 0 := HN.out
  subst hz
  have HE : Hid (F = some (-1, 0, ⟨#[]⟩)) := HF.out
  clear HPL
  obtain ⟨⟨b0, b1, b2, b3, b4, b5, b6, b7, b8, b9, b10⟩, bf7, bf8, bf9⟩ := Zq HBX.out
  have hO := HGR.out
  obtain ⟨hr1, hk1⟩ := Yh w3 gr #[.int .i64 kk, .slice la ll lc, .string nm, .int .i64 j0, .int .i64 j1, .int .i64 j2, .string dt, .int .i64 (-1), .int .i64 0, .string ⟨#[]⟩, .bool bg] _ 66 hO rfl
  have HB7 := Za hr1
  have HK7 := Za (HKX.out.step hk1 (fun i hi e => by have := HXW.out; omega))
  clear hr1 hk1
  go_wp2_with (refine wpList_store_row rfl 66 _ _ rfl gr #[.int .i64 kk, .slice la ll lc, .string nm, .int .i64 j0, .int .i64 j1, .int .i64 j2, .string dt, .int .i64 (-1), .int .i64 0, .string ⟨#[]⟩, .bool bg] rfl rfl 66 _ hO Zp rfl (Ys ⟨kk, .slice la ll lc, nm, j0, j1, j2, dt, (-1), 0, ⟨#[]⟩, bg⟩ la ll lc rfl) ?_)
  all_goals
   refine bodyPost_ret (v := .tuple #[.agg #[.int .i64 kk, .slice la ll lc, .string nm, .int .i64 j0, .int .i64 j1, .int .i64 j2, .string dt, .int .i64 (-1), .int .i64 0, .string ⟨#[]⟩, .bool bg], .bool true]) ?_ rfl ⟨(-1), 0, ⟨#[]⟩, true, rfl, HK7.out, .inl ⟨rfl, HE.out⟩⟩
   exact Zh (by rfl) _ _ ⟨gr, 0, none⟩ _ _ (by rfl) (by rfl) (run_loadVar_row _ gr 66 66 _ (0, 0) _ HB7.out Tryz.underlying66 rfl Zp)
 | cons p l =>
  have hn0 : ¬ (n : Int) = 0 := by have := HN.out; simp only [List.length_cons] at this; omega
  have hcN : (0 : Int) < (n : Int) := by have := HN.out; simp only [List.length_cons] at this; omega
  have hcI : (1 : Int) ≤ (c : Int) := by have := HCC.out.1; omega
  have HIE : Hid (F = if p.k = 1 then (match ixN Zj p.s with | some n => Zb5 n (kix n) l | none => none) else none) := HF.out
  obtain ⟨pk, ps, pn, pf⟩ := p
  simp only at HIE
  have p0 : w3.cell? ⟨g, o, none⟩ = some (.int .i64 pk) := HPL.out 0 _ rfl 0 _ rfl
  have p1 : w3.cell? ⟨g, o + 1, none⟩ = some (.string ps) := HPL.out 0 _ rfl 1 _ rfl
  have HNM := Za (Zmx ps w3)
  rw [Zer] at HNM
  clear HF
  go_upto_region 4 with fail
  cases hix : ixN Zj ps with
  | none =>
   rw [hix] at HIE HNM
   have HE : Hid (F = none) := by
    show F = none
    rw [HIE.out]
    split <;> rfl
   clear hix HIE
   go_wp2_with fail
   refine HNM.out.mono ?_
   rintro e w4 ⟨rfl, hw⟩
   have hw := hw.symm
   subst hw
   obtain ⟨⟨b0, b1, b2, b3, b4, b5, b6, b7, b8, b9, b10⟩, bf7, bf8, bf9⟩ := Zq HBX.out
   have hO := HGR.out
   obtain ⟨hr1, hk1⟩ := Yh w3 gr #[.int .i64 kk, .slice la ll lc, .string nm, .int .i64 j0, .int .i64 j1, .int .i64 j2, .string dt, .int .i64 (-1), .int .i64 0, .string ⟨#[]⟩, .bool bg] _ 66 hO rfl
   have HB7 := Za hr1
   have HK7 := Za (HKX.out.step hk1 (fun i hi e => by have := HXW.out; omega))
   clear hr1 hk1
   go_wp2_with (refine wpList_store_row rfl 66 _ _ rfl gr #[.int .i64 kk, .slice la ll lc, .string nm, .int .i64 j0, .int .i64 j1, .int .i64 j2, .string dt, .int .i64 (-1), .int .i64 0, .string ⟨#[]⟩, .bool bg] rfl rfl 66 _ hO Zp rfl (Ys ⟨kk, .slice la ll lc, nm, j0, j1, j2, dt, (-1), 0, ⟨#[]⟩, bg⟩ la ll lc rfl) ?_)
   all_goals
    refine bodyPost_ret (v := .tuple #[.agg #[.int .i64 kk, .slice la ll lc, .string nm, .int .i64 j0, .int .i64 j1, .int .i64 j2, .string dt, .int .i64 (-1), .int .i64 0, .string ⟨#[]⟩, .bool bg], .bool false]) ?_ rfl ⟨(-1), 0, ⟨#[]⟩, false, rfl, HK7.out, .inr ⟨rfl, HE.out⟩⟩
    exact Zh (by rfl) _ _ ⟨gr, 0, none⟩ _ _ (by rfl) (by rfl) (run_loadVar_row _ gr 66 66 _ (0, 0) _ HB7.out Tryz.underlying66 rfl Zp)
  | some k =>
   rw [hix] at HIE HNM
   have hk46 : k < 46 := Zeh hix
   clear hix
   by_cases hk1 : pk = 1
   ·rw [if_pos hk1] at HIE
    have HIE : Hid (F = Zb5 k (kix k) l) := HIE.out
    subst hk1
    have HOP := Za (fun w => Zcb w k hk46)
    have hkx6 := (Zen k hk46).1
    obtain ⟨kd, hkd⟩ := nmd (kix k)
    rw [← hkd] at HIE HOP hkx6
    clear hkd hk46
    go_wp2_with fail
    refine HNM.out.mono ?_
    rintro e w4 ⟨rfl, hw⟩
    have hw := hw.symm
    subst hw
    obtain ⟨⟨b0, b1, b2, b3, b4, b5, b6, b7, b8, b9, b10⟩, bf7, bf8, bf9⟩ := Zq HBX.out
    clear HNM
    have hb9 := Zf _ _ 7 _ _ _ HBX.out (.int .i64 (k : Int))
    have hk9 := Zg w3 gx 7 (.int .i64 (k : Int))
    have HB9 : Hid ((w3.setCell ⟨gx, 7, none⟩ (.int .i64 (k : Int))).heap[gx]? = some (.cells #[.int .i64 kk, .slice la ll lc, .string nm, .int .i64 j0, .int .i64 j1, .int .i64 j2, .string dt, .int .i64 (k : Int), .int .i64 0, .string ⟨#[]⟩, .bool bg] 66 (0, 0))) := hb9
    have HG9 := Za (Zc hk9 HGR.out (fun e => HNE.out e))
    have HK9 := Za (HKX.out.step hk9 (fun i hi e => by have := HXW.out; omega))
    have HP9 := Za (HPL.out.kept hk9 (fun e => HGX.out e))
    go_upto_region 8 with fail
    clear p0 p1 b0 b1 b2 b3 b4 b5 b6 b7 b8 b9 b10 bf7 bf8 bf9
    generalize w3.setCell ⟨gx, 7, none⟩ (.int .i64 (k : Int)) = w4 at *
    clear hb9 hk9 HBX HGR HKX HPL
    have HBX := HB9
    have HGR := HG9
    have HKX := HK9
    have HPL := HP9
    clear HB9 HG9 HK9 HP9
    go_wp2_with fail
    refine (HOP.out _).mono ?_
    rintro e w5 ⟨rfl, hw⟩
    have hw := hw.symm
    subst hw
    clear HOP
    go_upto_region 10 with fail
    obtain ⟨o1, ho1⟩ := nmd ((if c = 1 then o else o + 4))
    obtain ⟨n1, hn1⟩ := nmd (n - 1)
    obtain ⟨c1, hc1⟩ := nmd (c - 1)
    have HPR : Hid (FsAt w4 g o1 l) := by
     show FsAt w4 g o1 l
     rw [ho1]
     split
     ·have h1 := HN.out
      have h2 := HCC.out.1
      simp only [List.length_cons] at h1
      rw [show l = [] from List.length_eq_zero_iff.1 (by omega)]
      exact fun i p hp => by simp at hp
     ·exact HPL.out.drop 1
    have HN1 : Hid (n1 = l.length) := by have := HN.out; simp only [List.length_cons] at this; show n1 = _; omega
    have HNC : Hid (n1 = n - 1 ∧ c1 = c - 1) := ⟨hn1, hc1⟩
    have HO1 := Za ho1
    have hn1I : (n1 : Int) ≤ 90000 := by omega
    clear ho1 HPL
    rw [show n - 1 = n1 from HNC.out.1.symm, show c - 1 = c1 from HNC.out.2.symm, show (if c = 1 then some ({ block := g, off := o } : Addr) else some { block := g, off := o + 4 }) = some ⟨g, o1, none⟩ by rw [HO1.out]; split <;> rfl]
    clear hn1 hc1 hcI hcN hn0
    by_cases hkz : kd = 0
    ·subst hkz
     cases l with
     | nil =>
      have HE : Hid (F = some ((k : Int), 0, ⟨#[]⟩)) := HIE.out
      have hz : n1 = 0 := HN1.out
      subst hz
      clear HPR HIE
      obtain ⟨⟨b0, b1, b2, b3, b4, b5, b6, b7, b8, b9, b10⟩, bf7, bf8, bf9⟩ := Zq HBX.out
      have hO := HGR.out
      obtain ⟨hr1, hk1⟩ := Yh w4 gr #[.int .i64 kk, .slice la ll lc, .string nm, .int .i64 j0, .int .i64 j1, .int .i64 j2, .string dt, .int .i64 (k : Int), .int .i64 0, .string ⟨#[]⟩, .bool bg] _ 66 hO rfl
      have HB7 := Za hr1
      have HK7 := Za (HKX.out.step hk1 (fun i hi e => by have := HXW.out; omega))
      clear hr1 hk1
      go_wp2_with (refine wpList_store_row rfl 66 _ _ rfl gr #[.int .i64 kk, .slice la ll lc, .string nm, .int .i64 j0, .int .i64 j1, .int .i64 j2, .string dt, .int .i64 (k : Int), .int .i64 0, .string ⟨#[]⟩, .bool bg] rfl rfl 66 _ hO Zp rfl (Ys ⟨kk, .slice la ll lc, nm, j0, j1, j2, dt, (k : Int), 0, ⟨#[]⟩, bg⟩ la ll lc rfl) ?_)
      all_goals
       refine bodyPost_ret (v := .tuple #[.agg #[.int .i64 kk, .slice la ll lc, .string nm, .int .i64 j0, .int .i64 j1, .int .i64 j2, .string dt, .int .i64 (k : Int), .int .i64 0, .string ⟨#[]⟩, .bool bg], .bool true]) ?_ rfl ⟨(k : Int), 0, ⟨#[]⟩, true, rfl, HK7.out, .inl ⟨rfl, HE.out⟩⟩
       exact Zh (by rfl) _ _ ⟨gr, 0, none⟩ _ _ (by rfl) (by rfl) (run_loadVar_row _ gr 66 66 _ (0, 0) _ HB7.out Tryz.underlying66 rfl Zp)
     | cons q ql =>
      have HE : Hid (F = none) := by have := HIE.out; rw [Zb5, if_pos rfl] at this; exact this
      have hz : ((n1 : Int) == 0) = false := by have := HN1.out; simp only [List.length_cons] at this; simp; omega
      clear HPR HIE
      obtain ⟨⟨b0, b1, b2, b3, b4, b5, b6, b7, b8, b9, b10⟩, bf7, bf8, bf9⟩ := Zq HBX.out
      have hO := HGR.out
      obtain ⟨hr1, hk1⟩ := Yh w4 gr #[.int .i64 kk, .slice la ll lc, .string nm, .int .i64 j0, .int .i64 j1, .int .i64 j2, .string dt, .int .i64 (k : Int), .int .i64 0, .string ⟨#[]⟩, .bool bg] _ 66 hO rfl
      have HB7 := Za hr1
      have HK7 := Za (HKX.out.step hk1 (fun i hi e => by have := HXW.out; omega))
      clear hr1 hk1
      go_wp2_with (refine wpList_store_row rfl 66 _ _ rfl gr #[.int .i64 kk, .slice la ll lc, .string nm, .int .i64 j0, .int .i64 j1, .int .i64 j2, .string dt, .int .i64 (k : Int), .int .i64 0, .string ⟨#[]⟩, .bool bg] rfl rfl 66 _ hO Zp rfl (Ys ⟨kk, .slice la ll lc, nm, j0, j1, j2, dt, (k : Int), 0, ⟨#[]⟩, bg⟩ la ll lc rfl) ?_)
      all_goals
       refine bodyPost_ret (v := .tuple #[.agg #[.int .i64 kk, .slice la ll lc, .string nm, .int .i64 j0, .int .i64 j1, .int .i64 j2, .string dt, .int .i64 (k : Int), .int .i64 0, .string ⟨#[]⟩, .bool bg], .bool false]) ?_ rfl ⟨(k : Int), 0, ⟨#[]⟩, false, rfl, HK7.out, .inr ⟨rfl, HE.out⟩⟩
       exact Zh (by rfl) _ _ ⟨gr, 0, none⟩ _ _ (by rfl) (by rfl) (run_loadVar_row _ gr 66 66 _ (0, 0) _ HB7.out Tryz.underlying66 rfl Zp)
    have hkz' : ((kd : Int) == 0) = false := by simp; exact hkz
    by_cases hl1 : l.length = 1
    ·obtain ⟨q, rfl⟩ := List.length_eq_one_iff.1 hl1
     have hz : n1 = 1 := HN1.out
     subst hz
     obtain ⟨qk, qs, qn, qf⟩ := q
     have HQE : Hid (F = if qk = 2 then some ((k : Int), qn, ⟨#[]⟩) else if qk = 1 then (if kd = 5 then (match ixN Zk qs with | some c => some ((k : Int), (c : Int), ⟨#[]⟩) | none => none) else if kd = 3 ∨ kd = 4 then some ((k : Int), 0, qs) else none) else none) := by
      have := HIE.out
      rw [Zb5, if_neg hkz, if_pos rfl] at this
      exact this
     have q0 : w4.cell? ⟨g, o1, none⟩ = some (.int .i64 qk) := HPR.out 0 _ rfl 0 _ rfl
     have q1 : w4.cell? ⟨g, o1 + 1, none⟩ = some (.string qs) := HPR.out 0 _ rfl 1 _ rfl
     have q2 : w4.cell? ⟨g, o1 + 2, none⟩ = some (.int .i64 qn) := HPR.out 0 _ rfl 2 _ rfl
     have HPL := HPR
     clear HIE hl1 hkz
     obtain ⟨⟨b0, b1, b2, b3, b4, b5, b6, b7, b8, b9, b10⟩, bf7, bf8, bf9⟩ := Zq HBX.out
     by_cases hq2 : qk = 2
     ·rw [if_pos hq2] at HQE
      subst hq2
      have HE : Hid (F = some ((k : Int), qn, ⟨#[]⟩)) := HQE.out
      clear HQE HPR
      have hb9 := Zf _ _ 8 _ _ _ HBX.out (.int .i64 qn)
      have hk9 := Zg w4 gx 8 (.int .i64 qn)
      have HB9 : Hid ((w4.setCell ⟨gx, 8, none⟩ (.int .i64 qn)).heap[gx]? = some (.cells #[.int .i64 kk, .slice la ll lc, .string nm, .int .i64 j0, .int .i64 j1, .int .i64 j2, .string dt, .int .i64 (k : Int), .int .i64 qn, .string ⟨#[]⟩, .bool bg] 66 (0, 0))) := hb9
      have HG9 := Za (Zc hk9 HGR.out (fun e => HNE.out e))
      have HK9 := Za (HKX.out.step hk9 (fun i hi e => by have := HXW.out; omega))
      have HP9 := Za (HPL.out.kept hk9 (fun e => HGX.out e))
      go_upto_region 16 with fail
      clear b0 b1 b2 b3 b4 b5 b6 b7 b8 b9 b10 bf7 bf8 bf9 q0 q1 q2
      generalize w4.setCell ⟨gx, 8, none⟩ (.int .i64 qn) = w5 at *
      clear hb9 hk9 HBX HGR HKX HPL
      have HBX := HB9
      have HGR := HG9
      have HKX := HK9
      have HPL := HP9
      clear HB9 HG9 HK9 HP9
      obtain ⟨⟨b0, b1, b2, b3, b4, b5, b6, b7, b8, b9, b10⟩, bf7, bf8, bf9⟩ := Zq HBX.out
      have hO := HGR.out
      obtain ⟨hr1, hk1⟩ := Yh w5 gr #[.int .i64 kk, .slice la ll lc, .string nm, .int .i64 j0, .int .i64 j1, .int .i64 j2, .string dt, .int .i64 (k : Int), .int .i64 qn, .string ⟨#[]⟩, .bool bg] _ 66 hO rfl
      have HB7 := Za hr1
      have HK7 := Za (HKX.out.step hk1 (fun i hi e => by have := HXW.out; omega))
      clear hr1 hk1
      go_wp2_with (refine wpList_store_row rfl 66 _ _ rfl gr #[.int .i64 kk, .slice la ll lc, .string nm, .int .i64 j0, .int .i64 j1, .int .i64 j2, .string dt, .int .i64 (k : Int), .int .i64 qn, .string ⟨#[]⟩, .bool bg] rfl rfl 66 _ hO Zp rfl (Ys ⟨kk, .slice la ll lc, nm, j0, j1, j2, dt, (k : Int), qn, ⟨#[]⟩, bg⟩ la ll lc rfl) ?_)
      all_goals
       refine bodyPost_ret (v := .tuple #[.agg #[.int .i64 kk, .slice la ll lc, .string nm, .int .i64 j0, .int .i64 j1, .int .i64 j2, .string dt, .int .i64 (k : Int), .int .i64 qn, .string ⟨#[]⟩, .bool bg], .bool true]) ?_ rfl ⟨(k : Int), qn, ⟨#[]⟩, true, rfl, HK7.out, .inl ⟨rfl, HE.out⟩⟩
       exact Zh (by rfl) _ _ ⟨gr, 0, none⟩ _ _ (by rfl) (by rfl) (run_loadVar_row _ gr 66 66 _ (0, 0) _ HB7.out Tryz.underlying66 rfl Zp)
     rw [if_neg hq2] at HQE
     have hq2' : (qk == 2) = false := by simp; exact hq2
     by_cases hq1 : qk = 1
     ·rw [if_pos hq1] at HQE
      subst hq1
      clear hq2 hq2'
      by_cases h5 : kd = 5
      ·rw [if_pos h5] at HQE
       subst h5
       have HSY := Za (Zli qs w4)
       rw [Zer] at HSY
       cases hsx : ixN Zk qs with
       | none =>
        rw [hsx] at HSY HQE
        have HE : Hid (F = none) := HQE.out
        clear hsx HQE HPR
        go_wp2_with fail
        refine HSY.out.mono ?_
        rintro e w6 ⟨rfl, hw⟩
        have hw := hw.symm
        subst hw
        clear HSY
        have hb9 := Zf _ _ 8 _ _ _ HBX.out (.int .i64 0)
        have hk9 := Zg w4 gx 8 (.int .i64 0)
        have HB9 : Hid ((w4.setCell ⟨gx, 8, none⟩ (.int .i64 0)).heap[gx]? = some (.cells #[.int .i64 kk, .slice la ll lc, .string nm, .int .i64 j0, .int .i64 j1, .int .i64 j2, .string dt, .int .i64 (k : Int), .int .i64 0, .string ⟨#[]⟩, .bool bg] 66 (0, 0))) := hb9
        have HG9 := Za (Zc hk9 HGR.out (fun e => HNE.out e))
        have HK9 := Za (HKX.out.step hk9 (fun i hi e => by have := HXW.out; omega))
        have HP9 := Za (HPL.out.kept hk9 (fun e => HGX.out e))
        go_upto_region 22 with fail
        clear b0 b1 b2 b3 b4 b5 b6 b7 b8 b9 b10 bf7 bf8 bf9 q0 q1 q2
        generalize w4.setCell ⟨gx, 8, none⟩ (.int .i64 0) = w5 at *
        clear hb9 hk9 HBX HGR HKX HPL
        have HBX := HB9
        have HGR := HG9
        have HKX := HK9
        have HPL := HP9
        clear HB9 HG9 HK9 HP9
        obtain ⟨⟨b0, b1, b2, b3, b4, b5, b6, b7, b8, b9, b10⟩, bf7, bf8, bf9⟩ := Zq HBX.out
        have hO := HGR.out
        obtain ⟨hr1, hk1⟩ := Yh w5 gr #[.int .i64 kk, .slice la ll lc, .string nm, .int .i64 j0, .int .i64 j1, .int .i64 j2, .string dt, .int .i64 (k : Int), .int .i64 0, .string ⟨#[]⟩, .bool bg] _ 66 hO rfl
        have HB7 := Za hr1
        have HK7 := Za (HKX.out.step hk1 (fun i hi e => by have := HXW.out; omega))
        clear hr1 hk1
        go_wp2_with (refine wpList_store_row rfl 66 _ _ rfl gr #[.int .i64 kk, .slice la ll lc, .string nm, .int .i64 j0, .int .i64 j1, .int .i64 j2, .string dt, .int .i64 (k : Int), .int .i64 0, .string ⟨#[]⟩, .bool bg] rfl rfl 66 _ hO Zp rfl (Ys ⟨kk, .slice la ll lc, nm, j0, j1, j2, dt, (k : Int), 0, ⟨#[]⟩, bg⟩ la ll lc rfl) ?_)
        all_goals
         refine bodyPost_ret (v := .tuple #[.agg #[.int .i64 kk, .slice la ll lc, .string nm, .int .i64 j0, .int .i64 j1, .int .i64 j2, .string dt, .int .i64 (k : Int), .int .i64 0, .string ⟨#[]⟩, .bool bg], .bool false]) ?_ rfl ⟨(k : Int), 0, ⟨#[]⟩, false, rfl, HK7.out, .inr ⟨rfl, HE.out⟩⟩
         exact Zh (by rfl) _ _ ⟨gr, 0, none⟩ _ _ (by rfl) (by rfl) (run_loadVar_row _ gr 66 66 _ (0, 0) _ HB7.out Tryz.underlying66 rfl Zp)
       | some cc =>
        rw [hsx] at HSY HQE
        have HE : Hid (F = some ((k : Int), (cc : Int), ⟨#[]⟩)) := HQE.out
        clear hsx HQE HPR
        go_wp2_with fail
        refine HSY.out.mono ?_
        rintro e w6 ⟨rfl, hw⟩
        have hw := hw.symm
        subst hw
        clear HSY
        have hb9 := Zf _ _ 8 _ _ _ HBX.out (.int .i64 (cc : Int))
        have hk9 := Zg w4 gx 8 (.int .i64 (cc : Int))
        have HB9 : Hid ((w4.setCell ⟨gx, 8, none⟩ (.int .i64 (cc : Int))).heap[gx]? = some (.cells #[.int .i64 kk, .slice la ll lc, .string nm, .int .i64 j0, .int .i64 j1, .int .i64 j2, .string dt, .int .i64 (k : Int), .int .i64 (cc : Int), .string ⟨#[]⟩, .bool bg] 66 (0, 0))) := hb9
        have HG9 := Za (Zc hk9 HGR.out (fun e => HNE.out e))
        have HK9 := Za (HKX.out.step hk9 (fun i hi e => by have := HXW.out; omega))
        have HP9 := Za (HPL.out.kept hk9 (fun e => HGX.out e))
        go_upto_region 22 with fail
        clear b0 b1 b2 b3 b4 b5 b6 b7 b8 b9 b10 bf7 bf8 bf9 q0 q1 q2
        generalize w4.setCell ⟨gx, 8, none⟩ (.int .i64 (cc : Int)) = w5 at *
        clear hb9 hk9 HBX HGR HKX HPL
        have HBX := HB9
        have HGR := HG9
        have HKX := HK9
        have HPL := HP9
        clear HB9 HG9 HK9 HP9
        obtain ⟨⟨b0, b1, b2, b3, b4, b5, b6, b7, b8, b9, b10⟩, bf7, bf8, bf9⟩ := Zq HBX.out
        have hO := HGR.out
        obtain ⟨hr1, hk1⟩ := Yh w5 gr #[.int .i64 kk, .slice la ll lc, .string nm, .int .i64 j0, .int .i64 j1, .int .i64 j2, .string dt, .int .i64 (k : Int), .int .i64 (cc : Int), .string ⟨#[]⟩, .bool bg] _ 66 hO rfl
        have HB7 := Za hr1
        have HK7 := Za (HKX.out.step hk1 (fun i hi e => by have := HXW.out; omega))
        clear hr1 hk1
        go_wp2_with (refine wpList_store_row rfl 66 _ _ rfl gr #[.int .i64 kk, .slice la ll lc, .string nm, .int .i64 j0, .int .i64 j1, .int .i64 j2, .string dt, .int .i64 (k : Int), .int .i64 (cc : Int), .string ⟨#[]⟩, .bool bg] rfl rfl 66 _ hO Zp rfl (Ys ⟨kk, .slice la ll lc, nm, j0, j1, j2, dt, (k : Int), (cc : Int), ⟨#[]⟩, bg⟩ la ll lc rfl) ?_)
        all_goals
         refine bodyPost_ret (v := .tuple #[.agg #[.int .i64 kk, .slice la ll lc, .string nm, .int .i64 j0, .int .i64 j1, .int .i64 j2, .string dt, .int .i64 (k : Int), .int .i64 (cc : Int), .string ⟨#[]⟩, .bool bg], .bool true]) ?_ rfl ⟨(k : Int), (cc : Int), ⟨#[]⟩, true, rfl, HK7.out, .inl ⟨rfl, HE.out⟩⟩
         exact Zh (by rfl) _ _ ⟨gr, 0, none⟩ _ _ (by rfl) (by rfl) (run_loadVar_row _ gr 66 66 _ (0, 0) _ HB7.out Tryz.underlying66 rfl Zp)
      ·rw [if_neg h5] at HQE
       have h5' : ((kd : Int) == 5) = false := by simp; omega
       clear HPR
       have hb9 := Zf _ _ 9 _ _ _ HBX.out (.string qs)
       have hk9 := Zg w4 gx 9 (.string qs)
       have HB9 : Hid ((w4.setCell ⟨gx, 9, none⟩ (.string qs)).heap[gx]? = some (.cells #[.int .i64 kk, .slice la ll lc, .string nm, .int .i64 j0, .int .i64 j1, .int .i64 j2, .string dt, .int .i64 (k : Int), .int .i64 0, .string qs, .bool bg] 66 (0, 0))) := hb9
       have HG9 := Za (Zc hk9 HGR.out (fun e => HNE.out e))
       have HK9 := Za (HKX.out.step hk9 (fun i hi e => by have := HXW.out; omega))
       have HP9 := Za (HPL.out.kept hk9 (fun e => HGX.out e))
       go_upto_region 24 with fail
       clear b0 b1 b2 b3 b4 b5 b6 b7 b8 b9 b10 bf7 bf8 bf9 q0 q1 q2
       generalize w4.setCell ⟨gx, 9, none⟩ (.string qs) = w5 at *
       clear hb9 hk9 HBX HGR HKX HPL
       have HBX := HB9
       have HGR := HG9
       have HKX := HK9
       have HPL := HP9
       clear HB9 HG9 HK9 HP9
       by_cases h3 : kd = 3
       ·have HE : Hid (F = some ((k : Int), 0, qs)) := by show F = _; rw [HQE.out, if_pos (.inl h3)]
        subst h3
        clear HQE h5 h5'
        obtain ⟨⟨b0, b1, b2, b3, b4, b5, b6, b7, b8, b9, b10⟩, bf7, bf8, bf9⟩ := Zq HBX.out
        have hO := HGR.out
        obtain ⟨hr1, hk1⟩ := Yh w5 gr #[.int .i64 kk, .slice la ll lc, .string nm, .int .i64 j0, .int .i64 j1, .int .i64 j2, .string dt, .int .i64 (k : Int), .int .i64 0, .string qs, .bool bg] _ 66 hO rfl
        have HB7 := Za hr1
        have HK7 := Za (HKX.out.step hk1 (fun i hi e => by have := HXW.out; omega))
        clear hr1 hk1
        go_wp2_with (refine wpList_store_row rfl 66 _ _ rfl gr #[.int .i64 kk, .slice la ll lc, .string nm, .int .i64 j0, .int .i64 j1, .int .i64 j2, .string dt, .int .i64 (k : Int), .int .i64 0, .string qs, .bool bg] rfl rfl 66 _ hO Zp rfl (Ys ⟨kk, .slice la ll lc, nm, j0, j1, j2, dt, (k : Int), 0, qs, bg⟩ la ll lc rfl) ?_)
        all_goals
         refine bodyPost_ret (v := .tuple #[.agg #[.int .i64 kk, .slice la ll lc, .string nm, .int .i64 j0, .int .i64 j1, .int .i64 j2, .string dt, .int .i64 (k : Int), .int .i64 0, .string qs, .bool bg], .bool true]) ?_ rfl ⟨(k : Int), 0, qs, true, rfl, HK7.out, .inl ⟨rfl, HE.out⟩⟩
         exact Zh (by rfl) _ _ ⟨gr, 0, none⟩ _ _ (by rfl) (by rfl) (run_loadVar_row _ gr 66 66 _ (0, 0) _ HB7.out Tryz.underlying66 rfl Zp)
       have h3' : ((kd : Int) == 3) = false := by simp; omega
       by_cases h4 : kd = 4
       ·have HE : Hid (F = some ((k : Int), 0, qs)) := by show F = _; rw [HQE.out, if_pos (.inr h4)]
        subst h4
        clear HQE h5 h5' h3 h3'
        obtain ⟨⟨b0, b1, b2, b3, b4, b5, b6, b7, b8, b9, b10⟩, bf7, bf8, bf9⟩ := Zq HBX.out
        have hO := HGR.out
        obtain ⟨hr1, hk1⟩ := Yh w5 gr #[.int .i64 kk, .slice la ll lc, .string nm, .int .i64 j0, .int .i64 j1, .int .i64 j2, .string dt, .int .i64 (k : Int), .int .i64 0, .string qs, .bool bg] _ 66 hO rfl
        have HB7 := Za hr1
        have HK7 := Za (HKX.out.step hk1 (fun i hi e => by have := HXW.out; omega))
        clear hr1 hk1
        go_wp2_with (refine wpList_store_row rfl 66 _ _ rfl gr #[.int .i64 kk, .slice la ll lc, .string nm, .int .i64 j0, .int .i64 j1, .int .i64 j2, .string dt, .int .i64 (k : Int), .int .i64 0, .string qs, .bool bg] rfl rfl 66 _ hO Zp rfl (Ys ⟨kk, .slice la ll lc, nm, j0, j1, j2, dt, (k : Int), 0, qs, bg⟩ la ll lc rfl) ?_)
        all_goals
         refine bodyPost_ret (v := .tuple #[.agg #[.int .i64 kk, .slice la ll lc, .string nm, .int .i64 j0, .int .i64 j1, .int .i64 j2, .string dt, .int .i64 (k : Int), .int .i64 0, .string qs, .bool bg], .bool true]) ?_ rfl ⟨(k : Int), 0, qs, true, rfl, HK7.out, .inl ⟨rfl, HE.out⟩⟩
         exact Zh (by rfl) _ _ ⟨gr, 0, none⟩ _ _ (by rfl) (by rfl) (run_loadVar_row _ gr 66 66 _ (0, 0) _ HB7.out Tryz.underlying66 rfl Zp)
       have h4' : ((kd : Int) == 4) = false := by simp; omega
       have HE : Hid (F = none) := by show F = _; rw [HQE.out, if_neg (by omega)]
       clear HQE h5 h3 h4
       obtain ⟨⟨b0, b1, b2, b3, b4, b5, b6, b7, b8, b9, b10⟩, bf7, bf8, bf9⟩ := Zq HBX.out
       have hO := HGR.out
       obtain ⟨hr1, hk1⟩ := Yh w5 gr #[.int .i64 kk, .slice la ll lc, .string nm, .int .i64 j0, .int .i64 j1, .int .i64 j2, .string dt, .int .i64 (k : Int), .int .i64 0, .string qs, .bool bg] _ 66 hO rfl
       have HB7 := Za hr1
       have HK7 := Za (HKX.out.step hk1 (fun i hi e => by have := HXW.out; omega))
       clear hr1 hk1
       go_wp2_with (refine wpList_store_row rfl 66 _ _ rfl gr #[.int .i64 kk, .slice la ll lc, .string nm, .int .i64 j0, .int .i64 j1, .int .i64 j2, .string dt, .int .i64 (k : Int), .int .i64 0, .string qs, .bool bg] rfl rfl 66 _ hO Zp rfl (Ys ⟨kk, .slice la ll lc, nm, j0, j1, j2, dt, (k : Int), 0, qs, bg⟩ la ll lc rfl) ?_)
       all_goals
        refine bodyPost_ret (v := .tuple #[.agg #[.int .i64 kk, .slice la ll lc, .string nm, .int .i64 j0, .int .i64 j1, .int .i64 j2, .string dt, .int .i64 (k : Int), .int .i64 0, .string qs, .bool bg], .bool false]) ?_ rfl ⟨(k : Int), 0, qs, false, rfl, HK7.out, .inr ⟨rfl, HE.out⟩⟩
        exact Zh (by rfl) _ _ ⟨gr, 0, none⟩ _ _ (by rfl) (by rfl) (run_loadVar_row _ gr 66 66 _ (0, 0) _ HB7.out Tryz.underlying66 rfl Zp)
     ·rw [if_neg hq1] at HQE
      have hq1' : (qk != 1) = true := by simp; exact hq1
      have HE : Hid (F = none) := HQE.out
      clear HQE hq1 hq2 HPR b0 b1 b2 b3 b4 b5 b6 b7 b8 b9 b10 bf7 bf8 bf9
      obtain ⟨⟨b0, b1, b2, b3, b4, b5, b6, b7, b8, b9, b10⟩, bf7, bf8, bf9⟩ := Zq HBX.out
      have hO := HGR.out
      obtain ⟨hr1, hk1⟩ := Yh w4 gr #[.int .i64 kk, .slice la ll lc, .string nm, .int .i64 j0, .int .i64 j1, .int .i64 j2, .string dt, .int .i64 (k : Int), .int .i64 0, .string ⟨#[]⟩, .bool bg] _ 66 hO rfl
      have HB7 := Za hr1
      have HK7 := Za (HKX.out.step hk1 (fun i hi e => by have := HXW.out; omega))
      clear hr1 hk1
      go_wp2_with (refine wpList_store_row rfl 66 _ _ rfl gr #[.int .i64 kk, .slice la ll lc, .string nm, .int .i64 j0, .int .i64 j1, .int .i64 j2, .string dt, .int .i64 (k : Int), .int .i64 0, .string ⟨#[]⟩, .bool bg] rfl rfl 66 _ hO Zp rfl (Ys ⟨kk, .slice la ll lc, nm, j0, j1, j2, dt, (k : Int), 0, ⟨#[]⟩, bg⟩ la ll lc rfl) ?_)
      all_goals
       refine bodyPost_ret (v := .tuple #[.agg #[.int .i64 kk, .slice la ll lc, .string nm, .int .i64 j0, .int .i64 j1, .int .i64 j2, .string dt, .int .i64 (k : Int), .int .i64 0, .string ⟨#[]⟩, .bool bg], .bool false]) ?_ rfl ⟨(k : Int), 0, ⟨#[]⟩, false, rfl, HK7.out, .inr ⟨rfl, HE.out⟩⟩
       exact Zh (by rfl) _ _ ⟨gr, 0, none⟩ _ _ (by rfl) (by rfl) (run_loadVar_row _ gr 66 66 _ (0, 0) _ HB7.out Tryz.underlying66 rfl Zp)
    ·have HE : Hid (F = none) := by
      show F = none
      have := HIE.out
      match l, hl1 with
      | [], _ => rw [Zb5, if_neg hkz] at this; exact this
      | q :: q' :: r, _ => rw [Zb5, if_neg hkz, if_neg (by simp)] at this; exact this
     have hz : ((n1 : Int) != 1) = true := by have := HN1.out; simp; omega
     clear HIE hl1 hkz HPR
     obtain ⟨⟨b0, b1, b2, b3, b4, b5, b6, b7, b8, b9, b10⟩, bf7, bf8, bf9⟩ := Zq HBX.out
     have hO := HGR.out
     obtain ⟨hr1, hk1⟩ := Yh w4 gr #[.int .i64 kk, .slice la ll lc, .string nm, .int .i64 j0, .int .i64 j1, .int .i64 j2, .string dt, .int .i64 (k : Int), .int .i64 0, .string ⟨#[]⟩, .bool bg] _ 66 hO rfl
     have HB7 := Za hr1
     have HK7 := Za (HKX.out.step hk1 (fun i hi e => by have := HXW.out; omega))
     clear hr1 hk1
     go_wp2_with (refine wpList_store_row rfl 66 _ _ rfl gr #[.int .i64 kk, .slice la ll lc, .string nm, .int .i64 j0, .int .i64 j1, .int .i64 j2, .string dt, .int .i64 (k : Int), .int .i64 0, .string ⟨#[]⟩, .bool bg] rfl rfl 66 _ hO Zp rfl (Ys ⟨kk, .slice la ll lc, nm, j0, j1, j2, dt, (k : Int), 0, ⟨#[]⟩, bg⟩ la ll lc rfl) ?_)
     all_goals
      refine bodyPost_ret (v := .tuple #[.agg #[.int .i64 kk, .slice la ll lc, .string nm, .int .i64 j0, .int .i64 j1, .int .i64 j2, .string dt, .int .i64 (k : Int), .int .i64 0, .string ⟨#[]⟩, .bool bg], .bool false]) ?_ rfl ⟨(k : Int), 0, ⟨#[]⟩, false, rfl, HK7.out, .inr ⟨rfl, HE.out⟩⟩
      exact Zh (by rfl) _ _ ⟨gr, 0, none⟩ _ _ (by rfl) (by rfl) (run_loadVar_row _ gr 66 66 _ (0, 0) _ HB7.out Tryz.underlying66 rfl Zp)
   ·have HE : Hid (F = none) := by show F = none; rw [HIE.out, if_neg hk1]
    have hk1' : (pk != 1) = true := by simp; exact hk1
    clear HIE hk1
    go_wp2_with fail
    refine HNM.out.mono ?_
    rintro e w4 ⟨rfl, hw⟩
    have hw := hw.symm
    subst hw
    obtain ⟨⟨b0, b1, b2, b3, b4, b5, b6, b7, b8, b9, b10⟩, bf7, bf8, bf9⟩ := Zq HBX.out
    have hO := HGR.out
    obtain ⟨hr1, hk1⟩ := Yh w3 gr #[.int .i64 kk, .slice la ll lc, .string nm, .int .i64 j0, .int .i64 j1, .int .i64 j2, .string dt, .int .i64 (-1), .int .i64 0, .string ⟨#[]⟩, .bool bg] _ 66 hO rfl
    have HB7 := Za hr1
    have HK7 := Za (HKX.out.step hk1 (fun i hi e => by have := HXW.out; omega))
    clear hr1 hk1
    go_wp2_with (refine wpList_store_row rfl 66 _ _ rfl gr #[.int .i64 kk, .slice la ll lc, .string nm, .int .i64 j0, .int .i64 j1, .int .i64 j2, .string dt, .int .i64 (-1), .int .i64 0, .string ⟨#[]⟩, .bool bg] rfl rfl 66 _ hO Zp rfl (Ys ⟨kk, .slice la ll lc, nm, j0, j1, j2, dt, (-1), 0, ⟨#[]⟩, bg⟩ la ll lc rfl) ?_)
    all_goals
     refine bodyPost_ret (v := .tuple #[.agg #[.int .i64 kk, .slice la ll lc, .string nm, .int .i64 j0, .int .i64 j1, .int .i64 j2, .string dt, .int .i64 (-1), .int .i64 0, .string ⟨#[]⟩, .bool bg], .bool false]) ?_ rfl ⟨(-1), 0, ⟨#[]⟩, false, rfl, HK7.out, .inr ⟨rfl, HE.out⟩⟩
     exact Zh (by rfl) _ _ ⟨gr, 0, none⟩ _ _ (by rfl) (by rfl) (run_loadVar_row _ gr 66 66 _ (0, 0) _ HB7.out Tryz.underlying66 rfl Zp)
end Go.Proofs.YtgoabnehdmdikaaGreatDoor
