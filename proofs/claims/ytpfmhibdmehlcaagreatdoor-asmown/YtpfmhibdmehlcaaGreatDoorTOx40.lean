import Derived.Test.YtpfmhibdmehlcaaGreatDoorTOx36
import Derived.Test.YtpfmhibdmehlcaaGreatDoorTOx39
namespace Go.Proofs.YtpfmhibdmehlcaaGreatDoor
open Go.ChangeShapes Go.WideShapes Go.ChangeAt Go.RowKit Go.Deep
set_option linter.unusedVariables false
set_option linter.unusedSimpArgs false
set_option maxRecDepth 100000
theorem Tryz.info25h : (Tryz.prog.info? 25).map (fun i => (i.zero, i.size, i.bytes)) = some (some (.agg #[.int .i64 0, .slice none 0 0, .slice none 0 0]), 3, 56) := by kernel_rfl
theorem BkI.stepS {w0 w w' : World} {gp gq lo : Nat} {c1 c2 : Array Value} {p q : PG} {S : Nat → Prop} (h : BkI w0 w gp gq c1 c2 p q) (hk : Kept S w w') (hS : ∀ k, S k → lo ≤ k) (h0 : w0.heap.size ≤ lo) (h1 : gp < lo) (h2 : gq < lo) : BkI w0 w' gp gq c1 c2 p q :=
 ⟨box_kept hk h.x1 (fun f => by have := hS _ f; omega), box_kept hk h.x2 (fun f => by have := hS _ f; omega), h.p1.kept hk (fun k hk f => by have := hS _ f; omega), h.p2.kept hk (fun k hk f => by have := hS _ f; omega), h.k.step hk (fun k hk f => by have := hS _ f; omega), Nat.le_trans h.lo hk.size⟩
theorem Apt.ch {w w' : World} {S : Nat → Prop} {t : TypeId} {ps : List PO} (h : Apt w ps) (hk : Kept S w w') (hc : Ch w S t) (h1 : t ≠ 5) (h2 : t ≠ 51) (h3 : t ≠ 48) : Apt w' ps := ⟨h.dat.ch hk hc h1, h.fns.ch hk hc h2, h.cod.ch hk hc h3, h.fit⟩
theorem nine_one (a b c : Int) (d1 e1 : Option Addr) (d2 d3 e2 e3 : Nat) (f1 g1 : Option Addr) (f2 f3 g2 g3 : Nat) (h1 i1 : Option Addr) (h2 h3 i2 i3 : Nat) : ∀ u ∈ ([.int .i64 a, .slice d1 d2 d3, .slice e1 e2 e3, .int .i64 b, .slice f1 f2 f3, .slice g1 g2 g3, .int .i64 c, .slice h1 h2 h3, .slice i1 i2 i3] : List Value), u.oneCell' = true := by
 intro u hu
 simp only [List.mem_cons, List.not_mem_nil, or_false] at hu
 rcases hu with rfl | rfl | rfl | rfl | rfl | rfl | rfl | rfl | rfl <;> rfl
theorem checkP_of {p : PG} (h : printE p = 0) : checkP p = 0 := by
 rcases printE_cases p with ⟨hc, _⟩ | ⟨hc, _⟩ | ⟨hc, hx, hx2, hx0⟩
 ·exact hc
 ·exact hc
 ·exact absurd h hx0
theorem nqSt (s : ByteArray) (w : World) : (binOp .neq 9 (.string s) (.string s)).run Tryz.prog w = .ok (.bool false) w := by
 go_simp
structure MineI (w0 wr : World) (gm gd gl cg : Nat) (cgs : List Nat) (mp : Int) (nd n1 nc : Nat) (x : PG) : Prop where
 lent : LentP wr gd gl cgs x (x.fns.length + 7)
 box : wr.heap[gm]? = some (.cells #[.int .i64 mp, .slice (some ⟨gd, 0, none⟩) nd (nd + 67), .slice (some ⟨gl, 0, none⟩) (n1 + 1) (n1 + 1 + 7)] 25 (0, 0))
 ok : x.Ok
 mem : x.mem = mp
 data : x.data.length = nd
 fns : x.fns.length = n1 + 1
 last : ∃ f, x.fns[n1]? = some f ∧ f.code.length = nc + 1
 hcg : cgs[n1]? = some cg
 lo : w0.heap.size ≤ gd
 hgm : gm ≠ cg
 k : Kept (fun _ => False) w0 wr
theorem MineI.same {w0 wr w' : World} {gm gd gl cg : Nat} {cgs : List Nat} {mp : Int} {nd n1 nc : Nat} {x : PG} (h : MineI w0 wr gm gd gl cg cgs mp nd n1 nc x) (hk : Kept (fun _ => False) wr w') : MineI w0 w' gm gd gl cg cgs mp nd n1 nc x :=
 ⟨h.lent.kept hk id (fun _ _ f => f), box_kept hk h.box id, h.ok, h.mem, h.data, h.fns, h.last, h.hcg, h.lo, h.hgm, h.k.trans hk⟩
theorem MineI.pg {w0 wr : World} {gm gd gl cg : Nat} {cgs : List Nat} {mp : Int} {nd n1 nc : Nat} {x : PG} (h : MineI w0 wr gm gd gl cg cgs mp nd n1 nc x) : PgIs wr wr.heap.size (.agg #[.int .i64 mp, .slice (some ⟨gd, 0, none⟩) nd (nd + 67), .slice (some ⟨gl, 0, none⟩) (n1 + 1) (n1 + 1 + 7)]) x := by
 have := h.lent.pg
 unfold lentV at this
 rw [h.mem, h.data, h.fns] at this
 exact this
theorem MineI.put {w0 wr : World} {gm gd gl cg : Nat} {cgs : List Nat} {mp : Int} {nd n1 nc : Nat} {x : PG} (h : MineI w0 wr gm gd gl cg cgs mp nd n1 nc x) (y : IN) (hy : y.Ok) : ∃ x', MineI w0 (wr.setCells cg (nc * 2) y.cells) gm gd gl cg cgs mp nd n1 nc x' := by
 obtain ⟨f, hf, hfl⟩ := h.last
 have hk := kept_setCells cg y.cells (nc * 2) wr
 have hcl := h.lent.lo cg (List.mem_of_getElem? h.hcg)
 have hdl := h.lent.dl
 refine ⟨x.put n1 f nc y, h.lent.put hf (by omega) h.hcg y, box_kept hk h.box h.hgm, PG.put_ok h.ok hf _ _ hy, h.mem, h.data, by rw [PG.put_len]; exact h.fns, ⟨_, PG.put_at hf _ _, by simp only [List.length_set]; exact hfl⟩, h.hcg, h.lo, h.hgm, h.k.step hk (fun q hq e => ?_)⟩
 have e' : q = cg := e
 have := h.lo
 omega
theorem MineI.cells {w0 wr : World} {gm gd gl cg : Nat} {cgs : List Nat} {mp : Int} {nd n1 nc : Nat} {x : PG} (h : MineI w0 wr gm gd gl cg cgs mp nd n1 nc x) : wr.cell? ⟨gl, n1 * 4 + 3, none⟩ = some (.slice (some ⟨cg, 0, none⟩) (nc + 1) (nc + 1 + 67)) ∧ wr.there cg (nc * 2) 2 ∧ gl ≠ cg := by
 obtain ⟨f, hf, hfl⟩ := h.last
 have hcl := h.lent.lo cg (List.mem_of_getElem? h.hcg)
 have h1 := h.lent.fns.ents n1 f cg (by have := h.fns; omega) hf h.hcg 3 _ rfl
 rw [hfl] at h1
 refine ⟨h1, there_sub (h.lent.code n1 f cg hf h.hcg).there (by rw [hfl]; omega), by omega⟩
set_option maxHeartbeats 32000000 in
theorem own_walk (vp vq : Value) (p q : PG) (w : World) (hG : Gs w) (hp : PgIs w w.heap.size vp p) (hq : PgIs w w.heap.size vq q) (op : p.Ok) (oq : q.Ok) :
  Calls Tryz.prog 6 #[vp, vq] w fun e w' => e = .returned (.bool true) ∧ Kept (fun _ => False) w w' := by
 obtain ⟨i25, hi25, z250, z251, z252⟩ := info_parts Tryz.info25h
 obtain ⟨pm, pda, pdn, pdc, pfa, pfn, pfc, rfl⟩ := pg_shapeK hp
 obtain ⟨qm, qda, qdn, qdc, qfa, qfn, qfc, rfl⟩ := pg_shapeK hq
 obtain ⟨W1, hW1⟩ := nmd ((w.alloc (.cells #[.int .i64 pm, .slice pda pdn pdc, .slice pfa pfn pfc] 25)).alloc (.cells #[.int .i64 qm, .slice qda qdn qdc, .slice qfa qfn qfc] 25))
 obtain ⟨k1, x1, x2⟩ := allocs2 _ _ _ _ _ _ hW1
 have HKN := hid_of (known_all W1 (hG.same k1))
 have HB1 := hid_of (BkI.mk x1 x2 (hp.kept k1 (fun _ _ f => f)) (hq.kept k1 (fun _ _ f => f)) k1 k1.size)
 have HG := hid_of hG
 have HOP := hid_of op
 have HOQ := hid_of oq
 clear k1 x1 x2 hp hq hG op oq
 go_enter Tryz.func6, Tryz.ntmps6
 go_upto_region 1 with fail
 rw [← hW1]
 clear hW1
 generalize w.heap.size + 1 = gq at *
 generalize w.heap.size = gp at *
 go_wp2_with fail
 refine HKN.out.mono ?_
 rintro e w2 ⟨rfl, hk2⟩
 have HB2 := hid_of (HB1.out.step hk2)
 clear hk2 HKN HB1
 obtain ⟨pe, hpe⟩ := nmd (printE p)
 obtain ⟨ps, hps⟩ := nmd (printS p)
 have hpr := print_any _ p _ w2 ((HG.out.same HB2.out.k).gl) HB2.out.p1 HB2.out.lo HOP.out
 rw [← hpe, ← hps] at hpr
 have HPR := hid_of hpr
 have HPE := hid_of hpe
 have HPS := hid_of hps
 clear hpr hpe hps
 obtain ⟨a0, a1, a2, _⟩ := look3 HB2.out.x1
 go_wp2_with fail
 refine HPR.out.mono ?_
 rintro e w3 ⟨rfl, hk3⟩
 have HB3 := hid_of (HB2.out.step hk3)
 clear hk3 HPR HB2 a0 a1 a2
 obtain ⟨qe, hqe⟩ := nmd (printE q)
 obtain ⟨qs, hqs⟩ := nmd (printS q)
 have hpr := print_any _ q _ w3 ((HG.out.same HB3.out.k).gl) HB3.out.p2 HB3.out.lo HOQ.out
 rw [← hqe, ← hqs] at hpr
 have HPR := hid_of hpr
 have HQE := hid_of hqe
 have HQS := hid_of hqs
 clear hpr hqe hqs
 obtain ⟨a0, a1, a2, _⟩ := look3 HB3.out.x2
 go_wp2_with fail
 refine HPR.out.mono ?_
 rintro e w4 ⟨rfl, hk4⟩
 have HB := hid_of (HB3.out.step hk4)
 clear hk4 HPR HB3 a0 a1 a2
 have HGP : Hid (w.heap.size ≤ w4.heap.size ∧ gp < w4.heap.size ∧ gq < w4.heap.size) := by
  have h1 := (Array.getElem?_eq_some_iff.1 HB.out.x1).1
  have h2 := (Array.getElem?_eq_some_iff.1 HB.out.x2).1
  exact ⟨HB.out.k.size, h1, h2⟩
 by_cases hpe0 : pe = 0
 ·subst hpe0
  have HPZ : Hid (printE p = 0) := HPE.out.symm
  by_cases hqe0 : qe = 0
  ·subst hqe0
   have HQZ : Hid (printE q = 0) := HQE.out.symm
   clear HPE HQE
   obtain ⟨lo, hlo⟩ := nmd (w4.heap.size)
   rw [← hlo] at HGP
   have HLO : Hid (lo ≤ w4.heap.size) := by unfold Hid; omega
   clear hlo
   go_wp2_with fail
   go_loopw [9, 10] (fun av i wr => ∃ (k : Nat) (xs : List PO) (an : Nat) (ao : Option Addr) (ac : Nat), k ≤ 2 ∧ i = .int .i64 (k : Int) ∧ av = .slice ao an ac ∧ Hid (an = 3 * k ∧ xs.length = an ∧ (∀ q, PBO xs q → lo ≤ q) ∧ lo ≤ wr.heap.size) ∧ Hid (BkI w wr gp gq #[.int .i64 pm, .slice pda pdn pdc, .slice pfa pfn pfc] #[.int .i64 qm, .slice qda qdn qdc, .slice qfa qfn qfc] p q) ∧ Hid (Apt wr xs) ∧ Hid (wr.ownsRow lo 25 3 av an (xs.flatMap PO.cells))) (fun _ i _ => 2 - (intOf i).toNat)
   case atStart => exact ⟨0, [], 0, none, 0, by omega, rfl, rfl, ⟨rfl, rfl, fun q hq => by rcases hq with ⟨i, hi, _⟩ | ⟨i, hi, _⟩ | ⟨i, hi, _⟩ <;> simp [dlO, flO, clO] at hi, HLO.out⟩, HB, Apt.nil _, World.ownsRow_nil _ _ _ _⟩
   case round =>
    clear HB HLO
    obtain ⟨k, xs, an, ao, ac, hk, rfl, rfl, HA, HB, HAP, HR⟩ := hrel
    by_cases hlt : k < 2
    ·have hltI : (k : Int) < 2 := by omega
     have hx1 := parse_new p wr (HG.out.same HB.out.k) HPZ.out HOP.out
     rw [← HPS.out] at hx1
     have HX1 := hid_of hx1
     clear hx1
     go_wp2_with fail
     refine HX1.out.mono ?_
     rintro e w5 ⟨hk5, x, xm, xda, xdn, xdc, xfa, xfn, xfc, hxc, rfl, hpx, hax, hxl⟩
     have hkc : Kept (fun _ => False) w5 (w5.alloc (.cells #[.int .i64 xm, .slice xda xdn xdc, .slice xfa xfn xfc] 25)) := (Kept.refl _ _).alloc _
     have HBXx := hid_of (heap_alloc_new w5 (.cells #[.int .i64 xm, .slice xda xdn xdc, .slice xfa xfn xfc] 25))
     have HCUx : Hid (Kept (fun _ => False) wr (w5.alloc (.cells #[.int .i64 xm, .slice xda xdn xdc, .slice xfa xfn xfc] 25))) := hk5.trans hkc
     have HPGx := hid_of (hpx.kept hkc (fun _ _ f => f))
     have HAXx := hid_of (hax.same hkc)
     have HLXx := hid_of hxl
     have HXCx := hid_of hxc
     clear hkc hpx hax hxl hxc hk5
     go_upto_region 12 with fail
     generalize w5.alloc (.cells #[.int .i64 xm, .slice xda xdn xdc, .slice xfa xfn xfc] 25) = w6 at *
     generalize w5.heap.size = gx at *
     have hx1 := parse_new p w6 ((HG.out.same HB.out.k).same HCUx.out) HPZ.out HOP.out
     rw [← HPS.out] at hx1
     have HX2 := hid_of hx1
     clear hx1 HX1
     go_wp2_with fail
     refine HX2.out.mono ?_
     rintro e w7 ⟨hk7, y, ym, yda, ydn, ydc, yfa, yfn, yfc, hxc, rfl, hpx, hax, hxl⟩
     have hkc : Kept (fun _ => False) w7 (w7.alloc (.cells #[.int .i64 ym, .slice yda ydn ydc, .slice yfa yfn yfc] 25)) := (Kept.refl _ _).alloc _
     have HBXy := hid_of (heap_alloc_new w7 (.cells #[.int .i64 ym, .slice yda ydn ydc, .slice yfa yfn yfc] 25))
     have HCUy : Hid (Kept (fun _ => False) w6 (w7.alloc (.cells #[.int .i64 ym, .slice yda ydn ydc, .slice yfa yfn yfc] 25))) := hk7.trans hkc
     have HPGy := hid_of (hpx.kept hkc (fun _ _ f => f))
     have HAXy := hid_of (hax.same hkc)
     have HLXy := hid_of hxl
     have HXCy := hid_of hxc
     clear hkc hpx hax hxl hxc hk7
     go_upto_region 13 with fail
     generalize w7.alloc (.cells #[.int .i64 ym, .slice yda ydn ydc, .slice yfa yfn yfc] 25) = w8 at *
     generalize w7.heap.size = gy at *
     have hx1 := parse_new q w8 (((HG.out.same HB.out.k).same HCUx.out).same HCUy.out) HQZ.out HOQ.out
     rw [← HQS.out] at hx1
     have HX3 := hid_of hx1
     clear hx1 HX2
     go_wp2_with fail
     refine HX3.out.mono ?_
     rintro e w9 ⟨hk9, z, zm, zda, zdn, zdc, zfa, zfn, zfc, hxc, rfl, hpx, hax, hxl⟩
     have hkc : Kept (fun _ => False) w9 (w9.alloc (.cells #[.int .i64 zm, .slice zda zdn zdc, .slice zfa zfn zfc] 25)) := (Kept.refl _ _).alloc _
     have HBXz := hid_of (heap_alloc_new w9 (.cells #[.int .i64 zm, .slice zda zdn zdc, .slice zfa zfn zfc] 25))
     have HCUz : Hid (Kept (fun _ => False) w8 (w9.alloc (.cells #[.int .i64 zm, .slice zda zdn zdc, .slice zfa zfn zfc] 25))) := hk9.trans hkc
     have HPGz := hid_of (hpx.kept hkc (fun _ _ f => f))
     have HAXz := hid_of (hax.same hkc)
     have HLXz := hid_of hxl
     have HXCz := hid_of hxc
     clear hkc hpx hax hxl hxc hk9
     go_upto_region 14 with fail
     generalize w9.alloc (.cells #[.int .i64 zm, .slice zda zdn zdc, .slice zfa zfn zfc] 25) = wa at *
     generalize w9.heap.size = gz at *
     clear HX3
     have HAP2 : Hid (Apt wa (xs ++ [x] ++ [y] ++ [z])) := by
      have k1 := HCUx.out
      have k2 := HCUy.out
      have k3 := HCUz.out
      have a1 : Apt w6 (xs ++ [x]) := (HAP.out.same k1).app HAXx.out (fun q hq => HAP.out.lt hq) HLXx.out
      have a2 : Apt w8 (xs ++ [x] ++ [y]) := (a1.same k2).app HAXy.out (fun q hq => a1.lt hq) HLXy.out
      exact (a2.same k3).app HAXz.out (fun q hq => a2.lt hq) HLXz.out
     have HLL : Hid (∀ q, PBO (xs ++ [x] ++ [y] ++ [z]) q → lo ≤ q) := fun q hq => by
      have h0 := HA.out.2.2.2
      have h1 := HCUx.out.size
      have h2 := HCUy.out.size
      rcases hq.app with hq | hq
      ·rcases hq.app with hq | hq
       ·rcases hq.app with hq | hq
        ·exact HA.out.2.2.1 q hq
        ·have := HLXx.out q hq; omega
       ·have := HLXy.out q hq; omega
      ·have := HLXz.out q hq; omega
     have HKA := hid_of ((HCUx.out.trans HCUy.out).trans HCUz.out)
     have HBA := hid_of (HB.out.step HKA.out)
     have HRA := hid_of (HKA.out.ownsRow HR.out (fun _ _ f => f))
     have HXB := hid_of (box_kept (HCUy.out.trans HCUz.out) HBXx.out id)
     have HYB := hid_of (box_kept HCUz.out HBXy.out id)
     have HZB := hid_of HBXz.out
     have HS1 := hid_of (sameG _ _ p wa _ _ ((HPGx.out.kept HCUy.out (fun _ _ f => f)).kept HCUz.out (fun _ _ f => f)) HBA.out.p1 HOP.out)
     have HPY := hid_of (HPGy.out.kept HCUz.out (fun _ _ f => f))
     have HPZ2 := hid_of HPGz.out
     have HXC : Hid ([.int .i64 xm, .slice xda xdn xdc, .slice xfa xfn xfc, .int .i64 ym, .slice yda ydn ydc, .slice yfa yfn yfc, .int .i64 zm, .slice zda zdn zdc, .slice zfa zfn zfc] = x.cells ++ y.cells ++ z.cells) := by unfold Hid; rw [HXCx.out, HXCy.out, HXCz.out]; rfl
     clear HAXx HAXy HAXz HLXx HLXy HLXz HCUx HCUy HCUz HPGx HPGy HPGz HBXx HBXy HBXz HB HAP HR HXCx HXCy HXCz
     have hn1 := nnNil
     obtain ⟨a0, a1, a2, _⟩ := look3 HBA.out.x1
     obtain ⟨x0, x1, x2, _⟩ := look3 HXB.out
     go_wp2_with fail
     refine HS1.out.mono ?_
     rintro e wb ⟨rfl, hkb⟩
     have HBB := hid_of (HBA.out.step hkb)
     have HXB2 := hid_of (box_kept hkb HXB.out id)
     have HYB2 := hid_of (box_kept hkb HYB.out id)
     have HZB2 := hid_of (box_kept hkb HZB.out id)
     have HS2 := hid_of (sameG _ _ p wb _ _ (HPY.out.kept hkb (fun _ _ f => f)) HBB.out.p1 HOP.out)
     have HPZ3 := hid_of (HPZ2.out.kept hkb (fun _ _ f => f))
     have HKB := hid_of (HKA.out.trans hkb)
     have HWB := hid_of hkb
     clear hkb HBA HXB HYB HZB HS1 HPY HPZ2 HKA a0 a1 a2 x0 x1 x2
     obtain ⟨a0, a1, a2, _⟩ := look3 HBB.out.x1
     obtain ⟨x0, x1, x2, _⟩ := look3 HYB2.out
     go_wp2_with fail
     refine HS2.out.mono ?_
     rintro e wc ⟨rfl, hkb⟩
     have HBC := hid_of (HBB.out.step hkb)
     have HXB3 := hid_of (box_kept hkb HXB2.out id)
     have HYB3 := hid_of (box_kept hkb HYB2.out id)
     have HZB3 := hid_of (box_kept hkb HZB2.out id)
     have HS3 := hid_of (sameG _ _ q wc _ _ (HPZ3.out.kept hkb (fun _ _ f => f)) HBC.out.p2 HOQ.out)
     have HKC := hid_of (HKB.out.trans hkb)
     have HWC := hid_of (HWB.out.trans hkb)
     clear hkb HBB HXB2 HYB2 HZB2 HS2 HPZ3 HKB a0 a1 a2 x0 x1 x2
     obtain ⟨a0, a1, a2, _⟩ := look3 HBC.out.x2
     obtain ⟨x0, x1, x2, _⟩ := look3 HZB3.out
     go_wp2_with fail
     refine HS3.out.mono ?_
     rintro e wd ⟨rfl, hkb⟩
     have HBD := hid_of (HBC.out.step hkb)
     have HXB4 := hid_of (box_kept hkb HXB3.out id)
     have HYB4 := hid_of (box_kept hkb HYB3.out id)
     have HZB4 := hid_of (box_kept hkb HZB3.out id)
     have HWD := hid_of (HWC.out.trans hkb)
     have HRD := hid_of (HWD.out.ownsRow HRA.out (fun _ _ f => f))
     have HAPD := hid_of (HAP2.out.same HWD.out)
     have HLD : Hid (lo ≤ wd.heap.size) := by
      have h1 := HA.out.2.2.2
      have h2 := (HKC.out.trans hkb).size
      unfold Hid; omega
     have HAN : Hid (an ≤ 3) := by have := HA.out.1; unfold Hid; omega
     clear hkb HBC HXB3 HYB3 HZB3 HS3 HKC HWC a0 a1 a2 x0 x1 x2 HRA HAP2 HWD
     obtain ⟨x0, x1, x2, _⟩ := look3 HXB4.out
     obtain ⟨y0, y1, y2, _⟩ := look3 HYB4.out
     obtain ⟨z0, z1, z2, _⟩ := look3 HZB4.out
     go_wp2_with (at_builtin; refine wpList_append_old _ rfl (.tmp 89) (.tmp 93) 44 rfl lo 25 i25 (.agg #[.int .i64 0, .slice none 0 0, .slice none 0 0]) 3 56 Tryz.underlying44 hi25 z250 z251 z252 rfl (by decide) _ an (xs.flatMap PO.cells) rfl (HRD.out.alloc _) ⟨_, 0, none⟩ 3 3 [.int .i64 xm, .slice xda xdn xdc, .slice xfa xfn xfc, .int .i64 ym, .slice yda ydn ydc, .slice yfa yfn yfc, .int .i64 zm, .slice zda zdn zdc, .slice zfa zfn zfc] rfl rfl (cell_row_newG _ [_, _, _, _, _, _, _, _, _] _) (nine_one _ _ _ _ _ _ _ _ _ _ _ _ _ _ _ _ _ _ _ _ _) (by have := HAN.out; unfold maxLen; omega) (by have := HAN.out; omega) (Nat.le_trans HLD.out ((Kept.refl (fun _ => False) wd).alloc _).size) ?_)
     intro av' we hown hgrow hat hold
     have hkA := kept_grown1 hgrow
     have HBE := hid_of (HBD.out.stepS hkA (fun q hq => (HRD.out.lt q hq).1) HGP.out.1 HGP.out.2.1 HGP.out.2.2)
     have HAPE := hid_of (HAPD.out.ch hkA (own_is HRD.out) (by decide) (by decide) (by decide))
     have HRE : Hid (we.ownsRow lo 25 3 av' (an + 3) ((xs ++ [x] ++ [y] ++ [z]).flatMap PO.cells)) := by
      unfold Hid
      rw [List.flatMap_append, List.flatMap_append, List.flatMap_append]
      simp only [List.flatMap_cons, List.flatMap_nil, List.append_nil]
      rw [List.append_assoc, List.append_assoc, ← List.append_assoc x.cells, ← HXC.out]
      exact hown
     obtain ⟨an', han'⟩ := nmd (an + 3)
     rw [← han'] at HRE
     obtain ⟨ao', ac', hav⟩ := ownsRow_shape HRE.out
     subst hav
     have HA9 : Hid (an' = 3 * (k + 1) ∧ (xs ++ [x] ++ [y] ++ [z]).length = an' ∧ (∀ q, PBO (xs ++ [x] ++ [y] ++ [z]) q → lo ≤ q) ∧ lo ≤ we.heap.size) := by
      obtain ⟨h1, h2, h3, h4⟩ := HA.out
      have h5 := hkA.size
      have h6 := HLD.out
      exact ⟨by omega, by simp; omega, HLL.out, by omega⟩
     clear hown hgrow hat hold hkA han' x0 x1 x2 y0 y1 y2 z0 z1 z2 HXB4 HYB4 HZB4 HRD HAPD HBD HLD HAN HXC HLL HA
     go_wp2
     go_roundw
     case rel => exact ⟨k + 1, _, an', ao', ac', by omega, by go_num, rfl, HA9, HBE, HAPE, HRE⟩
     case measure => simp [intOf]; omega
    ·have hltI : ¬ ((k : Int) < 2) := by omega
     have HAN : Hid (an = 6) := by have := HA.out.1; unfold Hid; omega
     obtain ⟨g0, hg0⟩ : ∃ g, ao = some ⟨g, 0, none⟩ := by
      obtain ⟨g, c, e⟩ := own_at HR.out (by have := HAN.out; omega)
      simp only [Value.slice.injEq] at e
      exact ⟨g, e.1⟩
     subst hg0
     have HGR := hid_of (grown_some g0 ac an xs wr (by rw [HA.out.2.1]; exact own_mono HR.out (Nat.zero_le _)) HAP.out HA.out.2.1.symm (by have := HAN.out; omega) (by have := HAN.out; omega))
     go_wp2_with fail
     refine HGR.out.mono ?_
     rintro e w5 ⟨rfl, hk5⟩
     have HB5 := hid_of (HB.out.stepS hk5 (fun q hq => HA.out.2.2.1 q hq) HGP.out.1 HGP.out.2.1 HGP.out.2.2)
     have HL := hid_of (lend_p _ p w5 gp HB5.out.p1 HB5.out.lo HOP.out)
     clear HGR hk5 HB HAP HR HA HAN
     obtain ⟨a0, a1, a2, _⟩ := look3 HB5.out.x1
     obtain ⟨mp, hmp⟩ := nmd (p.mem)
     obtain ⟨nd, hnd⟩ := nmd (p.data.length)
     obtain ⟨n1, hn1⟩ : ∃ m, p.fns.length = m + 1 := ⟨p.fns.length - 1, by
      have h1 := checkP_fit (checkP_of HPZ.out)
      unfold badP at h1
      simp only [decide_eq_false_iff_not] at h1
      omega⟩
     obtain ⟨f, hf, hfl⟩ := last_code (checkP_of HPZ.out)
     rw [hn1, Nat.add_sub_cancel] at hf
     obtain ⟨nc, hnc⟩ : ∃ m, f.code.length = m + 1 := ⟨f.code.length - 1, by omega⟩
     have HMP := hid_of hmp
     have HND := hid_of hnd
     have HN1 := hid_of hn1
     have HF : Hid (p.fns[n1]? = some f ∧ f.code.length = nc + 1) := ⟨hf, hnc⟩
     clear hmp hnd hn1 hf hfl hnc
     go_wp2_with fail
     refine HL.out.mono ?_
     rintro e w6 ⟨gd, gl, cgs, rfl, hlent, hk6, hgd⟩
     unfold lentV
     rw [← HMP.out, ← HND.out, HN1.out]
     obtain ⟨cg, hcg⟩ : ∃ c, cgs[n1]? = some c := ⟨_, List.getElem?_eq_getElem (by rw [hlent.len, HN1.out]; omega)⟩
     have hkc : Kept (fun _ => False) w6 (w6.alloc (.cells #[.int .i64 mp, .slice (some ⟨gd, 0, none⟩) nd (nd + 67), .slice (some ⟨gl, 0, none⟩) (n1 + 1) (n1 + 1 + 7)] 25)) := (Kept.refl _ _).alloc _
     have HM0 : Hid (MineI w (w6.alloc (.cells #[.int .i64 mp, .slice (some ⟨gd, 0, none⟩) nd (nd + 67), .slice (some ⟨gl, 0, none⟩) (n1 + 1) (n1 + 1 + 7)] 25)) w6.heap.size gd gl cg cgs mp nd n1 nc p) :=
      ⟨hlent.kept hkc id (fun _ _ f => f), heap_alloc_new w6 _, HOP.out, HMP.out.symm, HND.out.symm, HN1.out, ⟨f, HF.out⟩, hcg, Nat.le_trans HB5.out.k.size hgd, fun e => by
       have := (hlent.code n1 f cg HF.out.1 hcg).lt
       omega, (HB5.out.k.trans hk6).trans hkc⟩
     clear hlent hk6 hgd hkc hcg HL HB5 a0 a1 a2 HF HN1 HMP HND HGP
     go_upto_region 20 with fail
     generalize w6.alloc (.cells #[.int .i64 mp, .slice (some ⟨gd, 0, none⟩) nd (nd + 67), .slice (some ⟨gl, 0, none⟩) (n1 + 1) (n1 + 1 + 7)] 25) = w7 at *
     generalize w6.heap.size = gm at *
     clear hk
     go_wp2_with fail
     go_loopw [18] (fun i wr => ∃ (k : Nat) (x : PG), k ≤ 3 ∧ i = .int .i64 (k : Int) ∧ Hid (MineI w wr gm gd gl cg cgs mp nd n1 nc x)) (fun i _ => 3 - (intOf i).toNat)
     case atStart => exact ⟨0, p, by omega, rfl, HM0⟩
     case round =>
      clear HM0
      obtain ⟨k, x, hk, rfl, HM⟩ := hrel
      by_cases hlt3 : k < 3
      ·have hltI : (k : Int) < 3 := by omega
       have hpr := print_any _ x _ wr ((HG.out.same HM.out.k).gl) HM.out.pg (Nat.le_refl _) HM.out.ok
       obtain ⟨xe, hxe⟩ := nmd (printE x)
       obtain ⟨xt, hxt⟩ := nmd (printS x)
       rw [← hxe, ← hxt] at hpr
       have HPR := hid_of hpr
       have HXE := hid_of hxe
       have HXT := hid_of hxt
       clear hpr hxe hxt
       obtain ⟨m0, m1, m2, _⟩ := look3 HM.out.box
       go_wp2_with fail
       refine HPR.out.mono ?_
       rintro e w2 ⟨rfl, hk2⟩
       have HM2 := hid_of (HM.out.same hk2)
       have HL := hid_of (lend_p _ x w2 _ HM2.out.pg (Nat.le_refl _) HM2.out.ok)
       clear hk2 HPR HM m0 m1 m2
       obtain ⟨m0, m1, m2, _⟩ := look3 HM2.out.box
       go_wp2_with fail
       refine HL.out.mono ?_
       rintro e w3 ⟨gd2, gl2, cgs2, rfl, hl3, hk3, _⟩
       have HM3 := hid_of (HM2.out.same hk3)
       have hpr := print_any _ x _ w3 ((HG.out.same HM3.out.k).gl) hl3.pg (Nat.le_refl _) HM3.out.ok
       rw [← HXE.out, ← HXT.out] at hpr
       have HPR2 := hid_of hpr
       clear hpr hl3 hk3 HM2 HL m0 m1 m2
       go_wp2_with fail
       refine HPR2.out.mono ?_
       rintro e w8 ⟨rfl, hk8⟩
       have HM8 := hid_of (HM3.out.same hk8)
       have hpr := print_any _ x _ w8 ((HG.out.same HM8.out.k).gl) HM8.out.pg (Nat.le_refl _) HM8.out.ok
       rw [← HXE.out, ← HXT.out] at hpr
       have HPR3 := hid_of hpr
       have hns := nqSt xt
       clear hpr hk8 HM3 HPR2
       obtain ⟨m0, m1, m2, _⟩ := look3 HM8.out.box
       go_wp2_with fail
       refine HPR3.out.mono ?_
       rintro e w9 ⟨rfl, hk9⟩
       have HM9 := hid_of (HM8.out.same hk9)
       clear hk9 HM8 HPR3 hns m0 m1 m2
       obtain ⟨m0, m1, m2, _⟩ := look3 HM9.out.box
       go_upto_region 29 with fail
       have hw1 : wrap64 (n1 : Int) = (n1 : Int) := by
        have h1 := HM9.out.ok.len
        rw [HM9.out.fns] at h1
        unfold wrap64; omega
       have hw2 : IntKind.i64.wrap (nc : Int) = (nc : Int) := by
        obtain ⟨f, hf, hfl⟩ := HM9.out.last
        have h1 := (HM9.out.ok.fns f (List.mem_of_getElem? hf)).len
        rw [hfl] at h1
        simp [IntKind.wrap, IntKind.bits, IntKind.signed]; omega
       have hn1I : (n1 : Int) < (n1 : Int) + 1 := by omega
       have hncI : (nc : Int) < (nc : Int) + 1 := by omega
       rw [hw1]
       obtain ⟨k3, hth, hne⟩ := HM9.out.cells
       have HS9 : Hid (w9.cell? ⟨gm, 2, none⟩ = some (.slice (some ⟨gl, 0, none⟩) (n1 + 1) (n1 + 1 + 7)) ∧ w9.cell? ⟨gl, n1 * 4 + 3, none⟩ = some (.slice (some ⟨cg, 0, none⟩) (nc + 1) (nc + 1 + 67)) ∧ gm ≠ cg ∧ gl ≠ cg ∧ w9.there cg (nc * 2) 2) := ⟨m2, k3, HM9.out.hgm, hne, hth⟩
       have hIok : IN.Ok ⟨3, (k : Int)⟩ := by
        refine ⟨⟨?_, ?_⟩, ?_, ?_⟩ <;> simp only [] <;> omega
       have HIOK := hid_of hIok
       clear k3 hth hne m0 m1 m2 hIok
       refine wp_region_held_drew (S := fun w' => Kept (fun q => q = cg) w9 w') (by kernel_rfl) ((Kept.refl _ _).drew) (fun hHeld => ?_)
       refine wpAnyH_take (i := 0) (v := ?_) rfl (by kernel_rfl) (by kernel_rfl) (by kernel_rfl) (fun _ _ _ h => h) (Or.inl ⟨by rfl, ?_⟩) (by assumption) ?_
       rotate_left 1
       ·intro w hSw
        go_simp
        try with_reducible rfl
       try simp only [Act.put, List.getElem_toArray, List.getElem_cons_zero, List.getElem_cons_succ, List.setIfInBounds_toArray, List.set_cons_zero, List.set_cons_succ]
       refine wpAnyH_take (i := 1) (v := ?_) rfl (by kernel_rfl) (by kernel_rfl) (by kernel_rfl) (fun _ _ _ h => h) (Or.inl ⟨by rfl, ?_⟩) (by assumption) ?_
       rotate_left 1
       ·intro w hSw
        have q2 := hSw.cell HS9.out.1 (show ¬ gm = cg from HS9.out.2.2.1)
        have q3 := hSw.cell HS9.out.2.1 (show ¬ gl = cg from HS9.out.2.2.2.1)
        go_simp
        try with_reducible rfl
       try simp only [Act.put, List.getElem_toArray, List.getElem_cons_zero, List.getElem_cons_succ, List.setIfInBounds_toArray, List.set_cons_zero, List.set_cons_succ]
       refine wpAnyH_take (i := 2) (v := ?_) rfl (by kernel_rfl) (by kernel_rfl) (by kernel_rfl) (fun _ _ _ h => h) (Or.inl ⟨by rfl, ?_⟩) (by assumption) ?_
       rotate_left 1
       ·intro w hSw
        go_simp
        try with_reducible rfl
       try simp only [Act.put, List.getElem_toArray, List.getElem_cons_zero, List.getElem_cons_succ, List.setIfInBounds_toArray, List.set_cons_zero, List.set_cons_succ]
       refine wpAnyH_take (i := 3) (v := ?_) rfl (by kernel_rfl) (by kernel_rfl) (by kernel_rfl) (fun _ _ _ h => h) (Or.inl ⟨by rfl, ?_⟩) (by assumption) ?_
       rotate_left 1
       ·intro w hSw
        go_simp
        try with_reducible rfl
       try simp only [Act.put, List.getElem_toArray, List.getElem_cons_zero, List.getElem_cons_succ, List.setIfInBounds_toArray, List.set_cons_zero, List.set_cons_succ]
       refine wpAnyH_take (i := 4) (v := ?_) rfl (by kernel_rfl) (by kernel_rfl) (by kernel_rfl) (fun _ _ _ h => h) (Or.inl ⟨by rfl, ?_⟩) (by assumption) ?_
       rotate_left 1
       ·intro w hSw
        go_simp
        try with_reducible rfl
       try simp only [Act.put, List.getElem_toArray, List.getElem_cons_zero, List.getElem_cons_succ, List.setIfInBounds_toArray, List.set_cons_zero, List.set_cons_succ]
       refine wpAnyH_take (i := 5) (v := ?_) rfl (by kernel_rfl) (by kernel_rfl) (by kernel_rfl) (fun _ _ _ h => h) (Or.inl ⟨by rfl, ?_⟩) (by assumption) ?_
       rotate_left 1
       ·intro w hSw
        have q2 := hSw.cell HS9.out.1 (show ¬ gm = cg from HS9.out.2.2.1)
        have q3 := hSw.cell HS9.out.2.1 (show ¬ gl = cg from HS9.out.2.2.2.1)
        go_simp
        try with_reducible rfl
       try simp only [Act.put, List.getElem_toArray, List.getElem_cons_zero, List.getElem_cons_succ, List.setIfInBounds_toArray, List.set_cons_zero, List.set_cons_succ]
       refine wpAnyH_take (i := 6) (v := ?_) rfl (by kernel_rfl) (by kernel_rfl) (by kernel_rfl) (fun _ _ _ h => h) (Or.inl ⟨by rfl, ?_⟩) (by assumption) ?_
       rotate_left 1
       ·intro w hSw
        go_simp
        try with_reducible rfl
       try simp only [Act.put, List.getElem_toArray, List.getElem_cons_zero, List.getElem_cons_succ, List.setIfInBounds_toArray, List.set_cons_zero, List.set_cons_succ]
       refine wpAnyH_take (i := 7) (v := ?_) rfl (by kernel_rfl) (by kernel_rfl) (by kernel_rfl) (fun _ _ _ h => h) (Or.inl ⟨by rfl, ?_⟩) (by assumption) ?_
       rotate_left 1
       ·intro w hSw
        have q2 := hSw.cell HS9.out.1 (show ¬ gm = cg from HS9.out.2.2.1)
        have q3 := hSw.cell HS9.out.2.1 (show ¬ gl = cg from HS9.out.2.2.2.1)
        go_simp
        try with_reducible rfl
       try simp only [Act.put, List.getElem_toArray, List.getElem_cons_zero, List.getElem_cons_succ, List.setIfInBounds_toArray, List.set_cons_zero, List.set_cons_succ]
       refine wpAnyH_take (i := 8) (v := ?_) rfl (by kernel_rfl) (by kernel_rfl) (by kernel_rfl) (fun _ _ _ h => h) (Or.inl ⟨by rfl, ?_⟩) (by assumption) ?_
       rotate_left 1
       ·intro w hSw
        go_simp
        try with_reducible rfl
       try simp only [Act.put, List.getElem_toArray, List.getElem_cons_zero, List.getElem_cons_succ, List.setIfInBounds_toArray, List.set_cons_zero, List.set_cons_succ]
       refine wpAnyH_take (i := 9) (v := ?_) rfl (by kernel_rfl) (by kernel_rfl) (by kernel_rfl) (fun _ _ _ h => h) (Or.inl ⟨by rfl, ?_⟩) (by assumption) ?_
       rotate_left 1
       ·intro w hSw
        go_simp
        try with_reducible rfl
       try simp only [Act.put, List.getElem_toArray, List.getElem_cons_zero, List.getElem_cons_succ, List.setIfInBounds_toArray, List.set_cons_zero, List.set_cons_succ]
       refine wpAnyH_take (i := 10) (v := ?_) rfl (by kernel_rfl) (by kernel_rfl) (by kernel_rfl) (fun _ _ _ h => h) (Or.inl ⟨by rfl, ?_⟩) (by assumption) ?_
       rotate_left 1
       ·intro w hSw
        go_simp
        try with_reducible rfl
       try simp only [Act.put, List.getElem_toArray, List.getElem_cons_zero, List.getElem_cons_succ, List.setIfInBounds_toArray, List.set_cons_zero, List.set_cons_succ]
       refine wpAnyH_take (i := 11) (v := ?_) rfl (by kernel_rfl) (by kernel_rfl) (by kernel_rfl) (fun _ _ _ h => h) (Or.inl ⟨by rfl, ?_⟩) (by assumption) ?_
       rotate_left 1
       ·intro w hSw
        have q2 := hSw.cell HS9.out.1 (show ¬ gm = cg from HS9.out.2.2.1)
        have q3 := hSw.cell HS9.out.2.1 (show ¬ gl = cg from HS9.out.2.2.2.1)
        go_simp
        try with_reducible rfl
       try simp only [Act.put, List.getElem_toArray, List.getElem_cons_zero, List.getElem_cons_succ, List.setIfInBounds_toArray, List.set_cons_zero, List.set_cons_succ]
       refine wpAnyH_take (i := 12) (v := ?_) rfl (by kernel_rfl) (by kernel_rfl) (by kernel_rfl) (fun _ _ _ h => h) (Or.inl ⟨by rfl, ?_⟩) (by assumption) ?_
       rotate_left 1
       ·intro w hSw
        go_simp
        try with_reducible rfl
       try simp only [Act.put, List.getElem_toArray, List.getElem_cons_zero, List.getElem_cons_succ, List.setIfInBounds_toArray, List.set_cons_zero, List.set_cons_succ]
       refine wpAnyH_take (i := 13) (v := ?_) rfl (by kernel_rfl) (by kernel_rfl) (by kernel_rfl) (fun _ _ _ h => h) (Or.inl ⟨by rfl, ?_⟩) (by assumption) ?_
       rotate_left 1
       ·intro w hSw
        go_simp
        try with_reducible rfl
       try simp only [Act.put, List.getElem_toArray, List.getElem_cons_zero, List.getElem_cons_succ, List.setIfInBounds_toArray, List.set_cons_zero, List.set_cons_succ]
       refine wpAnyH_take (i := 14) (v := ?_) rfl (by kernel_rfl) (by kernel_rfl) (by kernel_rfl) (fun _ _ _ h => h) (Or.inl ⟨by rfl, ?_⟩) (by assumption) ?_
       rotate_left 1
       ·intro w hSw
        go_simp
        try with_reducible rfl
       try simp only [Act.put, List.getElem_toArray, List.getElem_cons_zero, List.getElem_cons_succ, List.setIfInBounds_toArray, List.set_cons_zero, List.set_cons_succ]
       refine wpAnyH_take (i := 15) (v := ?_) rfl (by kernel_rfl) (by kernel_rfl) (by kernel_rfl) (fun _ _ _ h => h) (Or.inl ⟨by rfl, ?_⟩) (by assumption) ?_
       rotate_left 1
       ·intro w hSw
        go_simp
        try with_reducible rfl
       try simp only [Act.put, List.getElem_toArray, List.getElem_cons_zero, List.getElem_cons_succ, List.setIfInBounds_toArray, List.set_cons_zero, List.set_cons_succ]
       refine wpAnyH_take (i := 16) (v := ?_) rfl (by kernel_rfl) (by kernel_rfl) (by kernel_rfl) (fun _ _ _ h => h) (Or.inl ⟨by rfl, ?_⟩) (by assumption) ?_
       rotate_left 1
       ·intro w hSw
        go_simp
        try with_reducible rfl
       try simp only [Act.put, List.getElem_toArray, List.getElem_cons_zero, List.getElem_cons_succ, List.setIfInBounds_toArray, List.set_cons_zero, List.set_cons_succ]
       refine rdy 17 rfl (fun K hK => ?_)
       have hd1 := HS9.out.2.2.2.2 0 (by omega)
       have hd2 := HS9.out.2.2.2.2 1 (by omega)
       rw [Nat.add_zero] at hd1
       obtain ⟨u0, e0⟩ := Option.isSome_iff_exists.1 hd1.1
       obtain ⟨u1, e1⟩ := Option.isSome_iff_exists.1 hd2.1
       have g0 : w9.cell? ⟨cg, nc * 2, none⟩ = some u0 := e0
       have g1 : w9.cell? ⟨cg, nc * 2 + 1, none⟩ = some u1 := e1
       have g2 : w9.frozen? ⟨cg, nc * 2, none⟩ = false := hd1.2
       have g3 : w9.frozen? ⟨cg, nc * 2 + 1, none⟩ = false := hd2.2
       clear hd1 hd2 e0 e1
       go_simp
       refine hK.out _ _ (Kept.drew (kept_cells cg [.int .i64 3, .int .i64 (k : Int)] (nc * 2) w9)) (fun hHeld => ?_)
       clear hK K
       try simp only [Act.put, List.getElem_toArray, List.getElem_cons_zero, List.getElem_cons_succ, List.setIfInBounds_toArray, List.set_cons_zero, List.set_cons_succ]
       refine wpAnyH_done (by kernel_rfl) ?_ _
       obtain ⟨x', hx'⟩ := HM9.out.put ⟨3, (k : Int)⟩ HIOK.out
       have HMX := hid_of (hx'.same (Kept.drew (Kept.refl (fun _ => False) _)))
       clear hHeld g0 g1 g2 g3 hx' HS9 HM9
       go_wp2
       go_roundw
       case rel => exact ⟨k + 1, x', by omega, by go_num, HMX⟩
       case measure => simp [intOf]; omega
      ·have hltI : ¬ ((k : Int) < 3) := by omega
       have HKF := hid_of HM.out.k
       clear HM
       go_wp2
       go_ret
       exact ⟨rfl, HKF.out⟩
  ·have hqn : (qe != 0) = true := by simpa using hqe0
   have HKF := hid_of HB.out.k
   clear HB HGP
   go_wp2
   go_ret
   exact ⟨rfl, HKF.out⟩
 ·have hpn : (pe != 0) = true := by simpa using hpe0
  have HKF := hid_of HB.out.k
  clear HB HGP
  go_wp2
  go_ret
  exact ⟨rfl, HKF.out⟩
end Go.Proofs.YtpfmhibdmehlcaaGreatDoor
