import Derived.Test.YtgoabnehdmdikaaGreatDoorTLg12
import Derived.Test.YtgoabnehdmdikaaGreatDoorTLg11
set_option linter.unusedVariables false
set_option linter.unusedSimpArgs false
set_option maxRecDepth 100000
set_option maxHeartbeats 64000000
namespace Go.Proofs.YtgoabnehdmdikaaGreatDoor
open Go.RowKit
variable {w0 w : World} {r gm : Nat} {R : Rdr} {NL : List (ByteArray × Int)} {dv fv lv wv : Value} {CV : List Value} {GM : List Nat}
theorem Zjt (g : Nat) (s : ByteArray) (n : Int) (L : List (ByteArray × Int)) (h : MapIs w g L) (hs : (lkA L s).isSome = true) : Calls Tryz.prog 88 #[.map (some g), .string s, .int .i64 n] w fun e w' => e = .returned (.bool false) ∧ w' = w := by
 have hL := h.run_look s true
 obtain ⟨v, hv⟩ := Option.isSome_iff_exists.1 hs
 rw [hv] at hL
 simp only [Option.isSome_some, if_true] at hL
 clear h hs hv
 go_enter Tryz.func88, Tryz.ntmps88
 go_wp2
 go_ret
 exact ⟨rfl, rfl⟩
theorem Zia (g : Nat) (s : ByteArray) (n : Int) (L : List (ByteArray × Int)) (h : MapIs w g L) (hs : lkA L s = none) : Calls Tryz.prog 88 #[.map (some g), .string s, .int .i64 n] w fun e w' => e = .returned (.bool true) ∧ Kept (fun q => q = g) w w' ∧ MapIs w' g (L ++ [(s, n)]) := by
 have hL := h.run_look s true
 rw [hs] at hL
 simp only [Option.isSome_none, if_true] at hL
 obtain ⟨w', hU, hk, hm⟩ := h.run_lay s n hs
 have HK := Za (And.intro hk hm)
 clear h hs hk hm
 go_enter Tryz.func88, Tryz.ntmps88
 go_wp2
 go_ret
 exact ⟨rfl, HK.out⟩
theorem RdZ.name {w' : World} (h : RdZ w0 w r R NL dv fv lv wv gm CV GM) (hk : Kept (fun q => q = gm) w w') {NL' : List (ByteArray × Int)} (hm : MapIs w' gm NL') : RdZ w0 w' r R NL' dv fv lv wv gm CV GM ∧ OthG w w' := by
 have hn := h.names
 refine ⟨⟨hn.box hk h.box, hn.own hk h.data, hn.own hk h.fns, hn.fam hk h.code, hn.own hk h.mps, fun i g f h1 h2 => (h.maps i g f h1 h2).other hk (fun e => ?_), hm, h.nodup, h.newer, hn.own hk h.wts, h.kept.step hk (fun q hq e => ?_), h.lo⟩, hn.othG hk⟩
 ·have := (List.nodup_cons.1 h.nodup).1
  exact this (by rw [← e]; exact List.mem_of_getElem? h1)
 ·have := h.newer gm List.mem_cons_self
  omega
theorem RdZ.pushF (h : RdZ w0 w r R NL dv fv lv wv gm CV GM) (hg : GM.length = R.fs.length) (f : Fnc) (hc : f.code = []) (hn : R.fs.length ≤ 90000) :
  ∃ a m c w5, (Builtin.append_ #[24, 24] 24 #[fv, .slice (some ⟨w.heap.size, 0, none⟩) 1 1]).run Tryz.prog (w.alloc (.cells #[.int .i64 f.a, .int .i64 f.l, .int .i64 f.r, .slice none 0 0] 78)) = .ok (.slice a m c) w5 ∧ Kept (fun q => fv.ownBlock = some q) w w5 ∧ OthG w w5 ∧
   w5.heap[r]? = some (.cells #[.int .i64 R.mem, dv, fv, .bool R.sized, .map (some gm), lv, wv] 99 (0, 0)) ∧
   RdZ w0 (w5.setCell ⟨r, 2, none⟩ (.slice a m c)) r ⟨R.mem, R.sized, R.data, R.fs ++ [f], R.ws⟩ NL dv (.slice a m c) lv wv gm (CV ++ [.slice none 0 0]) GM ∧ OthG w5 (w5.setCell ⟨r, 2, none⟩ (.slice a m c)) := by
 obtain ⟨v', w5, hr, ho, hk0, hk1, hnb⟩ := Zi7 h.fns (.int .i64 f.a) (.int .i64 f.l) (.int .i64 f.r) (.slice none 0 0) rfl rfl rfl rfl h.kept hn
 obtain ⟨a, c, hv⟩ := Zd ho
 have hch := Yz h.fns
 have hy : RdY w0 w5 ⟨R.mem, R.sized, R.data, R.fs ++ [f], R.ws⟩ NL dv v' lv wv gm (CV ++ [.slice none 0 0]) GM := by
  refine ⟨Zi hk1 hch h.data (by decide), ?_, ?_, Zi hk1 hch h.mps (by decide), fun i g f' h1 h2 => ?_, h.names.ch hk1 hch, h.nodup, h.newer, Zi hk1 hch h.wts (by decide)⟩
  ·show w5.ownsRow _ _ _ _ (R.fs ++ [f]).length (Zw (R.fs ++ [f]) _)
   rw [Zbu _ _ _ _ h.clen, List.length_append]
   exact ho
  ·have := (h.code.ch hk1 hch (by decide)).snoc
   show Fam w5 _ _ _ _ ((R.fs ++ [f]).map Yj)
   rw [List.map_append]
   have e : [f].map Yj = [(0, [])] := by simp [Yj, hc, Zn]
   rw [e]
   exact this
  ·have hi := (List.getElem?_eq_some_iff.1 h1).1
   have h2' : (R.fs ++ [f])[i]? = some f' := h2
   rw [List.getElem?_append_left (by omega)] at h2'
   exact (h.maps i g f' h1 h2').ch hk1 hch
 obtain ⟨h5, h6, h7, h8⟩ := h.store hk1 hch (by decide) (fun q hq => (h.fns.lt q hq).1) hy 2 v' rfl
 subst hv
 exact ⟨_, _, _, w5, hr, hk1, h5, h6, h7, h8⟩
theorem RdZ.pushM (h : RdZ w0 w r R NL dv fv lv wv gm CV GM) (fs : List Fnc) (f : Fnc) (hf : R.fs = fs ++ [f]) (hg : GM.length = fs.length) (hl : f.ls = []) (hn : R.fs.length ≤ 90000) (hw : ∀ x ∈ R.ws, x.fn < GM.length) :
  ∃ a m c w5, (Builtin.append_ #[96, 96] 96 #[lv, .slice (some ⟨w.heap.size + 1, 0, none⟩) 1 1]).run Tryz.prog ((w.alloc (.map #[] 0)).alloc (.cells #[.map (some w.heap.size)] 95)) = .ok (.slice a m c) w5 ∧ OthG w w5 ∧
   w5.heap[r]? = some (.cells #[.int .i64 R.mem, dv, fv, .bool R.sized, .map (some gm), lv, wv] 99 (0, 0)) ∧
   RdZ w0 (w5.setCell ⟨r, 5, none⟩ (.slice a m c)) r R NL dv fv (.slice a m c) wv gm CV (GM ++ [w.heap.size]) ∧ OthG w5 (w5.setCell ⟨r, 5, none⟩ (.slice a m c)) := by
 have hka : Kept nF w (w.alloc (.map #[] 0)) := (Kept.refl _ _).alloc _
 have hA := h.same hka
 have hmm : (w.alloc (.map #[] 0)).heap[w.heap.size]? = some (.map #[] 0) := heap_alloc_new _ _
 have hMN := Zlv hmm
 obtain ⟨v', w5, hr, ho, hk0, hk1, hnb⟩ := Zsn hA.mps (.map (some w.heap.size)) rfl hA.kept (by have e := congrArg List.length hf; rw [List.length_append, List.length_cons, List.length_nil] at e; omega)
 rw [show (w.alloc (.map #[] 0)).heap.size = w.heap.size + 1 by simp] at hr
 obtain ⟨a, c, hv⟩ := Zd ho
 have hch := Yz hA.mps
 have hgm : ∀ g ∈ gm :: GM, g < w.heap.size := fun g hg' => by
  rcases List.mem_cons.1 hg' with rfl | hm
  ·obtain ⟨_, _, e, _⟩ := h.names
   exact (Array.getElem?_eq_some_iff.1 e).1
  ·obtain ⟨i, hi, e⟩ := List.getElem_of_mem hm
   have h1 : GM[i]? = some g := by rw [List.getElem?_eq_getElem hi, e]
   have h2 : R.fs[i]? = some (R.fs[i]'(by have e := congrArg List.length hf; rw [List.length_append, List.length_cons, List.length_nil] at e; omega)) := List.getElem?_eq_getElem _
   obtain ⟨_, _, e2, _⟩ := h.maps i g _ h1 h2
   exact (Array.getElem?_eq_some_iff.1 e2).1
 have hy : RdY w0 w5 R NL dv fv v' wv gm CV (GM ++ [w.heap.size]) := by
  refine ⟨Zi hk1 hch hA.data (by decide), Zi hk1 hch hA.fns (by decide), hA.code.ch hk1 hch (by decide), ?_, fun i g f' h1 h2 => ?_, hA.names.ch hk1 hch, ?_, fun g hg' => ?_, ?_⟩
  ·rw [List.length_append, List.map_append]
   exact ho
  ·by_cases hi : i < GM.length
   ·rw [List.getElem?_append_left hi] at h1
    exact (hA.maps i g f' h1 h2).ch hk1 hch
   ·have h0 : i = GM.length := by
     have := (List.getElem?_eq_some_iff.1 h1).1
     simp at this
     omega
    subst h0
    rw [List.getElem?_append_right (Nat.le_refl _), Nat.sub_self] at h1
    simp only [List.getElem?_cons_zero, Option.some.injEq] at h1
    subst h1
    rw [hf, hg, List.getElem?_append_right (Nat.le_refl _), Nat.sub_self] at h2
    simp only [List.getElem?_cons_zero, Option.some.injEq] at h2
    subst h2
    rw [hl]
    exact hMN.ch hk1 hch
  ·rw [show gm :: (GM ++ [w.heap.size]) = (gm :: GM) ++ [w.heap.size] from rfl, List.nodup_append]
   refine ⟨h.nodup, by simp, fun x hx y hy => ?_⟩
   rw [List.mem_singleton.1 hy]
   have := hgm x hx
   omega
  ·rcases List.mem_append.1 (show g ∈ (gm :: GM) ++ [w.heap.size] from hg') with hm | hm
   ·exact h.newer g hm
   ·rw [List.mem_singleton.1 hm]
    exact h.kept.size
  ·have := Zi hk1 hch hA.wts (by decide)
   rw [Zfi _ _ _ _ hw]
   exact this
 obtain ⟨h5, h6, h7, h8⟩ := hA.store hk1 hch (by decide) (fun q hq => (hA.mps.lt q hq).1) hy 5 v' rfl
 subst hv
 exact ⟨_, _, _, w5, hr, (Kept.othG hka).trans h5, h6, h7, h8⟩
end Go.Proofs.YtgoabnehdmdikaaGreatDoor
namespace Go.Proofs.YtgoabnehdmdikaaGreatDoor
open Go.RowKit
def Zq4 (o : Option (Int × Int × ByteArray)) (w : World) (e : Ending) (w' : World) : Prop :=
 Kept nF w w' ∧ ((∃ op a s, o = some (op, a, s) ∧ e = .returned (.tuple #[.agg #[.int .i64 op, .int .i64 a], .string s, .bool true])) ∨ (o = none ∧ ∃ x0 x1 s, e = .returned (.tuple #[.agg #[.int .i64 x0, .int .i64 x1], .string s, .bool false])))
abbrev Z2 : Obj := .cells #[.int .i64 0, .int .i64 0] 75
theorem Ztx (n : Nat) (h : n < 46) : 0 ≤ (Yd Zj (n : Int)).o ∧ (Yd Zj (n : Int)).o ≤ 6 := by
 revert n
 decide +kernel
theorem Zty {w : World} {g o : Nat} {v : Value} (h : w.cell? ⟨g, o, none⟩ = some v) : g < w.heap.size := by
 rcases Nat.lt_or_ge g w.heap.size with h1 | h1
 ·exact h1
 ·exfalso
  have h2 : w.heap[g]? = none := Array.getElem?_eq_none h1
  simp [World.cell?, h2] at h
theorem Zoa (v : Option Addr) (c : Nat) (w : World) : Calls Tryz.prog 84 #[.slice v 0 c] w (Zq4 none w) := by
 have hka : Kept nF w (w.alloc Z2) := (Kept.refl _ _).alloc _
 have HB := Za (heap_alloc_new w Z2)
 have HK := Za hka
 have HE : Hid ((none : Option (Int × Int × ByteArray)) = none) := rfl
 have HGX : Hid (w.heap.size = w.heap.size) := rfl
 clear hka
 go_enter Tryz.func84, Tryz.ntmps84
 go_upto_region 1 with fail
 generalize w.alloc Z2 = w1 at *
 obtain ⟨x, hx⟩ := nmd (w.heap.size)
 rw [← hx] at HB HGX ⊢
 have HXW : Hid (w.heap.size ≤ x) := by rw [hx]; exact Nat.le_refl _
 clear hx
 obtain ⟨b0, b1, bf0, bf1⟩ := Ym HB.out
 have hb6 := Zf _ _ 0 _ _ _ HB.out (.int .i64 0)
 have hb7 := Zf _ _ 1 _ _ _ hb6 (.int .i64 0)
 have HB7 := Za hb7
 have HK7 := Za (HK.out.step ((Zg w1 x 0 (.int .i64 0)).trans (Zg _ x 1 (.int .i64 0))) (fun i hi e => by have := HXW.out; omega))
 obtain ⟨d0, d1, df0, df1⟩ := Ym hb6
 clear hb6 hb7
 go_wp2
 all_goals
  refine bodyPost_ret (v := .tuple #[.agg #[(.int .i64 0), (.int .i64 0)], .string ⟨#[]⟩, .bool false]) ?_ rfl ⟨HK7.out, .inr ⟨rfl, _, _, _, rfl⟩⟩
  exact Zt (by rfl) _ _ x 75 _ (0, 0) _ _ _ (by rfl) (by rfl) (by rfl) HB7.out Tryz.underlying75 rfl Za0
theorem Zju (g o n c : Nat) (p : Pf) (l : List Pf) (w : World) (hP : FsAt w g o (p :: l)) (hn : n = l.length + 1) (hc : n ≤ c) (hnl : n ≤ 90000) :
  Calls Tryz.prog 84 #[.slice (some ⟨g, o, none⟩) n c] w (Zq4 (Zar (p :: l)) w) := by
 have hka : Kept nF w (w.alloc Z2) := (Kept.refl _ _).alloc _
 have HB := Za (heap_alloc_new w Z2)
 have HGX : Hid (¬ g = w.heap.size) := fun e => by
  have := Zty (hP 0 p rfl 0 _ rfl)
  omega
 have HP := Za (hP.kept hka id)
 have HK := Za hka
 have hcI : (1 : Int) ≤ (c : Int) := by omega
 have hcN : (1 : Int) ≤ (n : Int) := by omega
 have hnI : (n : Int) ≤ 90000 := by omega
 have HIE : Hid (Zar (p :: l) = if p.k = 0 then (match ixN Zj p.s with | some n => Zbh n (Yd Zj (n : Int)).o l | none => none) else none) := rfl
 obtain ⟨pk, ps, pn, pf⟩ := p
 simp only at HIE
 have p0 : (w.alloc Z2).cell? ⟨g, o, none⟩ = some (.int .i64 pk) := HP.out 0 _ rfl 0 _ rfl
 have p1 : (w.alloc Z2).cell? ⟨g, o + 1, none⟩ = some (.string ps) := HP.out 0 _ rfl 1 _ rfl
 have HN := Za (Znu ps (w.alloc Z2))
 rw [Zer] at HN
 obtain ⟨F, hF⟩ := nmd (Zar (⟨pk, ps, pn, pf⟩ :: l))
 rw [← hF] at HIE ⊢
 have HNL : Hid (n = l.length + 1) := hn
 have HCC : Hid (n ≤ c ∧ n ≤ 90000) := ⟨hc, hnl⟩
 clear hF hka hP hn hc hnl
 have hz0 : ¬ (n : Int) = 0 := by omega
 by_cases hk0 : pk = 0
 ·rw [if_pos hk0] at HIE
  subst hk0
  cases hix : ixN Zj ps with
  | none =>
   rw [hix] at HIE HN
   have HE : Hid (F = none) := HIE.out
   clear hix HIE
   go_enter Tryz.func84, Tryz.ntmps84
   go_upto_region 1 with fail
   generalize w.alloc Z2 = w1 at *
   obtain ⟨x, hx⟩ := nmd (w.heap.size)
   rw [← hx] at HB HGX ⊢
   have HXW : Hid (w.heap.size ≤ x) := by rw [hx]; exact Nat.le_refl _
   clear hx
   go_wp2_with fail
   refine HN.out.mono ?_
   rintro e w2 ⟨rfl, hk2⟩
   have HK2 := Za (HK.out.trans hk2)
   have HP2 := Za (HP.out.kept hk2 id)
   have hb2 := Zc hk2 HB.out id
   obtain ⟨b0, b1, bf0, bf1⟩ := Ym hb2
   have HB3 := Za (Zf _ _ 0 _ _ _ hb2 (.int .i64 0))
   have HK3 := Za (HK2.out.step (Zg w2 x 0 (.int .i64 0)) (fun i hi e => by have := HXW.out; omega))
   clear hb2 hk2 HN HP HP2 HB HK HK2 p0 p1
   go_upto_region 4 with fail
   clear b0 b1 bf0 bf1
   generalize w2.setCell ⟨x, 0, none⟩ (.int .i64 0) = w3 at *
   have HB3' : Hid (w3.heap[x]? = some (.cells #[.int .i64 0, .int .i64 0] 75 (0, 0))) := HB3.out
   clear HB3
   obtain ⟨b0, b1, bf0, bf1⟩ := Ym HB3'.out
   have hb6 := Zf _ _ 0 _ _ _ HB3'.out (.int .i64 0)
   have hb7 := Zf _ _ 1 _ _ _ hb6 (.int .i64 0)
   have HB7 := Za hb7
   have HK7 := Za (HK3.out.step ((Zg w3 x 0 (.int .i64 0)).trans (Zg _ x 1 (.int .i64 0))) (fun i hi e => by have := HXW.out; omega))
   obtain ⟨d0, d1, df0, df1⟩ := Ym hb6
   clear hb6 hb7
   go_wp2
   all_goals
    refine bodyPost_ret (v := .tuple #[.agg #[(.int .i64 0), (.int .i64 0)], .string ⟨#[]⟩, .bool false]) ?_ rfl ⟨HK7.out, .inr ⟨HE.out, _, _, _, rfl⟩⟩
    exact Zt (by rfl) _ _ x 75 _ (0, 0) _ _ _ (by rfl) (by rfl) (by rfl) HB7.out Tryz.underlying75 rfl Za0
  | some k =>
   rw [hix] at HIE HN
   have hk46 : k < 46 := Zeh hix
   have hkI : (k : Int) < 46 := by omega
   clear hix
   go_enter Tryz.func84, Tryz.ntmps84
   go_upto_region 1 with fail
   generalize w.alloc Z2 = w1 at *
   obtain ⟨x, hx⟩ := nmd (w.heap.size)
   rw [← hx] at HB HGX ⊢
   have HXW : Hid (w.heap.size ≤ x) := by rw [hx]; exact Nat.le_refl _
   clear hx
   go_wp2_with fail
   refine HN.out.mono ?_
   rintro e w2 ⟨rfl, hk2⟩
   have HK2 := Za (HK.out.trans hk2)
   have HP2 := Za (HP.out.kept hk2 id)
   have hb2 := Zc hk2 HB.out id
   obtain ⟨b0, b1, bf0, bf1⟩ := Ym hb2
   have HB3 := Za (Zf _ _ 0 _ _ _ hb2 (.int .i64 (k : Int)))
   have HK3 := Za (HK2.out.step (Zg w2 x 0 (.int .i64 (k : Int))) (fun i hi e => by have := HXW.out; omega))
   have HP3 := Za (HP2.out.kept (Zg w2 x 0 (.int .i64 (k : Int))) (fun e => HGX.out e))
   clear hb2 hk2 HN HP HP2 HB HK HK2 p0 p1
   go_upto_region 6 with fail
   clear b0 b1 bf0 bf1
   generalize w2.setCell ⟨x, 0, none⟩ (.int .i64 (k : Int)) = w3 at *
   have HB3' : Hid (w3.heap[x]? = some (.cells #[.int .i64 (k : Int), .int .i64 0] 75 (0, 0))) := HB3.out
   clear HB3
   obtain ⟨b0, b1, bf0, bf1⟩ := Ym HB3'.out
   have HO := Za (Zk5 (k : Int) w3 (by omega) (by omega))
   obtain ⟨sh, hsh⟩ := nmd (Yd Zj (k : Int))
   have hkd := Ztx k hk46
   rw [← hsh] at HO HIE hkd
   clear hsh
   obtain ⟨nm, kd, tt, gg⟩ := sh
   simp only at HIE hkd
   obtain ⟨hkd0, hkd6⟩ := hkd
   have HO' : Hid (Calls Tryz.prog 100 #[.int .i64 (k : Int)] w3 fun e w' => e = .returned (.tuple #[.agg #[.string nm, .int .i64 kd, .int .i64 tt, .int .i64 gg], .bool (Xb Zj (k : Int))]) ∧ Kept nF w3 w') := HO.out
   clear HO hk46 hkI
   go_wp2_with fail
   refine HO'.out.mono ?_
   rintro e w4 ⟨rfl, hk4⟩
   have hka : Kept nF w4 (w4.alloc (.cells #[.string nm, .int .i64 kd, .int .i64 tt, .int .i64 gg] 186)) := (Kept.refl _ _).alloc _
   have HSX := Za (heap_alloc_new w4 (.cells #[.string nm, .int .i64 kd, .int .i64 tt, .int .i64 gg] 186))
   have HBX := Za (Zc (hk4.trans hka) HB3'.out id)
   have HKX := Za (HK3.out.trans (hk4.trans hka))
   have HP5 := Za (HP3.out.kept (hk4.trans hka) id)
   clear hka hk4 HO' HB3' HK3 HP3 b0 b1 bf0 bf1
   go_upto_region 7 with fail
   generalize w4.alloc (.cells #[.string nm, .int .i64 kd, .int .i64 tt, .int .i64 gg] 186) = w5 at *
   generalize w4.heap.size = gs at *
   obtain ⟨o1, ho1⟩ := nmd ((if c = 1 then o else o + 4))
   obtain ⟨n1, hn1⟩ := nmd (n - 1)
   obtain ⟨c1, hc1⟩ := nmd (c - 1)
   have HPL : Hid (FsAt w5 g o1 l) := by
    show FsAt w5 g o1 l
    rw [ho1]
    split
    ·have h1 := HNL.out
     have h2 := HCC.out.1
     rw [show l = [] from List.length_eq_zero_iff.1 (by omega)]
     exact fun i p hp => by simp at hp
    ·exact HP5.out.drop 1
   have HN1 : Hid (n1 = l.length) := by have := HNL.out; show n1 = _; omega
   have HNC : Hid (n1 = n - 1 ∧ c1 = c - 1) := ⟨hn1, hc1⟩
   have HO1 := Za ho1
   clear ho1 HP5
   have s1 := Zb _ _ 1 _ _ _ HSX.out
   have hn1I : (n1 : Int) ≤ 90000 := by omega
   go_upto_region 8 with fail
   rw [show n - 1 = n1 from HNC.out.1.symm, show c - 1 = c1 from HNC.out.2.symm, show (if c = 1 then some ({ block := g, off := o } : Addr) else some { block := g, off := o + 4 }) = some ⟨g, o1, none⟩ by rw [HO1.out]; split <;> rfl]
   clear hn1 hc1 hcI hcN hnI hz0
   by_cases hkz : kd = 0
   ·subst hkz
    cases l with
    | nil =>
     have HFI : Hid (F = some ((k : Int), 0, ⟨#[]⟩)) := HIE.out
     have hn0 : n1 = 0 := HN1.out
     subst hn0
     clear HPL HSX HIE hkd0 hkd6
     obtain ⟨b0, b1, bf0, bf1⟩ := Ym HBX.out
     have hb6 := Zf _ _ 0 _ _ _ HBX.out (.int .i64 (k : Int))
     have hb7 := Zf _ _ 1 _ _ _ hb6 (.int .i64 0)
     have HB7 := Za hb7
     have HK7 := Za (HKX.out.step ((Zg w5 x 0 (.int .i64 (k : Int))).trans (Zg _ x 1 (.int .i64 0))) (fun i hi e => by have := HXW.out; omega))
     obtain ⟨d0, d1, df0, df1⟩ := Ym hb6
     clear hb6 hb7
     go_wp2
     all_goals
      refine bodyPost_ret (v := .tuple #[.agg #[(.int .i64 (k : Int)), (.int .i64 0)], .string ⟨#[]⟩, .bool true]) ?_ rfl ⟨HK7.out, .inl ⟨_, _, _, HFI.out, rfl⟩⟩
      exact Zt (by rfl) _ _ x 75 _ (0, 0) _ _ _ (by rfl) (by rfl) (by rfl) HB7.out Tryz.underlying75 rfl Za0
    | cons q ql =>
     have HE : Hid (F = none) := by have := HIE.out; rw [Zbh, if_pos rfl] at this; exact this
     have hn0 : ((n1 : Int) == 0) = false := by have := HN1.out; simp only [List.length_cons] at this; simp; omega
     clear HPL HSX HIE hkd0 hkd6
     obtain ⟨b0, b1, bf0, bf1⟩ := Ym HBX.out
     have hb6 := Zf _ _ 0 _ _ _ HBX.out (.int .i64 (k : Int))
     have hb7 := Zf _ _ 1 _ _ _ hb6 (.int .i64 0)
     have HB7 := Za hb7
     have HK7 := Za (HKX.out.step ((Zg w5 x 0 (.int .i64 (k : Int))).trans (Zg _ x 1 (.int .i64 0))) (fun i hi e => by have := HXW.out; omega))
     obtain ⟨d0, d1, df0, df1⟩ := Ym hb6
     clear hb6 hb7
     go_wp2
     all_goals
      refine bodyPost_ret (v := .tuple #[.agg #[(.int .i64 (k : Int)), (.int .i64 0)], .string ⟨#[]⟩, .bool false]) ?_ rfl ⟨HK7.out, .inr ⟨HE.out, _, _, _, rfl⟩⟩
      exact Zt (by rfl) _ _ x 75 _ (0, 0) _ _ _ (by rfl) (by rfl) (by rfl) HB7.out Tryz.underlying75 rfl Za0
   have hkz' : (kd == 0) = false := by simp; exact hkz
   have hkaa : Kept nF w5 (w5.alloc (.cells #[.int .i64 1] 3)) := (Kept.refl _ _).alloc _
   have hbaa := heap_alloc_new w5 (.cells #[.int .i64 1] 3)
   have HFa := Za (Zgd g o1 n1 c1 w5.heap.size 1 1 l [1] (w5.alloc (.cells #[.int .i64 1] 3)) (HPL.out.kept hkaa id) (fun i y hy => by
    rw [Zb _ _ i _ _ _ hbaa]
    rcases i with _ | i <;> simp at hy ⊢ <;> exact hy) HN1.out rfl (by have := HCC.out; have := HNC.out; omega) (by omega))
   by_cases hl1 : l.map Pf.k = [1]
   ·rw [decide_eq_true hl1] at HFa
    obtain ⟨q, rfl⟩ : ∃ q, l = [q] := by
     have := congrArg List.length hl1
     simp only [List.length_map, List.length_cons, List.length_nil] at this
     exact List.length_eq_one_iff.1 this
    obtain ⟨qk, qs, qn, qf⟩ := q
    have hqk : qk = 1 := by simpa using hl1
    subst hqk
    have HFI : Hid (F = some ((k : Int), qn, ⟨#[]⟩)) := by
     have := HIE.out
     rw [Zbh, if_neg hkz, if_pos rfl, if_pos rfl] at this
     exact this
    have hn0 : n1 = 1 := HN1.out
    subst hn0
    clear HIE hkd0 hkd6 hl1 hkz
    go_wp2_with fail
    refine HFa.out.mono ?_
    rintro e w6 ⟨rfl, hk6⟩
    have hkk := hkaa.trans hk6
    have HBn := Za (Zc hkk HBX.out id)
    have HSn := Za (Zc hkk HSX.out id)
    have HKn := Za (HKX.out.trans hkk)
    have HPn := Za (HPL.out.kept hkk id)
    clear hkk hk6 hkaa hbaa HFa HBX HSX HKX HPL
    have HBX := HBn
    have HSX := HSn
    have HKX := HKn
    have HPL := HPn
    clear HBn HSn HKn HPn
    have q2 : w6.cell? ⟨g, o1 + 2, none⟩ = some (.int .i64 qn) := by
     have := HPL.out 0 _ rfl 2 (.int .i64 qn) rfl
     simpa using this
    obtain ⟨b0, b1, bf0, bf1⟩ := Ym HBX.out
    have HBT := Za (Zf _ _ 1 _ _ _ HBX.out (.int .i64 qn))
    have HKT := Za (HKX.out.step (Zg w6 x 1 (.int .i64 qn)) (fun i hi e => by have := HXW.out; omega))
    clear HPL HSX HBX HKX s1
    go_upto_region 12 with fail
    generalize w6.setCell ⟨x, 1, none⟩ (.int .i64 qn) = w7 at *
    have HBT' : Hid (w7.heap[x]? = some (.cells #[.int .i64 (k : Int), .int .i64 qn] 75 (0, 0))) := HBT.out
    clear b0 b1 bf0 bf1 HBT q2
    obtain ⟨b0, b1, bf0, bf1⟩ := Ym HBT'.out
    have hb6 := Zf _ _ 0 _ _ _ HBT'.out (.int .i64 (k : Int))
    have hb7 := Zf _ _ 1 _ _ _ hb6 (.int .i64 qn)
    have HB7 := Za hb7
    have HK7 := Za (HKT.out.step ((Zg w7 x 0 (.int .i64 (k : Int))).trans (Zg _ x 1 (.int .i64 qn))) (fun i hi e => by have := HXW.out; omega))
    obtain ⟨d0, d1, df0, df1⟩ := Ym hb6
    clear hb6 hb7
    go_wp2
    all_goals
     refine bodyPost_ret (v := .tuple #[.agg #[(.int .i64 (k : Int)), (.int .i64 qn)], .string ⟨#[]⟩, .bool true]) ?_ rfl ⟨HK7.out, .inl ⟨_, _, _, HFI.out, rfl⟩⟩
     exact Zt (by rfl) _ _ x 75 _ (0, 0) _ _ _ (by rfl) (by rfl) (by rfl) HB7.out Tryz.underlying75 rfl Za0
   rw [decide_eq_false hl1] at HFa
   go_wp2_with fail
   refine HFa.out.mono ?_
   rintro e w6 ⟨rfl, hk6⟩
   have hkk := hkaa.trans hk6
   have HBn := Za (Zc hkk HBX.out id)
   have HSn := Za (Zc hkk HSX.out id)
   have HKn := Za (HKX.out.trans hkk)
   have HPn := Za (HPL.out.kept hkk id)
   clear hkk hk6 hkaa hbaa HFa HBX HSX HKX HPL
   have HBX := HBn
   have HSX := HSn
   have HKX := HKn
   have HPL := HPn
   clear HBn HSn HKn HPn
   have hkab : Kept nF w6 (w6.alloc (.cells #[.int .i64 0] 3)) := (Kept.refl _ _).alloc _
   have hbab := heap_alloc_new w6 (.cells #[.int .i64 0] 3)
   have HFb := Za (Zgd g o1 n1 c1 w6.heap.size 1 1 l [0] (w6.alloc (.cells #[.int .i64 0] 3)) (HPL.out.kept hkab id) (fun i y hy => by
    rw [Zb _ _ i _ _ _ hbab]
    rcases i with _ | i <;> simp at hy ⊢ <;> exact hy) HN1.out rfl (by have := HCC.out; have := HNC.out; omega) (by omega))
   by_cases hl0 : l.map Pf.k = [0]
   ·rw [decide_eq_true hl0] at HFb
    obtain ⟨q, rfl⟩ : ∃ q, l = [q] := by
     have := congrArg List.length hl0
     simp only [List.length_map, List.length_cons, List.length_nil] at this
     exact List.length_eq_one_iff.1 this
    obtain ⟨qk, qs, qn, qf⟩ := q
    have hqk : qk = 0 := by simpa using hl0
    subst hqk
    have HOP : Hid (F = if kd = 3 ∨ kd = 4 then some ((k : Int), 0, qs) else if kd = 5 then (match ixN Zk qs with | some c => some ((k : Int), (c : Int), ⟨#[]⟩) | none => none) else none) := by
     have := HIE.out
     rw [Zbh, if_neg hkz, if_pos rfl, if_neg (show ¬ (0 : Int) = 1 by decide), if_pos rfl] at this
     exact this
    have hn0 : n1 = 1 := HN1.out
    subst hn0
    clear HIE hl0 hl1 s1
    go_wp2_with fail
    refine HFb.out.mono ?_
    rintro e w8 ⟨rfl, hk6⟩
    have hkk := hkab.trans hk6
    have HBn := Za (Zc hkk HBX.out id)
    have HSn := Za (Zc hkk HSX.out id)
    have HKn := Za (HKX.out.trans hkk)
    have HPn := Za (HPL.out.kept hkk id)
    clear hkk hk6 hkab hbab HFb HBX HSX HKX HPL
    have HBX := HBn
    have HSX := HSn
    have HKX := HKn
    have HPL := HPn
    clear HBn HSn HKn HPn
    have q1 : w8.cell? ⟨g, o1 + 1, none⟩ = some (.string qs) := by
     have := HPL.out 0 _ rfl 1 (.string qs) rfl
     simpa using this
    have q0 := trivial
    have s1 := Zb _ _ 1 _ _ _ HSX.out
    by_cases hk34 : kd = 3 ∨ kd = 4
    ·rw [if_pos hk34] at HOP
     clear hkz hkz' hkd0 hkd6
     rcases hk34 with rfl | rfl
     ·go_upto_region 18 with fail
      have hkd : Kept nF w8 w8.drew := (Kept.refl _ _).drew
      have HBD := Za (Zc hkd HBX.out id)
      have HKD := Za (HKX.out.trans hkd)
      have HQD := Za (hkd.cell q1 id)
      clear hkd q0 q1 s1 HBX HKX HSX HPL
      refine wp_region_held_drew (S := fun w' => Kept (fun q => q = x) w8.drew w') (by kernel_rfl) (Kept.refl _ _) (fun qh => ?_)
      generalize w8.drew = wd at *
      have HSM : Hid (∀ w', Kept (fun q => q = x) wd w' → w'.cell? ⟨g, o1 + 1, none⟩ = some (.string qs)) := fun w' hw => hw.cell HQD.out HGX.out
      obtain ⟨b0, b1, bf0, bf1⟩ := Ym HBD.out
      have hb6 := Zf _ _ 0 _ _ _ HBD.out (.int .i64 (k : Int))
      have hb7 := Zf _ _ 1 _ _ _ hb6 (.int .i64 0)
      have HB7 := Za hb7
      have HKS := Za ((qh.setCell (p := ⟨x, 0, none⟩) (.inr rfl) (.int .i64 (k : Int))).setCell (p := ⟨x, 1, none⟩) (.inr rfl) (.int .i64 0))
      have HK7 := Za (HKD.out.step ((Zg wd x 0 (.int .i64 (k : Int))).trans (Zg _ x 1 (.int .i64 0))) (fun i hi e => by have := HXW.out; omega))
      obtain ⟨d0, d1, df0, df1⟩ := Ym hb6
      clear hb6 hb7
      iterate 3
       refine tkn (v := ?_) 1 rfl ?_ ?_; rotate_left
       ·intro w hSw; go_simp; try with_reducible rfl
       try simp only [Act.put, tdy]
      iterate 1
       refine tkn (v := ?_) 4 rfl ?_ ?_; rotate_left
       ·intro w hSw; have s1 := HSM.out w hSw; go_simp; try with_reducible rfl
       try simp only [Act.put, tdy]
      refine rdy 0 rfl (fun K hK => ?_)
      go_simp
      refine hK.out _ _ qh (fun qh => ?_)
      clear hK K
      try simp only [Act.put, tdy]
      obtain ⟨b0, b1, bf0, bf1⟩ := Ym HBD.out
      refine rdy 5 rfl (fun K hK => ?_)
      go_simp
      refine hK.out _ _ HKS.out (fun qh => ?_)
      clear hK K
      try simp only [Act.put, tdy]
      refine rdy 6 rfl (fun K hK => ?_)
      go_simp
      refine hK.out _ _ qh (fun qh => ?_)
      clear hK K
      try simp only [Act.put, tdy]
      refine rdy 7 rfl (fun K hK => ?_)
      go_simp
      refine hK.out _ _ qh (fun qh => ?_)
      clear hK K
      try simp only [Act.put, tdy]
      refine wpAnyH_done (by kernel_rfl) ?_ _
      go_wp2
      all_goals
       refine bodyPost_ret (v := .tuple #[.agg #[.int .i64 (k : Int), .int .i64 0], .string qs, .bool true]) ?_ rfl ⟨HK7.out, .inl ⟨_, _, _, HOP.out, rfl⟩⟩
       exact Zt (by rfl) _ _ x 75 _ (0, 0) _ _ _ (by rfl) (by rfl) (by rfl) HB7.out Tryz.underlying75 rfl Za0
     ·go_upto_region 18 with fail
      have hkd : Kept nF w8 w8.drew := (Kept.refl _ _).drew
      have HBD := Za (Zc hkd HBX.out id)
      have HKD := Za (HKX.out.trans hkd)
      have HQD := Za (hkd.cell q1 id)
      clear hkd q0 q1 s1 HBX HKX HSX HPL
      refine wp_region_held_drew (S := fun w' => Kept (fun q => q = x) w8.drew w') (by kernel_rfl) (Kept.refl _ _) (fun qh => ?_)
      generalize w8.drew = wd at *
      have HSM : Hid (∀ w', Kept (fun q => q = x) wd w' → w'.cell? ⟨g, o1 + 1, none⟩ = some (.string qs)) := fun w' hw => hw.cell HQD.out HGX.out
      obtain ⟨b0, b1, bf0, bf1⟩ := Ym HBD.out
      have hb6 := Zf _ _ 0 _ _ _ HBD.out (.int .i64 (k : Int))
      have hb7 := Zf _ _ 1 _ _ _ hb6 (.int .i64 0)
      have HB7 := Za hb7
      have HKS := Za ((qh.setCell (p := ⟨x, 0, none⟩) (.inr rfl) (.int .i64 (k : Int))).setCell (p := ⟨x, 1, none⟩) (.inr rfl) (.int .i64 0))
      have HK7 := Za (HKD.out.step ((Zg wd x 0 (.int .i64 (k : Int))).trans (Zg _ x 1 (.int .i64 0))) (fun i hi e => by have := HXW.out; omega))
      obtain ⟨d0, d1, df0, df1⟩ := Ym hb6
      clear hb6 hb7
      iterate 3
       refine tkn (v := ?_) 1 rfl ?_ ?_; rotate_left
       ·intro w hSw; go_simp; try with_reducible rfl
       try simp only [Act.put, tdy]
      iterate 1
       refine tkn (v := ?_) 4 rfl ?_ ?_; rotate_left
       ·intro w hSw; have s1 := HSM.out w hSw; go_simp; try with_reducible rfl
       try simp only [Act.put, tdy]
      refine rdy 0 rfl (fun K hK => ?_)
      go_simp
      refine hK.out _ _ qh (fun qh => ?_)
      clear hK K
      try simp only [Act.put, tdy]
      obtain ⟨b0, b1, bf0, bf1⟩ := Ym HBD.out
      refine rdy 5 rfl (fun K hK => ?_)
      go_simp
      refine hK.out _ _ HKS.out (fun qh => ?_)
      clear hK K
      try simp only [Act.put, tdy]
      refine rdy 6 rfl (fun K hK => ?_)
      go_simp
      refine hK.out _ _ qh (fun qh => ?_)
      clear hK K
      try simp only [Act.put, tdy]
      refine rdy 7 rfl (fun K hK => ?_)
      go_simp
      refine hK.out _ _ qh (fun qh => ?_)
      clear hK K
      try simp only [Act.put, tdy]
      refine wpAnyH_done (by kernel_rfl) ?_ _
      go_wp2
      all_goals
       refine bodyPost_ret (v := .tuple #[.agg #[.int .i64 (k : Int), .int .i64 0], .string qs, .bool true]) ?_ rfl ⟨HK7.out, .inl ⟨_, _, _, HOP.out, rfl⟩⟩
       exact Zt (by rfl) _ _ x 75 _ (0, 0) _ _ _ (by rfl) (by rfl) (by rfl) HB7.out Tryz.underlying75 rfl Za0
    ·rw [if_neg hk34] at HOP
     by_cases hk5 : kd = 5
     ·rw [if_pos hk5] at HOP
      subst hk5
      clear hkz hkz' hkd0 hkd6 hk34
      have HSY := Za (Zlh qs w8)
      rw [Zer] at HSY
      cases hsx : ixN Zk qs with
      | some cc =>
       rw [hsx] at HSY HOP
       have HFI : Hid (F = some ((k : Int), (cc : Int), ⟨#[]⟩)) := HOP.out
       clear hsx HOP
       go_wp2_with fail
       refine HSY.out.mono ?_
       rintro e w9 ⟨rfl, hk9⟩
       have HB9 := Za (Zc hk9 HBX.out id)
       have HK9 := Za (HKX.out.trans hk9)
       obtain ⟨b0, b1, bf0, bf1⟩ := Ym HB9.out
       clear HSY hk9 HBX HKX HSX HPL q0 q1 s1
       have HBT := Za (Zf _ _ 1 _ _ _ HB9.out (.int .i64 (cc : Int)))
       have HKT := Za (HK9.out.step (Zg w9 x 1 (.int .i64 (cc : Int))) (fun i hi e => by have := HXW.out; omega))
       go_upto_region 21 with fail
       generalize w9.setCell ⟨x, 1, none⟩ (.int .i64 (cc : Int)) = w10 at *
       have HBT' : Hid (w10.heap[x]? = some (.cells #[.int .i64 (k : Int), .int .i64 (cc : Int)] 75 (0, 0))) := HBT.out
       clear b0 b1 bf0 bf1 HBT
       obtain ⟨b0, b1, bf0, bf1⟩ := Ym HBT'.out
       have hb6 := Zf _ _ 0 _ _ _ HBT'.out (.int .i64 (k : Int))
       have hb7 := Zf _ _ 1 _ _ _ hb6 (.int .i64 (cc : Int))
       have HB7 := Za hb7
       have HK7 := Za (HKT.out.step ((Zg w10 x 0 (.int .i64 (k : Int))).trans (Zg _ x 1 (.int .i64 (cc : Int)))) (fun i hi e => by have := HXW.out; omega))
       obtain ⟨d0, d1, df0, df1⟩ := Ym hb6
       clear hb6 hb7
       go_wp2
       all_goals
        refine bodyPost_ret (v := .tuple #[.agg #[(.int .i64 (k : Int)), (.int .i64 (cc : Int))], .string ⟨#[]⟩, .bool true]) ?_ rfl ⟨HK7.out, .inl ⟨_, _, _, HFI.out, rfl⟩⟩
        exact Zt (by rfl) _ _ x 75 _ (0, 0) _ _ _ (by rfl) (by rfl) (by rfl) HB7.out Tryz.underlying75 rfl Za0
      | none =>
       rw [hsx] at HSY HOP
       have HE : Hid (F = none) := HOP.out
       clear hsx HOP
       go_wp2_with fail
       refine HSY.out.mono ?_
       rintro e w9 ⟨rfl, hk9⟩
       have HB9 := Za (Zc hk9 HBX.out id)
       have HK9 := Za (HKX.out.trans hk9)
       obtain ⟨b0, b1, bf0, bf1⟩ := Ym HB9.out
       clear HSY hk9 HBX HKX HSX HPL q0 q1 s1
       have HBT := Za (Zf _ _ 1 _ _ _ HB9.out (.int .i64 0))
       have HKT := Za (HK9.out.step (Zg w9 x 1 (.int .i64 0)) (fun i hi e => by have := HXW.out; omega))
       go_upto_region 21 with fail
       generalize w9.setCell ⟨x, 1, none⟩ (.int .i64 0) = w10 at *
       have HBT' : Hid (w10.heap[x]? = some (.cells #[.int .i64 (k : Int), .int .i64 0] 75 (0, 0))) := HBT.out
       clear b0 b1 bf0 bf1 HBT
       obtain ⟨b0, b1, bf0, bf1⟩ := Ym HBT'.out
       have hb6 := Zf _ _ 0 _ _ _ HBT'.out (.int .i64 (k : Int))
       have hb7 := Zf _ _ 1 _ _ _ hb6 (.int .i64 0)
       have HB7 := Za hb7
       have HK7 := Za (HKT.out.step ((Zg w10 x 0 (.int .i64 (k : Int))).trans (Zg _ x 1 (.int .i64 0))) (fun i hi e => by have := HXW.out; omega))
       obtain ⟨d0, d1, df0, df1⟩ := Ym hb6
       clear hb6 hb7
       go_wp2
       all_goals
        refine bodyPost_ret (v := .tuple #[.agg #[(.int .i64 (k : Int)), (.int .i64 0)], .string ⟨#[]⟩, .bool false]) ?_ rfl ⟨HK7.out, .inr ⟨HE.out, _, _, _, rfl⟩⟩
        exact Zt (by rfl) _ _ x 75 _ (0, 0) _ _ _ (by rfl) (by rfl) (by rfl) HB7.out Tryz.underlying75 rfl Za0
     ·rw [if_neg hk5] at HOP
      have HE : Hid (F = none) := HOP.out
      have e3 : (kd == 3) = false := by simp; omega
      have e4 : (kd == 4) = false := by simp; omega
      have e5 : (kd == 5) = false := by simp; omega
      clear HOP hk34 hk5 hkz hkd0 hkd6
      obtain ⟨b0, b1, bf0, bf1⟩ := Ym HBX.out
      have hb6 := Zf _ _ 0 _ _ _ HBX.out (.int .i64 (k : Int))
      have hb7 := Zf _ _ 1 _ _ _ hb6 (.int .i64 0)
      have HB7 := Za hb7
      have HK7 := Za (HKX.out.step ((Zg w8 x 0 (.int .i64 (k : Int))).trans (Zg _ x 1 (.int .i64 0))) (fun i hi e => by have := HXW.out; omega))
      obtain ⟨d0, d1, df0, df1⟩ := Ym hb6
      clear hb6 hb7
      go_wp2
      all_goals
       refine bodyPost_ret (v := .tuple #[.agg #[(.int .i64 (k : Int)), (.int .i64 0)], .string ⟨#[]⟩, .bool false]) ?_ rfl ⟨HK7.out, .inr ⟨HE.out, _, _, _, rfl⟩⟩
       exact Zt (by rfl) _ _ x 75 _ (0, 0) _ _ _ (by rfl) (by rfl) (by rfl) HB7.out Tryz.underlying75 rfl Za0
   have HE : Hid (F = none) := by
    have := HIE.out
    match l, hl0, hl1 with
    | [], _, _ => rw [Zbh, if_neg hkz] at this; exact this
    | [q], h0, h1 =>
     rw [Zbh, if_neg hkz, if_pos rfl, if_neg (fun e => h1 (by simp [e])), if_neg (fun e => h0 (by simp [e]))] at this
     exact this
    | q :: q' :: r, _, _ => rw [Zbh, if_neg hkz, if_neg (by simp)] at this; exact this
   rw [decide_eq_false hl0] at HFb
   clear HIE hl0 hl1 s1 hkz hkd0 hkd6
   go_wp2_with fail
   refine HFb.out.mono ?_
   rintro e w8 ⟨rfl, hk6⟩
   have hkk := hkab.trans hk6
   have HBn := Za (Zc hkk HBX.out id)
   have HSn := Za (Zc hkk HSX.out id)
   have HKn := Za (HKX.out.trans hkk)
   have HPn := Za (HPL.out.kept hkk id)
   clear hkk hk6 hkab hbab HFb HBX HSX HKX HPL
   have HBX := HBn
   have HSX := HSn
   have HKX := HKn
   have HPL := HPn
   clear HBn HSn HKn HPn
   obtain ⟨b0, b1, bf0, bf1⟩ := Ym HBX.out
   have hb6 := Zf _ _ 0 _ _ _ HBX.out (.int .i64 (k : Int))
   have hb7 := Zf _ _ 1 _ _ _ hb6 (.int .i64 0)
   have HB7 := Za hb7
   have HK7 := Za (HKX.out.step ((Zg w8 x 0 (.int .i64 (k : Int))).trans (Zg _ x 1 (.int .i64 0))) (fun i hi e => by have := HXW.out; omega))
   obtain ⟨d0, d1, df0, df1⟩ := Ym hb6
   clear hb6 hb7
   go_wp2
   all_goals
    refine bodyPost_ret (v := .tuple #[.agg #[(.int .i64 (k : Int)), (.int .i64 0)], .string ⟨#[]⟩, .bool false]) ?_ rfl ⟨HK7.out, .inr ⟨HE.out, _, _, _, rfl⟩⟩
    exact Zt (by rfl) _ _ x 75 _ (0, 0) _ _ _ (by rfl) (by rfl) (by rfl) HB7.out Tryz.underlying75 rfl Za0
 ·rw [if_neg hk0] at HIE
  have HE : Hid (F = none) := HIE.out
  clear HIE HN
  have hk0' : (pk != 0) = true := by simp; exact hk0
  go_enter Tryz.func84, Tryz.ntmps84
  go_upto_region 1 with fail
  generalize w.alloc Z2 = w1 at *
  obtain ⟨x, hx⟩ := nmd (w.heap.size)
  rw [← hx] at HB HGX ⊢
  have HXW : Hid (w.heap.size ≤ x) := by rw [hx]; exact Nat.le_refl _
  clear hx
  obtain ⟨b0, b1, bf0, bf1⟩ := Ym HB.out
  have hb6 := Zf _ _ 0 _ _ _ HB.out (.int .i64 0)
  have hb7 := Zf _ _ 1 _ _ _ hb6 (.int .i64 0)
  have HB7 := Za hb7
  have HK7 := Za (HK.out.step ((Zg w1 x 0 (.int .i64 0)).trans (Zg _ x 1 (.int .i64 0))) (fun i hi e => by have := HXW.out; omega))
  obtain ⟨d0, d1, df0, df1⟩ := Ym hb6
  clear hb6 hb7
  go_wp2
  all_goals
   refine bodyPost_ret (v := .tuple #[.agg #[(.int .i64 0), (.int .i64 0)], .string ⟨#[]⟩, .bool false]) ?_ rfl ⟨HK7.out, .inr ⟨HE.out, _, _, _, rfl⟩⟩
   exact Zt (by rfl) _ _ x 75 _ (0, 0) _ _ _ (by rfl) (by rfl) (by rfl) HB7.out Tryz.underlying75 rfl Za0
end Go.Proofs.YtgoabnehdmdikaaGreatDoor
