import Derived.Test.YtgoabnehdmdikaaGreatDoorTLg21
set_option linter.unusedVariables false
set_option linter.unusedSimpArgs false
set_option maxRecDepth 100000
set_option maxHeartbeats 64000000
namespace Go.Proofs.YtgoabnehdmdikaaGreatDoor
open Go.RowKit
theorem Tryz.info108 : (Tryz.prog.info? 108).map (fun i => (i.zero, i.size, i.bytes)) = some (some (.agg #[.int .i64 0, .string ⟨#[]⟩, .int .i64 0, .bool false]), 4, 40) := by kernel_rfl
theorem Zcm {w0 W : World} {v : Value} {k : Nat} {xs : List Value} (h : W.ownsRow w0.heap.size 108 4 v k xs) (x0 x1 x2 x3 : Value) (h0 : x0.oneCell' = true) (h1 : x1.oneCell' = true) (h2 : x2.oneCell' = true) (h3 : x3.oneCell' = true) (hk : Kept nF w0 W) (hl : k ≤ 90000) :
  ∃ v' w', (Builtin.append_ #[104, 104] 104 #[v, .slice (some ⟨W.heap.size, 0, none⟩) 1 1]).run Tryz.prog (W.alloc (.cells #[x0, x1, x2, x3] 108)) = .ok v' w' ∧ w'.ownsRow w0.heap.size 108 4 v' (k + 1) (xs ++ [x0, x1, x2, x3]) ∧ Kept nF w0 w' ∧ Kept (fun q => v.ownBlock = some q) W w' ∧ Xx W v v' := by
 obtain ⟨i0, hi, hz0, hz1, hz2⟩ := info_parts Tryz.info108
 obtain ⟨v', w', hr, h2', h3', h4, _⟩ := Zaa (P := Tryz.prog) (W.alloc (.cells #[x0, x1, x2, x3] 108)) w0.heap.size 104 104 108 i0 _ 4 40 Tryz.underlying104 hi hz0 hz1 hz2 rfl (by decide) v k xs (h.alloc _) ⟨W.heap.size, 0, none⟩ 1 1 [x0, x1, x2, x3] (by simp) (fun j u hj => by
  have hjl := (List.getElem?_eq_some_iff.1 hj).1
  rw [Addr.add_lit, Nat.zero_add, Zb _ _ _ _ _ _ (heap_alloc_new W _)]
  simpa using hj) (fun u hu => by
   simp at hu
   rcases hu with rfl | rfl | rfl | rfl <;> assumption) (by unfold maxLen; omega) (by omega) (by have := hk.size; simp; omega)
 have hk1 : Kept (fun k => v.ownBlock = some k) W w' := ((Kept.refl _ W).alloc _).grown h3' (fun k hk => .inr hk)
 exact ⟨v', w', hr, h2', hk.step hk1 (fun i hi e => by have := (h.lt i e).1; omega), hk1, by simpa [Xx] using h4⟩
def Zv2 (p d : Pf) : Prop := d.k = p.k + 1 ∧ (p.k ≠ 1 → d.s = p.s) ∧ d.f = p.f ∧ (p.f = false → d.n = p.n)
inductive Sim : List Pf → List Pf → Prop
 | nil : Sim [] []
 | cons {p d : Pf} {ps ds : List Pf} : Zv2 p d → Sim ps ds → Sim (p :: ps) (d :: ds)
theorem Sim.snoc {ps ds : List Pf} (h : Sim ps ds) {p d : Pf} (hp : Zv2 p d) : Sim (ps ++ [p]) (ds ++ [d]) := by
 induction h with
 | nil => exact .cons hp .nil
 | cons h1 _ ih => exact .cons h1 ih
theorem Sim.len {ps ds : List Pf} (h : Sim ps ds) : ps.length = ds.length := by
 induction h with
 | nil => rfl
 | cons h1 _ ih => simp [ih]
def Zxv (bs : List UInt8) (w : World) (e : Ending) (w' : World) : Prop :=
 ∃ (v : Value) (b : Bool), e = .returned (.tuple #[v, .bool b]) ∧ Kept nF w w' ∧ ((b = true ∧ ∃ (ps ds : List Pf) (n : Nat), Yc bs = some ps ∧ Sim ps ds ∧ n = ds.length ∧ w'.ownsRow w.heap.size 108 4 v n (Xn ds)) ∨ (b = false ∧ Yc bs = none))
def Zw8 (last s : Int) : Prop := (s = 0 ∧ (last = 0 ∨ last = 4)) ∨ (s = 1 ∧ 1 ≤ last ∧ last ≤ 3)
abbrev ZP : Obj := .cells #[.int .i64 0, .string ⟨#[]⟩, .int .i64 0, .bool false] 108
theorem Zud (D : ByteArray) (hs : D.size ≤ 65536) (w : World) : Calls Tryz.prog 40 #[.string D] w (Zxv D.data.toList w) := by
 obtain ⟨bs, hbs⟩ : ∃ bs, D.data.toList = bs := ⟨_, rfl⟩
 have hbl : bs.length = D.size := by rw [← hbs, Lib.size_eq]
 have HB : Hid (∀ (j : Nat) (hj : j < D.size), D[j]'hj = bs[j]'(by omega)) := fun j hj => by subst hbs; rfl
 have HEX : Hid (∀ i j, (D.extract i j).data.toList = Xk bs i j) := Zka D bs hbs
 have HUQ : Hid (∀ (i : Nat), i < D.size → ∀ w, Calls Tryz.prog 59 #[.string D, .int .i64 (i : Int)] w (Zv1 bs (i + 1) w)) := fun i hi w => by rw [← hbs]; exact Zri D i hs hi w
 rw [hbs]
 have HO0 : Hid (w.ownsRow w.heap.size 108 4 (.slice none 0 0) 0 (Xn [])) := World.ownsRow_nil _ _ _ _
 clear hbs
 go_enter Tryz.func40, Tryz.ntmps40
 go_wp2
 go_loopw [4, 5, 6] (fun vo vl vi wr => ∃ (i n : Nat) (ps ds : List Pf) (va : Option Addr) (vc : Nat) (last s : Int), vo = .slice va n vc ∧ vl = .int .i64 last ∧ vi = .int .i64 (i : Int) ∧ i ≤ D.size ∧ Hid (n = ds.length) ∧ Hid (n ≤ i) ∧ Hid (Sim ps ds) ∧ Hid (wr.ownsRow w.heap.size 108 4 (.slice va n vc) n (Xn ds)) ∧ Hid (Kept nF w wr) ∧ Hid (PInv bs i ps s) ∧ Hid (Zw8 last s)) (fun _ _ vi _ => D.size - (intOf vi).toNat)
 case atStart => exact ⟨0, 0, [], [], none, 0, 0, 0, rfl, rfl, by go_num, by omega, rfl, Nat.le_refl _, .nil, HO0, Kept.refl _ _, PInv.first, .inl ⟨rfl, .inl rfl⟩⟩
 case round =>
  clear HO0
  obtain ⟨i, n, ps, ds, va, vc, last, s, rfl, rfl, rfl, hi1, HN, HNI, HS, HO, HK, HI, HL⟩ := hrel
  have hi2 : (i : Int) ≤ 65536 := by omega
  by_cases hlt : i < D.size
  ·obtain ⟨x, hx⟩ : ∃ x : Int, x = ((bs[i]'(by omega)).toNat : Int) := ⟨_, rfl⟩
   have hik := fun w => Yo D i (i : Int) x rfl hlt (by rw [HB.out i hlt, hx]) w
   have hx0 : 0 ≤ x := by omega
   have hx1 : x < 256 := by have := (bs[i]'(by omega)).toNat_lt; omega
   have HKA : Hid (Kept nF w (wr.alloc ZP)) := HK.out.alloc _
   have HOA : Hid ((wr.alloc ZP).ownsRow w.heap.size 108 4 (.slice va n vc) n (Xn ds)) := HO.out.alloc _
   have HGA : Hid ((wr.alloc ZP).heap[wr.heap.size]? = some ZP) := heap_alloc_new wr _
   have HLO : Hid (w.heap.size ≤ wr.heap.size) := HK.out.size
   have HNE : Hid ((Value.slice va n vc).ownBlock ≠ some wr.heap.size) := fun e => by have := (HO.out.lt _ e).2; omega
   by_cases h59 : x = 59
   ·have HV := Za (HI.out.semi (by omega) (by rw [← hx]; exact h59))
    subst h59
    clear hx hx0 hx1 HI HO HK HGA
    go_wp2
    all_goals (try simp only [Exit.inBlock, Exit.then])
    all_goals refine bodyPost_ret (results_tmp2 rfl _ _ _) rfl ?_
    all_goals exact ⟨_, true, rfl, HKA.out, .inl ⟨rfl, ps, ds, n, HV.out, HS.out, HN.out, HOA.out⟩⟩
   have e59 : (x == 59) = false := by simp; exact h59
   by_cases hb : Zfl x = true
   ·have HI2 := Za (HI.out.blank (by omega) (by rw [← hx]; exact hb))
    have HBL := Za (fun w => Zoe x w)
    rw [hb] at HBL
    clear hx h59 HI HO HK HGA hb
    go_wp2_with fail
    refine (HBL.out _).mono ?_
    rintro e w1 ⟨rfl, hw⟩
    have hw := hw.symm
    subst hw
    go_wp2
    go_roundw
    case rel => exact ⟨i + 1, n, ps, ds, va, vc, 0, 0, rfl, rfl, by go_num, by omega, HN, (by have := HNI.out; show n ≤ i + 1; omega), HS, HOA, HKA, HI2, .inl ⟨rfl, .inl rfl⟩⟩
    case measure => simp [intOf]; omega
   have hb : Zfl x = false := by simpa using hb
   have HBL := Za (fun w => Zoe x w)
   rw [hb] at HBL
   by_cases h58 : x = 58
   ·have HI2 := Za (HI.out.colon (by omega) (by rw [← hx]; exact h58))
    have HGL := Za (fun w => Zax last 4 w)
    have hg4 : glP last 4 = false := decide_eq_false (by simp)
    rw [hg4] at HGL
    subst h58
    clear hx h59 HI HO HK hb hg4 hx0 hx1
    go_wp2_with fail
    refine (HBL.out _).mono ?_
    rintro e w1 ⟨rfl, hw⟩
    have hw := hw.symm
    subst hw
    obtain ⟨k0, k1, k2, k3, f0, f1, f2, f3⟩ := Yk HGA.out
    generalize wr.alloc ZP = wa at *
    generalize wr.heap.size = pp at *
    have hb1 := Zf _ _ 0 _ _ _ HGA.out (.int .i64 4)
    obtain ⟨m0, m1, m2, m3, _, _, _, _⟩ := Yk hb1
    have hs1 := Zg wa pp 0 (.int .i64 4)
    have HO1 := Za (hs1.ownsRow HOA.out (fun q hq e => HNE.out (by rw [hq, e])))
    have HK1 := Za (HKA.out.setCell (p := ⟨pp, 0, none⟩) (.inl HLO.out) (.int .i64 4))
    clear hb1 hs1 HGA HOA HKA
    go_wp2_with fail
    refine (HGL.out _).mono ?_
    rintro e w1 ⟨rfl, hw⟩
    have hw := hw.symm
    subst hw
    obtain ⟨v', w', hr, ho, hk0, hk1, hn0⟩ := Zcm HO1.out (.int .i64 4) (.string ⟨#[]⟩) (.int .i64 0) (.bool false) rfl rfl rfl rfl HK1.out (by have := HNI.out; omega)
    rw [show (wa.setCell ⟨pp, 0, none⟩ (.int .i64 4)).heap.size = wa.heap.size by simp] at hr
    have HR := Za hr
    have HK2 := Za hk0
    have HO2 : Hid (w'.ownsRow w.heap.size 108 4 v' (n + 1) (Xn (ds ++ [⟨4, ⟨#[]⟩, 0, false⟩]))) := by
     show w'.ownsRow _ _ _ _ _ _
     rw [Zae]
     exact ho
    obtain ⟨va2, vc2, hbv2⟩ := Zd ho
    obtain ⟨n2, hn2⟩ := nmd (n + 1)
    rw [← hn2] at hbv2 HO2
    subst hbv2
    have HN2 := Za hn2
    clear hr ho hk0 hk1 hn0 hn2
    go_wp2_with (at_builtin; refine Zr rfl (.tmp 120) (.tmp 122) 104 104 rfl _ _ rfl rfl _ w' HR.out ?_)
    go_roundw
    case rel => exact ⟨i + 1, n2, ps ++ [⟨3, ⟨#[]⟩, 0, false⟩], ds ++ [⟨4, ⟨#[]⟩, 0, false⟩], va2, vc2, 4, 0, rfl, rfl, by go_num, by omega, (by have := HN2.out; have := HN.out; show n2 = _; simp only [List.length_append, List.length_cons, List.length_nil]; omega), (by have := HN2.out; have := HNI.out; show n2 ≤ _; omega), HS.out.snoc ⟨rfl, fun _ => rfl, rfl, fun _ => rfl⟩, HO2, HK2, HI2, .inl ⟨rfl, .inr rfl⟩⟩
    case measure => simp [intOf]; omega
   have e58 : (x == 58) = false := by simp; exact h58
   have HST : Hid (s = 1 → Yc bs = none) := fun e => by
    have h := HI.out
    rw [e] at h
    exact h.stuck (by omega) (by rw [← hx]; exact h59) (by rw [← hx]; exact hb) (by rw [← hx]; exact h58)
   by_cases h34 : x = 34
   ·have hxv := hx
    have HNV : Hid (Zcq bs (i + 1) → Yc bs = none) := fun hn => by
     rcases HL.out with ⟨e, _⟩ | ⟨e, _⟩
     ·have h := HI.out
      rw [e] at h
      exact h.never (by omega) (by rw [← hxv]; exact h34) hn
     ·exact HST.out e
    have HSH : Hid (∀ (j : Nat) (un : List Int), s = 0 → Shut bs (i + 1) j un → PInv bs j (ps ++ [⟨2, str un, 0, false⟩]) 1) := fun j un e hsh => by
     have h := HI.out
     rw [e] at h
     exact h.shut (by omega) (by rw [← hxv]; exact h34) hsh
    have HUX := Za (HUQ.out i hlt)
    subst h34
    clear hx hxv h59 h58 HI HO HK hx0 hx1 hb
    go_wp2_with fail
    refine (HBL.out _).mono ?_
    rintro e w1 ⟨rfl, hw⟩
    have hw := hw.symm
    subst hw
    generalize wr.alloc ZP = wa at *
    generalize wr.heap.size = pp at *
    go_wp2_with fail
    refine (HUX.out _).mono ?_
    rintro e w1 ⟨tx, en, ok, rfl, hk1, hcase⟩
    have HKU := Za hk1
    have HGB := Za (Zc hk1 HGA.out id)
    have HOB := Za (hk1.ownsRow HOA.out (fun _ _ f => f))
    have HKB := Za (HKA.out.trans hk1)
    clear hk1 HGA HOA HKA HUX
    obtain ⟨k0, k1, k2, k3, f0, f1, f2, f3⟩ := Yk HGB.out
    rcases hcase with ⟨rfl, un, j, rfl, rfl, hj1, hj2, hsh⟩ | ⟨rfl, hnv⟩
    ·have HSD := Za hsh
     clear hsh
     go_wp2_with fail
     obtain ⟨hb4, hk4⟩ := Zec w1 pp 108 _ _ _ _ (.int .i64 3) (.string (str un)) (.int .i64 0) (.bool false) HGB.out
     have HO1 := Za (hk4.ownsRow HOB.out (fun q hq e => HNE.out (by rw [hq, e])))
     have HK1 := Za (HKB.out.step hk4 (fun q hq e => by have := HLO.out; omega))
     clear hk4 f0 f1 f2 f3 k0 k1 k2 k3
     generalize (((w1.setCell ⟨pp, 0, none⟩ (.int .i64 3)).setCell ⟨pp, 1, none⟩ (.string (str un))).setCell ⟨pp, 2, none⟩ (.int .i64 0)).setCell ⟨pp, 3, none⟩ (.bool false) = w2 at *
     obtain ⟨m0, m1, m2, m3, _, _, _, _⟩ := Yk hb4
     clear hb4
     rcases HL.out with ⟨hs0, hl⟩ | ⟨hs1, hl1, hl2⟩
     ·have hg : glP last 3 = false := decide_eq_false (fun e => by omega)
      have HI2 := Za (HSH.out j un hs0 HSD.out)
      have hgl := Zax last 3 w2
      rw [hg] at hgl
      clear hg
      refine hgl.mono ?_
      clear hgl
      rintro e w3 ⟨rfl, hw⟩
      have hw := hw.symm
      subst hw
      obtain ⟨v', w', hr, ho, hk0, hk1, hn0⟩ := Zcm HO1.out (.int .i64 3) (.string (str un)) (.int .i64 0) (.bool false) rfl rfl rfl rfl HK1.out (by have := HNI.out; omega)
      skip
      have HR := Za hr
      have HK2 := Za hk0
      have HO2 : Hid (w'.ownsRow w.heap.size 108 4 v' (n + 1) (Xn (ds ++ [⟨3, str un, 0, false⟩]))) := by
       show w'.ownsRow _ _ _ _ _ _
       rw [Zae]
       exact ho
      obtain ⟨va2, vc2, hbv2⟩ := Zd ho
      obtain ⟨n2, hn2⟩ := nmd (n + 1)
      rw [← hn2] at hbv2 HO2
      subst hbv2
      have HN2 := Za hn2
      clear hr ho hk0 hk1 hn0 hn2
      go_wp2_with (at_builtin; refine Zr rfl (.tmp 120) (.tmp 122) 104 104 rfl _ _ rfl rfl _ w' HR.out ?_)
      go_roundw
      case rel => exact ⟨j, n2, ps ++ [⟨2, str un, 0, false⟩], ds ++ [⟨3, str un, 0, false⟩], va2, vc2, 3, 1, rfl, rfl, by go_num, by omega, (by have := HN2.out; have := HN.out; show n2 = _; simp only [List.length_append, List.length_cons, List.length_nil]; omega), (by have := HN2.out; have := HNI.out; show n2 ≤ _; omega), HS.out.snoc ⟨rfl, fun _ => rfl, rfl, fun _ => rfl⟩, HO2, HK2, HI2, .inr ⟨rfl, by decide, by decide⟩⟩
      case measure => simp [intOf]; omega
     ·have hg : glP last 3 = true := decide_eq_true (by omega)
      have HV := Za (HST.out hs1)
      have hgl := Zax last 3 w2
      rw [hg] at hgl
      clear hg
      refine hgl.mono ?_
      clear hgl
      rintro e w3 ⟨rfl, hw⟩
      have hw := hw.symm
      subst hw
      go_wp2
      all_goals (try simp only [Exit.inBlock, Exit.then])
      all_goals refine bodyPost_ret (results_tmp2 rfl _ _ _) rfl ?_
      all_goals exact ⟨_, false, rfl, HK1.out, .inr ⟨rfl, HV.out⟩⟩
    ·have HV := Za (HNV.out hnv)
     clear hnv
     go_wp2
     all_goals (try simp only [Exit.inBlock, Exit.then])
     all_goals refine bodyPost_ret (results_tmp2 rfl _ _ _) rfl ?_
     all_goals exact ⟨_, false, rfl, HKB.out, .inr ⟨rfl, HV.out⟩⟩
   have e34 : (x == 34) = false := by simp; exact h34
   have HLT := Za (fun w => Zlw x w)
   have HDG := Za (fun w => Zcc x w)
   by_cases hl : Wc x = true
   ·rw [hl] at HLT
    have HWD : Hid (s = 0 → ∀ j, i < j → (∀ k (hk : k < bs.length), i ≤ k → k < j → goP ((bs[k]).toNat : Int) = true) → (∀ h : j < bs.length, goP ((bs[j]).toNat : Int) = false) → PInv bs j (ps ++ [⟨0, str ((Xk bs i j).map (fun b => (b.toNat : Int))), 0, false⟩]) 1) := fun e j h1 h2 h3 => by
     have h := HI.out
     rw [e] at h
     exact h.word (by omega) (by rw [← hx]; exact hl) h1 (fun k hk h4 h5 => h2 k hk (by omega) h5) h3
    have HFI : Hid (goP ((bs[i]'(by omega)).toNat : Int) = true) := by
     show goP _ = true
     rw [← hx]; exact Zw7 hl
    clear hx h59 h58 h34 HI HO HK hx0 hx1 hb hl
    go_wp2_with fail
    refine (HBL.out _).mono ?_
    rintro e w1 ⟨rfl, hw⟩
    have hw := hw.symm
    subst hw
    generalize wr.alloc ZP = wa at *
    generalize wr.heap.size = pp at *
    go_wp2_with fail
    refine (HLT.out _).mono ?_
    rintro e w1 ⟨rfl, hw⟩
    have hw := hw.symm
    subst hw
    have HGB := HGA
    have HOB := HOA
    have HKB := HKA
    clear HGA HOA HKA
    obtain ⟨k0, k1, k2, k3, f0, f1, f2, f3⟩ := Yk HGB.out
    go_wp2
    go_loop [6] (fun vi => ∃ j : Nat, vi = .int .i64 (j : Int) ∧ i ≤ j ∧ j ≤ D.size ∧ Hid (∀ k (hk : k < bs.length), i ≤ k → k < j → goP ((bs[k]).toNat : Int) = true)) (fun vi => D.size - (intOf vi).toNat)
    case atStart => exact ⟨i, by go_num, by omega, by omega, fun k hk h1 h2 => absurd h2 (by omega)⟩
    case round =>
     obtain ⟨j, rfl, hj1, hj2, hjg⟩ := hrel
     have hj3 : (j : Int) ≤ 65536 := by omega
     by_cases hjl : j < D.size
     ·obtain ⟨y, hy⟩ : ∃ y : Int, y = ((bs[j]'(by omega)).toNat : Int) := ⟨_, rfl⟩
      have hjk := fun w => Yo D j (j : Int) y rfl hjl (by rw [HB.out j hjl, hy]) w
      have HT := Za (fun w => Zmz y w)
      by_cases hgo : goP y = true
      ·have HJG : Hid (∀ k (hk : k < bs.length), i ≤ k → k < j + 1 → goP ((bs[k]).toNat : Int) = true) := fun k hk h1 h2 => by
        by_cases hkj : k = j
        ·subst hkj
         rw [← hy]; exact hgo
        ·exact hjg.out k hk h1 (by omega)
       rw [hgo] at HT
       clear hgo hy hjg
       go_wp2_with fail
       refine (HT.out _).mono ?_
       rintro e w3 ⟨rfl, hw⟩
       have hw := hw.symm
       subst hw
       go_wp2
       go_round
       case rel => exact ⟨j + 1, by go_num, by omega, by omega, HJG⟩
       case measure => simp [intOf]; omega
      ·have hgo' : goP y = false := by simpa using hgo
       have HEN : Hid (∀ h : j < bs.length, goP ((bs[j]).toNat : Int) = false) := fun h => by rw [← hy]; exact hgo'
       rw [hgo'] at HT
       clear hgo hgo' hy
       have hij : i < j := by
        rcases Nat.lt_or_ge i j with h | h
        ·exact h
        ·exfalso
         have h1 : i = j := by omega
         subst h1
         have h2 := HEN.out (by omega)
         rw [HFI.out] at h2
         cases h2
       obtain ⟨T, hT⟩ := nmd (D.extract i j)
       have HTL : Hid (T.data.toList = Xk bs i j) := by show T.data.toList = _; rw [hT]; exact HEX.out i j
       have HTE : Hid (str ((Xk bs i j).map (fun b => (b.toNat : Int))) = T) := Zg3 T _ HTL.out
       have HTT := Za hT
       clear hT
       have hijI : (i : Int) ≤ j := by omega
       have hjD : (j : Int) ≤ D.size := by omega
       go_wp2_with fail
       refine (HT.out _).mono ?_
       rintro e w3 ⟨rfl, hw⟩
       have hw := hw.symm
       subst hw
       go_wp2_with fail
       rw [← HTT.out]
       obtain ⟨hb4, hk4⟩ := Zec wa pp 108 _ _ _ _ (.int .i64 1) (.string T) (.int .i64 0) (.bool false) HGB.out
       have HO1 := Za (hk4.ownsRow HOB.out (fun q hq e => HNE.out (by rw [hq, e])))
       have HK1 := Za (HKB.out.step hk4 (fun q hq e => by have := HLO.out; omega))
       clear hk4 f0 f1 f2 f3 k0 k1 k2 k3
       generalize (((wa.setCell ⟨pp, 0, none⟩ (.int .i64 1)).setCell ⟨pp, 1, none⟩ (.string T)).setCell ⟨pp, 2, none⟩ (.int .i64 0)).setCell ⟨pp, 3, none⟩ (.bool false) = w2 at *
       obtain ⟨m0, m1, m2, m3, _, _, _, _⟩ := Yk hb4
       clear hb4
       rcases HL.out with ⟨hs0, hl⟩ | ⟨hs1, hl1, hl2⟩
       ·have hg : glP last 1 = false := decide_eq_false (fun e => by omega)
        have HI2 := Za ((by have := HWD.out hs0 j hij hjg.out HEN.out; rw [HTE.out] at this; exact this))
        have hgl := Zax last 1 w2
        rw [hg] at hgl
        clear hg
        refine hgl.mono ?_
        clear hgl
        rintro e w3 ⟨rfl, hw⟩
        have hw := hw.symm
        subst hw
        obtain ⟨v', w', hr, ho, hk0, hk1, hn0⟩ := Zcm HO1.out (.int .i64 1) (.string T) (.int .i64 0) (.bool false) rfl rfl rfl rfl HK1.out (by have := HNI.out; omega)
        skip
        have HR := Za hr
        have HK2 := Za hk0
        have HO2 : Hid (w'.ownsRow w.heap.size 108 4 v' (n + 1) (Xn (ds ++ [⟨1, T, 0, false⟩]))) := by
         show w'.ownsRow _ _ _ _ _ _
         rw [Zae]
         exact ho
        obtain ⟨va2, vc2, hbv2⟩ := Zd ho
        obtain ⟨n2, hn2⟩ := nmd (n + 1)
        rw [← hn2] at hbv2 HO2
        subst hbv2
        have HN2 := Za hn2
        clear hr ho hk0 hk1 hn0 hn2
        go_wp2_with (at_builtin; refine Zr rfl (.tmp 120) (.tmp 122) 104 104 rfl _ _ rfl rfl _ w' HR.out ?_)
        go_roundw
        case rel => exact ⟨j, n2, ps ++ [⟨0, T, 0, false⟩], ds ++ [⟨1, T, 0, false⟩], va2, vc2, 1, 1, rfl, rfl, by go_num, by omega, (by have := HN2.out; have := HN.out; show n2 = _; simp only [List.length_append, List.length_cons, List.length_nil]; omega), (by have := HN2.out; have := HNI.out; show n2 ≤ _; omega), HS.out.snoc ⟨rfl, fun _ => rfl, rfl, fun _ => rfl⟩, HO2, HK2, HI2, .inr ⟨rfl, by decide, by decide⟩⟩
        case measure => simp [intOf]; omega
       ·have hg : glP last 1 = true := decide_eq_true (by omega)
        have HV := Za (HST.out hs1)
        have hgl := Zax last 1 w2
        rw [hg] at hgl
        clear hg
        refine hgl.mono ?_
        clear hgl
        rintro e w3 ⟨rfl, hw⟩
        have hw := hw.symm
        subst hw
        go_wp2
        all_goals (try simp only [Exit.inBlock, Exit.then])
        all_goals refine bodyPost_ret (results_tmp2 rfl _ _ _) rfl ?_
        all_goals exact ⟨_, false, rfl, HK1.out, .inr ⟨rfl, HV.out⟩⟩
     ·have HEN : Hid (∀ h : j < bs.length, goP ((bs[j]).toNat : Int) = false) := fun h => absurd h (by omega)
      have hij : i < j := by
       rcases Nat.lt_or_ge i j with h | h
       ·exact h
       ·exfalso
        have h1 : i = j := by omega
        subst h1
        have h2 := HEN.out (by omega)
        rw [HFI.out] at h2
        cases h2
      obtain ⟨T, hT⟩ := nmd (D.extract i j)
      have HTL : Hid (T.data.toList = Xk bs i j) := by show T.data.toList = _; rw [hT]; exact HEX.out i j
      have HTE : Hid (str ((Xk bs i j).map (fun b => (b.toNat : Int))) = T) := Zg3 T _ HTL.out
      have HTT := Za hT
      clear hT
      have hijI : (i : Int) ≤ j := by omega
      have hjD : (j : Int) ≤ D.size := by omega
      go_wp2_with fail
      rw [← HTT.out]
      obtain ⟨hb4, hk4⟩ := Zec wa pp 108 _ _ _ _ (.int .i64 1) (.string T) (.int .i64 0) (.bool false) HGB.out
      have HO1 := Za (hk4.ownsRow HOB.out (fun q hq e => HNE.out (by rw [hq, e])))
      have HK1 := Za (HKB.out.step hk4 (fun q hq e => by have := HLO.out; omega))
      clear hk4 f0 f1 f2 f3 k0 k1 k2 k3
      generalize (((wa.setCell ⟨pp, 0, none⟩ (.int .i64 1)).setCell ⟨pp, 1, none⟩ (.string T)).setCell ⟨pp, 2, none⟩ (.int .i64 0)).setCell ⟨pp, 3, none⟩ (.bool false) = w2 at *
      obtain ⟨m0, m1, m2, m3, _, _, _, _⟩ := Yk hb4
      clear hb4
      rcases HL.out with ⟨hs0, hl⟩ | ⟨hs1, hl1, hl2⟩
      ·have hg : glP last 1 = false := decide_eq_false (fun e => by omega)
       have HI2 := Za ((by have := HWD.out hs0 j hij hjg.out HEN.out; rw [HTE.out] at this; exact this))
       have hgl := Zax last 1 w2
       rw [hg] at hgl
       clear hg
       refine hgl.mono ?_
       clear hgl
       rintro e w3 ⟨rfl, hw⟩
       have hw := hw.symm
       subst hw
       obtain ⟨v', w', hr, ho, hk0, hk1, hn0⟩ := Zcm HO1.out (.int .i64 1) (.string T) (.int .i64 0) (.bool false) rfl rfl rfl rfl HK1.out (by have := HNI.out; omega)
       skip
       have HR := Za hr
       have HK2 := Za hk0
       have HO2 : Hid (w'.ownsRow w.heap.size 108 4 v' (n + 1) (Xn (ds ++ [⟨1, T, 0, false⟩]))) := by
        show w'.ownsRow _ _ _ _ _ _
        rw [Zae]
        exact ho
       obtain ⟨va2, vc2, hbv2⟩ := Zd ho
       obtain ⟨n2, hn2⟩ := nmd (n + 1)
       rw [← hn2] at hbv2 HO2
       subst hbv2
       have HN2 := Za hn2
       clear hr ho hk0 hk1 hn0 hn2
       go_wp2_with (at_builtin; refine Zr rfl (.tmp 120) (.tmp 122) 104 104 rfl _ _ rfl rfl _ w' HR.out ?_)
       go_roundw
       case rel => exact ⟨j, n2, ps ++ [⟨0, T, 0, false⟩], ds ++ [⟨1, T, 0, false⟩], va2, vc2, 1, 1, rfl, rfl, by go_num, by omega, (by have := HN2.out; have := HN.out; show n2 = _; simp only [List.length_append, List.length_cons, List.length_nil]; omega), (by have := HN2.out; have := HNI.out; show n2 ≤ _; omega), HS.out.snoc ⟨rfl, fun _ => rfl, rfl, fun _ => rfl⟩, HO2, HK2, HI2, .inr ⟨rfl, by decide, by decide⟩⟩
       case measure => simp [intOf]; omega
      ·have hg : glP last 1 = true := decide_eq_true (by omega)
       have HV := Za (HST.out hs1)
       have hgl := Zax last 1 w2
       rw [hg] at hgl
       clear hg
       refine hgl.mono ?_
       clear hgl
       rintro e w3 ⟨rfl, hw⟩
       have hw := hw.symm
       subst hw
       go_wp2
       all_goals (try simp only [Exit.inBlock, Exit.then])
       all_goals refine bodyPost_ret (results_tmp2 rfl _ _ _) rfl ?_
       all_goals exact ⟨_, false, rfl, HK1.out, .inr ⟨rfl, HV.out⟩⟩
   have hl : Wc x = false := by simpa using hl
   rw [hl] at HLT
   by_cases hd : Xa x = true ∨ x = 45
   ·have HNB : Hid (s = 0 → ∀ j, i < j → (∀ k (hk : k < bs.length), i + 1 ≤ k → k < j → goP ((bs[k]).toNat : Int) = true) → (∀ h : j < bs.length, goP ((bs[j]).toNat : Int) = false) → ∀ T : ByteArray, T.data.toList = Xk bs i j → (okN T.data.toList = true → PInv bs j (ps ++ [⟨1, ⟨#[]⟩, Xe T.data.toList, Yv T.data.toList⟩]) 1) ∧ (okN T.data.toList = false → Yc bs = none)) := fun e j h1 h2 h3 T hT => by
     have h := HI.out
     rw [e] at h
     exact ⟨h.number (by omega) (by rw [← hx]; exact hd) h1 h2 h3 T hT, h.unnumber (by omega) (by rw [← hx]; exact hd) h1 h2 h3 T hT⟩
    clear hx h59 h58 h34 HI HO HK hx0 hx1 hb hl
    have h81 : ∃ c : Bool, Xa x = c := ⟨_, rfl⟩
    obtain ⟨c, hc⟩ := h81
    rw [hc] at HDG hd
    have e81 : (c = true ∨ (x == 45) = true) := hd.imp id (fun e => by rw [e]; rfl)
    clear hd hc
    cases c
    ·have e45 : (x == 45) = true := by rcases e81 with h | h; cases h; exact h
     clear e81
     go_wp2_with fail
     refine (HBL.out _).mono ?_
     rintro e w1 ⟨rfl, hw⟩
     have hw := hw.symm
     subst hw
     generalize wr.alloc ZP = wa at *
     generalize wr.heap.size = pp at *
     go_wp2_with fail
     refine (HLT.out _).mono ?_
     rintro e w1 ⟨rfl, hw⟩
     have hw := hw.symm
     subst hw
     go_wp2_with fail
     refine (HDG.out _).mono ?_
     rintro e w1 ⟨rfl, hw⟩
     have hw := hw.symm
     subst hw
     have HGB := HGA
     have HOB := HOA
     have HKB := HKA
     clear HGA HOA HKA
     obtain ⟨k0, k1, k2, k3, f0, f1, f2, f3⟩ := Yk HGB.out
     go_wp2
     go_loop [6] (fun vi => ∃ j : Nat, vi = .int .i64 (j : Int) ∧ (i + 1) ≤ j ∧ j ≤ D.size ∧ Hid (∀ k (hk : k < bs.length), (i + 1) ≤ k → k < j → goP ((bs[k]).toNat : Int) = true)) (fun vi => D.size - (intOf vi).toNat)
     case atStart => exact ⟨i + 1, by go_num, by omega, by omega, fun k hk h1 h2 => absurd h2 (by omega)⟩
     case round =>
      obtain ⟨j, rfl, hj1, hj2, hjg⟩ := hrel
      have hj3 : (j : Int) ≤ 65536 := by omega
      by_cases hjl : j < D.size
      ·obtain ⟨y, hy⟩ : ∃ y : Int, y = ((bs[j]'(by omega)).toNat : Int) := ⟨_, rfl⟩
       have hjk := fun w => Yo D j (j : Int) y rfl hjl (by rw [HB.out j hjl, hy]) w
       have HT := Za (fun w => Zmz y w)
       by_cases hgo : goP y = true
       ·have HJG : Hid (∀ k (hk : k < bs.length), (i + 1) ≤ k → k < j + 1 → goP ((bs[k]).toNat : Int) = true) := fun k hk h1 h2 => by
         by_cases hkj : k = j
         ·subst hkj
          rw [← hy]; exact hgo
         ·exact hjg.out k hk h1 (by omega)
        rw [hgo] at HT
        clear hgo hy hjg
        go_wp2_with fail
        refine (HT.out _).mono ?_
        rintro e w3 ⟨rfl, hw⟩
        have hw := hw.symm
        subst hw
        go_wp2
        go_round
        case rel => exact ⟨j + 1, by go_num, by omega, by omega, HJG⟩
        case measure => simp [intOf]; omega
       ·have hgo' : goP y = false := by simpa using hgo
        have HEN : Hid (∀ h : j < bs.length, goP ((bs[j]).toNat : Int) = false) := fun h => by rw [← hy]; exact hgo'
        rw [hgo'] at HT
        clear hgo hgo' hy
        have hij : i < j := by omega
        obtain ⟨T, hT⟩ := nmd (D.extract i j)
        have HTL : Hid (T.data.toList = Xk bs i j) := by show T.data.toList = _; rw [hT]; exact HEX.out i j
        have HTT := Za hT
        clear hT
        have hijI : (i : Int) ≤ j := by omega
        have hjD : (j : Int) ≤ D.size := by omega
        have hTs : T.size ≤ 9000000 := by
         rw [Lib.size_eq, HTL.out]
         unfold Xk
         rw [List.length_take, List.length_drop]
         omega
        have HNM := Za (Zf5 T hTs wa)
        clear hTs
        go_wp2_with fail
        refine (HT.out _).mono ?_
        rintro e w3 ⟨rfl, hw⟩
        have hw := hw.symm
        subst hw
        go_wp2_with fail
        rw [← HTT.out]
        refine HNM.out.mono ?_
        rintro e w3 ⟨nv, fv, rfl, hnf, hw⟩
        have hw := hw.symm
        subst hw
        clear HNM
        by_cases hok : okN T.data.toList = true
        ·rw [hok] at hnf ⊢
         have HNF := Za (hnf rfl)
         have HOK := Za hok
         clear hnf hok
         go_wp2_with fail
         rw [← HTT.out]
         obtain ⟨hb4, hk4⟩ := Zec wa pp 108 _ _ _ _ (.int .i64 2) (.string T) (.int .i64 nv) (.bool fv) HGB.out
         have HO1 := Za (hk4.ownsRow HOB.out (fun q hq e => HNE.out (by rw [hq, e])))
         have HK1 := Za (HKB.out.step hk4 (fun q hq e => by have := HLO.out; omega))
         clear hk4 f0 f1 f2 f3 k0 k1 k2 k3
         generalize (((wa.setCell ⟨pp, 0, none⟩ (.int .i64 2)).setCell ⟨pp, 1, none⟩ (.string T)).setCell ⟨pp, 2, none⟩ (.int .i64 nv)).setCell ⟨pp, 3, none⟩ (.bool fv) = w2 at *
         obtain ⟨m0, m1, m2, m3, _, _, _, _⟩ := Yk hb4
         clear hb4
         rcases HL.out with ⟨hs0, hl⟩ | ⟨hs1, hl1, hl2⟩
         ·have hg : glP last 2 = false := decide_eq_false (fun e => by omega)
          have HI2 := Za ((HNB.out hs0 j hij hjg.out HEN.out T HTL.out).1 HOK.out)
          have hgl := Zax last 2 w2
          rw [hg] at hgl
          clear hg
          refine hgl.mono ?_
          clear hgl
          rintro e w3 ⟨rfl, hw⟩
          have hw := hw.symm
          subst hw
          obtain ⟨v', w', hr, ho, hk0, hk1, hn0⟩ := Zcm HO1.out (.int .i64 2) (.string T) (.int .i64 nv) (.bool fv) rfl rfl rfl rfl HK1.out (by have := HNI.out; omega)
          skip
          have HR := Za hr
          have HK2 := Za hk0
          have HO2 : Hid (w'.ownsRow w.heap.size 108 4 v' (n + 1) (Xn (ds ++ [⟨2, T, nv, fv⟩]))) := by
           show w'.ownsRow _ _ _ _ _ _
           rw [Zae]
           exact ho
          obtain ⟨va2, vc2, hbv2⟩ := Zd ho
          obtain ⟨n2, hn2⟩ := nmd (n + 1)
          rw [← hn2] at hbv2 HO2
          subst hbv2
          have HN2 := Za hn2
          clear hr ho hk0 hk1 hn0 hn2
          go_wp2_with (at_builtin; refine Zr rfl (.tmp 120) (.tmp 122) 104 104 rfl _ _ rfl rfl _ w' HR.out ?_)
          go_roundw
          case rel => exact ⟨j, n2, ps ++ [⟨1, ⟨#[]⟩, Xe T.data.toList, Yv T.data.toList⟩], ds ++ [⟨2, T, nv, fv⟩], va2, vc2, 2, 1, rfl, rfl, by go_num, by omega, (by have := HN2.out; have := HN.out; show n2 = _; simp only [List.length_append, List.length_cons, List.length_nil]; omega), (by have := HN2.out; have := HNI.out; show n2 ≤ _; omega), HS.out.snoc ⟨rfl, fun h => absurd rfl h, HNF.out.1, HNF.out.2⟩, HO2, HK2, HI2, .inr ⟨rfl, by decide, by decide⟩⟩
          case measure => simp [intOf]; omega
         ·have hg : glP last 2 = true := decide_eq_true (by omega)
          have HV := Za (HST.out hs1)
          have hgl := Zax last 2 w2
          rw [hg] at hgl
          clear hg
          refine hgl.mono ?_
          clear hgl
          rintro e w3 ⟨rfl, hw⟩
          have hw := hw.symm
          subst hw
          go_wp2
          all_goals (try simp only [Exit.inBlock, Exit.then])
          all_goals refine bodyPost_ret (results_tmp2 rfl _ _ _) rfl ?_
          all_goals exact ⟨_, false, rfl, HK1.out, .inr ⟨rfl, HV.out⟩⟩
        ·have hok' : okN T.data.toList = false := by simpa using hok
         rw [hok']
         have HV : Hid (Yc bs = none) := by
          rcases HL.out with ⟨hs0, hl⟩ | ⟨hs1, hl1, hl2⟩
          ·exact (HNB.out hs0 j hij hjg.out HEN.out T HTL.out).2 hok'
          ·exact HST.out hs1
         clear hnf hok hok'
         go_wp2
         all_goals (try simp only [Exit.inBlock, Exit.then])
         all_goals refine bodyPost_ret (results_tmp2 rfl _ _ _) rfl ?_
         all_goals exact ⟨_, false, rfl, HKB.out, .inr ⟨rfl, HV.out⟩⟩
      ·have HEN : Hid (∀ h : j < bs.length, goP ((bs[j]).toNat : Int) = false) := fun h => absurd h (by omega)
       have hij : i < j := by omega
       obtain ⟨T, hT⟩ := nmd (D.extract i j)
       have HTL : Hid (T.data.toList = Xk bs i j) := by show T.data.toList = _; rw [hT]; exact HEX.out i j
       have HTT := Za hT
       clear hT
       have hijI : (i : Int) ≤ j := by omega
       have hjD : (j : Int) ≤ D.size := by omega
       have hTs : T.size ≤ 9000000 := by
        rw [Lib.size_eq, HTL.out]
        unfold Xk
        rw [List.length_take, List.length_drop]
        omega
       have HNM := Za (Zf5 T hTs wa)
       clear hTs
       go_wp2_with fail
       rw [← HTT.out]
       refine HNM.out.mono ?_
       rintro e w3 ⟨nv, fv, rfl, hnf, hw⟩
       have hw := hw.symm
       subst hw
       clear HNM
       by_cases hok : okN T.data.toList = true
       ·rw [hok] at hnf ⊢
        have HNF := Za (hnf rfl)
        have HOK := Za hok
        clear hnf hok
        go_wp2_with fail
        rw [← HTT.out]
        obtain ⟨hb4, hk4⟩ := Zec wa pp 108 _ _ _ _ (.int .i64 2) (.string T) (.int .i64 nv) (.bool fv) HGB.out
        have HO1 := Za (hk4.ownsRow HOB.out (fun q hq e => HNE.out (by rw [hq, e])))
        have HK1 := Za (HKB.out.step hk4 (fun q hq e => by have := HLO.out; omega))
        clear hk4 f0 f1 f2 f3 k0 k1 k2 k3
        generalize (((wa.setCell ⟨pp, 0, none⟩ (.int .i64 2)).setCell ⟨pp, 1, none⟩ (.string T)).setCell ⟨pp, 2, none⟩ (.int .i64 nv)).setCell ⟨pp, 3, none⟩ (.bool fv) = w2 at *
        obtain ⟨m0, m1, m2, m3, _, _, _, _⟩ := Yk hb4
        clear hb4
        rcases HL.out with ⟨hs0, hl⟩ | ⟨hs1, hl1, hl2⟩
        ·have hg : glP last 2 = false := decide_eq_false (fun e => by omega)
         have HI2 := Za ((HNB.out hs0 j hij hjg.out HEN.out T HTL.out).1 HOK.out)
         have hgl := Zax last 2 w2
         rw [hg] at hgl
         clear hg
         refine hgl.mono ?_
         clear hgl
         rintro e w3 ⟨rfl, hw⟩
         have hw := hw.symm
         subst hw
         obtain ⟨v', w', hr, ho, hk0, hk1, hn0⟩ := Zcm HO1.out (.int .i64 2) (.string T) (.int .i64 nv) (.bool fv) rfl rfl rfl rfl HK1.out (by have := HNI.out; omega)
         skip
         have HR := Za hr
         have HK2 := Za hk0
         have HO2 : Hid (w'.ownsRow w.heap.size 108 4 v' (n + 1) (Xn (ds ++ [⟨2, T, nv, fv⟩]))) := by
          show w'.ownsRow _ _ _ _ _ _
          rw [Zae]
          exact ho
         obtain ⟨va2, vc2, hbv2⟩ := Zd ho
         obtain ⟨n2, hn2⟩ := nmd (n + 1)
         rw [← hn2] at hbv2 HO2
         subst hbv2
         have HN2 := Za hn2
         clear hr ho hk0 hk1 hn0 hn2
         go_wp2_with (at_builtin; refine Zr rfl (.tmp 120) (.tmp 122) 104 104 rfl _ _ rfl rfl _ w' HR.out ?_)
         go_roundw
         case rel => exact ⟨j, n2, ps ++ [⟨1, ⟨#[]⟩, Xe T.data.toList, Yv T.data.toList⟩], ds ++ [⟨2, T, nv, fv⟩], va2, vc2, 2, 1, rfl, rfl, by go_num, by omega, (by have := HN2.out; have := HN.out; show n2 = _; simp only [List.length_append, List.length_cons, List.length_nil]; omega), (by have := HN2.out; have := HNI.out; show n2 ≤ _; omega), HS.out.snoc ⟨rfl, fun h => absurd rfl h, HNF.out.1, HNF.out.2⟩, HO2, HK2, HI2, .inr ⟨rfl, by decide, by decide⟩⟩
         case measure => simp [intOf]; omega
        ·have hg : glP last 2 = true := decide_eq_true (by omega)
         have HV := Za (HST.out hs1)
         have hgl := Zax last 2 w2
         rw [hg] at hgl
         clear hg
         refine hgl.mono ?_
         clear hgl
         rintro e w3 ⟨rfl, hw⟩
         have hw := hw.symm
         subst hw
         go_wp2
         all_goals (try simp only [Exit.inBlock, Exit.then])
         all_goals refine bodyPost_ret (results_tmp2 rfl _ _ _) rfl ?_
         all_goals exact ⟨_, false, rfl, HK1.out, .inr ⟨rfl, HV.out⟩⟩
       ·have hok' : okN T.data.toList = false := by simpa using hok
        rw [hok']
        have HV : Hid (Yc bs = none) := by
         rcases HL.out with ⟨hs0, hl⟩ | ⟨hs1, hl1, hl2⟩
         ·exact (HNB.out hs0 j hij hjg.out HEN.out T HTL.out).2 hok'
         ·exact HST.out hs1
        clear hnf hok hok'
        go_wp2
        all_goals (try simp only [Exit.inBlock, Exit.then])
        all_goals refine bodyPost_ret (results_tmp2 rfl _ _ _) rfl ?_
        all_goals exact ⟨_, false, rfl, HKB.out, .inr ⟨rfl, HV.out⟩⟩
    ·clear e81
     go_wp2_with fail
     refine (HBL.out _).mono ?_
     rintro e w1 ⟨rfl, hw⟩
     have hw := hw.symm
     subst hw
     generalize wr.alloc ZP = wa at *
     generalize wr.heap.size = pp at *
     go_wp2_with fail
     refine (HLT.out _).mono ?_
     rintro e w1 ⟨rfl, hw⟩
     have hw := hw.symm
     subst hw
     go_wp2_with fail
     refine (HDG.out _).mono ?_
     rintro e w1 ⟨rfl, hw⟩
     have hw := hw.symm
     subst hw
     have HGB := HGA
     have HOB := HOA
     have HKB := HKA
     clear HGA HOA HKA
     obtain ⟨k0, k1, k2, k3, f0, f1, f2, f3⟩ := Yk HGB.out
     go_wp2
     go_loop [6] (fun vi => ∃ j : Nat, vi = .int .i64 (j : Int) ∧ (i + 1) ≤ j ∧ j ≤ D.size ∧ Hid (∀ k (hk : k < bs.length), (i + 1) ≤ k → k < j → goP ((bs[k]).toNat : Int) = true)) (fun vi => D.size - (intOf vi).toNat)
     case atStart => exact ⟨i + 1, by go_num, by omega, by omega, fun k hk h1 h2 => absurd h2 (by omega)⟩
     case round =>
      obtain ⟨j, rfl, hj1, hj2, hjg⟩ := hrel
      have hj3 : (j : Int) ≤ 65536 := by omega
      by_cases hjl : j < D.size
      ·obtain ⟨y, hy⟩ : ∃ y : Int, y = ((bs[j]'(by omega)).toNat : Int) := ⟨_, rfl⟩
       have hjk := fun w => Yo D j (j : Int) y rfl hjl (by rw [HB.out j hjl, hy]) w
       have HT := Za (fun w => Zmz y w)
       by_cases hgo : goP y = true
       ·have HJG : Hid (∀ k (hk : k < bs.length), (i + 1) ≤ k → k < j + 1 → goP ((bs[k]).toNat : Int) = true) := fun k hk h1 h2 => by
         by_cases hkj : k = j
         ·subst hkj
          rw [← hy]; exact hgo
         ·exact hjg.out k hk h1 (by omega)
        rw [hgo] at HT
        clear hgo hy hjg
        go_wp2_with fail
        refine (HT.out _).mono ?_
        rintro e w3 ⟨rfl, hw⟩
        have hw := hw.symm
        subst hw
        go_wp2
        go_round
        case rel => exact ⟨j + 1, by go_num, by omega, by omega, HJG⟩
        case measure => simp [intOf]; omega
       ·have hgo' : goP y = false := by simpa using hgo
        have HEN : Hid (∀ h : j < bs.length, goP ((bs[j]).toNat : Int) = false) := fun h => by rw [← hy]; exact hgo'
        rw [hgo'] at HT
        clear hgo hgo' hy
        have hij : i < j := by omega
        obtain ⟨T, hT⟩ := nmd (D.extract i j)
        have HTL : Hid (T.data.toList = Xk bs i j) := by show T.data.toList = _; rw [hT]; exact HEX.out i j
        have HTT := Za hT
        clear hT
        have hijI : (i : Int) ≤ j := by omega
        have hjD : (j : Int) ≤ D.size := by omega
        have hTs : T.size ≤ 9000000 := by
         rw [Lib.size_eq, HTL.out]
         unfold Xk
         rw [List.length_take, List.length_drop]
         omega
        have HNM := Za (Zf5 T hTs wa)
        clear hTs
        go_wp2_with fail
        refine (HT.out _).mono ?_
        rintro e w3 ⟨rfl, hw⟩
        have hw := hw.symm
        subst hw
        go_wp2_with fail
        rw [← HTT.out]
        refine HNM.out.mono ?_
        rintro e w3 ⟨nv, fv, rfl, hnf, hw⟩
        have hw := hw.symm
        subst hw
        clear HNM
        by_cases hok : okN T.data.toList = true
        ·rw [hok] at hnf ⊢
         have HNF := Za (hnf rfl)
         have HOK := Za hok
         clear hnf hok
         go_wp2_with fail
         rw [← HTT.out]
         obtain ⟨hb4, hk4⟩ := Zec wa pp 108 _ _ _ _ (.int .i64 2) (.string T) (.int .i64 nv) (.bool fv) HGB.out
         have HO1 := Za (hk4.ownsRow HOB.out (fun q hq e => HNE.out (by rw [hq, e])))
         have HK1 := Za (HKB.out.step hk4 (fun q hq e => by have := HLO.out; omega))
         clear hk4 f0 f1 f2 f3 k0 k1 k2 k3
         generalize (((wa.setCell ⟨pp, 0, none⟩ (.int .i64 2)).setCell ⟨pp, 1, none⟩ (.string T)).setCell ⟨pp, 2, none⟩ (.int .i64 nv)).setCell ⟨pp, 3, none⟩ (.bool fv) = w2 at *
         obtain ⟨m0, m1, m2, m3, _, _, _, _⟩ := Yk hb4
         clear hb4
         rcases HL.out with ⟨hs0, hl⟩ | ⟨hs1, hl1, hl2⟩
         ·have hg : glP last 2 = false := decide_eq_false (fun e => by omega)
          have HI2 := Za ((HNB.out hs0 j hij hjg.out HEN.out T HTL.out).1 HOK.out)
          have hgl := Zax last 2 w2
          rw [hg] at hgl
          clear hg
          refine hgl.mono ?_
          clear hgl
          rintro e w3 ⟨rfl, hw⟩
          have hw := hw.symm
          subst hw
          obtain ⟨v', w', hr, ho, hk0, hk1, hn0⟩ := Zcm HO1.out (.int .i64 2) (.string T) (.int .i64 nv) (.bool fv) rfl rfl rfl rfl HK1.out (by have := HNI.out; omega)
          skip
          have HR := Za hr
          have HK2 := Za hk0
          have HO2 : Hid (w'.ownsRow w.heap.size 108 4 v' (n + 1) (Xn (ds ++ [⟨2, T, nv, fv⟩]))) := by
           show w'.ownsRow _ _ _ _ _ _
           rw [Zae]
           exact ho
          obtain ⟨va2, vc2, hbv2⟩ := Zd ho
          obtain ⟨n2, hn2⟩ := nmd (n + 1)
          rw [← hn2] at hbv2 HO2
          subst hbv2
          have HN2 := Za hn2
          clear hr ho hk0 hk1 hn0 hn2
          go_wp2_with (at_builtin; refine Zr rfl (.tmp 120) (.tmp 122) 104 104 rfl _ _ rfl rfl _ w' HR.out ?_)
          go_roundw
          case rel => exact ⟨j, n2, ps ++ [⟨1, ⟨#[]⟩, Xe T.data.toList, Yv T.data.toList⟩], ds ++ [⟨2, T, nv, fv⟩], va2, vc2, 2, 1, rfl, rfl, by go_num, by omega, (by have := HN2.out; have := HN.out; show n2 = _; simp only [List.length_append, List.length_cons, List.length_nil]; omega), (by have := HN2.out; have := HNI.out; show n2 ≤ _; omega), HS.out.snoc ⟨rfl, fun h => absurd rfl h, HNF.out.1, HNF.out.2⟩, HO2, HK2, HI2, .inr ⟨rfl, by decide, by decide⟩⟩
          case measure => simp [intOf]; omega
         ·have hg : glP last 2 = true := decide_eq_true (by omega)
          have HV := Za (HST.out hs1)
          have hgl := Zax last 2 w2
          rw [hg] at hgl
          clear hg
          refine hgl.mono ?_
          clear hgl
          rintro e w3 ⟨rfl, hw⟩
          have hw := hw.symm
          subst hw
          go_wp2
          all_goals (try simp only [Exit.inBlock, Exit.then])
          all_goals refine bodyPost_ret (results_tmp2 rfl _ _ _) rfl ?_
          all_goals exact ⟨_, false, rfl, HK1.out, .inr ⟨rfl, HV.out⟩⟩
        ·have hok' : okN T.data.toList = false := by simpa using hok
         rw [hok']
         have HV : Hid (Yc bs = none) := by
          rcases HL.out with ⟨hs0, hl⟩ | ⟨hs1, hl1, hl2⟩
          ·exact (HNB.out hs0 j hij hjg.out HEN.out T HTL.out).2 hok'
          ·exact HST.out hs1
         clear hnf hok hok'
         go_wp2
         all_goals (try simp only [Exit.inBlock, Exit.then])
         all_goals refine bodyPost_ret (results_tmp2 rfl _ _ _) rfl ?_
         all_goals exact ⟨_, false, rfl, HKB.out, .inr ⟨rfl, HV.out⟩⟩
      ·have HEN : Hid (∀ h : j < bs.length, goP ((bs[j]).toNat : Int) = false) := fun h => absurd h (by omega)
       have hij : i < j := by omega
       obtain ⟨T, hT⟩ := nmd (D.extract i j)
       have HTL : Hid (T.data.toList = Xk bs i j) := by show T.data.toList = _; rw [hT]; exact HEX.out i j
       have HTT := Za hT
       clear hT
       have hijI : (i : Int) ≤ j := by omega
       have hjD : (j : Int) ≤ D.size := by omega
       have hTs : T.size ≤ 9000000 := by
        rw [Lib.size_eq, HTL.out]
        unfold Xk
        rw [List.length_take, List.length_drop]
        omega
       have HNM := Za (Zf5 T hTs wa)
       clear hTs
       go_wp2_with fail
       rw [← HTT.out]
       refine HNM.out.mono ?_
       rintro e w3 ⟨nv, fv, rfl, hnf, hw⟩
       have hw := hw.symm
       subst hw
       clear HNM
       by_cases hok : okN T.data.toList = true
       ·rw [hok] at hnf ⊢
        have HNF := Za (hnf rfl)
        have HOK := Za hok
        clear hnf hok
        go_wp2_with fail
        rw [← HTT.out]
        obtain ⟨hb4, hk4⟩ := Zec wa pp 108 _ _ _ _ (.int .i64 2) (.string T) (.int .i64 nv) (.bool fv) HGB.out
        have HO1 := Za (hk4.ownsRow HOB.out (fun q hq e => HNE.out (by rw [hq, e])))
        have HK1 := Za (HKB.out.step hk4 (fun q hq e => by have := HLO.out; omega))
        clear hk4 f0 f1 f2 f3 k0 k1 k2 k3
        generalize (((wa.setCell ⟨pp, 0, none⟩ (.int .i64 2)).setCell ⟨pp, 1, none⟩ (.string T)).setCell ⟨pp, 2, none⟩ (.int .i64 nv)).setCell ⟨pp, 3, none⟩ (.bool fv) = w2 at *
        obtain ⟨m0, m1, m2, m3, _, _, _, _⟩ := Yk hb4
        clear hb4
        rcases HL.out with ⟨hs0, hl⟩ | ⟨hs1, hl1, hl2⟩
        ·have hg : glP last 2 = false := decide_eq_false (fun e => by omega)
         have HI2 := Za ((HNB.out hs0 j hij hjg.out HEN.out T HTL.out).1 HOK.out)
         have hgl := Zax last 2 w2
         rw [hg] at hgl
         clear hg
         refine hgl.mono ?_
         clear hgl
         rintro e w3 ⟨rfl, hw⟩
         have hw := hw.symm
         subst hw
         obtain ⟨v', w', hr, ho, hk0, hk1, hn0⟩ := Zcm HO1.out (.int .i64 2) (.string T) (.int .i64 nv) (.bool fv) rfl rfl rfl rfl HK1.out (by have := HNI.out; omega)
         skip
         have HR := Za hr
         have HK2 := Za hk0
         have HO2 : Hid (w'.ownsRow w.heap.size 108 4 v' (n + 1) (Xn (ds ++ [⟨2, T, nv, fv⟩]))) := by
          show w'.ownsRow _ _ _ _ _ _
          rw [Zae]
          exact ho
         obtain ⟨va2, vc2, hbv2⟩ := Zd ho
         obtain ⟨n2, hn2⟩ := nmd (n + 1)
         rw [← hn2] at hbv2 HO2
         subst hbv2
         have HN2 := Za hn2
         clear hr ho hk0 hk1 hn0 hn2
         go_wp2_with (at_builtin; refine Zr rfl (.tmp 120) (.tmp 122) 104 104 rfl _ _ rfl rfl _ w' HR.out ?_)
         go_roundw
         case rel => exact ⟨j, n2, ps ++ [⟨1, ⟨#[]⟩, Xe T.data.toList, Yv T.data.toList⟩], ds ++ [⟨2, T, nv, fv⟩], va2, vc2, 2, 1, rfl, rfl, by go_num, by omega, (by have := HN2.out; have := HN.out; show n2 = _; simp only [List.length_append, List.length_cons, List.length_nil]; omega), (by have := HN2.out; have := HNI.out; show n2 ≤ _; omega), HS.out.snoc ⟨rfl, fun h => absurd rfl h, HNF.out.1, HNF.out.2⟩, HO2, HK2, HI2, .inr ⟨rfl, by decide, by decide⟩⟩
         case measure => simp [intOf]; omega
        ·have hg : glP last 2 = true := decide_eq_true (by omega)
         have HV := Za (HST.out hs1)
         have hgl := Zax last 2 w2
         rw [hg] at hgl
         clear hg
         refine hgl.mono ?_
         clear hgl
         rintro e w3 ⟨rfl, hw⟩
         have hw := hw.symm
         subst hw
         go_wp2
         all_goals (try simp only [Exit.inBlock, Exit.then])
         all_goals refine bodyPost_ret (results_tmp2 rfl _ _ _) rfl ?_
         all_goals exact ⟨_, false, rfl, HK1.out, .inr ⟨rfl, HV.out⟩⟩
       ·have hok' : okN T.data.toList = false := by simpa using hok
        rw [hok']
        have HV : Hid (Yc bs = none) := by
         rcases HL.out with ⟨hs0, hl⟩ | ⟨hs1, hl1, hl2⟩
         ·exact (HNB.out hs0 j hij hjg.out HEN.out T HTL.out).2 hok'
         ·exact HST.out hs1
        clear hnf hok hok'
        go_wp2
        all_goals (try simp only [Exit.inBlock, Exit.then])
        all_goals refine bodyPost_ret (results_tmp2 rfl _ _ _) rfl ?_
        all_goals exact ⟨_, false, rfl, HKB.out, .inr ⟨rfl, HV.out⟩⟩
   have HV := Za (HI.out.other (by omega) (by rw [← hx]; exact h59) (by rw [← hx]; exact hb) (by rw [← hx]; exact h58) (by rw [← hx]; exact h34) (by rw [← hx]; exact hl) (by rw [← hx]; simpa using fun e => hd (.inl e)) (by rw [← hx]; exact fun e => hd (.inr e)))
   have e45 : (x == 45) = false := by simp; exact fun e => hd (.inr e)
   have hdd : Xa x = false := by simpa using fun e => hd (.inl e)
   rw [hdd] at HDG
   clear hx h59 h58 h34 HI HO HK hx0 hx1 hb hl hd hdd
   go_wp2_with fail
   refine (HBL.out _).mono ?_
   rintro e w1 ⟨rfl, hw⟩
   have hw := hw.symm
   subst hw
   generalize wr.alloc ZP = wa at *
   generalize wr.heap.size = pp at *
   go_wp2_with fail
   refine (HLT.out _).mono ?_
   rintro e w1 ⟨rfl, hw⟩
   have hw := hw.symm
   subst hw
   go_wp2_with fail
   refine (HDG.out _).mono ?_
   rintro e w1 ⟨rfl, hw⟩
   have hw := hw.symm
   subst hw
   go_wp2
   all_goals (try simp only [Exit.inBlock, Exit.then])
   all_goals refine bodyPost_ret (results_tmp2 rfl _ _ _) rfl ?_
   all_goals exact ⟨_, false, rfl, HKA.out, .inr ⟨rfl, HV.out⟩⟩
  ·have HV := Za (HI.out.over (by omega))
   clear HI hi2
   go_wp2
   all_goals (try simp only [Exit.inBlock, Exit.then])
   all_goals refine bodyPost_ret (results_tmp2 rfl _ _ _) rfl ?_
   all_goals exact ⟨_, true, rfl, HK.out, .inl ⟨rfl, ps, ds, n, HV.out, HS.out, HN.out, HO.out⟩⟩
end Go.Proofs.YtgoabnehdmdikaaGreatDoor
