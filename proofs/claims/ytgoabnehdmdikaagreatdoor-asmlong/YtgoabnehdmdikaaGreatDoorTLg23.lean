import Derived.Test.YtgoabnehdmdikaaGreatDoorTLg20
import Derived.Test.YtgoabnehdmdikaaGreatDoorTLg22
set_option linter.unusedVariables false
set_option linter.unusedSimpArgs false
set_option maxRecDepth 100000
set_option maxHeartbeats 64000000
namespace Go.Proofs.YtgoabnehdmdikaaGreatDoor
open Go.RowKit
def Zbk : List ByteArray → ByteArray → Nat → Int
 | [], _, _ => -1
 | x :: xs, s, i => if x = s then (i : Int) else Zbk xs s (i + 1)
theorem Zii : ∀ (ls : List ByteArray) (s : ByteArray) (i : Nat), (∀ x ∈ ls, x ≠ s) → Zbk ls s i = -1
 | [], _, _, _ => rfl
 | x :: xs, s, i, h => by rw [Zbk, if_neg (h x List.mem_cons_self), Zii xs s (i + 1) (fun y hy => h y (List.mem_cons_of_mem _ hy))]
theorem Zma : ∀ (ls : List ByteArray) (s : ByteArray) (i k : Nat), (∀ j (h : j < ls.length), j < k → ls[j] ≠ s) → ls[k]? = some s → Zbk ls s i = ((i + k : Nat) : Int)
 | [], s, i, k, _, h => by simp at h
 | x :: xs, s, i, 0, _, h => by
  simp at h
  subst h
  rw [Zbk, if_pos rfl]
  rfl
 | x :: xs, s, i, k + 1, hn, h => by
  have h0 : x ≠ s := hn 0 (by simp) (by omega)
  rw [Zbk, if_neg h0, Zma xs s (i + 1) k (fun j hj hk => by have := hn (j + 1) (by simp; omega) (by omega); simpa using this) (by simpa using h)]
  congr 1
  omega
def Zkc (w : World) (v : Value) (ls : List ByteArray) : Prop := (ls = [] ∧ ∃ ao c, v = .slice ao 0 c) ∨ ∃ g c, v = .slice (some ⟨g, 0, none⟩) ls.length c ∧ ∀ i x, ls[i]? = some x → w.cell? ⟨g, i, none⟩ = some (.string x)
theorem Ze2 {w : World} {B : Nat} {v : Value} {ls : List ByteArray} (h : w.ownsRow B 9 1 v ls.length (labs ls)) : Zkc w v ls := by
 by_cases h0 : ls = []
 ·subst h0
  obtain ⟨a, c, hv⟩ := Zd h
  exact .inl ⟨rfl, a, c, hv⟩
 ·obtain ⟨g, c, cs, hv, _, _⟩ := Yw h (List.length_pos_iff.2 h0)
  refine .inr ⟨g, c, hv, fun i x hx => ?_⟩
  have := h.cells (g := g) (by rw [hv]; rfl) i (.string x) (by unfold labs; rw [List.getElem?_map, hx]; rfl)
  rw [Addr.add_lit, Nat.zero_add] at this
  exact this
theorem Zkd (v : Value) (ls : List ByteArray) (s : ByteArray) (w : World) (h : Zkc w v ls) (hl : ls.length ≤ 1000000) : Calls Tryz.prog 23 #[v, .string s] w fun e w' => e = .returned (.int .i64 (Zbk ls s 0)) ∧ w' = w := by
 obtain ⟨n, hn⟩ := nmd (ls.length)
 obtain ⟨ao, c, hv, hcell⟩ : ∃ ao c, v = .slice ao n c ∧ ∀ i x, ls[i]? = some x → ∃ g, ao = some ⟨g, 0, none⟩ ∧ w.cell? ⟨g, i, none⟩ = some (.string x) := by
  rcases h with ⟨rfl, ao, c, rfl⟩ | ⟨g, c, rfl, hc⟩
  ·exact ⟨ao, c, by rw [hn]; rfl, fun i x hx => by simp at hx⟩
  ·exact ⟨_, c, by rw [hn], fun i x hx => ⟨g, rfl, hc i x hx⟩⟩
 subst hv
 have hnI : (n : Int) ≤ 1000000 := by omega
 have HN := Za hn
 have HC := Za hcell
 obtain ⟨O, hO⟩ := nmd (Zbk ls s 0)
 rw [← hO]
 have HO := Za hO
 clear h hl hn hcell hO
 go_enter Tryz.func23, Tryz.ntmps23
 go_wp2
 go_loop [5] (fun iv => ∃ i : Nat, iv = .int .i64 (i : Int) ∧ i ≤ n ∧ Hid (∀ j (h : j < ls.length), j < i → ls[j] ≠ s)) (fun iv => n - (intOf iv).toNat)
 case atStart => exact ⟨0, rfl, Nat.zero_le _, fun j _ h => absurd h (by omega)⟩
 case round =>
  obtain ⟨i, rfl, hin, HI⟩ := hrel
  by_cases hlt : i < n
  ·have hil : i < ls.length := by have := HN.out; omega
   have hltI : (i : Int) < (n : Int) := by omega
   obtain ⟨x, hx⟩ := nmd (ls[i]'hil)
   obtain ⟨g, rfl, q0⟩ := HC.out i x (by rw [hx]; exact List.getElem?_eq_getElem hil)
   by_cases hxs : x = s
   ·have HE : Hid (O = (i : Int)) := by
     show O = _
     rw [HO.out, Zma ls s 0 i HI.out (by rw [List.getElem?_eq_getElem hil, ← hx, hxs])]
     rw [Nat.zero_add]
    subst hxs
    have hxx : (x.toList == x.toList) = true := beq_self_eq_true _
    clear hx hil HI
    go_wp2
    go_ret
    exact ⟨by rw [HE.out]; rfl, rfl⟩
   ·have e := Zog hxs
    have HI2 : Hid (∀ j (h : j < ls.length), j < i + 1 → ls[j] ≠ s) := fun j hj hk => by
     by_cases hji : j = i
     ·subst hji
      rw [← hx]
      exact hxs
     ·exact HI.out j hj (by omega)
    clear hx hil HI hxs
    go_wp2
    go_round
    case rel => exact ⟨i + 1, by go_num, by omega, HI2⟩
    case measure => simp [intOf]; omega
  ·have hlt' : ¬ (i : Int) < (n : Int) := by omega
   have HE : Hid (O = -1) := by
    show O = _
    rw [HO.out]
    refine Zii ls s 0 (fun x hx => ?_)
    obtain ⟨j, hj, e⟩ := List.getElem_of_mem hx
    rw [← e]
    exact HI.out j hj (by have := HN.out; omega)
   clear HI
   go_wp2
   go_ret
   exact ⟨by rw [HE.out]; rfl, rfl⟩
def Xt (k : Nat) (ds : List Pf) : Bool := decide (ds.length = k) && ds.all (fun d => d.k == 2)
theorem Zgn (g o n c k : Nat) (ds : List Pf) (w : World) (hP : FsAt w g o ds) (hn : n = ds.length) (hl : n ≤ 90000) (hk : k ≤ 90000) : Calls Tryz.prog 41 #[.slice (some ⟨g, o, none⟩) n c, .int .i64 (k : Int)] w fun e w' => e = .returned (.bool (Xt k ds)) ∧ w' = w := by
 have HP := Za hP
 have HN := Za hn
 have hnI : (n : Int) ≤ 90000 := by omega
 have hkI : (k : Int) ≤ 90000 := by omega
 obtain ⟨O, hO⟩ := nmd (Xt k ds)
 rw [← hO]
 have HO := Za hO
 clear hP hn hO
 by_cases hnk : n = k
 ·subst hnk
  go_enter Tryz.func41, Tryz.ntmps41
  go_wp2
  go_loop [5] (fun iv => ∃ i : Nat, iv = .int .i64 (i : Int) ∧ i ≤ n ∧ Hid (∀ j (h : j < ds.length), j < i → ds[j].k = 2)) (fun iv => n - (intOf iv).toNat)
  case atStart => exact ⟨0, rfl, Nat.zero_le _, fun j _ h => absurd h (by omega)⟩
  case round =>
   obtain ⟨i, rfl, hin, HI⟩ := hrel
   by_cases hlt : i < n
   ·have hil : i < ds.length := by have := HN.out; omega
    have hltI : (i : Int) < (n : Int) := by omega
    obtain ⟨d, hd⟩ := nmd (ds[i]'hil)
    have q0 : w.cell? ⟨g, o + i * 4, none⟩ = some (.int .i64 d.k) := HP.out i d (by rw [hd]; exact List.getElem?_eq_getElem hil) 0 _ rfl
    obtain ⟨dk, hdk⟩ := nmd (d.k)
    rw [← hdk] at q0
    by_cases h2 : dk = 2
    ·have HI2 : Hid (∀ j (h : j < ds.length), j < i + 1 → ds[j].k = 2) := fun j hj hk => by
      by_cases hji : j = i
      ·subst hji
       rw [← hd, ← hdk]
       exact h2
      ·exact HI.out j hj (by omega)
     subst h2
     clear hd hdk hil HI
     go_wp2
     go_round
     case rel => exact ⟨i + 1, by go_num, by omega, HI2⟩
     case measure => simp [intOf]; omega
    ·have HE : Hid (O = false) := by
      show O = _
      rw [HO.out]
      unfold Xt
      rw [Bool.and_eq_false_iff]
      right
      rw [List.all_eq_false]
      exact ⟨d, by rw [hd]; exact List.getElem_mem hil, by rw [← hdk]; simpa using h2⟩
     have e2 : (dk != 2) = true := by simp; exact h2
     clear hd hdk hil HI h2
     go_wp2
     go_ret
     exact ⟨by rw [HE.out]; rfl, rfl⟩
   ·have hlt' : ¬ (i : Int) < (n : Int) := by omega
    have HE : Hid (O = true) := by
     show O = _
     rw [HO.out]
     unfold Xt
     rw [decide_eq_true HN.out.symm, Bool.true_and, List.all_eq_true]
     intro x hx
     obtain ⟨j, hj, e⟩ := List.getElem_of_mem hx
     rw [← e, HI.out j hj (by have := HN.out; omega)]
     rfl
    clear HI
    go_wp2
    go_ret
    exact ⟨by rw [HE.out]; rfl, rfl⟩
 ·have HE : Hid (O = false) := by
   show O = _
   rw [HO.out]
   unfold Xt
   rw [decide_eq_false (by have := HN.out; omega)]
   rfl
  have hne : ((n : Int) != (k : Int)) = true := by simp; omega
  clear hnk
  go_enter Tryz.func41, Tryz.ntmps41
  go_wp2
  go_ret
  exact ⟨by rw [HE.out]; rfl, rfl⟩
theorem Zos {bs : List UInt8} {a i : Nat} (h : ∀ k (hk : k < bs.length), a ≤ k → k < i → bs[k] ≠ 10) : (10 : UInt8) ∉ Xk bs a i := fun hm => Zl9 (P := fun c => c ≠ 10) h 10 hm rfl
theorem Zrj {bs : List UInt8} {a i : Nat} (hai : a ≤ i) (hi : i < bs.length) (hc : bs[i] = 10) (h : ∀ k (hk : k < bs.length), a ≤ k → k < i → bs[k] ≠ 10) : Zv (bs.drop a) = Xk bs a i :: Zv (bs.drop (i + 1)) := by
 rw [Zkb bs a i hai, Zad bs i hi, hc, Zex _ _ (Zos h)]
theorem Zot {bs : List UInt8} {a : Nat} (ha : a ≤ bs.length) (h : ∀ k (hk : k < bs.length), a ≤ k → bs[k] ≠ 10) : Zv (bs.drop a) = [bs.drop a] := by
 refine Zey _ (fun hm => ?_)
 obtain ⟨n, hn, e⟩ := List.getElem_of_mem hm
 rw [List.length_drop] at hn
 rw [List.getElem_drop] at e
 exact h (a + n) (by omega) (by omega) e
def Zxw (bs : List UInt8) (w : World) (e : Ending) (w' : World) : Prop :=
 ∃ v n, e = .returned v ∧ n = (Zv bs).length ∧ w'.ownsRow w.heap.size 9 1 v n (labs ((Zv bs).map toB)) ∧ Kept nF w w'
theorem Zv3 (D : ByteArray) (hs : D.size ≤ 65536) (w : World) : Calls Tryz.prog 20 #[.string D] w (Zxw D.data.toList w) := by
 obtain ⟨bs, hbs⟩ : ∃ bs, D.data.toList = bs := ⟨_, rfl⟩
 have hbl : bs.length = D.size := by rw [← hbs, Lib.size_eq]
 have HB : Hid (∀ (j : Nat) (hj : j < D.size), D[j]'hj = bs[j]'(by omega)) := fun j hj => by subst hbs; rfl
 have HEX : Hid (∀ i j, (D.extract i j) = toB (Xk bs i j)) := fun i j => by rw [← Zka D bs hbs i j, Zj1]
 rw [hbs]
 have HO0 : Hid (w.ownsRow w.heap.size 9 1 (.slice none 0 0) 0 (labs [])) := World.ownsRow_nil _ _ _ _
 clear hbs
 go_enter Tryz.func20, Tryz.ntmps20
 go_wp2
 go_loopw [3, 4, 5] (fun vo vf vi wr => ∃ (a i n : Nat) (ds : List ByteArray) (va : Option Addr) (vc : Nat), vo = .slice va n vc ∧ vf = .int .i64 (a : Int) ∧ vi = .int .i64 (i : Int) ∧ a ≤ i ∧ i ≤ D.size ∧ Hid (n = ds.length) ∧ Hid (n ≤ a) ∧ Hid (wr.ownsRow w.heap.size 9 1 (.slice va n vc) n (labs ds)) ∧ Hid (Kept nF w wr) ∧ Hid ((Zv bs).map toB = ds ++ (Zv (bs.drop a)).map toB) ∧ Hid (∀ k (hk : k < bs.length), a ≤ k → k < i → bs[k] ≠ 10)) (fun _ _ vi _ => D.size - (intOf vi).toNat)
 case atStart => exact ⟨0, 0, 0, [], none, 0, rfl, by go_num, by go_num, by omega, by omega, rfl, Nat.le_refl _, HO0, Kept.refl _ _, rfl, fun k _ _ h => absurd h (by omega)⟩
 case round =>
  clear HO0
  obtain ⟨a, i, n, ds, va, vc, rfl, rfl, rfl, hai, hi1, HN, HNA, HO, HK, HL, HM⟩ := hrel
  have hi2 : (i : Int) ≤ 65536 := by omega
  have haI : (a : Int) ≤ (i : Int) := by omega
  have hiD : (i : Int) ≤ (D.size : Int) := by omega
  have haD : (a : Int) ≤ (D.size : Int) := by omega
  by_cases hlt : i < D.size
  ·obtain ⟨x, hx⟩ : ∃ x : Int, x = ((bs[i]'(by omega)).toNat : Int) := ⟨_, rfl⟩
   have hik := fun w => Yo D i (i : Int) x rfl hlt (by rw [HB.out i hlt, hx]) w
   by_cases h10 : x = 10
   ·have hc : bs[i]'(by omega) = 10 := UInt8.toNat_inj.1 (by show _ = 10; omega)
    obtain ⟨T, hT⟩ := nmd (D.extract a i)
    have HTT := Za hT
    have HL2 : Hid ((Zv bs).map toB = (ds ++ [T]) ++ (Zv (bs.drop (i + 1))).map toB) := by
     show _ = _
     rw [HL.out, Zrj hai (by omega) hc HM.out, List.map_cons, hT, HEX.out]
     simp
    obtain ⟨v', w', hr, ho, hk0, hk1, hn0⟩ := Zc1 HO.out (.string T) rfl HK.out (by have := HNA.out; omega)
    have HR := Za hr
    have HK2 := Za hk0
    have HO2 : Hid (w'.ownsRow w.heap.size 9 1 v' (n + 1) (labs (ds ++ [T]))) := by
     show w'.ownsRow _ _ _ _ _ _
     unfold labs
     rw [List.map_append]
     exact ho
    obtain ⟨va2, vc2, hbv2⟩ := Zd ho
    obtain ⟨n2, hn2⟩ := nmd (n + 1)
    rw [← hn2] at hbv2 HO2
    subst hbv2
    have HN2 := Za hn2
    subst h10
    clear hr ho hk0 hk1 hn0 hn2 hx hc hT HL HM HO
    go_wp2_with (at_builtin; rw [← HTT.out]; refine Zr rfl (.tmp 16) (.tmp 21) 37 37 rfl _ _ rfl rfl _ w' HR.out ?_)
    go_roundw
    case rel => exact ⟨i + 1, i + 1, n2, ds ++ [T], va2, vc2, rfl, by go_num, by go_num, by omega, by omega, (by have := HN2.out; have := HN.out; show n2 = _; simp only [List.length_append, List.length_cons, List.length_nil]; omega), (by have := HN2.out; have := HNA.out; show n2 ≤ _; omega), HO2, HK2, HL2, fun k _ h1 h2 => absurd h1 (by omega)⟩
    case measure => simp [intOf]; omega
   ·have HM2 : Hid (∀ k (hk : k < bs.length), a ≤ k → k < i + 1 → bs[k] ≠ 10) := fun k hk h1 h2 => by
     by_cases hki : k = i
     ·subst hki
      intro e
      exact h10 (by rw [hx, e]; rfl)
     ·exact HM.out k hk h1 (by omega)
    have e10 : (x == 10) = false := by simp; exact h10
    clear hx HM h10
    go_wp2
    go_roundw
    case rel => exact ⟨a, i + 1, n, ds, va, vc, rfl, by go_num, by go_num, by omega, by omega, HN, HNA, HO, HK, HL, HM2⟩
    case measure => simp [intOf]; omega
  ·have hiE : i = D.size := by omega
   obtain ⟨T, hT⟩ := nmd (D.extract a D.size)
   have HTT := Za hT
   have hmid : Xk bs a D.size = bs.drop a := by
    unfold Xk
    exact List.take_of_length_le (by rw [List.length_drop]; omega)
   have HL2 : Hid ((Zv bs).map toB = ds ++ [T]) := by
    show _ = _
    rw [HL.out, Zot (by omega) (fun k hk h1 => HM.out k hk h1 (by omega)), hT, HEX.out, hmid]
    rfl
   obtain ⟨v', w', hr, ho, hk0, hk1, hn0⟩ := Zc1 HO.out (.string T) rfl HK.out (by have := HNA.out; omega)
   have HR := Za hr
   have HK2 := Za hk0
   have HO2 : Hid (w'.ownsRow w.heap.size 9 1 v' (n + 1) (labs (ds ++ [T]))) := by
    show w'.ownsRow _ _ _ _ _ _
    unfold labs
    rw [List.map_append]
    exact ho
   have HN3 : Hid (n + 1 = (Zv bs).length) := by
    show n + 1 = _
    have := congrArg List.length HL2.out
    simp only [List.length_map, List.length_append, List.length_cons, List.length_nil] at this
    have := HN.out
    omega
   obtain ⟨va2, vc2, hbv2⟩ := Zd ho
   obtain ⟨n2, hn2⟩ := nmd (n + 1)
   rw [← hn2] at hbv2 HO2 HN3
   subst hbv2
   clear hr ho hk0 hk1 hn0 hn2 hT HL HM HO hmid hiE
   go_wp2_with (at_builtin; rw [← HTT.out]; refine Zr rfl (.tmp 25) (.tmp 29) 37 37 rfl _ _ rfl rfl _ w' HR.out ?_)
   go_ret
   exact ⟨_, n2, rfl, HN3.out, by rw [HL2.out]; exact HO2.out, HK2.out⟩
end Go.Proofs.YtgoabnehdmdikaaGreatDoor
