import Derived.Test.YtpfmhibdmehlcaaGreatDoorTBa22
import Derived.Test.YtpfmhibdmehlcaaGreatDoorTBa23
import Derived.Test.YtpfmhibdmehlcaaGreatDoorTBa19
import Derived.Test.YtpfmhibdmehlcaaGreatDoorTBa11
import Derived.Test.YtpfmhibdmehlcaaGreatDoorTBa21
import Derived.Test.YtpfmhibdmehlcaaGreatDoorTBa8
namespace Go.Proofs.YtpfmhibdmehlcaaGreatDoor
open Go.RowKit
set_option linter.unusedVariables false
set_option linter.unusedSimpArgs false
set_option maxRecDepth 100000
theorem rof_all (w : World) : ∀ k : Nat, k < 46 → Calls Tryz.prog 32 #[.int .i64 (k : Int)] w fun e w' => e = .returned (.tuple #[.agg (insL.getD k Sh.none).cells.toArray, .bool true]) ∧ Kept (fun _ => False) w w'
 | 0, _ => rof_0 w
 | 1, _ => rof_1 w
 | 2, _ => rof_2 w
 | 3, _ => rof_3 w
 | 4, _ => rof_4 w
 | 5, _ => rof_5 w
 | 6, _ => rof_6 w
 | 7, _ => rof_7 w
 | 8, _ => rof_8 w
 | 9, _ => rof_9 w
 | 10, _ => rof_10 w
 | 11, _ => rof_11 w
 | 12, _ => rof_12 w
 | 13, _ => rof_13 w
 | 14, _ => rof_14 w
 | 15, _ => rof_15 w
 | 16, _ => rof_16 w
 | 17, _ => rof_17 w
 | 18, _ => rof_18 w
 | 19, _ => rof_19 w
 | 20, _ => rof_20 w
 | 21, _ => rof_21 w
 | 22, _ => rof_22 w
 | 23, _ => rof_23 w
 | 24, _ => rof_24 w
 | 25, _ => rof_25 w
 | 26, _ => rof_26 w
 | 27, _ => rof_27 w
 | 28, _ => rof_28 w
 | 29, _ => rof_29 w
 | 30, _ => rof_30 w
 | 31, _ => rof_31 w
 | 32, _ => rof_32 w
 | 33, _ => rof_33 w
 | 34, _ => rof_34 w
 | 35, _ => rof_35 w
 | 36, _ => rof_36 w
 | 37, _ => rof_37 w
 | 38, _ => rof_38 w
 | 39, _ => rof_39 w
 | 40, _ => rof_40 w
 | 41, _ => rof_41 w
 | 42, _ => rof_42 w
 | 43, _ => rof_43 w
 | 44, _ => rof_44 w
 | 45, _ => rof_45 w
 | k + 46, h => absurd h (by omega)
set_option maxHeartbeats 4000000 in
theorem rof_out (n : Int) (w : World) (h : ¬ (0 ≤ n ∧ n < 46)) (hn0 : -9223372036854775808 ≤ n) (hn1 : n < 9223372036854775808) : Calls Tryz.prog 32 #[.int .i64 n] w fun e w' => e = .returned (.tuple #[.agg Sh.none.cells.toArray, .bool false]) ∧ Kept (fun _ => False) w w' := by
 have HX := hid_of (heap_alloc_new w (.cells Sh.none.cells.toArray 81))
 have HK := hid_of ((Kept.refl (fun _ => False) w).alloc (.cells Sh.none.cells.toArray 81))
 have hd : (decide (n < 0) || decide ((46 : Int) ≤ n)) = true := by
  rw [Bool.or_eq_true, decide_eq_true_iff, decide_eq_true_iff]
  omega
 clear h
 go_enter Tryz.func32, Tryz.ntmps32
 go_wp2
 all_goals
  refine bodyPost_ret (v := .tuple #[.agg Sh.none.cells.toArray, .bool false]) ?_ rfl ⟨rfl, HK.out⟩
  exact results_row_tmp (by rfl) _ _ ⟨w.heap.size, 0, none⟩ _ _ (by rfl) (by rfl) (run_loadVar_row _ w.heap.size 81 81 _ (0, 0) _ HX.out Tryz.underlying81 rfl size27)
theorem of_ref (n : Int) (w : World) (hn0 : -9223372036854775808 ≤ n) (hn1 : n < 9223372036854775808) :
  Calls Tryz.prog 32 #[.int .i64 n] w fun e w' => e = .returned (.tuple #[.agg (rowS insL n).cells.toArray, .bool (isRow insL n)]) ∧ Kept (fun _ => False) w w' := by
 by_cases h : 0 ≤ n ∧ n < 46
 ·obtain ⟨k, rfl⟩ : ∃ k : Nat, n = k := ⟨n.toNat, by omega⟩
  have hk : k < 46 := by omega
  rw [(row_at (L := insL) hk).1, (row_at (L := insL) hk).2]
  exact rof_all w k hk
 ·rw [show rowS insL n = Sh.none from if_neg h, show isRow insL n = false from decide_eq_false h]
  exact rof_out n w h hn0 hn1
set_option maxHeartbeats 4000000 in
theorem sysname_any (s : ByteArray) (w : World) :
  Calls Tryz.prog 103 #[.string s] w fun e w' => e = .returned (namedV sysL s) ∧ Kept (fun _ => False) w w' := by
 go_enter Tryz.func103, Tryz.ntmps103
 go_wp2_with fail
 refine (sys_any _).mono ?_
 rintro e w1 ⟨rfl, hk1⟩
 have HK1 := hid_of hk1
 clear hk1
 obtain ⟨hO, hX, hK⟩ := new_row w1 z63 (tcells sysL).toArray 174
 go_upto_region 2 with (first | refine wpList_to rfl (some 4) rfl (.pointer (some ⟨w1.heap.size, 0, none⟩)) (w1.alloc (.cells z63 174)) (by kernel_rfl) ?_ | refine wpList_store_row rfl 174 _ _ rfl w1.heap.size (tcells sysL).toArray rfl rfl 174 _ hO size63 (by kernel_rfl) one63 ?_)
 clear hO
 generalize (w1.alloc (.cells z63 174)).setRow w1.heap.size (tcells sysL).toArray = w2 at *
 have HK2 := hid_of (HK1.out.trans hK)
 have HR := hid_of (named_any sysL w1.heap.size 174 s w2 hX (by decide))
 clear hK HK1
 go_wp2_with fail
 refine HR.out.mono ?_
 rintro e w3 ⟨rfl, hk3⟩
 have HK3 := hid_of (HK2.out.trans hk3)
 clear hk3 HR HK2 hX
 by_cases h : nameIx sysL s < sysL.length
 ·have HV := hid_of (show namedV sysL s = _ from if_pos h)
  rw [HV.out]
  generalize nameIx sysL s = k at *
  clear h
  go_wp2
  go_ret2
  exact ⟨congrArg Ending.returned HV.out.symm, HK3.out⟩
 ·have HV := hid_of (show namedV sysL s = _ from if_neg h)
  rw [HV.out]
  clear h
  go_wp2
  go_ret2
  exact ⟨congrArg Ending.returned HV.out.symm, HK3.out⟩
end Go.Proofs.YtpfmhibdmehlcaaGreatDoor
namespace Go.Proofs.YtpfmhibdmehlcaaGreatDoor
open Go.RowKit
set_option linter.unusedVariables false
set_option linter.unusedSimpArgs false
set_option maxRecDepth 100000
def Ch (w : World) (S : Nat → Prop) (t : TypeId) : Prop := ∀ q, S q → ∃ cs f, w.heap[q]? = some (.cells cs t f)
theorem own_is {w : World} {B e s : Nat} {v : Value} {n : Nat} {xs : List Value} (h : w.ownsRow B e s v n xs) : Ch w (fun q => v.ownBlock = some q) e := fun q hq => by
 rcases h.2 with ⟨rfl, _⟩ | ⟨g, cap, cur, rfl, _, hgg, _⟩
 ·cases hq
 ·simp [Value.ownBlock] at hq
  subst hq
  exact ⟨_, _, hgg⟩
theorem ch_box {w : World} {r : Nat} {cs : Array Value} {t : TypeId} {f : Nat × Nat} (h : w.heap[r]? = some (.cells cs t f)) : Ch w (fun q => q = r) t := fun q hq => by subst hq; exact ⟨_, _, h⟩
variable {S : Nat → Prop} {t : TypeId} {w w' : World}
theorem own_not (hc : Ch w S t) {B e s : Nat} {v : Value} {n : Nat} {xs : List Value} (h : w.ownsRow B e s v n xs) (hne : t ≠ e) : ∀ q, v.ownBlock = some q → ¬ S q := fun q hq hS => by
 obtain ⟨cs, f, e1⟩ := hc q hS
 obtain ⟨cs', f', e2⟩ := own_is h q hq
 rw [e1] at e2
 simp only [Option.some.injEq, Obj.cells.injEq] at e2
 exact hne e2.2.1
theorem own_ch (hk : Kept S w w') (hc : Ch w S t) {B e s : Nat} {v : Value} {n : Nat} {xs : List Value} (h : w.ownsRow B e s v n xs) (hne : t ≠ e) : w'.ownsRow B e s v n xs := hk.ownsRow h (own_not hc h hne)
theorem box_ch (hk : Kept S w w') (hc : Ch w S t) {g : Nat} {cs : Array Value} {t' : TypeId} {f : Nat × Nat} (hb : w.heap[g]? = some (.cells cs t' f)) (hne : t ≠ t') : w'.heap[g]? = some (.cells cs t' f) := box_kept hk hb (fun hS => by
 obtain ⟨cs', f', e1⟩ := hc g hS
 rw [hb] at e1
 simp only [Option.some.injEq, Obj.cells.injEq] at e1
 exact hne e1.2.1.symm)
structure Fam (w : World) (B e s : Nat) (vs : List Value) (xss : List (Nat × List Value)) : Prop where
 len : vs.length = xss.length
 row : ∀ (i : Nat) (v : Value) (x : Nat × List Value), vs[i]? = some v → xss[i]? = some x → w.ownsRow B e s v x.1 x.2
 apart : ∀ (i j : Nat) (v u : Value), i ≠ j → vs[i]? = some v → vs[j]? = some u → ∀ q, v.ownBlock = some q → u.ownBlock ≠ some q
variable {B e s : Nat} {vs : List Value} {xss : List (Nat × List Value)}
theorem Fam.nil : Fam w B e s [] [] := ⟨rfl, fun i v x h => by simp at h, fun i j v u _ h => by simp at h⟩
theorem Fam.at (h : Fam w B e s vs xss) {i : Nat} {v : Value} (hv : vs[i]? = some v) : ∃ x, xss[i]? = some x ∧ w.ownsRow B e s v x.1 x.2 := by
 have hi := (List.getElem?_eq_some_iff.1 hv).1
 have hx : xss[i]? = some (xss[i]'(by rw [← h.len]; exact hi)) := List.getElem?_eq_getElem _
 exact ⟨_, hx, h.row i v _ hv hx⟩
theorem Fam.ch (h : Fam w B e s vs xss) (hk : Kept S w w') (hc : Ch w S t) (hne : t ≠ e) : Fam w' B e s vs xss := ⟨h.len, fun i v x hv hx => own_ch hk hc (h.row i v x hv hx) hne, h.apart⟩
theorem Fam.same (h : Fam w B e s vs xss) (hk : Kept (fun _ => False) w w') : Fam w' B e s vs xss := ⟨h.len, fun i v x hv hx => hk.ownsRow (h.row i v x hv hx) (fun _ _ f => f), h.apart⟩
theorem Fam.snoc (h : Fam w B e s vs xss) : Fam w B e s (vs ++ [.slice none 0 0]) (xss ++ [(0, [])]) := by
 refine ⟨by simp [h.len], fun i v x hv hx => ?_, fun i j v u hne hv hu q hq => ?_⟩
 ·by_cases hi : i < vs.length
  ·rw [List.getElem?_append_left hi] at hv
   rw [List.getElem?_append_left (by rw [← h.len]; exact hi)] at hx
   exact h.row i v x hv hx
  ·rw [List.getElem?_append_right (by omega)] at hv
   rw [List.getElem?_append_right (by rw [← h.len]; omega)] at hx
   rw [← h.len] at hx
   have h0 : i - vs.length = 0 := by
    have := (List.getElem?_eq_some_iff.1 hv).1
    simpa using this
   rw [h0] at hv hx
   simp only [List.getElem?_cons_zero, Option.some.injEq] at hv hx
   subst hv
   subst hx
   exact World.ownsRow_nil _ _ _ _
 ·by_cases hi : i < vs.length
  ·rw [List.getElem?_append_left hi] at hv
   by_cases hj : j < vs.length
   ·rw [List.getElem?_append_left hj] at hu
    exact h.apart i j v u hne hv hu q hq
   ·rw [List.getElem?_append_right (by omega)] at hu
    have h0 : j - vs.length = 0 := by
     have := (List.getElem?_eq_some_iff.1 hu).1
     simpa using this
    rw [h0] at hu
    simp only [List.getElem?_cons_zero, Option.some.injEq] at hu
    subst hu
    intro f
    cases f
  ·rw [List.getElem?_append_right (by omega)] at hv
   have h0 : i - vs.length = 0 := by
    have := (List.getElem?_eq_some_iff.1 hv).1
    simpa using this
   rw [h0] at hv
   simp only [List.getElem?_cons_zero, Option.some.injEq] at hv
   subst hv
   cases hq
theorem Fam.set (h : Fam w B e s vs xss) {k : Nat} {v : Value} (hv : vs[k]? = some v) (hk : Kept (fun q => v.ownBlock = some q) w w') (v' : Value) (x' : Nat × List Value) (hr : w'.ownsRow B e s v' x'.1 x'.2) (hn : ∀ q, v'.ownBlock = some q → v.ownBlock = some q ∨ w.heap.size ≤ q) : Fam w' B e s (vs.set k v') (xss.set k x') := by
 have hkl := (List.getElem?_eq_some_iff.1 hv).1
 refine ⟨by simp [h.len], fun i u x hu hx => ?_, fun i j u1 u2 hne h1 h2 q hq => ?_⟩
 ·by_cases hik : k = i
  ·subst hik
   rw [List.getElem?_set_self hkl] at hu
   rw [List.getElem?_set_self (by rw [← h.len]; exact hkl)] at hx
   cases hu
   cases hx
   exact hr
  ·rw [List.getElem?_set_ne hik] at hu hx
   exact hk.ownsRow (h.row i u x hu hx) (fun q hq e => h.apart i k u v (fun e => hik e.symm) hu hv q hq e)
 ·by_cases hik : k = i
  ·subst hik
   rw [List.getElem?_set_self hkl] at h1
   rw [List.getElem?_set_ne hne] at h2
   cases h1
   intro hq2
   rcases hn q hq with hh | hh
   ·exact h.apart k j v u2 hne hv h2 q hh hq2
   ·obtain ⟨x, _, hx⟩ := h.at h2
    have := (hx.lt q hq2).2
    omega
  ·rw [List.getElem?_set_ne hik] at h1
   by_cases hjk : k = j
   ·subst hjk
    rw [List.getElem?_set_self hkl] at h2
    cases h2
    intro hq2
    rcases hn q hq2 with hh | hh
    ·exact h.apart i k u1 v hne h1 hv q hq hh
    ·obtain ⟨x, _, hx⟩ := h.at h1
     have := (hx.lt q hq).2
     omega
   ·rw [List.getElem?_set_ne hjk] at h2
    exact h.apart i j u1 u2 hne h1 h2 q hq
def MapIs (w : World) (g : Nat) (L : List (ByteArray × Int)) : Prop := ∃ clk es, w.heap[g]? = some (.map (es.map cN.ent).toArray clk) ∧ ∀ s : ByteArray, look es s.data.toList = lkA L s
theorem MapIs.ch {g : Nat} {L : List (ByteArray × Int)} (h : MapIs w g L) (hk : Kept S w w') (hc : Ch w S t) : MapIs w' g L := by
 obtain ⟨clk, es, hm, hl⟩ := h
 refine ⟨clk, es, box_kept hk hm (fun hS => ?_), hl⟩
 obtain ⟨cs', f', e1⟩ := hc g hS
 rw [hm] at e1
 cases e1
theorem MapIs.same {g : Nat} {L : List (ByteArray × Int)} (h : MapIs w g L) (hk : Kept (fun _ => False) w w') : MapIs w' g L := by
 obtain ⟨clk, es, hm, hl⟩ := h
 exact ⟨clk, es, box_kept hk hm id, hl⟩
theorem MapIs.other {g g' : Nat} {L : List (ByteArray × Int)} (h : MapIs w g L) (hk : Kept (fun q => q = g') w w') (hne : g ≠ g') : MapIs w' g L := by
 obtain ⟨clk, es, hm, hl⟩ := h
 exact ⟨clk, es, box_kept hk hm hne, hl⟩
theorem MapIs.not_own {g : Nat} {L : List (ByteArray × Int)} (h : MapIs w g L) {v : Value} {n : Nat} {xs : List Value} (ho : w.ownsRow B e s v n xs) : v.ownBlock ≠ some g := fun hq => by
 obtain ⟨clk, es, hm, _⟩ := h
 obtain ⟨cs, f, e1⟩ := own_is ho g hq
 rw [hm] at e1
 cases e1
theorem MapIs.not_box {g r : Nat} {L : List (ByteArray × Int)} (h : MapIs w g L) {cs : Array Value} {t' : TypeId} {f : Nat × Nat} (hb : w.heap[r]? = some (.cells cs t' f)) : r ≠ g := fun hq => by
 obtain ⟨clk, es, hm, _⟩ := h
 rw [hq, hm] at hb
 cases hb
theorem MapIs.own {g : Nat} {L : List (ByteArray × Int)} (h : MapIs w g L) (hk : Kept (fun q => q = g) w w') {v : Value} {n : Nat} {xs : List Value} (ho : w.ownsRow B e s v n xs) : w'.ownsRow B e s v n xs := hk.ownsRow ho (fun q hq e => h.not_own ho (by rw [hq, e]))
theorem MapIs.fam {g : Nat} {L : List (ByteArray × Int)} (h : MapIs w g L) (hk : Kept (fun q => q = g) w w') (ho : Fam w B e s vs xss) : Fam w' B e s vs xss := ⟨ho.len, fun i v x hv hx => h.own hk (ho.row i v x hv hx), ho.apart⟩
theorem MapIs.box {g r : Nat} {L : List (ByteArray × Int)} (h : MapIs w g L) (hk : Kept (fun q => q = g) w w') {cs : Array Value} {t' : TypeId} {f : Nat × Nat} (hb : w.heap[r]? = some (.cells cs t' f)) : w'.heap[r]? = some (.cells cs t' f) := box_kept hk hb (h.not_box hb)
theorem map_new {r : Nat} {clk : Nat} (hm : w.heap[r]? = some (.map #[] clk)) : MapIs w r [] := ⟨clk, [], hm, fun _ => rfl⟩
theorem MapIs.run_look {g : Nat} {L : List (ByteArray × Int)} (h : MapIs w g L) (x : ByteArray) (b : Bool) : (Instr.lookup 89 (.map (some g)) (.string x) b).run Tryz.prog w = .ok (if b then .tuple #[(match lkA L x with | some a => .int .i64 a | none => .int .i64 0), .bool (lkA L x).isSome] else (match lkA L x with | some a => .int .i64 a | none => .int .i64 0)) w := by
 obtain ⟨clk, es, hm, hl⟩ := h
 have hs : x = ⟨x.data.toList.toArray⟩ := by cases x; simp
 have hL := Go.Proofs.YtpfmhibdmehlcaaGreatDoor.run_look fitsN w g clk es hm x.data.toList b
 rw [show cN.enc x.data.toList = .string x by show Value.string _ = _; rw [← hs]] at hL
 rw [hL]
 unfold lookV
 rw [hl x]
 cases lkA L x <;> rfl
theorem toL_inj {a b : ByteArray} (h : a.data.toList = b.data.toList) : a = b := ByteArray.ext (Array.ext' h)
theorem MapIs.run_lay {g : Nat} {L : List (ByteArray × Int)} (h : MapIs w g L) (x : ByteArray) (a : Int) (hn : lkA L x = none) : ∃ w', (Instr.mapUpdate 89 (.map (some g)) (.string x) (.int .i64 a)).run Tryz.prog w = .ok () w' ∧ Kept (fun q => q = g) w w' ∧ MapIs w' g (L ++ [(x, a)]) := by
 obtain ⟨clk, es, hm, hl⟩ := h
 have hs : x = ⟨x.data.toList.toArray⟩ := by cases x; simp
 obtain ⟨clk', hU⟩ := Go.Proofs.YtpfmhibdmehlcaaGreatDoor.run_lay fitsN w g clk es hm x.data.toList a
 rw [show cN.enc x.data.toList = .string x by show Value.string _ = _; rw [← hs]] at hU
 refine ⟨_, hU, kept_over w g _, clk', _, over_same w g _ (Array.getElem?_eq_some_iff.1 hm).1, fun y => ?_⟩
 rw [look_lays, lkA_snoc]
 by_cases hy : y = x
 ·rw [if_pos (by rw [hy]), hy, hn, if_pos rfl]
 ·rw [if_neg (fun e => hy (toL_inj e)), hl y]
  cases lkA L y with
  | none => simp only; rw [if_neg hy]
  | some z => rfl
end Go.Proofs.YtpfmhibdmehlcaaGreatDoor
