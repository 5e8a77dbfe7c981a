/-
  Nec: Npl, Ned, Nfi, Nor, Nfj.
-/
import Derived.Test.YtcpkbajmilkhpabGreatDoorNck
import Derived.Test.YtcpkbajmilkhpabGreatDoorNrg
import Derived.Shelf.Lay
import Derived.Shelf.Small.Strs
import Derived.Great.Ranges
import Derived.Laws.BitsAllLaws
import Derived.Test.YtcpkbajmilkhpabGreatDoorNls
import Derived.Test.YtcpkbajmilkhpabGreatDoorNrp
import Derived.Shelf.LaysM
import Derived.Shelf.Strconv.Clone
namespace Go.Proofs
open Go.Shelf
shelf_lay Lays.n106 Nm 106 at Tryz as Tryz.lays106
end Go.Proofs
namespace Go.Proofs.YtcpkbajmilkhpabGreatDoor
open Go.RowKit
set_option linter.unusedVariables false
set_option linter.unusedSimpArgs false
set_option maxRecDepth 100000

/-- How a name lies to a text: below 0, 0, above 0. -/
def cmpN (a b : List Int) : Int := Lib.compareBytes (str a).data.toList (str b).data.toList

set_option maxHeartbeats 1000000 in
theorem cmp_any (y : EV) (s : List Int) (w : World) :
    Calls Tryz.prog 53 #[.agg y.cells.toArray, .string (str s)] w fun e w' => e = .returned (.int .i64 (cmpN y.nm s)) ∧ Kept (fun _ => False) w w' := by
  have hb := heap_alloc_new w (.cells y.cells.toArray 41)
  have HKA : Hid (Kept (fun _ => False) w (w.alloc (.cells y.cells.toArray 41))) := (Kept.refl _ _).alloc _
  have HC := hid_of (fun W => Any.strings_Compare Tryz.lays106 (str y.nm) (str s) W)
  obtain ⟨r, hr⟩ : ∃ r, r = cmpN y.nm s := ⟨_, rfl⟩
  have HR := hid_of hr
  unfold cmpN at hr
  rw [← hr] at HC
  clear hr
  go_enter Tryz.func53, Tryz.ntmps53
  go_upto_region 1 with (refine Go.Great.wpList_boxTo rfl 41 _ rfl _ rfl w.heap.size rfl y.cells.toArray rfl ?_)
  generalize w.alloc (.cells y.cells.toArray 41) = wB at *
  have x0 : wB.cell? ⟨w.heap.size, 0, none⟩ = some (.string (str y.nm)) := by rw [cell_block _ _ _ _ _ _ hb]; rfl
  have xl : w.heap.size < wB.heap.size := (Array.getElem?_eq_some_iff.1 hb).1
  clear hb
  go_wp2_with fail
  refine (HC.out _).mono ?_
  rintro e w2 ⟨rfl, hw2⟩
  have hw2' := hw2.symm
  subst hw2'
  clear HC hw2
  go_wp2
  go_ret
  exact ⟨by rw [← HR.out]; rfl, HKA.out⟩

theorem wpList_mid_wanted {ops : Array Oper} {rest : List Oper} {op : Oper} {a : Act} {w : World} {Q : Exit → Act → World → Prop} (hw : Region.wanted op (yielded ops a.tmps) = true) (ty : TypeId) (x : Operand) (ho : op.op = .load ty x)
    (b o : Nat) (hx : a.eval x = .pointer (some ⟨b, o, none⟩)) (cs : List Value) (d : TypeDesc) (hc : w.rangeAt b o cs)
    (hu : Tryz.prog.underlying ty = some d) (hd : d.isRow = true) (hi : (Tryz.prog.info? ty).map (·.size) = some cs.length)
    (h : wpList Tryz.prog ops Q rest (a.put op.dst (.agg cs.toArray)) w) : wpList Tryz.prog ops Q (op :: rest) a w := by
  unfold wpList
  rw [if_pos hw]
  exact .inl (wp_load_mid ty x ho b o hx cs d hc hu hd hi h)

/-- What a binary search finds. -/
structure Found (ys : List EV) (s : List Int) (i : Nat) (f : Bool) : Prop where
  le : i ≤ ys.length
  below : ∀ k y, k < i → ys[k]? = some y → cmpN y.nm s < 0
  above : ∀ k y, i ≤ k → ys[k]? = some y → 0 ≤ cmpN y.nm s
  found : f = true ↔ ∃ y, ys[i]? = some y ∧ cmpN y.nm s = 0

/-- How a search ends. -/
def SearchE (ys : List EV) (s : List Int) (e : Ending) : Prop := ∃ (i : Nat) (f : Bool), e = .returned (.tuple #[.int .i64 i, .bool f]) ∧ Found ys s i f

/-- A list that a binary search may be asked of. -/
def Rising (ys : List EV) (s : List Int) : Prop := ∀ (a b : Nat) (y z : EV), a ≤ b → ys[a]? = some y → ys[b]? = some z → cmpN z.nm s < 0 → cmpN y.nm s < 0

set_option maxHeartbeats 2000000 in
theorem search_any (ao : Option Addr) (c : Nat) (ys : List EV) (s : List Int) (w : World) (hv : RowE w (.slice ao ys.length c) ys) (hy : ∀ y ∈ ys, y.fr.length ≤ 32) (hn : ys.length ≤ 1000000) (hr : Rising ys s) :
    Calls Tryz.prog 52 #[.slice ao ys.length c, .string (str s), .func (.func 53) #[] #[]] w fun e w' => SearchE ys s e ∧ Kept (fun _ => False) w w' := by
  obtain ⟨n, hN⟩ : ∃ n, n = ys.length := ⟨_, rfl⟩
  have HN := hid_of hN
  have HV := hid_of hv
  have HY := hid_of hy
  have HR := hid_of hr
  rw [← hN] at hn ⊢
  clear hv hy hr hN
  go_enter Tryz.func52, Tryz.ntmps52
  go_wp2
  go_loopw [9, 10] (fun iv jv wr => ∃ i j : Nat, i ≤ j ∧ j ≤ n ∧ iv = .int .i64 i ∧ jv = .int .i64 j ∧ Kept (fun _ => False) w wr ∧ (∀ k y, k < i → ys[k]? = some y → cmpN y.nm s < 0) ∧ (∀ k y, j ≤ k → ys[k]? = some y → 0 ≤ cmpN y.nm s)) (fun iv jv _ => (intOf jv).toNat - (intOf iv).toNat)
  case atStart => exact ⟨0, n, by omega, Nat.le_refl _, rfl, rfl, Kept.refl _ _, fun k y hk => absurd hk (by omega), fun k y hk h => absurd (List.getElem?_eq_some_iff.1 h).1 (by have := HN.out; omega)⟩
  case round =>
    obtain ⟨i, j, hij, hjn, rfl, rfl, hk, hb, ha⟩ := hrel
    have HB := hid_of hb
    have HA := hid_of ha
    have HK := hid_of hk
    clear hb ha hk
    by_cases hlt : i < j
    · obtain ⟨h, hh⟩ : ∃ h, h = (i + j) / 2 := ⟨_, rfl⟩
      have hih : i ≤ h := by omega
      have hhj : h < j := by omega
      have hltI : (i : Int) < (j : Int) := by omega
      have hw1 : IntKind.i64.wrap ((i : Int) + (j : Int)) = ((i + j : Nat) : Int) := by simp [IntKind.wrap, IntKind.bits, IntKind.signed]; omega
      have hly : h < ys.length := by have := HN.out; omega
      obtain ⟨y, hyi⟩ : ∃ y, ys[h]? = some y := ⟨_, List.getElem?_eq_getElem hly⟩
      have hy32 := HY.out y (List.mem_of_getElem? hyi)
      have hsz : (Tryz.prog.info? 41).map (·.size) = some y.cells.length := by rw [size47, EV.clen y hy32]
      obtain ⟨g, o, e1, r1⟩ : ∃ g o, ao = some ⟨g, o, none⟩ ∧ w.rangeAt g (o + h * 34) y.cells := by
        rcases HV.out with ⟨e, _⟩ | ⟨g, o, c2, e, hc⟩
        · rw [e] at hly; simp at hly
        · cases e; exact ⟨g, o, rfl, hc h y hyi⟩
      subst e1
      have HR1 : Hid (∀ W, Kept (fun _ => False) w W → W.rangeAt g (o + h * 34) y.cells) := fun W hW j u hj => hW.cell (r1 j u hj) (fun f => f)
      have HYI := hid_of hyi
      have HC := hid_of (fun W => cmp_any y s W)
      obtain ⟨r, hr⟩ : ∃ r, r = cmpN y.nm s := ⟨_, rfl⟩
      have HRR := hid_of hr
      rw [← hr] at HC
      have HKD : Hid (Kept (fun _ => False) w wr.drew) := HK.out.drew
      clear hr r1 hyi
      go_upto_region 5 with fail
      have hhI : ((i : Int) + (j : Int)) / 2 = (h : Int) := by omega
      have hhn : (h : Int) < (n : Int) := by omega
      have hh0 : (0 : Int) ≤ (h : Int) := by omega
      rw [hhI]
      clear hhI hh
      go_wp2_with (refine wpList_load_mid rfl 41 _ rfl g (o + h * 34) rfl y.cells _ (HR1.out _ HK.out) Tryz.underlying41 rfl hsz ?_)
      refine (HC.out _).mono ?_
      rintro e w7 ⟨rfl, hk7⟩
      have HK7 : Hid (Kept (fun _ => False) w w7) := HK.out.trans hk7
      clear hk7 HC
      by_cases hr0 : r < 0
      · go_wp2
        go_roundw
        case rel =>
          refine ⟨h + 1, j, by omega, hjn, by go_num, rfl, HK7.out, fun k z hk hz => ?_, HA.out⟩
          exact HR.out k h z y (by omega) hz HYI.out (by rw [← HRR.out]; exact hr0)
        case measure => simp [intOf]; omega
      · go_wp2
        go_roundw
        case rel =>
          refine ⟨i, h, hih, by omega, rfl, rfl, HK7.out, HB.out, fun k z hk hz => ?_⟩
          rcases Int.lt_or_le (cmpN z.nm s) 0 with hc | hc
          · exact absurd (HR.out h k y z hk HYI.out hz hc) (by rw [← HRR.out]; omega)
          · exact hc
        case measure => simp [intOf]; omega
    · have hnl : ¬ ((i : Int) < (j : Int)) := by omega
      have hie : j = i := by omega
      subst hie
      by_cases hln : j < n
      · have hly : j < ys.length := by have := HN.out; omega
        obtain ⟨y, hyi⟩ : ∃ y, ys[j]? = some y := ⟨_, List.getElem?_eq_getElem hly⟩
        have hy32 := HY.out y (List.mem_of_getElem? hyi)
        have hsz : (Tryz.prog.info? 41).map (·.size) = some y.cells.length := by rw [size47, EV.clen y hy32]
        obtain ⟨g, o, e1, r1⟩ : ∃ g o, ao = some ⟨g, o, none⟩ ∧ w.rangeAt g (o + j * 34) y.cells := by
          rcases HV.out with ⟨e, _⟩ | ⟨g, o, c2, e, hc⟩
          · rw [e] at hly; simp at hly
          · cases e; exact ⟨g, o, rfl, hc j y hyi⟩
        subst e1
        have HR1 : Hid (∀ W, Kept (fun _ => False) w W → W.rangeAt g (o + j * 34) y.cells) := fun W hW j u hj => hW.cell (r1 j u hj) (fun f => f)
        have HYI := hid_of hyi
        have HC := hid_of (fun W => cmp_any y s W)
        obtain ⟨r, hr⟩ : ∃ r, r = cmpN y.nm s := ⟨_, rfl⟩
        have HRR := hid_of hr
        rw [← hr] at HC
        have hlnI : (j : Int) < (n : Int) := by omega
        have hj0 : (0 : Int) ≤ (j : Int) := by omega
        clear hr r1 hyi hly
        go_upto_region 8 with fail
        go_wp2_with (refine wpList_mid_wanted (by rfl) 41 _ rfl g (o + j * 34) rfl y.cells _ (HR1.out _ HK.out) Tryz.underlying41 rfl hsz ?_)
        refine (HC.out _).mono ?_
        rintro e w7 ⟨rfl, hk7⟩
        have HK7 : Hid (Kept (fun _ => False) w w7) := HK.out.trans hk7
        clear hk7 HC
        go_wp2
        go_ret2
        refine ⟨⟨j, _, rfl, ⟨by have := HN.out; omega, HB.out, HA.out, ?_⟩⟩, HK7.out⟩
        rw [HYI.out, HRR.out]
        simp
      · have hlnI : ¬ ((j : Int) < (n : Int)) := by omega
        go_upto_region 8 with fail
        go_wp2
        go_ret2
        refine ⟨⟨j, _, rfl, ⟨by have := HN.out; omega, HB.out, HA.out, ?_⟩⟩, HK.out⟩
        rw [List.getElem?_eq_none (by have := HN.out; omega)]
        simp

set_option maxHeartbeats 1000000 in
theorem place_any (ao : Option Addr) (c : Nat) (ys : List EV) (s : List Int) (w : World) (hv : RowE w (.slice ao ys.length c) ys) (hy : ∀ y ∈ ys, y.fr.length ≤ 32) (hn : ys.length ≤ 1000000) (hr : Rising ys s) :
    Calls Tryz.prog 32 #[.slice ao ys.length c, .string (str s)] w fun e w' => SearchE ys s e ∧ Kept (fun _ => False) w w' := by
  have HS := hid_of (search_any ao c ys s w hv hy hn hr)
  clear hv hy hn hr
  go_enter Tryz.func32, Tryz.ntmps32
  go_wp2_with fail
  refine HS.out.mono ?_
  rintro e w2 ⟨⟨i, f, rfl, hf⟩, hk⟩
  have HF := hid_of hf
  have HK := hid_of hk
  clear hf hk HS
  go_wp2
  go_ret2
  exact ⟨⟨i, f, rfl, HF.out⟩, HK.out⟩
end Go.Proofs.YtcpkbajmilkhpabGreatDoor

namespace Go.Proofs.YtcpkbajmilkhpabGreatDoor
open Go.RowKit
set_option linter.unusedVariables false
set_option linter.unusedSimpArgs false
set_option maxRecDepth 100000

/-- Is this the entry's name? -/
def nmEq (y : EV) (s : List Int) : Bool := (str y.nm).toList == (str s).toList
/-- The list with none of a name. -/
def withoutL (ys : List EV) (s : List Int) : List EV := ys.filter fun y => !nmEq y s
theorem without_take (ys : List EV) (s : List Int) (i : Nat) (y : EV) (h : ys[i]? = some y) : withoutL (ys.take (i + 1)) s = withoutL (ys.take i) s ++ (if nmEq y s = true then [] else [y]) := by
  unfold withoutL
  rw [List.take_add_one, h, List.filter_append]
  congr 1
  cases hq : nmEq y s <;> simp [hq]
/-- A row of its own comes back. -/
def RowOut (w : World) (zs : List EV) (e : Ending) (w' : World) : Prop := ∃ u, e = .returned u ∧ w'.ownsRow w.heap.size 41 34 u zs.length (ents zs) ∧ Kept (fun _ => False) w w'

set_option maxHeartbeats 2000000 in
theorem without_ref (ao : Option Addr) (c : Nat) (ys : List EV) (s : List Int) (w : World) (hv : RowE w (.slice ao ys.length c) ys) (hy : ∀ y ∈ ys, y.fr.length ≤ 32) (hn : ys.length ≤ 1000000) :
    Calls Tryz.prog 13 #[.slice ao ys.length c, .string (str s)] w fun e w' => RowOut w (withoutL ys s) e w' := by
  obtain ⟨n, hN⟩ : ∃ n, n = ys.length := ⟨_, rfl⟩
  have HN := hid_of hN
  have HV := hid_of hv
  have HY := hid_of hy
  rw [← hN] at hn ⊢
  clear hv hy hN
  go_enter Tryz.func13, Tryz.ntmps13
  go_wp2
  go_loopw [5, 6] (fun ov iv wr => ∃ (i m : Nat) (ao' : Option Addr) (cp : Nat), i ≤ n ∧ m ≤ i ∧ iv = .int .i64 i ∧ ov = .slice ao' m cp ∧ m = (withoutL (ys.take i) s).length ∧ wr.ownsRow w.heap.size 41 34 (.slice ao' m cp) m (ents (withoutL (ys.take i) s)) ∧ Kept (fun _ => False) w wr) (fun _ iv _ => n - (intOf iv).toNat)
  case atStart => exact ⟨0, 0, none, 0, Nat.zero_le _, Nat.le_refl _, rfl, rfl, rfl, World.ownsRow_nil _ _ _ _, Kept.refl _ _⟩
  case round =>
    obtain ⟨i, m, ao', cp, hi, hmi, rfl, rfl, hm, ho, hk⟩ := hrel
    by_cases hlt : i < n
    · have hltI : (i : Int) < (n : Int) := by omega
      have hi0 : (0 : Int) ≤ (i : Int) := by omega
      have hly : i < ys.length := by rw [← HN.out]; exact hlt
      obtain ⟨y, hyi⟩ : ∃ y, ys[i]? = some y := ⟨_, List.getElem?_eq_getElem hly⟩
      have hy32 := HY.out y (List.mem_of_getElem? hyi)
      have hyl := EV.clen y hy32
      obtain ⟨g, o, e1, r1⟩ : ∃ g o, ao = some ⟨g, o, none⟩ ∧ wr.rangeAt g (o + i * 34) y.cells := by
        rcases HV.out.kept hk (fun _ _ f => f) with ⟨e, _⟩ | ⟨g, o, c2, e, hc⟩
        · rw [e] at hly; simp at hly
        · cases e; exact ⟨g, o, rfl, hc i y hyi⟩
      subst e1
      have hsz : (Tryz.prog.info? 41).map (·.size) = some y.cells.length := by rw [size47, hyl]
      have x0 : wr.cell? ⟨g, o + i * 34, none⟩ = some (.string (str y.nm)) := by have := r1 0 (.string (str y.nm)) rfl; rwa [Nat.add_zero] at this
      have hT := without_take ys s i y hyi
      have HR1 := hid_of r1
      have HSZ := hid_of hsz
      have hb : w.heap.size ≤ wr.heap.size := hk.size
      obtain ⟨ou, hou⟩ : ∃ ou, ou = withoutL (ys.take i) s := ⟨_, rfl⟩
      rw [← hou] at hm ho hT
      cases hq : nmEq y s
      · rw [hq, if_neg (by simp)] at hT
        have hqs : ((str y.nm).toList == (str s).toList) = false := hq
        have hm' := hm
        rw [hm] at ho
        obtain ⟨v5, w5, hr5, ho5, ⟨g5, c5, hv5⟩, hk5⟩ := app_ent wr _ w.heap.size ou y hy32 ho hb (by omega)
        have hl5 : (ou ++ [y]).length = m + 1 := by rw [List.length_append, hm]; rfl
        rw [hl5] at hv5 ho5
        subst hv5
        rw [← hm] at hr5
        have HR5 := hid_of hr5
        have hown := ho.lt
        have HREL : Hid (m + 1 = (withoutL (ys.take (i + 1)) s).length ∧ w5.ownsRow w.heap.size 41 34 (.slice (some ⟨g5, 0, none⟩) (m + 1) c5) (m + 1) (ents (withoutL (ys.take (i + 1)) s)) ∧ Kept (fun _ => False) w w5) := by
          unfold Hid
          rw [hT]
          exact ⟨hl5.symm, ho5, hk.step hk5 (fun q hq e => by have := (hown q e).1; omega)⟩
        clear hk ho hm hm' hT hou hyi hly hr5 hk5 ho5 hl5 hown r1 hsz hq
        go_upto_region 6 with fail
        go_wp2_with (first | refine wpList_load_mid rfl 41 _ rfl g (o + i * 34) rfl y.cells _ HR1.out Tryz.underlying41 rfl HSZ.out ?_ | refine wpList_build47 rfl _ rfl y.cells rfl hyl ?_ | (refine wp_app2 rfl (.tmp 20) (.tmp 25) 22 22 ?_ _ _ rfl rfl (.slice (some ⟨g5, 0, none⟩) (m + 1) c5) w5 ?_ ?_; rfl; exact HR5.out))
        go_roundw
        case rel => exact ⟨i + 1, m + 1, some ⟨g5, 0, none⟩, c5, by omega, by omega, by go_num, rfl, HREL.out⟩
        case measure => simp [intOf]; omega
      · rw [hq, if_pos rfl, List.append_nil] at hT
        have hqs : ((str y.nm).toList == (str s).toList) = true := hq
        have HREL : Hid (m = (withoutL (ys.take (i + 1)) s).length ∧ wr.ownsRow w.heap.size 41 34 (.slice ao' m cp) m (ents (withoutL (ys.take (i + 1)) s)) ∧ Kept (fun _ => False) w wr) := by
          unfold Hid
          rw [hT]
          exact ⟨hm, ho, hk⟩
        clear hk ho hm hT hou hyi hly r1 hsz hq
        go_wp2
        go_roundw
        case rel => exact ⟨i + 1, m, ao', cp, by omega, by omega, by go_num, rfl, HREL.out⟩
        case measure => simp [intOf]; omega
    · have hnl : ¬ ((i : Int) < (n : Int)) := by omega
      have hie : i = n := by omega
      subst hie
      rw [List.take_of_length_le (by rw [HN.out]; exact Nat.le_refl _)] at hm ho
      have HO : Hid (RowOut w (withoutL ys s) (.returned (.slice ao' m cp)) wr) := ⟨_, rfl, by rw [← hm]; exact ho, hk⟩
      clear hm ho hk
      go_wp2
      go_ret
      exact HO.out
end Go.Proofs.YtcpkbajmilkhpabGreatDoor

namespace Go.Proofs
open Go.Shelf
shelf_lay LaysM.n316 Nm 316 at Tryz as Tryz.laysM316
end Go.Proofs
namespace Go.Proofs.YtcpkbajmilkhpabGreatDoor
open Go.RowKit
set_option linter.unusedVariables false
set_option linter.unusedSimpArgs false
set_option maxRecDepth 100000

theorem kept_below {w w' : World} (h : Below w.heap.size w w') : Kept (fun _ => False) w w' := ⟨h.os, h.tape, h.output, h.size, fun k hk _ => h.block k hk⟩

set_option maxHeartbeats 1000000 in
theorem sclone_any (s : ByteArray) (w : World) (hs : s.size ≤ 281474976710656) :
    Calls Tryz.prog 77 #[.string s] w fun e w' => e = .returned (.string s) ∧ Kept (fun _ => False) w w' := by
  have HC := hid_of (fun w => Any.stringslite_Clone Tryz.laysM316 s w hs)
  go_enter Tryz.func77, Tryz.ntmps77
  go_wp2_with fail
  refine (HC.out _).mono ?_
  rintro e w1 ⟨rfl, hb⟩
  have HB := hid_of (kept_below hb)
  clear hb HC
  go_wp2
  go_ret
  exact ⟨rfl, HB.out⟩

set_option maxHeartbeats 1000000 in
theorem apart_any (y : EV) (w : World) (hs : (str y.nm).size ≤ 281474976710656) (hy : y.fr.length ≤ 32) :
    Calls Tryz.prog 56 #[.agg y.cells.toArray] w fun e w' => e = .returned (.agg y.cells.toArray) ∧ Kept (fun _ => False) w w' := by
  have hyl := EV.clen y hy
  have hsz : (Tryz.prog.info? 41).map (·.size) = some y.cells.toArray.size := by rw [size47, List.size_toArray, hyl]
  have ho34 : (entA ⟨#[]⟩ 0 []).size = y.cells.toArray.size := by rw [entA_size _ _ _ (by decide), List.size_toArray, hyl]
  have h1c : y.cells.toArray.all (·.oneCell') = true := entA_cells (str y.nm) y.k y.fr
  have HC := hid_of (fun W => sclone_any (str y.nm) W hs)
  have hb := heap_alloc_new w (.cells y.cells.toArray 41)
  have hK1 : Kept (fun _ => False) w (w.alloc (.cells y.cells.toArray 41)) := (Kept.refl _ _).alloc _
  have hz1 : (w.alloc (.cells y.cells.toArray 41)).heap.size = w.heap.size + 1 := Array.size_push _
  obtain ⟨w1, hw1⟩ : ∃ w1, w1 = w.alloc (.cells y.cells.toArray 41) := ⟨_, rfl⟩
  rw [← hw1] at hb hK1 hz1
  have hO := heap_alloc_new w1 (.cells (entA ⟨#[]⟩ 0 []) 41)
  have hkO : Kept (fun _ => False) w1 (w1.alloc (.cells (entA ⟨#[]⟩ 0 []) 41)) := (Kept.refl _ _).alloc _
  have hw : w1.alloc (.cells (entA ⟨#[]⟩ 0 []) 41) = w1.alloc (.cells _ 41) := congrArg (fun c => w1.alloc (.cells c 41)) (entA_new ⟨#[]⟩ 0)
  rw [hw] at hO hkO
  clear hw
  rw [hz1] at hO
  go_enter Tryz.func56, Tryz.ntmps56
  go_upto_region 1 with (refine Go.Great.wpList_boxTo rfl 41 _ rfl _ rfl w.heap.size rfl y.cells.toArray rfl ?_)
  rw [← hw1]
  have hO' : (w1.alloc (.cells _ 41)).heap[w.heap.size + 1]? = some (.cells (entA ⟨#[]⟩ 0 []) 41 (0, 0)) := hO
  generalize w1.alloc (.cells _ 41) = wO at *
  have HO := hid_of hO'
  have HB := hid_of ((hkO.block w.heap.size (by omega) (fun f => f)).trans hb)
  have HKO := hid_of (hK1.trans hkO)
  clear hO hO' hkO hb hK1 hw1 hz1
  have x0 : wO.cell? ⟨w.heap.size, 0, none⟩ = some (.string (str y.nm)) := by rw [cell_block _ _ _ _ _ _ HB.out]; rfl
  have xl : w.heap.size < wO.heap.size := (Array.getElem?_eq_some_iff.1 HB.out).1
  go_wp2_with fail
  refine (HC.out _).mono ?_
  rintro e w2 ⟨rfl, hk2⟩
  have hb2 := (hk2.block w.heap.size xl (fun f => f)).trans HB.out
  have hO2 := (hk2.block (w.heap.size + 1) (Array.getElem?_eq_some_iff.1 HO.out).1 (fun f => f)).trans HO.out
  have hK2 := HKO.out.trans hk2
  clear hk2 HC HKO HO HB x0 xl
  have x0 : w2.cell? ⟨w.heap.size, 0, none⟩ = some (.string (str y.nm)) := by rw [cell_block _ _ _ _ _ _ hb2]; rfl
  have xf := frozen_block _ _ 0 _ _ hb2
  have xl : w.heap.size < w2.heap.size := (Array.getElem?_eq_some_iff.1 hb2).1
  have HB2 := hid_of hb2
  have HO2 := hid_of hO2
  have HK2 := hid_of hK2
  clear hb2 hO2 hK2
  go_upto_region 2 with fail
  have k3 := kept_set w2 w.heap.size 0 (.string (str y.nm))
  have hB3 : (w2.setCell ⟨w.heap.size, 0, none⟩ (.string (str y.nm))).heap[w.heap.size]? = some (.cells y.cells.toArray 41 (0, 0)) := by rw [set_block _ _ _ _ _ _ HB2.out, ← EV.arr, entA_name]
  have hO3 := (k3.block (w.heap.size + 1) (Array.getElem?_eq_some_iff.1 HO2.out).1 (by omega)).trans HO2.out
  have hK3 : Kept (fun _ => False) w (w2.setCell ⟨w.heap.size, 0, none⟩ (.string (str y.nm))) := HK2.out.step k3 (fun i hi e => by omega)
  clear x0 xf xl k3 HB2 HO2 HK2
  generalize w2.setCell ⟨w.heap.size, 0, none⟩ (.string (str y.nm)) = w3 at *
  have HER := hid_of (setRow_heap w3 (w.heap.size + 1) _ y.cells.toArray 41 (0, 0) hO3)
  have HG : Hid (Kept (fun _ => False) w (w3.setRow (w.heap.size + 1) y.cells.toArray)) := hK3.step (kept_row w3 (w.heap.size + 1) _) (fun i hi e => by omega)
  clear hK3
  go_wp2_with (first | refine wpList_load_row rfl 41 _ rfl w.heap.size rfl 41 y.cells.toArray (0, 0) _ hB3 Tryz.underlying41 rfl hsz ?_ | refine wpList_store_row rfl 41 _ _ rfl (w.heap.size + 1) y.cells.toArray rfl rfl 41 _ hO3 hsz ho34 h1c ?_)
  refine bodyPost_ret (v := .agg y.cells.toArray) ?_ rfl ⟨rfl, HG.out⟩
  exact results_cell_row (by rfl) _ _ (w.heap.size + 1) 41 _ (0, 0) _ (by rfl) HER.out Tryz.underlying41 rfl hsz

/-- The first entry of a name. -/
def findL (ys : List EV) (s : List Int) : Option EV := ys.find? fun y => nmEq y s
theorem find_drop (ys : List EV) (s : List Int) (i : Nat) (y : EV) (h : ys[i]? = some y) : findL (ys.drop i) s = if nmEq y s = true then some y else findL (ys.drop (i + 1)) s := by
  unfold findL
  obtain ⟨hl, rfl⟩ := List.getElem?_eq_some_iff.1 h
  rw [List.drop_eq_getElem_cons hl, List.find?_cons]
  cases hq : nmEq ys[i] s <;> simp
/-- What Find tells of it. -/
def foundE (o : Option EV) : EV := o.getD ⟨[], 0, []⟩
/-- How Find ends. -/
def FindOut (w : World) (o : Option EV) (e : Ending) (w' : World) : Prop := e = .returned (.tuple #[.agg (foundE o).cells.toArray, .bool o.isSome]) ∧ Kept (fun _ => False) w w'

set_option maxHeartbeats 2000000 in
theorem find_ref (ao : Option Addr) (c : Nat) (ys : List EV) (s : List Int) (w : World) (hv : RowE w (.slice ao ys.length c) ys) (hy : ∀ y ∈ ys, y.fr.length ≤ 32) (hn : ys.length ≤ 1000000) :
    Calls Tryz.prog 58 #[.slice ao ys.length c, .string (str s)] w fun e w' => FindOut w (findL ys s) e w' := by
  obtain ⟨n, hN⟩ : ∃ n, n = ys.length := ⟨_, rfl⟩
  have HN := hid_of hN
  have HV := hid_of hv
  have HY := hid_of hy
  rw [← hN] at hn ⊢
  clear hv hy hN
  have hO := heap_alloc_new w (.cells (entA ⟨#[]⟩ 0 []) 41)
  have hkO : Kept (fun _ => False) w (w.alloc (.cells (entA ⟨#[]⟩ 0 []) 41)) := (Kept.refl _ _).alloc _
  have hw : w.alloc (.cells (entA ⟨#[]⟩ 0 []) 41) = w.alloc (.cells _ 41) := congrArg (fun c => w.alloc (.cells c 41)) (entA_new ⟨#[]⟩ 0)
  rw [hw] at hO hkO
  clear hw
  have hsz34 : (Tryz.prog.info? 41).map (·.size) = some (entA ⟨#[]⟩ 0 []).size := by rw [size47, entA_size _ _ _ (by decide)]
  have h1z := entA_cells ⟨#[]⟩ 0 []
  go_enter Tryz.func58, Tryz.ntmps58
  go_upto_region 1 with fail
  have hO' : (w.alloc (.cells _ 41)).heap[w.heap.size]? = some (.cells (entA ⟨#[]⟩ 0 []) 41 (0, 0)) := hO
  generalize w.alloc (.cells _ 41) = wO at *
  have HO := hid_of hO'
  have HKO := hid_of hkO
  clear hO hO' hkO
  go_wp2
  go_loopw [6] (fun iv wr => ∃ i : Nat, i ≤ n ∧ iv = .int .i64 i ∧ wr.heap[w.heap.size]? = some (.cells (entA ⟨#[]⟩ 0 []) 41 (0, 0)) ∧ Kept (fun _ => False) w wr ∧ findL ys s = findL (ys.drop i) s) (fun iv _ => n - (intOf iv).toNat)
  case atStart => exact ⟨0, Nat.zero_le _, rfl, HO.out, HKO.out, rfl⟩
  case round =>
    obtain ⟨i, hi, rfl, hO, hk, hf⟩ := hrel
    by_cases hlt : i < n
    · have hltI : (i : Int) < (n : Int) := by omega
      have hi0 : (0 : Int) ≤ (i : Int) := by omega
      have hly : i < ys.length := by rw [← HN.out]; exact hlt
      obtain ⟨y, hyi⟩ : ∃ y, ys[i]? = some y := ⟨_, List.getElem?_eq_getElem hly⟩
      have hy32 := HY.out y (List.mem_of_getElem? hyi)
      have hyl := EV.clen y hy32
      obtain ⟨g, o, e1, r1⟩ : ∃ g o, ao = some ⟨g, o, none⟩ ∧ wr.rangeAt g (o + i * 34) y.cells := by
        rcases HV.out.kept hk (fun _ _ f => f) with ⟨e, _⟩ | ⟨g, o, c2, e, hc⟩
        · rw [e] at hly; simp at hly
        · cases e; exact ⟨g, o, rfl, hc i y hyi⟩
      subst e1
      have hsz : (Tryz.prog.info? 41).map (·.size) = some y.cells.length := by rw [size47, hyl]
      have x0 : wr.cell? ⟨g, o + i * 34, none⟩ = some (.string (str y.nm)) := by have := r1 0 (.string (str y.nm)) rfl; rwa [Nat.add_zero] at this
      rw [find_drop ys s i y hyi] at hf
      have HR1 := hid_of r1
      have HSZ := hid_of hsz
      cases hq : nmEq y s
      · rw [hq, if_neg (by simp)] at hf
        have hqs : ((str y.nm).toList == (str s).toList) = false := hq
        have HREL : Hid (wr.heap[w.heap.size]? = some (.cells (entA ⟨#[]⟩ 0 []) 41 (0, 0)) ∧ Kept (fun _ => False) w wr ∧ findL ys s = findL (ys.drop (i + 1)) s) := ⟨hO, hk, hf⟩
        clear hO hk hf hyi hly r1 hsz hq
        go_wp2
        go_roundw
        case rel => exact ⟨i + 1, by omega, by go_num, HREL.out⟩
        case measure => simp [intOf]; omega
      · rw [hq, if_pos rfl] at hf
        have hqs : ((str y.nm).toList == (str s).toList) = true := hq
        have hs34 : (Tryz.prog.info? 41).map (·.size) = some y.cells.toArray.size := by rw [size47, List.size_toArray, hyl]
        have ho34 : (entA ⟨#[]⟩ 0 []).size = y.cells.toArray.size := by rw [entA_size _ _ _ (by decide), List.size_toArray, hyl]
        have h1c : y.cells.toArray.all (·.oneCell') = true := entA_cells (str y.nm) y.k y.fr
        have HER := hid_of (setRow_heap wr w.heap.size _ y.cells.toArray 41 (0, 0) hO)
        have HG : Hid (FindOut w (findL ys s) (.returned (.tuple #[.agg y.cells.toArray, .bool true])) (wr.setRow w.heap.size y.cells.toArray)) := ⟨by rw [hf]; rfl, hk.step (kept_row wr w.heap.size _) (fun i hi e => by omega)⟩
        clear hk hf hyi hly r1 hsz hq
        go_upto_region 5 with fail
        go_wp2_with (first | refine wpList_load_mid rfl 41 _ rfl g (o + i * 34) rfl y.cells _ HR1.out Tryz.underlying41 rfl HSZ.out ?_ | refine wpList_store_row rfl 41 _ _ rfl w.heap.size y.cells.toArray rfl rfl 41 _ hO hs34 ho34 h1c ?_)
        refine bodyPost_ret (v := .tuple #[.agg y.cells.toArray, .bool true]) ?_ rfl HG.out
        exact results_row_tmp (by rfl) _ _ w.heap.size _ _ (by rfl) HER.out hs34 (by rfl)
    · have hnl : ¬ ((i : Int) < (n : Int)) := by omega
      have hie : i = n := by omega
      subst hie
      rw [List.drop_of_length_le (by rw [HN.out]; exact Nat.le_refl _)] at hf
      have HER := hid_of (setRow_heap wr w.heap.size _ (entA ⟨#[]⟩ 0 []) 41 (0, 0) hO)
      have HG : Hid (FindOut w (findL ys s) (.returned (.tuple #[.agg (entA ⟨#[]⟩ 0 []), .bool false])) (wr.setRow w.heap.size (entA ⟨#[]⟩ 0 []))) := ⟨by rw [hf]; rfl, hk.step (kept_row wr w.heap.size _) (fun i hi e => by omega)⟩
      clear hk hf
      go_wp2_with (first | refine wpList_none rfl rfl ?_ | refine wpList_store_row rfl 41 _ _ rfl w.heap.size (entA ⟨#[]⟩ 0 []) rfl rfl 41 _ hO hsz34 rfl h1z ?_)
      refine bodyPost_ret (v := .tuple #[.agg (entA ⟨#[]⟩ 0 []), .bool false]) ?_ rfl HG.out
      exact results_row_tmp (by rfl) _ _ w.heap.size _ _ (by rfl) HER.out hsz34 (by rfl)
end Go.Proofs.YtcpkbajmilkhpabGreatDoor

namespace Go.Proofs.YtcpkbajmilkhpabGreatDoor
open Go.RowKit
set_option linter.unusedVariables false
set_option linter.unusedSimpArgs false

theorem blt_irrefl : ∀ a : List UInt8, Op.bytesLess a a = false
  | [] => rfl
  | a :: x => by simp [Op.bytesLess, blt_irrefl x]
theorem blt_trans : ∀ a b c : List UInt8, Op.bytesLess a b = true → Op.bytesLess b c = true → Op.bytesLess a c = true
  | _, _, [], _, h => by cases ‹List UInt8› <;> simp [Op.bytesLess] at h
  | _, [], _ :: _, h, _ => by cases ‹List UInt8› <;> simp [Op.bytesLess] at h
  | [], _ :: _, _ :: _, _, _ => rfl
  | a :: x, b :: y, c :: z, h1, h2 => by
    simp only [Op.bytesLess, Bool.or_eq_true, decide_eq_true_eq, Bool.and_eq_true, beq_iff_eq] at h1 h2 ⊢
    rcases h1 with h1 | ⟨e1, h1⟩
    · rcases h2 with h2 | ⟨e2, h2⟩
      · exact .inl (UInt8.lt_trans h1 h2)
      · exact .inl (e2 ▸ h1)
    · subst e1
      rcases h2 with h2 | ⟨e2, h2⟩
      · exact .inl h2
      · exact .inr ⟨e2, blt_trans x y z h1 h2⟩
theorem cmp_neg : ∀ a b : List UInt8, Lib.compareBytes a b < 0 ↔ Op.bytesLess a b = true
  | [], [] => by simp [Lib.compareBytes, Op.bytesLess]
  | [], _ :: _ => by simp [Lib.compareBytes, Op.bytesLess]
  | _ :: _, [] => by simp [Lib.compareBytes, Op.bytesLess]
  | a :: x, b :: y => by
    have ih := cmp_neg x y
    simp only [Lib.compareBytes, Op.bytesLess, Bool.or_eq_true, decide_eq_true_eq, Bool.and_eq_true, beq_iff_eq]
    by_cases h : a < b
    · simp [h]
    · by_cases h2 : b < a
      · rw [if_neg h, if_pos h2]
        have hne : a ≠ b := fun e => UInt8.lt_irrefl _ (e ▸ h2)
        simp [h, hne]
      · have he : a = b := UInt8.le_antisymm (UInt8.not_lt.1 h2) (UInt8.not_lt.1 h)
        rw [if_neg h, if_neg h2, ih]
        simp [he]
theorem cmp_zero : ∀ a b : List UInt8, Lib.compareBytes a b = 0 ↔ a = b
  | [], [] => by simp [Lib.compareBytes]
  | [], _ :: _ => by simp [Lib.compareBytes]
  | _ :: _, [] => by simp [Lib.compareBytes]
  | a :: x, b :: y => by
    have ih := cmp_zero x y
    simp only [Lib.compareBytes, List.cons.injEq]
    by_cases h : a < b
    · rw [if_pos h]
      have hne : a ≠ b := fun e => UInt8.lt_irrefl _ (e ▸ h)
      simp [hne]
    · by_cases h2 : b < a
      · rw [if_neg h, if_pos h2]
        have hne : a ≠ b := fun e => UInt8.lt_irrefl _ (e ▸ h2)
        simp [hne]
      · have he : a = b := UInt8.le_antisymm (UInt8.not_lt.1 h2) (UInt8.not_lt.1 h)
        rw [if_neg h, if_neg h2, ih]
        simp [he]
theorem blt_total (a b : List UInt8) (h1 : Op.bytesLess a b = false) (h2 : a ≠ b) : Op.bytesLess b a = true := by
  induction a generalizing b with
  | nil => cases b with
    | nil => exact absurd rfl h2
    | cons => simp [Op.bytesLess] at h1
  | cons x a ih => cases b with
    | nil => rfl
    | cons y b =>
      simp only [Op.bytesLess, Bool.or_eq_false_iff, decide_eq_false_iff_not] at h1
      simp only [Op.bytesLess, Bool.or_eq_true, decide_eq_true_eq, Bool.and_eq_true, beq_iff_eq]
      by_cases hxy : x = y
      · subst hxy
        exact .inr ⟨rfl, ih b (by simpa using h1.2) (fun e => h2 (by rw [e]))⟩
      · left
        rcases UInt8.lt_or_eq_of_le (UInt8.not_lt.1 h1.1) with h | h
        · exact h
        · exact absurd h.symm hxy

theorem toList_data (b : ByteArray) : b.toList = b.data.toList := ByteArray.toList_eq b
theorem cmpN_neg (a b : List Int) : cmpN a b < 0 ↔ lessB a b = true := by
  unfold cmpN lessB
  rw [cmp_neg, toList_data, toList_data]
theorem cmpN_zero (y : EV) (s : List Int) : cmpN y.nm s = 0 ↔ nmEq y s = true := by
  unfold cmpN nmEq
  rw [cmp_zero, toList_data, toList_data, beq_iff_eq]

/-- A list whose names rise. -/
def Up (ys : List EV) : Prop := ys.Pairwise fun y z => lessB y.nm z.nm = true
theorem good_up {P : List Int → Bool} : ∀ (ys : List EV) (ah : List Int), goodE P ah ys = true → Up ys ∧ ∀ y ∈ ys, lessB ah y.nm = true
  | [], _, _ => ⟨List.Pairwise.nil, fun y h => by cases h⟩
  | z :: zs, ah, h => by
    rw [goodE, Bool.and_eq_true, Bool.and_eq_true, Bool.and_eq_true] at h
    obtain ⟨u, v⟩ := good_up zs z.nm h.2.2
    refine ⟨List.Pairwise.cons v u, fun y hy => ?_⟩
    rcases List.mem_cons.1 hy with rfl | hy
    · exact h.2.1.2
    · exact blt_trans _ _ _ h.2.1.2 (v y hy)
theorem up_rising {ys : List EV} (h : Up ys) (s : List Int) : Rising ys s := by
  intro a b y z hab hy hz hc
  rcases Nat.lt_or_ge a b with hl | hl
  · obtain ⟨ha, rfl⟩ := List.getElem?_eq_some_iff.1 hy
    obtain ⟨hb, rfl⟩ := List.getElem?_eq_some_iff.1 hz
    rw [cmpN_neg] at hc ⊢
    exact blt_trans _ _ _ (List.pairwise_iff_getElem.1 h a b ha hb hl) hc
  · have : a = b := by omega
    subst this
    rw [hy] at hz
    cases hz
    exact hc
theorem nmEq_list {y : EV} {s : List Int} (h : nmEq y s = true) : (str y.nm).toList = (str s).toList := by
  unfold nmEq at h
  exact beq_iff_eq.1 h
theorem less_ne {y : EV} {s : List Int} (h : lessB y.nm s = true) : nmEq y s = false := by
  rw [Bool.eq_false_iff]
  intro e
  unfold lessB at h
  rw [nmEq_list e, blt_irrefl] at h
  cases h
theorem more_ne {y : EV} {s : List Int} (h : lessB s y.nm = true) : nmEq y s = false := by
  rw [Bool.eq_false_iff]
  intro e
  unfold lessB at h
  rw [nmEq_list e, blt_irrefl] at h
  cases h
theorem less_not {a b : List Int} (h : lessB a b = true) : lessB b a = false := by
  rw [Bool.eq_false_iff]
  intro e
  have := blt_trans _ _ _ h e
  rw [blt_irrefl] at this
  cases this
theorem total_lt {y : EV} {s : List Int} (h1 : lessB y.nm s = false) (h2 : nmEq y s = false) : lessB s y.nm = true :=
  blt_total _ _ h1 (fun e => by unfold nmEq at h2; rw [e, beq_self_eq_true] at h2; cases h2)

/-- A right list, cut where a name is or would be: what is below it, the entry, what is above it. -/
structure Cut3 (ys : List EV) (s : List Int) (i : Nat) (f : Bool) (A M B : List EV) : Prop where
  whole : ys = A ++ M ++ B
  len : A.length = i
  mid : (f = true ∧ ∃ y, M = [y] ∧ nmEq y s = true) ∨ (f = false ∧ M = [])
  low : ∀ y ∈ A, lessB y.nm s = true
  high : ∀ z ∈ B, lessB s z.nm = true

theorem found_cut {ys : List EV} {s : List Int} {i : Nat} {f : Bool} (h : Found ys s i f) (hu : Up ys) : ∃ A M B, Cut3 ys s i f A M B := by
  have hlow : ∀ y ∈ ys.take i, lessB y.nm s = true := fun y hy => by
    obtain ⟨k, hk⟩ := List.mem_iff_getElem?.1 hy
    rw [List.getElem?_take] at hk
    split at hk
    · exact (cmpN_neg _ _).1 (h.below k y ‹_› hk)
    · cases hk
  have hlen : (ys.take i).length = i := by rw [List.length_take]; exact Nat.min_eq_left h.le
  have hup : ∀ (a b : Nat) (y z : EV), a < b → ys[a]? = some y → ys[b]? = some z → lessB y.nm z.nm = true := fun a b y z hab hy hz => by
    obtain ⟨ha, rfl⟩ := List.getElem?_eq_some_iff.1 hy
    obtain ⟨hb, rfl⟩ := List.getElem?_eq_some_iff.1 hz
    exact List.pairwise_iff_getElem.1 hu a b ha hb hab
  cases hf : f
  · refine ⟨ys.take i, [], ys.drop i, by rw [List.append_nil, List.take_append_drop], hlen, .inr ⟨rfl, rfl⟩, hlow, fun z hz => ?_⟩
    obtain ⟨k, hk⟩ := List.mem_iff_getElem?.1 hz
    rw [List.getElem?_drop] at hk
    have h0 := h.above (i + k) z (by omega) hk
    have hl : lessB z.nm s = false := by
      rw [Bool.eq_false_iff]
      intro e
      have := (cmpN_neg _ _).2 e
      omega
    refine total_lt hl ?_
    rw [Bool.eq_false_iff]
    intro e
    rcases Nat.eq_zero_or_pos k with rfl | hk0
    · rw [Nat.add_zero] at hk
      have := h.found.2 ⟨z, hk, (cmpN_zero z s).2 e⟩
      rw [hf] at this
      cases this
    · have hlz : i + k < ys.length := (List.getElem?_eq_some_iff.1 hk).1
      obtain ⟨y, hy⟩ : ∃ y, ys[i]? = some y := ⟨_, List.getElem?_eq_getElem (by omega)⟩
      have h1 := hup i (i + k) y z (by omega) hy hk
      have h2 := h.above i y (Nat.le_refl _) hy
      have h3 : lessB y.nm s = true := by
        unfold lessB at h1 ⊢
        rw [← nmEq_list e]
        exact h1
      have := (cmpN_neg _ _).2 h3
      omega
  · obtain ⟨y, hy, hc⟩ := h.found.1 hf
    have he := (cmpN_zero y s).1 hc
    obtain ⟨hil, hye⟩ := List.getElem?_eq_some_iff.1 hy
    refine ⟨ys.take i, [y], ys.drop (i + 1), ?_, hlen, .inl ⟨rfl, y, rfl, he⟩, hlow, fun z hz => ?_⟩
    · rw [List.append_assoc, List.singleton_append, ← hye, ← List.drop_eq_getElem_cons hil, List.take_append_drop]
    · obtain ⟨k, hk⟩ := List.mem_iff_getElem?.1 hz
      rw [List.getElem?_drop] at hk
      have h1 := hup i (i + 1 + k) y z (by omega) hy hk
      unfold lessB at h1 ⊢
      rw [← nmEq_list he]
      exact h1

theorem without_none {l : List EV} {s : List Int} (h : ∀ y ∈ l, nmEq y s = false) : withoutL l s = l := by
  unfold withoutL
  rw [List.filter_eq_self]
  intro y hy
  rw [h y hy]
  rfl
theorem Cut3.without {ys A M B : List EV} {s : List Int} {i : Nat} {f : Bool} (h : Cut3 ys s i f A M B) : withoutL ys s = A ++ B := by
  have hA : withoutL A s = A := without_none fun y hy => less_ne (h.low y hy)
  have hB : withoutL B s = B := without_none fun y hy => more_ne (h.high y hy)
  have hM : withoutL M s = [] := by
    rcases h.mid with ⟨_, y, rfl, e⟩ | ⟨_, rfl⟩
    · simp [withoutL, e]
    · rfl
  rw [h.whole]
  have : withoutL (A ++ M ++ B) s = withoutL A s ++ withoutL M s ++ withoutL B s := by unfold withoutL; rw [List.filter_append, List.filter_append]
  rw [this, hA, hB, hM, List.append_nil]
theorem find_none {l : List EV} {s : List Int} (h : ∀ y ∈ l, nmEq y s = false) : findL l s = none := by
  unfold findL
  rw [List.find?_eq_none]
  intro y hy
  rw [h y hy]
  decide
theorem Cut3.find {ys A M B : List EV} {s : List Int} {i : Nat} {f : Bool} (h : Cut3 ys s i f A M B) : findL ys s = M.head? := by
  have hA : findL A s = none := find_none fun y hy => less_ne (h.low y hy)
  have hB : findL B s = none := find_none fun y hy => more_ne (h.high y hy)
  rw [h.whole]
  unfold findL at hA hB ⊢
  rw [List.find?_append, List.find?_append, hA, hB]
  rcases h.mid with ⟨_, y, rfl, e⟩ | ⟨_, rfl⟩
  · simp [e]
  · rfl
/-- The list with an entry more, as the reference builds it. -/
def withL (x : EV) : Bool → List EV → List EV
  | put, [] => if put = true then [] else [x]
  | put, y :: ys => (if put = false ∧ lessB y.nm x.nm = false then [x] else []) ++ ((if nmEq y x.nm = true then [] else [y]) ++ withL x (put || !lessB y.nm x.nm) ys)
theorem with_low {x : EV} (B : List EV) : ∀ A : List EV, (∀ y ∈ A, lessB y.nm x.nm = true) → withL x false (A ++ B) = A ++ withL x false B
  | [], _ => rfl
  | y :: A, h => by
    have h1 := h y (List.mem_cons_self ..)
    rw [List.cons_append, withL, h1, less_ne h1, if_neg (by simp), if_neg (by simp)]
    simp [with_low B A (fun z hz => h z (List.mem_cons_of_mem _ hz))]
theorem with_high {x : EV} : ∀ B : List EV, (∀ y ∈ B, lessB x.nm y.nm = true) → withL x true B = B
  | [], _ => rfl
  | y :: B, h => by
    have h1 := h y (List.mem_cons_self ..)
    rw [withL, more_ne h1, if_neg (by simp), if_neg (by simp)]
    simp [with_high B (fun z hz => h z (List.mem_cons_of_mem _ hz))]
theorem with_mid {x : EV} (B : List EV) (h : ∀ y ∈ B, lessB x.nm y.nm = true) : withL x false B = x :: B := by
  cases B with
  | nil => rfl
  | cons y B =>
    have h1 := h y (List.mem_cons_self ..)
    rw [withL, less_not h1, more_ne h1, if_pos (by simp), if_neg (by simp)]
    simp [with_high B (fun z hz => h z (List.mem_cons_of_mem _ hz))]
theorem Cut3.with' {ys A M B : List EV} {x : EV} {i : Nat} {f : Bool} (h : Cut3 ys x.nm i f A M B) : withL x false ys = A ++ [x] ++ B := by
  rw [h.whole, List.append_assoc, with_low _ A h.low, List.append_assoc]
  congr 1
  rcases h.mid with ⟨_, y, rfl, e⟩ | ⟨_, rfl⟩
  · have hl : lessB y.nm x.nm = false := by
      unfold lessB
      rw [nmEq_list e, blt_irrefl]
    rw [List.singleton_append, withL, hl, e, if_pos (by simp), if_pos rfl]
    simp [with_high B h.high]
  · rw [List.nil_append, with_mid B h.high]
    rfl
end Go.Proofs.YtcpkbajmilkhpabGreatDoor

namespace Go.Proofs.YtcpkbajmilkhpabGreatDoor
open Go.RowKit
set_option linter.unusedVariables false
set_option linter.unusedSimpArgs false
set_option maxRecDepth 100000

theorem Cut3.at {ys A M B : List EV} {s : List Int} {i : Nat} (h : Cut3 ys s i true A M B) : ∃ y, ys[i]? = some y ∧ findL ys s = some y := by
  rcases h.mid with ⟨_, y, rfl, e⟩ | ⟨e, _⟩
  · refine ⟨y, ?_, h.find⟩
    rw [h.whole, List.append_assoc, List.getElem?_append_right (by rw [h.len]; exact Nat.le_refl _), h.len, Nat.sub_self]
    rfl
  · cases e
theorem Cut3.off {ys A M B : List EV} {s : List Int} {i : Nat} (h : Cut3 ys s i false A M B) : findL ys s = none := by
  rcases h.mid with ⟨e, _⟩ | ⟨_, rfl⟩
  · cases e
  · exact h.find

set_option maxHeartbeats 2000000 in
theorem find_any (ao : Option Addr) (c : Nat) (ys : List EV) (s : List Int) (w : World) (hv : RowE w (.slice ao ys.length c) ys) (hy : ∀ y ∈ ys, y.fr.length ≤ 32) (hs : ∀ y ∈ ys, (str y.nm).size ≤ 281474976710656) (hn : ys.length ≤ 1000000) (hu : Up ys) :
    Calls Tryz.prog 57 #[.slice ao ys.length c, .string (str s)] w fun e w' => FindOut w (findL ys s) e w' := by
  have HP := hid_of (fun W (hk : Kept (fun _ => False) w W) => place_any ao c ys s W (hv.kept hk (fun _ _ f => f)) hy hn (up_rising hu s))
  obtain ⟨n, hN⟩ : ∃ n, n = ys.length := ⟨_, rfl⟩
  have HN := hid_of hN
  have HV := hid_of hv
  have HY := hid_of hy
  have HS := hid_of hs
  have HU := hid_of hu
  rw [← hN] at hn HP ⊢
  clear hv hy hN hs hu
  have hO := heap_alloc_new w (.cells (entA ⟨#[]⟩ 0 []) 41)
  have hkO : Kept (fun _ => False) w (w.alloc (.cells (entA ⟨#[]⟩ 0 []) 41)) := (Kept.refl _ _).alloc _
  have hw : w.alloc (.cells (entA ⟨#[]⟩ 0 []) 41) = w.alloc (.cells _ 41) := congrArg (fun c => w.alloc (.cells c 41)) (entA_new ⟨#[]⟩ 0)
  rw [hw] at hO hkO
  clear hw
  have hsz34 : (Tryz.prog.info? 41).map (·.size) = some (entA ⟨#[]⟩ 0 []).size := by rw [size47, entA_size _ _ _ (by decide)]
  have h1z := entA_cells ⟨#[]⟩ 0 []
  go_enter Tryz.func57, Tryz.ntmps57
  go_upto_region 1 with fail
  have hO' : (w.alloc (.cells _ 41)).heap[w.heap.size]? = some (.cells (entA ⟨#[]⟩ 0 []) 41 (0, 0)) := hO
  generalize w.alloc (.cells _ 41) = wO at *
  have HO := hid_of hO'
  have HKO := hid_of hkO
  clear hO hO' hkO
  go_wp2_with fail
  refine (HP.out wO HKO.out).mono ?_
  rintro e w1 ⟨⟨i, f, rfl, hf⟩, hk1⟩
  obtain ⟨A, M, B, hc⟩ := found_cut hf HU.out
  have hO1 := (hk1.block w.heap.size (Array.getElem?_eq_some_iff.1 HO.out).1 (fun f => f)).trans HO.out
  have hK1 := HKO.out.trans hk1
  clear hf hk1 HO HKO HP
  cases f
  · have HER := hid_of (setRow_heap w1 w.heap.size _ (entA ⟨#[]⟩ 0 []) 41 (0, 0) hO1)
    have HG : Hid (FindOut w (findL ys s) (.returned (.tuple #[.agg (entA ⟨#[]⟩ 0 []), .bool false])) (w1.setRow w.heap.size (entA ⟨#[]⟩ 0 []))) := ⟨by rw [hc.off]; rfl, hK1.step (kept_row w1 w.heap.size _) (fun i hi e => by omega)⟩
    clear hK1 hc
    go_wp2_with (first | refine wpList_none rfl rfl ?_ | refine wpList_store_row rfl 41 _ _ rfl w.heap.size (entA ⟨#[]⟩ 0 []) rfl rfl 41 _ hO1 hsz34 rfl h1z ?_)
    refine bodyPost_ret (v := .tuple #[.agg (entA ⟨#[]⟩ 0 []), .bool false]) ?_ rfl HG.out
    exact results_row_tmp (by rfl) _ _ w.heap.size _ _ (by rfl) HER.out hsz34 (by rfl)
  · obtain ⟨y, hyi, hfy⟩ := hc.at
    have hly : i < ys.length := (List.getElem?_eq_some_iff.1 hyi).1
    have hy32 := HY.out y (List.mem_of_getElem? hyi)
    have hyl := EV.clen y hy32
    obtain ⟨g, o, e1, r1⟩ : ∃ g o, ao = some ⟨g, o, none⟩ ∧ w1.rangeAt g (o + i * 34) y.cells := by
      rcases HV.out.kept hK1 (fun _ _ f => f) with ⟨e, _⟩ | ⟨g, o, c2, e, hc⟩
      · rw [e] at hly; simp at hly
      · cases e; exact ⟨g, o, rfl, hc i y hyi⟩
    subst e1
    have hltI : (i : Int) < (n : Int) := by have := HN.out; omega
    have hi0 : (0 : Int) ≤ (i : Int) := by omega
    have hsz : (Tryz.prog.info? 41).map (·.size) = some y.cells.length := by rw [size47, hyl]
    have hs34 : (Tryz.prog.info? 41).map (·.size) = some y.cells.toArray.size := by rw [size47, List.size_toArray, hyl]
    have ho34 : (entA ⟨#[]⟩ 0 []).size = y.cells.toArray.size := by rw [entA_size _ _ _ (by decide), List.size_toArray, hyl]
    have h1c : y.cells.toArray.all (·.oneCell') = true := entA_cells (str y.nm) y.k y.fr
    have HA := hid_of (apart_any y w1 (HS.out y (List.mem_of_getElem? hyi)) hy32)
    have HR1 := hid_of r1
    have HSZ := hid_of hsz
    have HO1 := hid_of hO1
    have HK1 := hid_of hK1
    have HF := hid_of hfy
    clear hc hyi hly r1 hsz hO1 hK1 hfy
    go_upto_region 4 with fail
    go_wp2_with (refine wpList_load_mid rfl 41 _ rfl g (o + i * 34) rfl y.cells _ HR1.out Tryz.underlying41 rfl HSZ.out ?_)
    refine HA.out.mono ?_
    rintro e w2 ⟨rfl, hk2⟩
    have hO2 := (hk2.block w.heap.size (Array.getElem?_eq_some_iff.1 HO1.out).1 (fun f => f)).trans HO1.out
    have hK2 := HK1.out.trans hk2
    clear hk2 HA
    have HER := hid_of (setRow_heap w2 w.heap.size _ y.cells.toArray 41 (0, 0) hO2)
    have HG : Hid (FindOut w (findL ys s) (.returned (.tuple #[.agg y.cells.toArray, .bool true])) (w2.setRow w.heap.size y.cells.toArray)) := ⟨by rw [HF.out]; rfl, hK2.step (kept_row w2 w.heap.size _) (fun i hi e => by omega)⟩
    clear hK2
    go_wp2_with (refine wpList_store_row rfl 41 _ _ rfl w.heap.size y.cells.toArray rfl rfl 41 _ hO2 hs34 ho34 h1c ?_)
    refine bodyPost_ret (v := .tuple #[.agg y.cells.toArray, .bool true]) ?_ rfl HG.out
    exact results_row_tmp (by rfl) _ _ w.heap.size _ _ (by rfl) HER.out hs34 (by rfl)
end Go.Proofs.YtcpkbajmilkhpabGreatDoor
