/-
  Nea: Ngr, Ncc, Ncd, Njn, Nwo, Nwi.
-/
import Derived.Test.YtcpkbajmilkhpabGreatDoorNwr
import Derived.Test.YtcpkbajmilkhpabGreatDoorNec
import Derived.Test.YtcpkbajmilkhpabGreatDoorNrp
namespace Go.Proofs.YtcpkbajmilkhpabGreatDoor
open Go.RowKit
set_option linter.unusedVariables false
set_option linter.unusedSimpArgs false
set_option maxRecDepth 100000

theorem run_append_zeros {P : Program} {w : World} (t u ty e : TypeId) (i : TypeInfo) (z : Value) (ht : P.underlying t = some (.slice e)) (hu : P.underlying u = some (.int .i64)) (hi : P.info? e = some i) (hz : i.zero = some z)
    (n : Nat) (h0 : 0 < n) (h63 : (n : Int) ≤ 9223372036854775807) (h48 : n * i.bytes ≤ 281474976710656) (hs : 0 < i.size) :
    (Builtin.append_ #[t, u] ty #[.slice none 0 0, .int .i64 n]).run P w =
      .ok (.slice (some ⟨w.heap.size, 0, none⟩) n (grownCap w n 0 e)) (w.drew.alloc (.cells (Builtin.zeroCells z.cells n ++ Builtin.zeroCells z.cells (grownCap w n 0 e - n)) e)) := by
  have hn : n ≠ 0 := by omega
  have hn2 : n * i.size ≠ 0 := Nat.mul_ne_zero hn (by omega)
  have hw : IntKind.i64.wrap (n : Int) = (n : Int) := by simp [IntKind.wrap, IntKind.bits, IntKind.signed]; omega
  have h63' : ¬ (9223372036854775807 < (n : Int)) := by omega
  have hI : ¬ (281474976710656 < (n : Int) * (i.bytes : Int)) := by
    rw [← Int.natCast_mul]
    omega
  have hneg : ¬ ((n : Int) < 0) := by omega
  have h48' : ¬ (281474976710656 < Builtin.nextslicecap n 0 * i.bytes) := by rw [nextslicecap_zero h0]; omega
  simp [Builtin.append_, run_underlying ht, run_underlying hu, sizeOf, typeInfo, zeroValue, hi, hz, asInt, asIntOf, hw, hI, hneg, hn, hn2, h63', h48', Question.forced, run_firstCells_none, newRow, grownCap]
theorem app_zeros (W : World) (n : Nat) (h0 : 0 < n) (hn : n ≤ 1000000) :
    ∃ cap w', (Builtin.append_ #[22, 3] 22 #[.slice none 0 0, .int .i64 n]).run Tryz.prog W = .ok (.slice (some ⟨W.heap.size, 0, none⟩) n cap) w' ∧ n ≤ cap ∧ cap ≤ maxLen ∧ w'.ownsRow W.heap.size 41 34 (.slice (some ⟨W.heap.size, 0, none⟩) 0 cap) 0 [] ∧ Kept (fun _ => False) W w' := by
  obtain ⟨i0, hi, hz0, hz1, hz2⟩ := info_parts info47
  have hr := run_append_zeros (P := Tryz.prog) (w := W) 22 3 22 41 i0 _ Tryz.underlying22 Tryz.underlying3 hi hz0 n h0 (by omega) (by rw [hz2]; omega) (by rw [hz1]; decide)
  have hge := grownCap_ge W n 0 41
  have hcm : grownCap W n 0 41 ≤ maxLen := grownCap_le_maxLen W n 0 41 (by unfold maxLen; omega)
  refine ⟨_, _, hr, hge, hcm, ⟨rfl, .inr ⟨W.heap.size, _, _, rfl, Nat.le_refl _, heap_alloc_new W.drew _, Nat.zero_le _, hcm, ?_, by simp⟩⟩, (Kept.refl _ _).drew.alloc _⟩
  have hz : (Value.agg (entA ⟨#[]⟩ 0 [])).cells.size = 34 := entA_size _ _ _ (by decide)
  simp only [Array.size_append, size_zeroCells, hz, ← Nat.add_mul]
  congr 1
  omega

set_option maxHeartbeats 1000000 in
theorem grow_any (n : Nat) (w : World) (hn : n ≤ 1000000) :
    Calls Tryz.prog 76 #[.slice none 0 0, .int .i64 n] w fun e w' => RowOut w [] e w' := by
  by_cases h0 : n = 0
  · subst h0
    have HG : Hid (RowOut w [] (.returned (.slice none 0 0)) w) := ⟨_, rfl, World.ownsRow_nil _ _ _ _, Kept.refl _ _⟩
    go_enter Tryz.func76, Tryz.ntmps76
    go_wp2
    go_ret
    exact HG.out
  · obtain ⟨cap, w', hr, hcap, hmax, ho, hk⟩ := app_zeros w n (by omega) hn
    have hn0 : ¬ ((n : Int) < 0) := by omega
    have hn1 : (0 : Int) < (n : Int) := by omega
    have hw0 : IntKind.i64.wrap ((n : Int) - 0) = (n : Int) := by simp [IntKind.wrap, IntKind.bits, IntKind.signed]; omega
    have HG : Hid (RowOut w [] (.returned (.slice (some ⟨w.heap.size, 0, none⟩) 0 cap)) w') := ⟨_, rfl, ho, hk⟩
    have HR := hid_of hr
    clear hr ho hk h0
    go_enter Tryz.func76, Tryz.ntmps76
    go_wp2_with (refine wp_app2 rfl (.tmp 20) (.tmp 21) 22 3 ?_ _ _ rfl rfl (.slice (some ⟨w.heap.size, 0, none⟩) n cap) w' ?_ ?_; rfl; exact HR.out)
    go_ret
    exact HG.out
end Go.Proofs.YtcpkbajmilkhpabGreatDoor

namespace Go.Proofs.YtcpkbajmilkhpabGreatDoor
open Go.RowKit
set_option linter.unusedVariables false
set_option linter.unusedSimpArgs false
set_option maxRecDepth 100000

theorem ents_append (a b : List EV) : ents (a ++ b) = ents a ++ ents b := by simp [ents, List.flatMap_append]
theorem ents_one (l : List EV) : ∀ u ∈ ents l, u.oneCell' = true := fun u hu => by
  obtain ⟨y, _, h⟩ := List.mem_flatMap.1 hu
  exact EV.one y u h
theorem ents_len : ∀ l : List EV, (∀ y ∈ l, y.fr.length ≤ 32) → (ents l).length = l.length * 34
  | [], _ => rfl
  | y :: l, h => by
    show (y.cells ++ ents l).length = _
    rw [List.length_append, EV.clen y (h y (List.mem_cons_self ..)), ents_len l (fun z hz => h z (List.mem_cons_of_mem _ hz)), List.length_cons]
    omega

/-- A whole list is put behind one's own row. -/
theorem app_list (W : World) (v : Value) (base : Nat) (l zs : List EV) (ao : Option Addr) (c : Nat) (hz : ∀ y ∈ zs, y.fr.length ≤ 32) (hown : W.ownsRow base 41 34 v l.length (ents l)) (hb : base ≤ W.heap.size) (hr : RowE W (.slice ao zs.length c) zs) (hsz : l.length + zs.length ≤ 2000000) :
    ∃ v' w', (Builtin.append_ #[22, 22] 22 #[v, .slice ao zs.length c]).run Tryz.prog W = .ok v' w' ∧ w'.ownsRow base 41 34 v' (l ++ zs).length (ents (l ++ zs)) ∧ (∃ ao' cap, v' = .slice ao' (l ++ zs).length cap) ∧ Kept (fun k => v.ownBlock = some k) W w' := by
  obtain ⟨i0, hi, hz0, hz1, hz2⟩ := info_parts info47
  have shape : ∀ (u : Value) (W' : World), W'.ownsRow base 41 34 u (l ++ zs).length (ents (l ++ zs)) → ∃ ao' cap, u = .slice ao' (l ++ zs).length cap := fun u W' h => by
    rcases h.2 with ⟨e, h0⟩ | ⟨g, cap, _, e, _⟩
    · exact ⟨none, 0, by rw [e, h0]⟩
    · exact ⟨_, cap, e⟩
  cases ao with
  | none =>
    have hnil : zs = [] := by
      rcases hr with ⟨e, _⟩ | ⟨g, o, c2, e, _⟩
      · exact e
      · cases e
    subst hnil
    rw [List.append_nil]
    have hown' := hown
    refine ⟨v, W, ?_, hown, ?_, Kept.refl _ _⟩
    · rcases hown.2 with ⟨rfl, _⟩ | ⟨g, cap, cur, rfl, _, hg, hnc, _⟩
      · simp [Builtin.append_, run_underlying Tryz.underlying22, sizeOf, typeInfo, hi, Builtin.lenOf, Builtin.firstCells, loadCells, loadCellsFrom]
      · simp [Builtin.append_, run_underlying Tryz.underlying22, sizeOf, typeInfo, hi, Builtin.lenOf, Builtin.firstCells, loadCells, loadCellsFrom, hnc, storeCells]
    · rw [List.append_nil] at shape
      exact shape v W hown
  | some a =>
    have hcs : ∀ j u, (ents zs)[j]? = some u → W.cell? (a.add j) = some u := fun j u hj => by
      rcases hr with ⟨e, _⟩ | ⟨g, o, c2, e, hc⟩
      · subst e; cases hj
      · cases e
        have hjl : j < zs.length * 34 := by rw [← ents_len zs hz]; exact (List.getElem?_eq_some_iff.1 hj).1
        have hd : j / 34 < zs.length := by omega
        obtain ⟨y, hy⟩ : ∃ y, zs[j / 34]? = some y := ⟨_, List.getElem?_eq_getElem hd⟩
        have hm : j % 34 < 34 := Nat.mod_lt _ (by decide)
        have h1 := ents_at zs hz (j / 34) y hy (j % 34) hm
        rw [show j / 34 * 34 + j % 34 = j by omega, hj] at h1
        have := hc (j / 34) y hy (j % 34) u h1.symm
        rw [Addr.add_mid, show o + j = o + j / 34 * 34 + j % 34 by omega]
        exact this
    obtain ⟨v', w', hrun, h2, h3, _⟩ := run_append_own (P := Tryz.prog) W base 22 22 41 i0 _ 34 56 Tryz.underlying22 hi hz0 hz1 hz2 rfl (by decide) v l.length (ents l) hown a zs.length c (ents zs) (ents_len zs hz) hcs (ents_one zs) (by unfold maxLen; omega) (by omega) hb
    rw [← ents_append] at h2
    have h2' : w'.ownsRow base 41 34 v' (l ++ zs).length (ents (l ++ zs)) := by rw [List.length_append]; exact h2
    exact ⟨v', w', hrun, h2', shape v' w' h2', (Kept.refl (fun k => v.ownBlock = some k) W).grown h3 (fun k hk => .inr hk)⟩
end Go.Proofs.YtcpkbajmilkhpabGreatDoor

namespace Go.Proofs.YtcpkbajmilkhpabGreatDoor
open Go.RowKit
set_option linter.unusedVariables false
set_option linter.unusedSimpArgs false
set_option maxRecDepth 100000

/-- A slice of entries, and what it holds. -/
structure LV where
  ao : Option Addr
  c : Nat
  zs : List EV
def LV.v (p : LV) : Value := .slice p.ao p.zs.length p.c
/-- Lists behind one another. -/
def flatE (ls : List LV) : List EV := ls.flatMap LV.zs
theorem flatE_take (ls : List LV) (i : Nat) (p : LV) (h : ls[i]? = some p) : flatE (ls.take (i + 1)) = flatE (ls.take i) ++ p.zs := by
  unfold flatE
  rw [List.take_add_one, h, List.flatMap_append]
  simp
theorem flatE_le (ls : List LV) (i : Nat) : (flatE (ls.take i)).length ≤ (flatE ls).length := by
  have : flatE ls = flatE (ls.take i) ++ flatE (ls.drop i) := by
    unfold flatE
    rw [← List.flatMap_append, List.take_append_drop]
  rw [this, List.length_append]
  omega
/-- The lists that are handed over lie there. -/
structure Handed (w : World) (L : Nat) (ls : List LV) : Prop where
  cell : ∀ i p, ls[i]? = some p → w.cell? ⟨L, i, none⟩ = some p.v
  rows : ∀ p ∈ ls, RowE w p.v p.zs
  fr : ∀ p ∈ ls, ∀ y ∈ p.zs, y.fr.length ≤ 32
theorem Handed.kept {w w' : World} {L : Nat} {ls : List LV} (h : Handed w L ls) (hk : Kept (fun _ => False) w w') : Handed w' L ls :=
  ⟨fun i p hp => hk.cell (h.cell i p hp) (fun f => f), fun p hp => (h.rows p hp).kept hk (fun _ _ f => f), h.fr⟩

set_option maxHeartbeats 4000000 in
theorem concat_any (L k : Nat) (ls : List LV) (w : World) (hk0 : ls.length = k) (hk3 : k ≤ 1000) (h : Handed w L ls) (ht : (flatE ls).length ≤ 1000000) :
    Calls Tryz.prog 55 #[.slice (some ⟨L, 0, none⟩) k k] w fun e w' => RowOut w (flatE ls) e w' := by
  have HK0 := hid_of hk0
  have HH := hid_of h
  have HT := hid_of ht
  clear hk0 h ht
  go_enter Tryz.func55, Tryz.ntmps55
  go_wp2
  go_loopw [3, 11] (fun sv iv wr => ∃ i s : Nat, i ≤ k ∧ iv = .int .i64 i ∧ sv = .int .i64 s ∧ s = (flatE (ls.take i)).length ∧ wr = w) (fun _ iv _ => k - (intOf iv).toNat)
  case atStart => exact ⟨0, 0, Nat.zero_le _, rfl, rfl, rfl, rfl⟩
  case round =>
    obtain ⟨i, s, hi, rfl, rfl, hs, hw⟩ := hrel
    have hw' := hw.symm
    subst hw'
    by_cases hlt : i < k
    · have hltI : (i : Int) < (k : Int) := by omega
      have hi0 : (0 : Int) ≤ (i : Int) := by omega
      obtain ⟨p, hp⟩ : ∃ p, ls[i]? = some p := ⟨_, List.getElem?_eq_getElem (by rw [HK0.out]; exact hlt)⟩
      have x0 := HH.out.cell i p hp
      have hft := flatE_take ls i p hp
      have hle := flatE_le ls (i + 1)
      have htt := HT.out
      rw [hft, List.length_append] at hle
      unfold LV.v at x0
      obtain ⟨m, hm⟩ : ∃ m, m = p.zs.length := ⟨_, rfl⟩
      rw [← hm] at x0 hle
      have HS : Hid (s + m = (flatE (ls.take (i + 1))).length) := by unfold Hid; rw [hft, List.length_append, hs, hm]
      have hsm : s + m ≤ 1000000 := by omega
      have hwr : IntKind.i64.wrap ((s : Int) + (m : Int)) = ((s + m : Nat) : Int) := by simp [IntKind.wrap, IntKind.bits, IntKind.signed]; omega
      have hnn : ¬ (((s + m : Nat) : Int) < 0) := by omega
      clear hs hm hft hle htt hp
      go_wp2
      go_roundw
      case rel => exact ⟨i + 1, s + m, by omega, by go_num, by go_num, HS.out, trivial⟩
      case measure => simp [intOf]; omega
    · have hnl : ¬ ((i : Int) < (k : Int)) := by omega
      have hie : i = k := by omega
      subst hie
      rw [List.take_of_length_le (by rw [HK0.out]; exact Nat.le_refl _)] at hs
      have hst : s ≤ 1000000 := by rw [hs]; exact HT.out
      have HGR := hid_of (grow_any s w hst)
      clear hs
      go_upto_region 9 with fail
      go_wp2_with fail
      refine HGR.out.mono ?_
      rintro e w1 ⟨u, rfl, ho1, hk1⟩
      obtain ⟨ao1, c1, hu⟩ : ∃ ao1 c1, u = .slice ao1 0 c1 := by
        rcases ho1.2 with ⟨e, _⟩ | ⟨g, cap, _, e, _⟩
        · exact ⟨none, 0, e⟩
        · exact ⟨_, cap, e⟩
      subst hu
      have HO1 := hid_of ho1
      have HK1 := hid_of hk1
      clear ho1 hk1 HGR
      go_wp2
      go_loopw [6, 27] (fun ov jv wr => ∃ (j m : Nat) (ao' : Option Addr) (cp : Nat), j ≤ i ∧ jv = .int .i64 j ∧ ov = .slice ao' m cp ∧ m = (flatE (ls.take j)).length ∧ wr.ownsRow w.heap.size 41 34 (.slice ao' m cp) m (ents (flatE (ls.take j))) ∧ Kept (fun _ => False) w wr) (fun _ jv _ => i - (intOf jv).toNat)
      case atStart => exact ⟨0, 0, ao1, c1, Nat.zero_le _, rfl, rfl, rfl, HO1.out, HK1.out⟩
      case round =>
        obtain ⟨j, m, ao', cp, hj, rfl, rfl, hm, ho, hk⟩ := hrel
        by_cases hlt2 : j < i
        · have hltI : (j : Int) < (i : Int) := by omega
          have hj0 : (0 : Int) ≤ (j : Int) := by omega
          obtain ⟨p, hp⟩ : ∃ p, ls[j]? = some p := ⟨_, List.getElem?_eq_getElem (by rw [HK0.out]; exact hlt2)⟩
          have hmem := List.mem_of_getElem? hp
          have hH := HH.out.kept hk
          have x0 := hH.cell j p hp
          have hrow := hH.rows p hmem
          have hfr := hH.fr p hmem
          have hft := flatE_take ls j p hp
          have hle := flatE_le ls (j + 1)
          have htt := HT.out
          rw [hft, List.length_append] at hle
          unfold LV.v at x0 hrow
          rw [hm] at ho
          obtain ⟨v5, w5, hr5, ho5, ⟨ao5, c5, hv5⟩, hk5⟩ := app_list wr _ w.heap.size (flatE (ls.take j)) p.zs p.ao p.c hfr ho hk.size hrow (by omega)
          rw [← hm] at hr5
          rw [← hft] at ho5 hv5
          have hown := ho.lt
          obtain ⟨m5, hm5⟩ : ∃ m5, m5 = (flatE (ls.take (j + 1))).length := ⟨_, rfl⟩
          rw [← hm5] at ho5 hv5
          subst hv5
          obtain ⟨q, hq⟩ : ∃ q, q = p.zs.length := ⟨_, rfl⟩
          rw [← hq] at hr5 x0
          have HR5 := hid_of hr5
          have HREL : Hid (m5 = (flatE (ls.take (j + 1))).length ∧ w5.ownsRow w.heap.size 41 34 (.slice ao5 m5 c5) m5 (ents (flatE (ls.take (j + 1)))) ∧ Kept (fun _ => False) w w5) := ⟨hm5, ho5, hk.step hk5 (fun q hq e => by have := (hown q e).1; omega)⟩
          clear hH hrow hfr hft hle htt hm ho hk hr5 ho5 hk5 hown hm5 hq hp hmem
          go_upto_region 14 with (refine wp_app2 rfl (.tmp 31) (.tmp 32) 22 22 ?_ _ _ rfl rfl (.slice ao5 m5 c5) w5 ?_ ?_; rfl; exact HR5.out)
          go_wp2
          go_roundw
          case rel => exact ⟨j + 1, m5, ao5, c5, by omega, by go_num, rfl, HREL.out⟩
          case measure => simp [intOf]; omega
        · have hnl2 : ¬ ((j : Int) < (i : Int)) := by omega
          have hje : j = i := by omega
          subst hje
          rw [List.take_of_length_le (by rw [HK0.out]; exact Nat.le_refl _)] at hm ho
          have HG : Hid (RowOut w (flatE ls) (.returned (.slice ao' m cp)) wr) := ⟨_, rfl, by rw [← hm]; exact ho, hk⟩
          clear hm ho hk
          go_wp2
          go_ret
          exact HG.out
end Go.Proofs.YtcpkbajmilkhpabGreatDoor

namespace Go.Proofs.YtcpkbajmilkhpabGreatDoor
open Go.RowKit
set_option linter.unusedVariables false
set_option linter.unusedSimpArgs false
set_option maxRecDepth 100000

theorem setCell_self (w : World) (g o : Nat) (v : Value) (h : w.cell? ⟨g, o, none⟩ = some v) : w.setCell ⟨g, o, none⟩ v = w := by
  have key : ∀ H, H = w.heap → { w with heap := H } = w := fun H e => by subst e; rfl
  refine key _ ?_
  unfold World.cell? at h
  apply Array.ext_getElem?
  intro k
  rw [Array.getElem?_modify]
  by_cases hk : g = k
  · rw [if_pos hk]
    subst hk
    cases hg : w.heap[g]? with
    | none => simp [hg] at h
    | some ob =>
      cases ob <;> simp [hg] at h
      rename_i cs t fr
      have hcs : cs.setIfInBounds o v = cs := by
        apply Array.ext_getElem?
        intro j
        rw [Array.getElem?_setIfInBounds]
        by_cases hj : o = j
        · subst hj
          rw [if_pos rfl, h]
          split
          · rfl
          · rename_i hn
            rw [Array.getElem?_eq_none (by omega)] at h
            cases h
        · rw [if_neg hj]
      simp [hcs]
  · rw [if_neg hk]
theorem setCells_self (g : Nat) : ∀ (vs : List Value) (o : Nat) (w : World), w.rangeAt g o vs → w.setCells g o vs = w
  | [], _, _, _ => rfl
  | v :: r, o, w, h => by
    have h0 : w.cell? ⟨g, o, none⟩ = some v := h 0 v rfl
    rw [World.setCells, setCell_self w g o v h0]
    exact setCells_self g r (o + 1) w (fun j u hj => by have := h (j + 1) u (by simpa using hj); rwa [show o + (j + 1) = o + 1 + j by omega] at this)

set_option maxHeartbeats 4000000 in
theorem join_any (L k : Nat) (ls : List LV) (w : World) (hk0 : ls.length = k) (hk3 : k ≤ 1000) (h : Handed w L ls) (ht : (flatE ls).length ≤ 1000000) (hs : ∀ p ∈ ls, ∀ y ∈ p.zs, (str y.nm).size ≤ 281474976710656) :
    Calls Tryz.prog 33 #[.slice (some ⟨L, 0, none⟩) k k] w fun e w' => RowOut w (flatE ls) e w' := by
  have HC := hid_of (concat_any L k ls w hk0 hk3 h ht)
  obtain ⟨zs, hzs⟩ : ∃ zs, zs = flatE ls := ⟨_, rfl⟩
  have HY : Hid (∀ y ∈ zs, y.fr.length ≤ 32 ∧ (str y.nm).size ≤ 281474976710656) := fun y hy => by
    rw [hzs] at hy
    obtain ⟨p, hp, hy⟩ := List.mem_flatMap.1 hy
    exact ⟨h.fr p hp y hy, hs p hp y hy⟩
  rw [← hzs] at HC ht ⊢
  clear h hs hzs hk0
  go_enter Tryz.func33, Tryz.ntmps33
  go_wp2_with fail
  refine HC.out.mono ?_
  rintro e w1 ⟨u, rfl, ho1, hk1⟩
  obtain ⟨n, hN⟩ : ∃ n, n = zs.length := ⟨_, rfl⟩
  obtain ⟨ao, c, hu⟩ : ∃ ao c, u = .slice ao n c := by
    rcases ho1.2 with ⟨e, h0⟩ | ⟨g, cap, _, e, _⟩
    · exact ⟨none, 0, by rw [e, hN, h0]⟩
    · exact ⟨_, cap, by rw [e, hN]⟩
  subst hu
  rw [← hN] at ht ho1
  have HN := hid_of hN
  have HO1 := hid_of ho1
  have HK1 := hid_of hk1
  clear ho1 hk1 HC hN
  go_wp2
  go_loopw [10] (fun iv wr => ∃ i : Nat, i ≤ n ∧ iv = .int .i64 i ∧ wr.ownsRow w.heap.size 41 34 (.slice ao n c) n (ents zs) ∧ Kept (fun _ => False) w wr) (fun iv _ => n - (intOf iv).toNat)
  case atStart => exact ⟨0, Nat.zero_le _, rfl, HO1.out, HK1.out⟩
  case round =>
    obtain ⟨i, hi, rfl, ho, hk⟩ := hrel
    by_cases hlt : i < n
    · have hltI : (i : Int) < (n : Int) := by omega
      have hi0 : (0 : Int) ≤ (i : Int) := by omega
      obtain ⟨y, hyi⟩ : ∃ y, zs[i]? = some y := ⟨_, List.getElem?_eq_getElem (by rw [← HN.out]; exact hlt)⟩
      obtain ⟨hy32, hys⟩ := HY.out y (List.mem_of_getElem? hyi)
      have hyl := EV.clen y hy32
      have hown := ho.lt
      obtain ⟨g, cur, e1, hg, hgb, hcn, hcs⟩ : ∃ g cur, ao = some ⟨g, 0, none⟩ ∧ wr.heap[g]? = some (.cells cur 41 (0, 0)) ∧ w.heap.size ≤ g ∧ n ≤ c ∧ cur.size = c * 34 := by
        rcases ho.2 with ⟨e, h0⟩ | ⟨g, cap, cur, e, hb, hg, hnc, _, hcs, _⟩
        · omega
        · cases e; exact ⟨g, cur, rfl, hg, hb, hnc, hcs⟩
      subst e1
      have hro : RowE wr (.slice (some ⟨g, 0, none⟩) zs.length c) zs := rowE_own (base := w.heap.size) (by rw [← HN.out]; exact ho) (fun y hy => (HY.out y hy).1)
      have r1 : wr.rangeAt g (0 + i * 34) y.cells := by
        rcases hro with ⟨e, _⟩ | ⟨g', o', c', e, hc⟩
        · rw [e] at hyi; simp at hyi
        · cases e; exact hc i y hyi
      have hsz : (Tryz.prog.info? 41).map (·.size) = some y.cells.length := by rw [size47, hyl]
      have hs34 : (Tryz.prog.info? 41).map (·.size) = some y.cells.toArray.size := by rw [size47, List.size_toArray, hyl]
      have ho34 : (entA ⟨#[]⟩ 0 []).size = y.cells.toArray.size := by rw [entA_size _ _ _ (by decide), List.size_toArray, hyl]
      have h1c : y.cells.toArray.all (·.oneCell') = true := entA_cells (str y.nm) y.k y.fr
      have hO := heap_alloc_new wr (.cells (entA ⟨#[]⟩ 0 []) 41)
      have hkO : Kept (fun _ => False) wr (wr.alloc (.cells (entA ⟨#[]⟩ 0 []) 41)) := (Kept.refl _ _).alloc _
      have hw : wr.alloc (.cells (entA ⟨#[]⟩ 0 []) 41) = wr.alloc (.cells _ 41) := congrArg (fun c => wr.alloc (.cells c 41)) (entA_new ⟨#[]⟩ 0)
      rw [hw] at hO hkO
      clear hw
      have HK := hid_of hk
      have HOW := hid_of ho
      have HG := hid_of hg
      have HA := hid_of (fun W => apart_any y W hys hy32)
      have HRNG := hid_of r1
      clear hk ho hown hro r1 hg hys hyi
      go_upto_region 5 with (first | refine wpList_load_mid rfl 41 _ rfl g (0 + i * 34) (by go_simp) y.cells _ HRNG.out Tryz.underlying41 rfl hsz ?_ | refine wpList_store_row rfl 41 _ _ rfl wr.heap.size y.cells.toArray rfl rfl 41 _ hO hs34 ho34 h1c ?_)
      have hO' : (wr.alloc (.cells _ 41)).heap[wr.heap.size]? = some (.cells (entA ⟨#[]⟩ 0 []) 41 (0, 0)) := hO
      generalize wr.alloc (.cells _ 41) = wO at *
      have hX := setRow_heap wO wr.heap.size _ y.cells.toArray 41 (0, 0) hO'
      have hk2 : Kept (fun _ => False) wr (wO.setRow wr.heap.size y.cells.toArray) := hkO.step (kept_row wO wr.heap.size _) (fun i hi e => by omega)
      clear hO hO' hkO ho34
      generalize wO.setRow wr.heap.size y.cells.toArray = w2 at *
      go_wp2_with (refine wpList_load_row rfl 41 _ rfl wr.heap.size rfl 41 y.cells.toArray (0, 0) _ hX Tryz.underlying41 rfl hs34 ?_)
      refine (HA.out _).mono ?_
      rintro e w3 ⟨rfl, hk3'⟩
      have hk13 := hk2.trans hk3'
      have hg3 := (hk13.block g (Array.getElem?_eq_some_iff.1 HG.out).1 (fun f => f)).trans HG.out
      have hr3 : w3.rangeAt g (0 + i * 34) y.cells := fun j u hj => hk13.cell (HRNG.out j u hj) (fun f => f)
      rw [Nat.zero_add] at hr3
      have hth : w3.there g (i * 34) y.cells.toArray.size := fun j hj => by
        rw [List.size_toArray] at hj
        exact ⟨by rw [hr3 j _ (List.getElem?_eq_getElem hj)]; rfl, frozen_block _ _ _ _ _ hg3⟩
      have HW3 : Hid (w3.setCells g (i * 34) y.cells.toArray.toList = w3) := setCells_self g _ _ w3 hr3
      have HK3 := hid_of (HK.out.trans hk13)
      have HO3 := hid_of (hk13.ownsRow HOW.out (fun _ _ f => f))
      clear hk2 hk3' hk13 hg3 hr3 hX HA HG HRNG HOW HK
      go_wp2_with (refine wpList_store_mid rfl 41 _ _ rfl g (i * 34) y.cells.toArray rfl rfl hth hs34 h1c ?_)
      rw [HW3.out]
      go_wp2
      go_roundw
      case rel => exact ⟨i + 1, by omega, by go_num, HO3.out, HK3.out⟩
      case measure => simp [intOf]; omega
    · have hnl : ¬ ((i : Int) < (n : Int)) := by omega
      have HG : Hid (RowOut w zs (.returned (.slice ao n c)) wr) := ⟨_, rfl, by rw [← HN.out]; exact ho, hk⟩
      clear ho hk
      go_wp2
      go_ret
      exact HG.out
end Go.Proofs.YtcpkbajmilkhpabGreatDoor

namespace Go.Proofs.YtcpkbajmilkhpabGreatDoor
open Go.RowKit
set_option linter.unusedVariables false
set_option linter.unusedSimpArgs false
set_option maxRecDepth 100000

theorem handed_one {w : World} {v : LV} (h : RowE w v.v v.zs) (hf : ∀ y ∈ v.zs, y.fr.length ≤ 32) : Handed (w.alloc (.cells #[v.v] 22)) w.heap.size [v] := by
  have hk : Kept (fun _ => False) w (w.alloc (.cells #[v.v] 22)) := (Kept.refl _ _).alloc _
  have hb := heap_alloc_new w (.cells #[v.v] 22)
  refine ⟨fun i p hp => ?_, fun p hp => ?_, fun p hp => ?_⟩
  · obtain ⟨hl, he⟩ := List.getElem?_eq_some_iff.1 hp
    have hi : i = 0 := by simpa using hl
    subst hi
    simp at he
    subst he
    rw [cell_block _ _ _ _ _ _ hb]
    rfl
  · rw [List.mem_singleton] at hp
    subst hp
    exact h.kept hk (fun _ _ f => f)
  · rw [List.mem_singleton] at hp
    subst hp
    exact hf
theorem rowE_front {w : World} {ao : Option Addr} {c : Nat} {A B : List EV} (h : RowE w (.slice ao (A ++ B).length c) (A ++ B)) : RowE w (.slice ao A.length c) A := by
  rcases h with ⟨e, _⟩ | ⟨g, o, c2, e, hc⟩
  · have hA := (List.append_eq_nil_iff.1 e).1
    exact .inl ⟨hA, ao, c, by rw [hA]; rfl⟩
  · cases e
    refine .inr ⟨g, o, c, rfl, fun i y hy => hc i y ?_⟩
    rw [List.getElem?_append_left (List.getElem?_eq_some_iff.1 hy).1]
    exact hy
theorem rowE_back {w : World} {g o c c' : Nat} {A B : List EV} (h : RowE w (.slice (some ⟨g, o, none⟩) (A ++ B).length c) (A ++ B)) : RowE w (.slice (some ⟨g, o + A.length * 34, none⟩) B.length c') B := by
  rcases h with ⟨e, _⟩ | ⟨g', o', c2, e, hc⟩
  · have hB := (List.append_eq_nil_iff.1 e).2
    exact .inl ⟨hB, _, c', by rw [hB]; rfl⟩
  · cases e
    refine .inr ⟨g, _, c', rfl, fun i y hy => ?_⟩
    have := hc (A.length + i) y (by rw [List.getElem?_append_right (by omega), Nat.add_sub_cancel_left]; exact hy)
    rwa [show o + (A.length + i) * 34 = o + A.length * 34 + i * 34 by omega] at this
theorem RowOut.from {w w2 w' : World} {zs : List EV} {e : Ending} (h : RowOut w2 zs e w') (hk : Kept (fun _ => False) w w2) : RowOut w zs e w' := by
  obtain ⟨u, he, ho, hk'⟩ := h
  refine ⟨u, he, ⟨ho.1, ?_⟩, hk.trans hk'⟩
  rcases ho.2 with h | ⟨g, cap, cur, e, hb, r⟩
  · exact .inl h
  · exact .inr ⟨g, cap, cur, e, by have := hk.size; omega, r⟩
theorem handed_two {w : World} {u v : LV} (hu : RowE w u.v u.zs) (hv : RowE w v.v v.zs) (hfu : ∀ y ∈ u.zs, y.fr.length ≤ 32) (hfv : ∀ y ∈ v.zs, y.fr.length ≤ 32) : Handed (w.alloc (.cells #[u.v, v.v] 22)) w.heap.size [u, v] := by
  have hk : Kept (fun _ => False) w (w.alloc (.cells #[u.v, v.v] 22)) := (Kept.refl _ _).alloc _
  have hb := heap_alloc_new w (.cells #[u.v, v.v] 22)
  refine ⟨fun i p hp => ?_, fun p hp => ?_, fun p hp => ?_⟩
  · rw [cell_block _ _ _ _ _ _ hb]
    match i, hp with
    | 0, hp => simp at hp; subst hp; rfl
    | 1, hp => simp at hp; subst hp; rfl
    | j + 2, hp => simp at hp
  · rcases List.mem_cons.1 hp with rfl | hp
    · exact hu.kept hk (fun _ _ f => f)
    · rw [List.mem_singleton] at hp
      subst hp
      exact hv.kept hk (fun _ _ f => f)
  · rcases List.mem_cons.1 hp with rfl | hp
    · exact hfu
    · rw [List.mem_singleton] at hp
      subst hp
      exact hfv

set_option maxHeartbeats 4000000 in
theorem without_any (ao : Option Addr) (c : Nat) (ys : List EV) (s : List Int) (w : World) (hv : RowE w (.slice ao ys.length c) ys) (hy : ∀ y ∈ ys, y.fr.length ≤ 32) (hs : ∀ y ∈ ys, (str y.nm).size ≤ 281474976710656) (hn : ys.length ≤ 1000000) (hu : Up ys) (hc : ys.length ≤ c) (hcm : c ≤ 9223372036854775807) :
    Calls Tryz.prog 10 #[.slice ao ys.length c, .string (str s)] w fun e w' => RowOut w (withoutL ys s) e w' := by
  have HP := hid_of (place_any ao c ys s w hv hy hn (up_rising hu s))
  obtain ⟨n, hN⟩ : ∃ n, n = ys.length := ⟨_, rfl⟩
  have HN := hid_of hN
  have HV := hid_of hv
  have HY := hid_of hy
  have HS := hid_of hs
  have HU := hid_of hu
  rw [← hN] at hn HP hc ⊢
  clear hv hy hN hs hu
  go_enter Tryz.func10, Tryz.ntmps10
  go_wp2_with fail
  refine HP.out.mono ?_
  rintro e w1 ⟨⟨i, f, rfl, hf⟩, hk1⟩
  obtain ⟨A, M, B, hcut⟩ := found_cut hf HU.out
  have HK1 := hid_of hk1
  have HCUT := hid_of hcut
  clear hf hk1 HP hcut
  cases f
  · have hw0 : withoutL ys s = ys := by
      rcases HCUT.out.mid with ⟨e, _⟩ | ⟨_, rfl⟩
      · cases e
      · rw [HCUT.out.without, HCUT.out.whole, List.append_nil]
    have HW0 := hid_of hw0
    have hv1 : RowE w1 (LV.v ⟨ao, c, ys⟩) ys := HV.out.kept HK1.out (fun _ _ f => f)
    have hj := join_any w1.heap.size 1 [⟨ao, c, ys⟩] _ rfl (by decide) (handed_one hv1 HY.out) (by simpa [flatE, ← HN.out] using hn) (fun p hp => by rw [List.mem_singleton] at hp; subst hp; exact HS.out)
    have hfl : flatE [⟨ao, c, ys⟩] = ys := by simp [flatE]
    rw [hfl] at hj
    unfold LV.v at hj
    dsimp only at hj
    rw [← HN.out] at hj
    have HJ := hid_of hj
    have HKA : Hid (Kept (fun _ => False) w1 (w1.alloc (.cells #[.slice ao n c] 22))) := (Kept.refl _ _).alloc _
    clear hw0 hv1 hj hfl
    go_upto_region 3 with fail
    go_wp2_with fail
    refine HJ.out.mono ?_
    rintro e w2 hro
    have hro2 := (hro.from HKA.out).from HK1.out
    rw [← HW0.out] at hro2
    obtain ⟨u, he, hr⟩ := hro2
    subst he
    have HRO : Hid (RowOut w (withoutL ys s) (.returned u) w2) := ⟨u, rfl, hr⟩
    clear hro hr HJ
    go_wp2
    go_ret
    exact HRO.out
  · obtain ⟨y, hM⟩ : ∃ y, M = [y] := by
      rcases HCUT.out.mid with ⟨_, y, e, _⟩ | ⟨e, _⟩
      · exact ⟨y, e⟩
      · cases e
    subst hM
    have hwh := HCUT.out.whole
    have hA := HCUT.out.len
    have hw0 := HCUT.out.without
    have hv1 := HV.out.kept HK1.out (fun _ _ f => f)
    have hnl : n = i + 1 + B.length := by rw [HN.out, hwh, List.length_append, List.length_append, hA]; rfl
    obtain ⟨g, o, e1⟩ : ∃ g o, ao = some ⟨g, o, none⟩ := by
      rcases HV.out with ⟨e, _⟩ | ⟨g, o, c2, e, _⟩
      · rw [hwh] at e; simp at e
      · cases e; exact ⟨g, o, rfl⟩
    subst e1
    have hi1 : (0 : Int) ≤ (i : Int) := by omega
    have hi2 : (i : Int) ≤ (c : Int) := by omega
    have hi3 : (i : Int) + 1 ≤ (n : Int) := by omega
    have hi4 : (n : Int) ≤ (c : Int) := by omega
    have hwr : IntKind.i64.wrap ((i : Int) + 1) = (i : Int) + 1 := by simp [IntKind.wrap, IntKind.bits, IntKind.signed]; omega
    have HD : Hid (Kept (fun _ => False) w1 w1.drew) := (Kept.refl _ _).drew
    have hi5 : (0 : Int) ≤ (i : Int) + 1 := by omega
    obtain ⟨X, hX⟩ : ∃ X, X = (if c = i + 1 then some (⟨g, o, none⟩ : Addr) else some ⟨g, o + (i + 1) * 34, none⟩) := ⟨_, rfl⟩
    have hrf : RowE w1.drew (LV.v ⟨some ⟨g, o, none⟩, c, A⟩) A := by
      have h2 : RowE w1.drew (.slice (some ⟨g, o, none⟩) (A ++ ([y] ++ B)).length c) (A ++ ([y] ++ B)) := by rw [← List.append_assoc, ← hwh]; exact hv1.kept HD.out (fun _ _ f => f)
      exact rowE_front h2
    have hrb : RowE w1.drew (LV.v ⟨X, c - (i + 1), B⟩) B := by
      have h2 : RowE w1.drew (.slice (some ⟨g, o, none⟩) ((A ++ [y]) ++ B).length c) ((A ++ [y]) ++ B) := by rw [← hwh]; exact hv1.kept HD.out (fun _ _ f => f)
      unfold LV.v
      dsimp only
      rw [hX]
      by_cases hci : c = i + 1
      · have hB : B = [] := List.length_eq_zero_iff.1 (by omega)
        exact .inl ⟨hB, _, _, by rw [hB]; rfl⟩
      · rw [if_neg hci]
        have h3 := rowE_back (c' := c - (i + 1)) h2
        rwa [List.length_append, hA, List.length_singleton] at h3
    have hsub : ∀ z, z ∈ A ∨ z ∈ B → z ∈ ys := fun z hz => by rw [hwh]; rcases hz with h | h <;> simp [h]
    have hj := join_any w1.drew.heap.size 2 [⟨some ⟨g, o, none⟩, c, A⟩, ⟨X, c - (i + 1), B⟩] _ rfl (by decide) (handed_two hrf hrb (fun z hz => HY.out z (hsub z (.inl hz))) (fun z hz => HY.out z (hsub z (.inr hz)))) (by simp [flatE]; omega) (fun p hp z hz => by
      rcases List.mem_cons.1 hp with rfl | hp
      · exact HS.out z (hsub z (.inl hz))
      · rw [List.mem_singleton] at hp
        subst hp
        exact HS.out z (hsub z (.inr hz)))
    rw [show flatE [⟨some ⟨g, o, none⟩, c, A⟩, ⟨X, c - (i + 1), B⟩] = withoutL ys s from by rw [hw0]; simp [flatE]] at hj
    unfold LV.v at hj
    dsimp only at hj
    rw [hA, show B.length = n - (i + 1) by omega] at hj
    have HJ := hid_of hj
    have HX := hid_of hX
    clear hnl hwh hA hw0 hv1 hrf hrb hsub hj hX
    go_upto_region 4 with fail
    refine wp_region_held_drew (S := fun w' => Kept (fun _ => False) w1 w') (by kernel_rfl) HD.out (fun hHeld => ?_)
    refine wpAnyH_take (i := 0) (v := ?_) rfl (by kernel_rfl) (by kernel_rfl) (by kernel_rfl) (fun _ _ _ h => h) (Or.inl ⟨by rfl, ?_⟩) (by assumption) ?_
    rotate_left 1
    · intro w hSw
      go_simp
      try with_reducible rfl
    try simp only [Act.put, List.getElem_toArray, List.getElem_cons_zero, List.getElem_cons_succ, List.setIfInBounds_toArray, List.set_cons_zero, List.set_cons_succ]
    refine wpAnyH_take (i := 1) (v := ?_) rfl (by kernel_rfl) (by kernel_rfl) (by kernel_rfl) (fun _ _ _ h => h) (Or.inl ⟨by rfl, ?_⟩) (by assumption) ?_
    rotate_left 1
    · intro w hSw
      go_simp
      try with_reducible rfl
    try simp only [Act.put, List.getElem_toArray, List.getElem_cons_zero, List.getElem_cons_succ, List.setIfInBounds_toArray, List.set_cons_zero, List.set_cons_succ]
    refine wpAnyH_take (i := 2) (v := ?_) rfl (by kernel_rfl) (by kernel_rfl) (by kernel_rfl) (fun _ _ _ h => h) (Or.inl ⟨by rfl, ?_⟩) (by assumption) ?_
    rotate_left 1
    · intro w hSw
      go_simp
      try with_reducible rfl
    try simp only [Act.put, List.getElem_toArray, List.getElem_cons_zero, List.getElem_cons_succ, List.setIfInBounds_toArray, List.set_cons_zero, List.set_cons_succ]
    refine wpAnyH_take (i := 3) (v := ?_) rfl (by kernel_rfl) (by kernel_rfl) (by kernel_rfl) (fun _ _ _ h => h) (Or.inl ⟨by rfl, ?_⟩) (by assumption) ?_
    rotate_left 1
    · intro w hSw
      go_simp
      try with_reducible rfl
    try simp only [Act.put, List.getElem_toArray, List.getElem_cons_zero, List.getElem_cons_succ, List.setIfInBounds_toArray, List.set_cons_zero, List.set_cons_succ]
    refine wpAnyH_take (i := 4) (v := ?_) rfl (by kernel_rfl) (by kernel_rfl) (by kernel_rfl) (fun _ _ _ h => h) (Or.inl ⟨by rfl, ?_⟩) (by assumption) ?_
    rotate_left 1
    · intro w hSw
      go_simp
      try with_reducible rfl
    try simp only [Act.put, List.getElem_toArray, List.getElem_cons_zero, List.getElem_cons_succ, List.setIfInBounds_toArray, List.set_cons_zero, List.set_cons_succ]
    refine wpAnyH_take (i := 5) (v := ?_) rfl (by kernel_rfl) (by kernel_rfl) (by kernel_rfl) (fun _ _ _ h => h) (Or.inl ⟨by rfl, ?_⟩) (by assumption) ?_
    rotate_left 1
    · intro w hSw
      go_simp
      try with_reducible rfl
    try simp only [Act.put, List.getElem_toArray, List.getElem_cons_zero, List.getElem_cons_succ, List.setIfInBounds_toArray, List.set_cons_zero, List.set_cons_succ]
    refine wpAnyH_take (i := 6) (v := ?_) rfl (by kernel_rfl) (by kernel_rfl) (by kernel_rfl) (fun _ _ _ h => h) (Or.inl ⟨by rfl, ?_⟩) (by assumption) ?_
    rotate_left 1
    · intro w hSw
      go_simp
      try with_reducible rfl
    try simp only [Act.put, List.getElem_toArray, List.getElem_cons_zero, List.getElem_cons_succ, List.setIfInBounds_toArray, List.set_cons_zero, List.set_cons_succ]
    rw [← HX.out]
    refine wpAnyH_ready (rs := [7]) (by kernel_rfl) (by simp) ?_
    refine AllReadyH.cons rfl (fun K hK => ?_) AllReadyH.nil
    go_simp
    have HKA : Hid (Kept (fun _ => False) w1 (w1.alloc (.cells #[.slice (some ⟨g, o, none⟩) i c, .slice X (n - (i + 1)) (c - (i + 1))] 22)).drew) := ((Kept.refl _ _).alloc _).drew
    have HJ2 : Hid (Calls Tryz.prog 33 #[.slice (some ⟨w1.heap.size, 0, none⟩) 2 2] (w1.alloc (.cells #[.slice (some ⟨g, o, none⟩) i c, .slice X (n - (i + 1)) (c - (i + 1))] 22)).drew fun e w' => RowOut (w1.alloc (.cells #[.slice (some ⟨g, o, none⟩) i c, .slice X (n - (i + 1)) (c - (i + 1))] 22)).drew (withoutL ys s) e w') := HJ.out
    clear HJ
    refine hK.out _ _ HKA.out (fun hHeld => ?_)
    clear hK K
    try simp only [Act.put, List.getElem_toArray, List.getElem_cons_zero, List.getElem_cons_succ, List.setIfInBounds_toArray, List.set_cons_zero, List.set_cons_succ]
    refine wpAnyH_ready (rs := [8]) (by kernel_rfl) (by simp) ?_
    refine AllReadyH.cons rfl (fun K hK => ?_) AllReadyH.nil
    go_simp
    refine HJ2.out.mono ?_
    rintro e w2 ⟨u, rfl, hr⟩
    have HKB : Hid (Kept (fun _ => False) w1 w2) := HKA.out.trans hr.2
    have HRO : Hid (RowOut w (withoutL ys s) (.returned u) w2) := (RowOut.from ⟨u, rfl, hr⟩ HKA.out).from HK1.out
    clear hr HJ2 HKA
    refine hK.out _ _ HKB.out (fun hHeld => ?_)
    clear hK K
    try simp only [Act.put, List.getElem_toArray, List.getElem_cons_zero, List.getElem_cons_succ, List.setIfInBounds_toArray, List.set_cons_zero, List.set_cons_succ]
    refine wpAnyH_take (i := 9) (v := ?_) rfl (by kernel_rfl) (by kernel_rfl) (by kernel_rfl) (fun _ _ _ h => h) (Or.inl ⟨by rfl, ?_⟩) (by assumption) ?_
    rotate_left 1
    · intro w hSw
      go_simp
      try with_reducible rfl
    try simp only [Act.put, List.getElem_toArray, List.getElem_cons_zero, List.getElem_cons_succ, List.setIfInBounds_toArray, List.set_cons_zero, List.set_cons_succ]
    refine wpAnyH_done (by kernel_rfl) ?_ _
    go_wp2
    go_ret
    exact HRO.out
end Go.Proofs.YtcpkbajmilkhpabGreatDoor

namespace Go.Proofs.YtcpkbajmilkhpabGreatDoor
open Go.RowKit
set_option linter.unusedVariables false
set_option linter.unusedSimpArgs false
set_option maxRecDepth 100000

theorem handed_three {w : World} {u v x : LV} (hu : RowE w u.v u.zs) (hv : RowE w v.v v.zs) (hx : RowE w x.v x.zs) (hfu : ∀ y ∈ u.zs, y.fr.length ≤ 32) (hfv : ∀ y ∈ v.zs, y.fr.length ≤ 32) (hfx : ∀ y ∈ x.zs, y.fr.length ≤ 32) : Handed (w.alloc (.cells #[u.v, v.v, x.v] 22)) w.heap.size [u, v, x] := by
  have hk : Kept (fun _ => False) w (w.alloc (.cells #[u.v, v.v, x.v] 22)) := (Kept.refl _ _).alloc _
  have hb := heap_alloc_new w (.cells #[u.v, v.v, x.v] 22)
  have key : ∀ p, p ∈ [u, v, x] → p = u ∨ p = v ∨ p = x := fun p hp => by simpa using hp
  refine ⟨fun i p hp => ?_, fun p hp => ?_, fun p hp => ?_⟩
  · rw [cell_block _ _ _ _ _ _ hb]
    match i, hp with
    | 0, hp => simp at hp; subst hp; rfl
    | 1, hp => simp at hp; subst hp; rfl
    | 2, hp => simp at hp; subst hp; rfl
    | j + 3, hp => simp at hp
  · rcases key p hp with rfl | rfl | rfl
    · exact hu.kept hk (fun _ _ f => f)
    · exact hv.kept hk (fun _ _ f => f)
    · exact hx.kept hk (fun _ _ f => f)
  · rcases key p hp with rfl | rfl | rfl
    · exact hfu
    · exact hfv
    · exact hfx
theorem rowE_new (w : World) (y : EV) (h : y.fr.length ≤ 32) : RowE (w.alloc (.cells y.cells.toArray 41)) (.slice (some ⟨w.heap.size, 0, none⟩) 1 1) [y] := by
  refine .inr ⟨w.heap.size, 0, 1, rfl, fun i z hz j u hj => ?_⟩
  have hi : i = 0 := by
    have := (List.getElem?_eq_some_iff.1 hz).1
    simpa using this
  subst hi
  obtain rfl : y = z := by simpa using hz
  rw [cell_block _ _ _ _ _ _ (heap_alloc_new w _)]
  simpa using hj

section
variable {ops : Array Oper} {o : Oper} {a : Act} {w : World} {K : Act → World → Prop} {Q : Exit → Act → World → Prop} {E : Prop}
theorem stp_build47 (hgd : o.guard = none) (x : Operand) (ho : o.op = .buildSlice 22 1 #[(0, x)]) (cs : List Value) (hx : a.eval x = .agg cs.toArray) (hl : cs.length = 34)
    (h : K (a.put o.dst (.slice (some ⟨w.heap.size, 0, none⟩) 1 1)) (w.alloc (.cells cs.toArray 41))) : if Region.wanted o (yielded ops a.tmps) = true then Oper.wp Tryz.prog o a w K Q else E := by
  have hw : Region.wanted o (yielded ops a.tmps) = true := by simp [Region.wanted, hgd]
  obtain ⟨i0, hi, hz0, hz1, hz2⟩ := info_parts info47
  rw [if_pos hw]
  refine wp_buildSlice 22 41 1 _ ho cs.toArray i0 _ Tryz.underlying22 hi hz0 (by rw [hz1]; decide) (by rw [hz1]; decide) ?_ h
  rw [hz1]
  have e : (#[(0, x)].map fun (i, y) => (i, a.eval y)).toList = [(0, .agg cs.toArray)] := by rw [← hx]; simp
  rw [e]
  exact fill_one cs _ hl (by simp)
end

/-- What With hands to join: three rows, the middle one new. -/
theorem with_join (w1 : World) (f b : LV) (x : EV) (hf : RowE w1 f.v f.zs) (hb : RowE w1 b.v b.zs) (hff : ∀ y ∈ f.zs, y.fr.length ≤ 32) (hfb : ∀ y ∈ b.zs, y.fr.length ≤ 32) (hx : x.fr.length ≤ 32) (hn : f.zs.length + 1 + b.zs.length ≤ 1000000)
    (hsf : ∀ y ∈ f.zs, (str y.nm).size ≤ 281474976710656) (hsb : ∀ y ∈ b.zs, (str y.nm).size ≤ 281474976710656) (hsx : (str x.nm).size ≤ 281474976710656) :
    Calls Tryz.prog 33 #[.slice (some ⟨w1.heap.size + 1, 0, none⟩) 3 3] ((w1.alloc (.cells x.cells.toArray 41)).alloc (.cells #[f.v, .slice (some ⟨w1.heap.size, 0, none⟩) 1 1, b.v] 22)) fun e w' => RowOut w1 (f.zs ++ [x] ++ b.zs) e w' := by
  have hk : Kept (fun _ => False) w1 (w1.alloc (.cells x.cells.toArray 41)) := (Kept.refl _ _).alloc _
  have hk2 : Kept (fun _ => False) w1 ((w1.alloc (.cells x.cells.toArray 41)).alloc (.cells #[f.v, .slice (some ⟨w1.heap.size, 0, none⟩) 1 1, b.v] 22)) := hk.alloc _
  have hh := handed_three (w := w1.alloc (.cells x.cells.toArray 41)) (u := f) (v := ⟨some ⟨w1.heap.size, 0, none⟩, 1, [x]⟩) (x := b) (hf.kept hk (fun _ _ f => f)) (rowE_new w1 x hx) (hb.kept hk (fun _ _ f => f)) hff (fun y hy => by rw [List.mem_singleton] at hy; subst hy; exact hx) hfb
  have hsz : (w1.alloc (.cells x.cells.toArray 41)).heap.size = w1.heap.size + 1 := by simp
  rw [hsz] at hh
  have hfl : flatE [f, ⟨some ⟨w1.heap.size, 0, none⟩, 1, [x]⟩, b] = f.zs ++ [x] ++ b.zs := by simp [flatE]
  have hj := join_any (w1.heap.size + 1) 3 [f, ⟨some ⟨w1.heap.size, 0, none⟩, 1, [x]⟩, b] _ rfl (by decide) hh (by rw [hfl]; simp; omega) (fun p hp y hy => by
    have key : p = f ∨ p = ⟨some ⟨w1.heap.size, 0, none⟩, 1, [x]⟩ ∨ p = b := by simpa using hp
    rcases key with rfl | rfl | rfl
    · exact hsf y hy
    · rw [List.mem_singleton] at hy; subst hy; exact hsx
    · exact hsb y hy)
  rw [hfl] at hj
  exact hj.mono fun e w' h => h.from hk2

set_option maxHeartbeats 4000000 in
theorem with_some (g o c : Nat) (ys : List EV) (x : EV) (w : World) (hv : RowE w (.slice (some ⟨g, o, none⟩) ys.length c) ys) (hy : ∀ y ∈ ys, y.fr.length ≤ 32) (hs : ∀ y ∈ ys, (str y.nm).size ≤ 281474976710656) (hn : ys.length ≤ 999999) (hc : ys.length ≤ c) (hcm : c ≤ 9223372036854775807) (hu : Up ys) (hx32 : x.fr.length ≤ 32) (hxs : (str x.nm).size ≤ 281474976710656) :
    Calls Tryz.prog 11 #[.slice (some ⟨g, o, none⟩) ys.length c, .agg x.cells.toArray] w fun e w' => RowOut w (withL x false ys) e w' := by
  obtain ⟨n, hN⟩ : ∃ n, n = ys.length := ⟨_, rfl⟩
  have hb := heap_alloc_new w (.cells x.cells.toArray 41)
  have hkA : Kept (fun _ => False) w (w.alloc (.cells x.cells.toArray 41)) := (Kept.refl _ _).alloc _
  have HXLn := hid_of (EV.clen x hx32)
  have HXS : Hid ((Tryz.prog.info? 41).map (·.size) = some x.cells.length) := by unfold Hid; rw [size47, HXLn.out]
  have hpl := place_any (some ⟨g, o, none⟩) c ys x.nm (w.alloc (.cells x.cells.toArray 41)) (hv.kept hkA (fun _ _ f => f)) hy (by omega) (up_rising hu x.nm)
  have hvB : RowE (w.alloc (.cells x.cells.toArray 41)) (.slice (some ⟨g, o, none⟩) ys.length c) ys := hv.kept hkA (fun _ _ f => f)
  have hb0 : (w.alloc (.cells x.cells.toArray 41)).cell? ⟨w.heap.size, 0, none⟩ = some (.string (str x.nm)) := by rw [cell_block _ _ _ _ _ _ hb]; rfl
  have hbr : (w.alloc (.cells x.cells.toArray 41)).rangeAt w.heap.size 0 x.cells := fun j u hj => by
    rw [cell_block _ _ _ _ _ _ hb, Nat.zero_add]
    simpa using hj
  have HY := hid_of hy
  have HS := hid_of hs
  have HU := hid_of hu
  have HX32 := hid_of hx32
  have HXZ := hid_of hxs
  have HN := hid_of hN
  rw [← hN] at hn hpl hc hvB ⊢
  clear hv hy hs hu hx32 hxs hN
  go_enter Tryz.func11, Tryz.ntmps11
  go_upto_region 1 with (refine Go.Great.wpList_boxTo rfl 41 _ rfl _ rfl w.heap.size rfl x.cells.toArray rfl ?_)
  generalize w.alloc (.cells x.cells.toArray 41) = wB at *
  have HP := hid_of hpl
  have HVB := hid_of hvB
  have HBR := hid_of hbr
  have HKB := hid_of hkA
  clear hb hkA hpl hvB hbr
  have xl : w.heap.size < wB.heap.size := World.block_lt_of_cell? wB _ hb0
  go_wp2_with fail
  refine HP.out.mono ?_
  rintro e w1 ⟨⟨i, f, rfl, hf⟩, hk1⟩
  obtain ⟨A, M, B, hcut⟩ := found_cut hf HU.out
  have HK1 := hid_of hk1
  have HCUT := hid_of hcut
  have HWL := hid_of hcut.with'
  have hv1 := HVB.out.kept hk1 (fun _ _ f => f)
  have HRX : Hid (∀ W, Kept (fun _ => False) w1 W → W.rangeAt w.heap.size 0 x.cells) := fun W hW j u hj => hW.cell (hk1.cell (HBR.out j u hj) (fun f => f)) (fun f => f)
  have HD : Hid (Kept (fun _ => False) w1 w1.drew) := (Kept.refl _ _).drew
  have hA := hcut.len
  have hwh := hcut.whole
  have hsub : ∀ z, z ∈ A ∨ z ∈ B → z ∈ ys := fun z hz => by rw [hwh]; rcases hz with h | h <;> simp [h]
  have hi1 : (0 : Int) ≤ (i : Int) := by omega
  clear hf hk1 HP HVB HBR hcut
  cases f
  · obtain rfl : M = [] := by
      rcases HCUT.out.mid with ⟨e, _⟩ | ⟨_, e⟩
      · cases e
      · exact e
    rw [List.append_nil] at hwh
    have hnl : n = i + B.length := by rw [HN.out, hwh, List.length_append, hA]
    have hi2 : (i : Int) ≤ (n : Int) := by omega
    have hi3 : (i : Int) ≤ (c : Int) := by omega
    have hi4 : (n : Int) ≤ (c : Int) := by omega
    obtain ⟨X, hX⟩ : ∃ X, X = (if c = i then some (⟨g, o, none⟩ : Addr) else some ⟨g, o + i * 34, none⟩) := ⟨_, rfl⟩
    have hrf : RowE w1 (LV.v ⟨some ⟨g, o, none⟩, c, A⟩) A := by
      have h2 : RowE w1 (.slice (some ⟨g, o, none⟩) (A ++ B).length c) (A ++ B) := by rw [← hwh, ← HN.out]; exact hv1
      exact rowE_front h2
    have hrb : RowE w1 (LV.v ⟨X, c - i, B⟩) B := by
      have h2 : RowE w1 (.slice (some ⟨g, o, none⟩) (A ++ B).length c) (A ++ B) := by rw [← hwh, ← HN.out]; exact hv1
      unfold LV.v
      dsimp only
      rw [hX]
      by_cases hci : c = i
      · have hB : B = [] := List.length_eq_zero_iff.1 (by omega)
        exact .inl ⟨hB, _, _, by rw [hB]; rfl⟩
      · rw [if_neg hci]
        have h3 := rowE_back (c' := c - i) h2
        rwa [hA] at h3
    have hj := with_join w1.drew ⟨some ⟨g, o, none⟩, c, A⟩ ⟨X, c - i, B⟩ x (hrf.kept HD.out (fun _ _ f => f)) (hrb.kept HD.out (fun _ _ f => f)) (fun z hz => HY.out z (hsub z (.inl hz))) (fun z hz => HY.out z (hsub z (.inr hz))) HX32.out (by dsimp only; omega) (fun z hz => HS.out z (hsub z (.inl hz))) (fun z hz => HS.out z (hsub z (.inr hz))) HXZ.out
    unfold LV.v at hj
    dsimp only at hj
    rw [hA, show B.length = n - i by omega] at hj
    have HX := hid_of hX
    have HJ := hid_of hj
    clear hnl hwh hA hv1 hrf hrb hsub hj hX
    go_upto_region 5 with fail
    rw [← HX.out]
    have HKA : Hid (Kept (fun _ => False) w1 (w1.drew.alloc (.cells x.cells.toArray 41))) := HD.out.alloc _
    have HKB2 : Hid (Kept (fun _ => False) w1 ((w1.drew.alloc (.cells x.cells.toArray 41)).alloc (.cells #[.slice (some ⟨g, o, none⟩) i c, .slice (some ⟨w1.drew.heap.size, 0, none⟩) 1 1, .slice X (n - i) (c - i)] 22))) := (HD.out.alloc _).alloc _
    refine wp_region_held_drew (S := fun w' => Kept (fun _ => False) w1 w') (by kernel_rfl) HD.out (fun hHeld => ?_)
    refine wpAnyH_take (i := 0) (v := ?_) rfl (by kernel_rfl) (by kernel_rfl) (by kernel_rfl) (fun _ _ _ h => h) (Or.inl ⟨by rfl, ?_⟩) (by assumption) ?_
    rotate_left 1
    · intro w hSw
      go_simp
      try with_reducible rfl
    try simp only [Act.put, List.getElem_toArray, List.getElem_cons_zero, List.getElem_cons_succ, List.setIfInBounds_toArray, List.set_cons_zero, List.set_cons_succ]
    refine wpAnyH_take (i := 1) (v := ?_) rfl (by kernel_rfl) (by kernel_rfl) (by kernel_rfl) (fun _ _ _ h => h) (Or.inl ⟨by rfl, ?_⟩) (by assumption) ?_
    rotate_left 1
    · intro w hSw
      go_simp
      try with_reducible rfl
    try simp only [Act.put, List.getElem_toArray, List.getElem_cons_zero, List.getElem_cons_succ, List.setIfInBounds_toArray, List.set_cons_zero, List.set_cons_succ]
    refine wpAnyH_take (i := 2) (v := ?_) rfl (by kernel_rfl) (by kernel_rfl) (by kernel_rfl) (fun _ _ _ h => h) (Or.inl ⟨by rfl, ?_⟩) (by assumption) ?_
    rotate_left 1
    · intro w hSw
      go_simp
      try with_reducible rfl
    try simp only [Act.put, List.getElem_toArray, List.getElem_cons_zero, List.getElem_cons_succ, List.setIfInBounds_toArray, List.set_cons_zero, List.set_cons_succ]
    refine wpAnyH_take (i := 3) (v := .agg x.cells.toArray) rfl (by kernel_rfl) (by kernel_rfl) (by kernel_rfl) (fun _ _ _ h => h) (yieldsIf_load_mid (by rfl) 41 _ rfl w.heap.size 0 rfl x.cells _ (fun W hW => HRX.out W hW) Tryz.underlying41 rfl HXS.out) (by assumption) ?_
    try simp only [Act.put, List.getElem_toArray, List.getElem_cons_zero, List.getElem_cons_succ, List.setIfInBounds_toArray, List.set_cons_zero, List.set_cons_succ]
    refine wpAnyH_take (i := 5) (v := ?_) rfl (by kernel_rfl) (by kernel_rfl) (by kernel_rfl) (fun _ _ _ h => h) (Or.inl ⟨by rfl, ?_⟩) (by assumption) ?_
    rotate_left 1
    · intro w hSw
      go_simp
      try with_reducible rfl
    try simp only [Act.put, List.getElem_toArray, List.getElem_cons_zero, List.getElem_cons_succ, List.setIfInBounds_toArray, List.set_cons_zero, List.set_cons_succ]
    refine wpAnyH_ready (rs := [4]) (by kernel_rfl) (by simp) ?_
    refine AllReadyH.cons rfl (fun K hK => ?_) AllReadyH.nil
    refine stp_build47 rfl _ rfl x.cells rfl HXLn.out ?_
    refine hK.out _ _ HKA.out (fun hHeld => ?_)
    clear hK K
    try simp only [Act.put, List.getElem_toArray, List.getElem_cons_zero, List.getElem_cons_succ, List.setIfInBounds_toArray, List.set_cons_zero, List.set_cons_succ]
    refine wpAnyH_ready (rs := [6]) (by kernel_rfl) (by simp) ?_
    refine AllReadyH.cons rfl (fun K hK => ?_) AllReadyH.nil
    go_simp
    refine hK.out _ _ HKB2.out (fun hHeld => ?_)
    clear hK K
    try simp only [Act.put, List.getElem_toArray, List.getElem_cons_zero, List.getElem_cons_succ, List.setIfInBounds_toArray, List.set_cons_zero, List.set_cons_succ]
    refine wpAnyH_ready (rs := [7]) (by kernel_rfl) (by simp) ?_
    refine AllReadyH.cons rfl (fun K hK => ?_) AllReadyH.nil
    go_simp
    refine HJ.out.mono ?_
    rintro e w2 ⟨u, rfl, hr⟩
    have HKC : Hid (Kept (fun _ => False) w1 w2) := HD.out.trans hr.2
    have HRO : Hid (RowOut w (withL x false ys) (.returned u) w2) := by
      have := ((RowOut.from ⟨u, rfl, hr⟩ HD.out).from HK1.out).from HKB.out
      rw [HWL.out]
      exact this
    clear hr HJ
    refine hK.out _ _ HKC.out (fun hHeld => ?_)
    clear hK K
    try simp only [Act.put, List.getElem_toArray, List.getElem_cons_zero, List.getElem_cons_succ, List.setIfInBounds_toArray, List.set_cons_zero, List.set_cons_succ]
    refine wpAnyH_take (i := 8) (v := ?_) rfl (by kernel_rfl) (by kernel_rfl) (by kernel_rfl) (fun _ _ _ h => h) (Or.inl ⟨by rfl, ?_⟩) (by assumption) ?_
    rotate_left 1
    · intro w hSw
      go_simp
      try with_reducible rfl
    try simp only [Act.put, List.getElem_toArray, List.getElem_cons_zero, List.getElem_cons_succ, List.setIfInBounds_toArray, List.set_cons_zero, List.set_cons_succ]
    refine wpAnyH_done (by kernel_rfl) ?_ _
    go_wp2
    go_ret
    exact HRO.out
  · obtain ⟨y, hM⟩ : ∃ y, M = [y] := by
      rcases HCUT.out.mid with ⟨_, y, e, _⟩ | ⟨e, _⟩
      · exact ⟨y, e⟩
      · cases e
    subst hM
    have hnl : n = i + 1 + B.length := by rw [HN.out, hwh, List.length_append, List.length_append, hA]; rfl
    have hi2 : (i : Int) ≤ (n : Int) := by omega
    have hi3 : (i : Int) ≤ (c : Int) := by omega
    have hi4 : (n : Int) ≤ (c : Int) := by omega
    have hi5 : (1 : Int) ≤ ((n - i : Nat) : Int) := by omega
    have hi6 : (1 : Int) ≤ ((c - i : Nat) : Int) := by omega
    have hi7 : ((n - i : Nat) : Int) ≤ ((c - i : Nat) : Int) := by omega
    have hi8 : ((c - i : Nat) : Int) ≤ 9223372036854775807 := by omega
    have hci0 : ¬ c = i := by omega
    obtain ⟨X, hX⟩ : ∃ X, X = (if c - i = 1 then some (⟨g, o + i * 34, none⟩ : Addr) else some ⟨g, o + i * 34 + 34, none⟩) := ⟨_, rfl⟩
    have hrf : RowE w1 (LV.v ⟨some ⟨g, o, none⟩, c, A⟩) A := by
      have h2 : RowE w1 (.slice (some ⟨g, o, none⟩) (A ++ ([y] ++ B)).length c) (A ++ ([y] ++ B)) := by rw [← List.append_assoc, ← hwh, ← HN.out]; exact hv1
      exact rowE_front h2
    have hrb : RowE w1 (LV.v ⟨X, c - i - 1, B⟩) B := by
      have h2 : RowE w1 (.slice (some ⟨g, o, none⟩) ((A ++ [y]) ++ B).length c) ((A ++ [y]) ++ B) := by rw [← hwh, ← HN.out]; exact hv1
      unfold LV.v
      dsimp only
      rw [hX]
      by_cases hci : c - i = 1
      · have hB : B = [] := List.length_eq_zero_iff.1 (by omega)
        exact .inl ⟨hB, _, _, by rw [hB]; rfl⟩
      · rw [if_neg hci]
        have h3 := rowE_back (c' := c - i - 1) h2
        rwa [List.length_append, hA, List.length_singleton, show o + (i + 1) * 34 = o + i * 34 + 34 by omega] at h3
    have hj := with_join w1.drew ⟨some ⟨g, o, none⟩, c, A⟩ ⟨X, c - i - 1, B⟩ x (hrf.kept HD.out (fun _ _ f => f)) (hrb.kept HD.out (fun _ _ f => f)) (fun z hz => HY.out z (hsub z (.inl hz))) (fun z hz => HY.out z (hsub z (.inr hz))) HX32.out (by dsimp only; omega) (fun z hz => HS.out z (hsub z (.inl hz))) (fun z hz => HS.out z (hsub z (.inr hz))) HXZ.out
    unfold LV.v at hj
    dsimp only at hj
    rw [hA, show B.length = n - i - 1 by omega] at hj
    have HX := hid_of hX
    have HJ := hid_of hj
    clear hnl hwh hA hv1 hrf hrb hsub hj hX
    go_upto_region 5 with fail
    rw [← HX.out]
    have HKA : Hid (Kept (fun _ => False) w1 (w1.drew.alloc (.cells x.cells.toArray 41))) := HD.out.alloc _
    have HKB2 : Hid (Kept (fun _ => False) w1 ((w1.drew.alloc (.cells x.cells.toArray 41)).alloc (.cells #[.slice (some ⟨g, o, none⟩) i c, .slice (some ⟨w1.drew.heap.size, 0, none⟩) 1 1, .slice X (n - i - 1) (c - i - 1)] 22))) := (HD.out.alloc _).alloc _
    refine wp_region_held_drew (S := fun w' => Kept (fun _ => False) w1 w') (by kernel_rfl) HD.out (fun hHeld => ?_)
    refine wpAnyH_take (i := 0) (v := ?_) rfl (by kernel_rfl) (by kernel_rfl) (by kernel_rfl) (fun _ _ _ h => h) (Or.inl ⟨by rfl, ?_⟩) (by assumption) ?_
    rotate_left 1
    · intro w hSw
      go_simp
      try with_reducible rfl
    try simp only [Act.put, List.getElem_toArray, List.getElem_cons_zero, List.getElem_cons_succ, List.setIfInBounds_toArray, List.set_cons_zero, List.set_cons_succ]
    refine wpAnyH_take (i := 1) (v := ?_) rfl (by kernel_rfl) (by kernel_rfl) (by kernel_rfl) (fun _ _ _ h => h) (Or.inl ⟨by rfl, ?_⟩) (by assumption) ?_
    rotate_left 1
    · intro w hSw
      go_simp
      try with_reducible rfl
    try simp only [Act.put, List.getElem_toArray, List.getElem_cons_zero, List.getElem_cons_succ, List.setIfInBounds_toArray, List.set_cons_zero, List.set_cons_succ]
    refine wpAnyH_take (i := 2) (v := ?_) rfl (by kernel_rfl) (by kernel_rfl) (by kernel_rfl) (fun _ _ _ h => h) (Or.inl ⟨by rfl, ?_⟩) (by assumption) ?_
    rotate_left 1
    · intro w hSw
      go_simp
      try with_reducible rfl
    try simp only [Act.put, List.getElem_toArray, List.getElem_cons_zero, List.getElem_cons_succ, List.setIfInBounds_toArray, List.set_cons_zero, List.set_cons_succ]
    refine wpAnyH_take (i := 3) (v := .agg x.cells.toArray) rfl (by kernel_rfl) (by kernel_rfl) (by kernel_rfl) (fun _ _ _ h => h) (yieldsIf_load_mid (by rfl) 41 _ rfl w.heap.size 0 rfl x.cells _ (fun W hW => HRX.out W hW) Tryz.underlying41 rfl HXS.out) (by assumption) ?_
    try simp only [Act.put, List.getElem_toArray, List.getElem_cons_zero, List.getElem_cons_succ, List.setIfInBounds_toArray, List.set_cons_zero, List.set_cons_succ]
    refine wpAnyH_take (i := 5) (v := ?_) rfl (by kernel_rfl) (by kernel_rfl) (by kernel_rfl) (fun _ _ _ h => h) (Or.inl ⟨by rfl, ?_⟩) (by assumption) ?_
    rotate_left 1
    · intro w hSw
      go_simp
      try with_reducible rfl
    try simp only [Act.put, List.getElem_toArray, List.getElem_cons_zero, List.getElem_cons_succ, List.setIfInBounds_toArray, List.set_cons_zero, List.set_cons_succ]
    refine wpAnyH_ready (rs := [4]) (by kernel_rfl) (by simp) ?_
    refine AllReadyH.cons rfl (fun K hK => ?_) AllReadyH.nil
    refine stp_build47 rfl _ rfl x.cells rfl HXLn.out ?_
    refine hK.out _ _ HKA.out (fun hHeld => ?_)
    clear hK K
    try simp only [Act.put, List.getElem_toArray, List.getElem_cons_zero, List.getElem_cons_succ, List.setIfInBounds_toArray, List.set_cons_zero, List.set_cons_succ]
    refine wpAnyH_ready (rs := [6]) (by kernel_rfl) (by simp) ?_
    refine AllReadyH.cons rfl (fun K hK => ?_) AllReadyH.nil
    go_simp
    refine hK.out _ _ HKB2.out (fun hHeld => ?_)
    clear hK K
    try simp only [Act.put, List.getElem_toArray, List.getElem_cons_zero, List.getElem_cons_succ, List.setIfInBounds_toArray, List.set_cons_zero, List.set_cons_succ]
    refine wpAnyH_ready (rs := [7]) (by kernel_rfl) (by simp) ?_
    refine AllReadyH.cons rfl (fun K hK => ?_) AllReadyH.nil
    go_simp
    refine HJ.out.mono ?_
    rintro e w2 ⟨u, rfl, hr⟩
    have HKC : Hid (Kept (fun _ => False) w1 w2) := HD.out.trans hr.2
    have HRO : Hid (RowOut w (withL x false ys) (.returned u) w2) := by
      have := ((RowOut.from ⟨u, rfl, hr⟩ HD.out).from HK1.out).from HKB.out
      rw [HWL.out]
      exact this
    clear hr HJ
    refine hK.out _ _ HKC.out (fun hHeld => ?_)
    clear hK K
    try simp only [Act.put, List.getElem_toArray, List.getElem_cons_zero, List.getElem_cons_succ, List.setIfInBounds_toArray, List.set_cons_zero, List.set_cons_succ]
    refine wpAnyH_take (i := 8) (v := ?_) rfl (by kernel_rfl) (by kernel_rfl) (by kernel_rfl) (fun _ _ _ h => h) (Or.inl ⟨by rfl, ?_⟩) (by assumption) ?_
    rotate_left 1
    · intro w hSw
      go_simp
      try with_reducible rfl
    try simp only [Act.put, List.getElem_toArray, List.getElem_cons_zero, List.getElem_cons_succ, List.setIfInBounds_toArray, List.set_cons_zero, List.set_cons_succ]
    refine wpAnyH_done (by kernel_rfl) ?_ _
    go_wp2
    go_ret
    exact HRO.out
end Go.Proofs.YtcpkbajmilkhpabGreatDoor
