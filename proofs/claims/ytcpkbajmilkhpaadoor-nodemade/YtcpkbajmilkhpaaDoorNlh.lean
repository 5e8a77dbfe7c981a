/-
  Nlh: Nle, Nlf, Nlg.
-/
import Derived.Test.YtcpkbajmilkhpaaDoorNkn
import Derived.Test.YtcpkbajmilkhpaaDoorNrp
import Derived.Laws.MakeOwn
import Derived.Deep.MidRow
import Derived.BigGuardPart
namespace Go.Proofs.YtcpkbajmilkhpaaDoor
open Go.RowKit
set_option linter.unusedVariables false
set_option linter.unusedSimpArgs false
set_option maxRecDepth 100000

/-- An entry that no list has. -/
def markE (i : Nat) : EV := ⟨[109, 97, 114, 107], -1 - (i : Int), []⟩
theorem markE_str (i : Nat) : str (markE i).nm = ⟨#[109, 97, 114, 107]⟩ := by rfl
theorem markE_len (i : Nat) : (markE i).cells.length = 34 := by rfl
theorem markE_arr (i : Nat) : (markE i).cells.toArray = entA ⟨#[109, 97, 114, 107]⟩ (-1 - (i : Int)) [] := by rw [← EV.arr, markE_str]; rfl

set_option maxHeartbeats 1000000 in
theorem mark_any (i : Nat) (w : World) (hi : i ≤ 4611686018427387904) :
    Calls Tryd.prog 28 #[.int .i64 i] w fun e w' => e = .returned (.agg (markE i).cells.toArray) ∧ Kept (fun _ => False) w w' := by
  have hO := heap_alloc_new w (.cells (entA ⟨#[]⟩ 0 []) 47)
  have hkO : Kept (fun _ => False) w (w.alloc (.cells (entA ⟨#[]⟩ 0 []) 47)) := (Kept.refl _ _).alloc _
  have hw : w.alloc (.cells (entA ⟨#[]⟩ 0 []) 47) = w.alloc (.cells _ 47) := congrArg (fun c => w.alloc (.cells c 47)) (entA_new ⟨#[]⟩ 0)
  rw [hw] at hO hkO
  clear hw
  have hwr : IntKind.i64.wrap (-1 - (i : Int)) = -1 - (i : Int) := by simp [IntKind.wrap, IntKind.bits, IntKind.signed]; omega
  have hs34 : (Tryd.prog.info? 47).map (·.size) = some (entA ⟨#[109, 97, 114, 107]⟩ (-1 - (i : Int)) []).size := by rw [size47, entA_size _ _ _ (by decide)]
  have ho34 : (entA ⟨#[]⟩ 0 []).size = (entA ⟨#[109, 97, 114, 107]⟩ (-1 - (i : Int)) []).size := by rw [entA_size _ _ _ (by decide), entA_size _ _ _ (by decide)]
  have h1c := entA_cells ⟨#[109, 97, 114, 107]⟩ (-1 - (i : Int)) []
  have HM : Hid ((markE i).cells.toArray = entA ⟨#[109, 97, 114, 107]⟩ (-1 - (i : Int)) []) := by unfold Hid; rw [markE_arr]
  go_enter Tryd.func28, Tryd.ntmps28
  go_upto_region 1 with fail
  have hO' : (w.alloc (.cells _ 47)).heap[w.heap.size]? = some (.cells (entA ⟨#[]⟩ 0 []) 47 (0, 0)) := hO
  generalize w.alloc (.cells _ 47) = wO at *
  have HFI := hid_of (setRow_heap wO w.heap.size _ (entA ⟨#[109, 97, 114, 107]⟩ (-1 - (i : Int)) []) 47 (0, 0) hO')
  have HK1 : Hid (Kept (fun _ => False) w (wO.setRow w.heap.size (entA ⟨#[109, 97, 114, 107]⟩ (-1 - (i : Int)) []))) := hkO.step (kept_row wO w.heap.size _) (fun i hi e => by omega)
  clear hO hkO
  go_wp2_with (first | refine wpList_two rfl _ _ rfl ⟨#[109, 97, 114, 107]⟩ (-1 - (i : Int)) rfl rfl ?_ | refine wpList_store_row rfl 47 _ _ rfl w.heap.size (entA ⟨#[109, 97, 114, 107]⟩ (-1 - (i : Int)) []) rfl rfl 47 _ hO' hs34 ho34 h1c ?_)
  refine bodyPost_ret (v := .agg (entA ⟨#[109, 97, 114, 107]⟩ (-1 - (i : Int)) [])) ?_ rfl ⟨by rw [HM.out], HK1.out⟩
  exact results_cell_row (by rfl) _ _ w.heap.size 47 _ (0, 0) _ (by rfl) HFI.out Tryd.underlying47 rfl hs34

theorem kept_cells (g : Nat) : ∀ (vs : List Value) (o : Nat) (w : World), Kept (fun k => k = g) w (w.setCells g o vs)
  | [], o, w => Kept.refl _ _
  | v :: r, o, w => (kept_set w g o v).trans (kept_cells g r (o + 1) (w.setCell ⟨g, o, none⟩ v))

/-- A block that is lent: the entries, and so many marks behind them. -/
structure LentE (w : World) (g : Nat) (ys : List EV) (j : Nat) : Prop where
  there : w.there g 0 ((ys.length + 67) * 34)
  ents : ∀ i y, ys[i]? = some y → w.rangeAt g (i * 34) y.cells
  marks : ∀ t, t < j → w.rangeAt g ((ys.length + t) * 34) (markE (ys.length + t)).cells

theorem there_sub {w : World} {g n o m : Nat} (h : w.there g 0 n) (hm : o + m ≤ n) : w.there g o m := fun j hj => by
  have := h (o + j) (by omega)
  rwa [Nat.zero_add] at this

theorem LentE.step {w : World} {g : Nat} {ys : List EV} {j : Nat} (h : LentE w g ys j) (hy : ∀ y ∈ ys, y.fr.length ≤ 32) (hj : j < 67) : LentE (w.setCells g ((ys.length + j) * 34) (markE (ys.length + j)).cells) g ys (j + 1) := by
  have hth : w.there g ((ys.length + j) * 34) (markE (ys.length + j)).cells.length := there_sub h.there (by rw [markE_len]; have : (ys.length + j + 1) * 34 ≤ (ys.length + 67) * 34 := Nat.mul_le_mul_right _ (by omega); omega)
  refine ⟨World.there_setCells h.there _ _ _, fun i y hi => ?_, fun t ht => ?_⟩
  · refine World.rangeAt_setCells_apart (h.ents i y hi) _ _ _ (.inr (.inl ?_))
    have hil : i < ys.length := (List.getElem?_eq_some_iff.1 hi).1
    rw [EV.clen y (hy y (List.mem_of_getElem? hi))]
    have : (i + 1) * 34 ≤ (ys.length + j) * 34 := Nat.mul_le_mul_right _ (by omega)
    omega
  · rcases Nat.lt_or_ge t j with h1 | h1
    · refine World.rangeAt_setCells_apart (h.marks t h1) _ _ _ (.inr (.inl ?_))
      rw [markE_len]
      have : (ys.length + t + 1) * 34 ≤ (ys.length + j) * 34 := Nat.mul_le_mul_right _ (by omega)
      omega
    · have e : t = j := by omega
      subst e
      exact World.rangeAt_setCells_same _ _ _ _ hth

theorem LentE.kept {S : Nat → Prop} {w w' : World} {g : Nat} {ys : List EV} {j : Nat} (h : LentE w g ys j) (hk : Kept S w w') (hS : ¬ S g) : LentE w' g ys j := by
  refine ⟨fun i hi => ?_, fun i y hy k u hu => hk.cell (h.ents i y hy k u hu) hS, fun t ht k u hu => hk.cell (h.marks t ht k u hu) hS⟩
  have h1 := h.there i hi
  cases hb : w.heap[g]? with
  | none =>
    have := h1.1
    simp [World.cell?, hb] at this
  | some ob =>
    have hb' := (hk.block g (Array.getElem?_eq_some_iff.1 hb).1 hS).trans hb
    unfold World.cell? World.frozen? at h1 ⊢
    simp only [hb, hb'] at h1 ⊢
    exact h1

theorem LentE.row {w : World} {g : Nat} {ys : List EV} {j c : Nat} (h : LentE w g ys j) : RowE w (.slice (some ⟨g, 0, none⟩) ys.length c) ys := by
  refine .inr ⟨g, 0, c, rfl, fun i y hy => ?_⟩
  rw [Nat.zero_add]
  exact h.ents i y hy

def zen (n : Nat) : Array Value := madeCells (entA ⟨#[]⟩ 0 []) n
theorem zen_size (n : Nat) : (zen n).size = n := size_madeCells _ n
theorem make_ents (W : World) (l : Nat) (h : l * 56 ≤ 140737488355328) : (Instr.makeSlice 22 (.int .i64 (l : Int)) (.int .i64 (l : Int))).run Tryd.prog W = .ok (.slice (some ⟨W.heap.size, 0, none⟩) l l) (W.alloc (.cells (zen (l * 34)) 47)) := by
  obtain ⟨i0, hi, hz0, hz1, hz2⟩ := info_parts info47
  have := run_make (P := Tryd.prog) W 22 47 i0 (.agg (entA ⟨#[]⟩ 0 [])) Tryd.underlying22 hi hz0 .i64 .i64 (l : Int) (l : Int) (by omega) (by omega) (by rw [hz2]; omega) (by omega)
  rw [hz1] at this
  simpa [zen, Value.cells] using this

theorem run_copy34 (w : World) (ty : TypeId) (b dLen dCap : Nat) (a : Option Addr) (n sCap : Nat) (cs : List Value) (hn : cs.length = n * 34) (hle : n ≤ dLen) (ha : a = none → n = 0)
    (hsrc : ∀ ad, a = some ad → ∀ j v, cs[j]? = some v → w.cell? (ad.add j) = some v) (hth : w.there b 0 (n * 34)) (h1 : ∀ v ∈ cs, v.oneCell' = true) :
    (Builtin.copy_ #[22, 22] ty #[.slice (some ⟨b, 0, none⟩) dLen dCap, .slice a n sCap]).run Tryd.prog w = .ok (goInt n) (w.setCells b 0 cs) := by
  obtain ⟨i0, hi, hz0, hz1, hz2⟩ := info_parts info47
  have hst := run_storeCells_cells (P := Tryd.prog) b 0 cs 0 w (fun j hj => by simpa using (hth j (by omega)).1) (fun j hj => by simpa using (hth j (by omega)).2) h1
  have hmin : Nat.min n dLen = n := Nat.min_eq_left hle
  cases a with
  | none =>
    have h0 := ha rfl
    subst h0
    have e : cs = [] := List.length_eq_zero_iff.1 (by omega)
    subst e
    simp [Builtin.copy_, run_underlying Tryd.underlying22, Builtin.lenOf, Builtin.firstCells, sizeOf, typeInfo, hi, hz1, hmin, storeCells, World.setCells]
  | some ad =>
    have hl := run_loadCells_list (P := Tryd.prog) w ad cs (hsrc ad rfl)
    rw [hn] at hl
    simp [Builtin.copy_, run_underlying Tryd.underlying22, Builtin.lenOf, Builtin.firstCells, sizeOf, typeInfo, hi, hz1, hmin, hl, hst]
end Go.Proofs.YtcpkbajmilkhpaaDoor

namespace Go.Proofs.YtcpkbajmilkhpaaDoor
open Go.RowKit
set_option linter.unusedVariables false
set_option linter.unusedSimpArgs false
set_option maxRecDepth 100000

theorem ents_len (ys : List EV) (hy : ∀ y ∈ ys, y.fr.length ≤ 32) : (ents ys).length = ys.length * 34 := by
  induction ys with
  | nil => rfl
  | cons y l ih =>
    show (y.cells ++ ents l).length = _
    rw [List.length_append, EV.clen y (hy y (List.mem_cons_self ..)), ih (fun z hz => hy z (List.mem_cons_of_mem _ hz)), List.length_cons]
    omega
theorem ents_one (ys : List EV) : ∀ u ∈ ents ys, u.oneCell' = true := by
  intro u hu
  obtain ⟨y, _, hy⟩ := List.mem_flatMap.1 hu
  exact EV.one y u hy
theorem rowE_cells {w : World} {a : Addr} {n c : Nat} {ys : List EV} (h : RowE w (.slice (some a) ys.length c) ys) (hy : ∀ y ∈ ys, y.fr.length ≤ 32) : ∀ j v, (ents ys)[j]? = some v → w.cell? (a.add j) = some v := by
  intro j v hj
  have hl := (List.getElem?_eq_some_iff.1 hj).1
  rw [ents_len ys hy] at hl
  rcases h with ⟨e, _⟩ | ⟨g, o, c', e, hc⟩
  · rw [e] at hl; simp at hl
  · cases e
    have hq : j / 34 < ys.length := by omega
    obtain ⟨y, hyi⟩ : ∃ y, ys[j / 34]? = some y := ⟨_, List.getElem?_eq_getElem hq⟩
    have hat := ents_at ys hy (j / 34) y hyi (j % 34) (by omega)
    rw [show j / 34 * 34 + j % 34 = j by omega, hj] at hat
    have := hc (j / 34) y hyi (j % 34) v hat.symm
    rw [Addr.add_lit, show o + j = o + j / 34 * 34 + j % 34 by omega]
    exact this

theorem lendE_copy (w : World) (ao : Option Addr) (c : Nat) (ys : List EV) (hv : RowE w (.slice ao ys.length c) ys) (hy : ∀ y ∈ ys, y.fr.length ≤ 32) : ∃ W', (Builtin.copy_ #[22, 22] 3 #[.slice (some ⟨w.heap.size, 0, none⟩) (ys.length + 67) (ys.length + 67), .slice ao ys.length c]).run Tryd.prog (w.alloc (.cells (zen ((ys.length + 67) * 34)) 47)) = .ok (goInt ys.length) W' ∧
    LentE W' w.heap.size ys 0 ∧ Kept (fun _ => False) w W' := by
  have hb := heap_alloc_new w (.cells (zen ((ys.length + 67) * 34)) 47)
  have hkA : Kept (fun _ => False) w (w.alloc (.cells (zen ((ys.length + 67) * 34)) 47)) := (Kept.refl _ _).alloc _
  have hvA := hv.kept hkA (fun _ _ f => f)
  have hth : (w.alloc (.cells (zen ((ys.length + 67) * 34)) 47)).there w.heap.size 0 ((ys.length + 67) * 34) := fun j hj => by
    refine ⟨?_, frozen_block _ _ _ _ _ hb⟩
    rw [cell_block _ _ _ _ _ _ hb, Array.getElem?_eq_getElem (by rw [zen_size]; omega)]
    rfl
  have hel := ents_len ys hy
  have hr := run_copy34 (w.alloc (.cells (zen ((ys.length + 67) * 34)) 47)) 3 w.heap.size (ys.length + 67) (ys.length + 67) ao ys.length c (ents ys) hel (by omega) (fun e => by
    subst e
    rcases hv with ⟨e, _⟩ | ⟨g, o, c', e, _⟩
    · rw [e]; rfl
    · cases e) (fun ad e => by
    subst e
    exact rowE_cells (n := 0) hvA hy) (there_sub hth (by omega)) (ents_one ys)
  refine ⟨_, hr, ⟨World.there_setCells hth _ _ _, fun i y hi j u hj => ?_, fun t ht => absurd ht (by omega)⟩, hkA.step (kept_cells _ _ _ _) (fun i hi e => by omega)⟩
  have hil : i < ys.length := (List.getElem?_eq_some_iff.1 hi).1
  have hj34 : j < 34 := by
    have := (List.getElem?_eq_some_iff.1 hj).1
    rwa [EV.clen y (hy y (List.mem_of_getElem? hi))] at this
  have hs := World.rangeAt_setCells_same (w.alloc (.cells (zen ((ys.length + 67) * 34)) 47)) w.heap.size 0 (ents ys) (there_sub hth (by rw [hel]; omega)) (i * 34 + j) u (by rw [ents_at ys hy i y hi j hj34, hj])
  rwa [Nat.zero_add] at hs

set_option maxHeartbeats 1000000 in
theorem lendE_any (ao : Option Addr) (c : Nat) (ys : List EV) (w : World) (hv : RowE w (.slice ao ys.length c) ys) (hy : ∀ y ∈ ys, y.fr.length ≤ 32) (hn : (ys.length + 67) * 56 ≤ 140737488355328) :
    Calls Tryd.prog 10 #[.slice ao ys.length c] w fun e w' => e = .returned (.slice (some ⟨w.heap.size, 0, none⟩) ys.length (ys.length + 67)) ∧ LentE w' w.heap.size ys 67 ∧ Kept (fun _ => False) w w' := by
  obtain ⟨W', hcp, hl, hk⟩ := lendE_copy w ao c ys hv hy
  have mk := make_ents w (ys.length + 67) hn
  rw [show ((ys.length + 67 : Nat) : Int) = (ys.length : Int) + 67 from by omega] at mk
  have HL := hid_of hl
  have HK := hid_of hk
  have HY := hid_of hy
  obtain ⟨n, hN⟩ : ∃ n, n = ys.length := ⟨_, rfl⟩
  have HN := hid_of hN
  rw [← hN] at mk hcp hn ⊢
  clear hl hk hv hy hN
  go_enter Tryd.func10, Tryd.ntmps10
  go_wp2
  clear mk hcp
  go_loopw [4] (fun i wr => ∃ j : Nat, j ≤ 67 ∧ i = .int .i64 ((n + j : Nat) : Int) ∧ LentE wr w.heap.size ys j ∧ Kept (fun _ => False) w wr) (fun i _ => (n + 67) - (intOf i).toNat)
  case atStart => exact ⟨0, by omega, by simp, HL.out, HK.out⟩
  case round =>
    obtain ⟨j, hj, rfl, hLe, hKe⟩ := hrel
    obtain ⟨m, hm⟩ : ∃ m, m = n + j := ⟨_, rfl⟩
    by_cases hlt : j < 67
    · have hth : wr.there w.heap.size (m * 34) (markE m).cells.toArray.size := there_sub hLe.there (by rw [List.size_toArray, markE_len, ← HN.out, hm]; have : (n + j + 1) * 34 ≤ (n + 67) * 34 := Nat.mul_le_mul_right _ (by omega); omega)
      have HMK := hid_of (fun W => mark_any m W (by omega))
      have hLS := hLe.step HY.out hlt
      rw [← HN.out, ← hm] at hLS
      have hjI : (m : Int) < (n : Int) + 67 := by omega
      have hm0 : (0 : Int) ≤ (m : Int) := by omega
      have HM := hid_of hm
      have HTH := hid_of hLe
      have HKE := hid_of hKe
      rw [← hm]
      clear hLe hKe HL HK hLS hm hth
      go_wp2_with fail
      refine (HMK.out _).mono ?_
      rintro e w2 ⟨rfl, hk2⟩
      have hL2 := HTH.out.kept hk2 (fun f => f)
      have hth : w2.there w.heap.size (m * 34) (markE m).cells.toArray.size := there_sub hL2.there (by rw [List.size_toArray, markE_len, ← HN.out, HM.out]; have : (n + j + 1) * 34 ≤ (n + 67) * 34 := Nat.mul_le_mul_right _ (by omega); omega)
      have hL3 := hL2.step HY.out hlt
      rw [← HN.out, ← HM.out] at hL3
      have HREL : Hid (LentE (w2.setCells w.heap.size (m * 34) (markE m).cells) w.heap.size ys (j + 1) ∧ Kept (fun _ => False) w (w2.setCells w.heap.size (m * 34) (markE m).cells)) := ⟨hL3, (HKE.out.trans hk2).step (kept_cells _ _ _ _) (fun i hi e => by omega)⟩
      have hs34 : (Tryd.prog.info? 47).map (·.size) = some (markE m).cells.toArray.size := by rw [size47, List.size_toArray, markE_len]
      have h1c : (markE m).cells.toArray.all (·.oneCell') = true := entA_cells (str (markE m).nm) (markE m).k (markE m).fr
      clear hL2 hL3 hk2 HTH HKE HMK
      go_upto_region 5 with (refine wpList_store_mid rfl 47 _ _ rfl w.heap.size (m * 34) (markE m).cells.toArray rfl rfl hth hs34 h1c ?_)
      have hmj := HM.out
      generalize w2.setCells w.heap.size (m * 34) _ = w3 at *
      go_wp2
      go_roundw
      case rel => exact ⟨j + 1, by omega, by rw [show n + (j + 1) = m + 1 by omega]; go_num, HREL.out.1, HREL.out.2⟩
      case measure => simp [intOf]; omega
    · obtain rfl : j = 67 := by omega
      have HLS := hid_of hLe
      have HKS := hid_of hKe
      clear hLe hKe HL HK hm
      go_wp2
      go_ret
      exact ⟨rfl, HLS.out, HKS.out⟩
end Go.Proofs.YtcpkbajmilkhpaaDoor

namespace Go.Proofs.YtcpkbajmilkhpaaDoor
open Go.RowKit
set_option linter.unusedVariables false
set_option linter.unusedSimpArgs false
set_option maxRecDepth 100000

theorem yields_eql47 {ops : Array Oper} {S : World → Prop} {o : Oper} {a : Act} (hw : Region.wanted o (yielded ops a.tmps) = true) (x y : Operand) (ho : o.op = .binOp .eql 47 x y 47) (Y Z : EV) (hY : Y.fr.length ≤ 32) (hZ : Z.fr.length ≤ 32) (hx : a.eval x = .agg Y.cells.toArray) (hy : a.eval y = .agg Z.cells.toArray) :
    YieldsIf Tryd.prog ops S o (.bool (eqE Y Z)) a :=
  .inl ⟨hw, fun w _ => by
    unfold execOp
    simp only [ho, hx, hy, Sem.run_bind, Sem.run_pure, run_eqGuard_agg w .eql 47 _ _ _ _ guard47, run_eql47 w Y Z hY hZ, Result.andThen_ok]⟩

theorem there_kept {S : Nat → Prop} {w w' : World} {g n : Nat} (h : w.there g 0 n) (hk : Kept S w w') (hS : ¬ S g) : w'.there g 0 n := fun i hi => by
  have h1 := h i hi
  cases hb : w.heap[g]? with
  | none =>
    have := h1.1
    simp [World.cell?, hb] at this
  | some ob =>
    have hb' := (hk.block g (Array.getElem?_eq_some_iff.1 hb).1 hS).trans hb
    unfold World.cell? World.frozen? at h1 ⊢
    simp only [hb, hb'] at h1 ⊢
    exact h1

set_option maxHeartbeats 2000000 in
theorem heldE_any (g : Nat) (v : Value) (ys : List EV) (w : World) (hl : LentE w g ys 67) (hx : RowE w v ys) (hy : ∀ y ∈ ys, y.fr.length ≤ 32) (hn : (ys.length + 67) * 56 ≤ 140737488355328) :
    Calls Tryd.prog 13 #[.slice (some ⟨g, 0, none⟩) ys.length (ys.length + 67), v] w fun e w' => e = .returned (.bool true) ∧ Kept (fun k => k = g) w w' := by
  have hS := same_any (.slice (some ⟨g, 0, none⟩) ys.length (ys.length + 67)) v ys ys w hl.row hx hy hy (by omega)
  rw [sameL_refl] at hS
  obtain ⟨n, hN⟩ : ∃ n, n = ys.length := ⟨_, rfl⟩
  have HN := hid_of hN
  have HL := hid_of hl
  rw [← hN] at hS hn ⊢
  have HS := hid_of hS
  clear hl hx hy hS hN
  go_enter Tryd.func13, Tryd.ntmps13
  go_wp2_with fail
  refine HS.out.mono ?_
  rintro e w1 ⟨rfl, hk1⟩
  have HL1 := hid_of (HL.out.kept hk1 (fun f => f))
  have HK1 := hid_of hk1
  clear hk1 HS HL
  have hnI : (0 : Int) ≤ (n : Int) + 67 := by omega
  go_wp2
  go_loopw [5, 7] (fun ok i wr => ok = .bool true ∧ ∃ j : Nat, j ≤ 67 ∧ i = .int .i64 ((n + j : Nat) : Int) ∧ Kept (fun _ => False) w1 wr) (fun _ i _ => (n + 67) - (intOf i).toNat)
  case atStart => exact ⟨rfl, 0, by omega, by simp, Kept.refl _ _⟩
  case round =>
    obtain ⟨rfl, j, hj, rfl, hk⟩ := hrel
    obtain ⟨m, hm⟩ : ∃ m, m = n + j := ⟨_, rfl⟩
    by_cases hlt : j < 67
    · have hjI : (m : Int) < (n : Int) + 67 := by omega
      have hm0 : (0 : Int) ≤ (m : Int) := by omega
      have hMK := mark_any m wr.drew (by omega)
      have HR1 : Hid (∀ W, Kept (fun _ => False) w1 W → W.rangeAt g (m * 34) (markE m).cells) := fun W hW => by
        have := (HL1.out.kept hW (fun f => f)).marks j hlt
        rwa [← HN.out, ← hm] at this
      have hsz : (Tryd.prog.info? 47).map (·.size) = some (markE m).cells.length := by rw [size47, markE_len]
      have HM := hid_of hm
      have HMK := hid_of hMK
      have HK : Hid (Kept (fun _ => False) w1 wr.drew) := hk.drew
      rw [← hm]
      clear hm hMK hk
      go_upto_region 6 with fail
      refine wp_region_held_drew (S := fun w' => Kept (fun _ => False) w1 w') (by kernel_rfl) HK.out (fun hHeld => ?_)
      refine wpAnyH_take (i := 0) (v := ?_) rfl (by kernel_rfl) (by kernel_rfl) (by kernel_rfl) (fun _ _ _ h => h) (Or.inl ⟨by rfl, ?_⟩) (by assumption) ?_
      rotate_left 1
      · intro w hSw
        go_simp
        try with_reducible rfl
      try simp only [Act.put, List.getElem_toArray, List.getElem_cons_zero, List.getElem_cons_succ, List.setIfInBounds_toArray, List.set_cons_zero, List.set_cons_succ]
      refine wpAnyH_take (i := 1) (v := ?_) rfl (by kernel_rfl) (by kernel_rfl) (by kernel_rfl) (fun _ _ _ h => h) (Or.inl ⟨by rfl, ?_⟩) (by assumption) ?_
      rotate_left 1
      · intro w hSw
        go_simp
        try with_reducible rfl
      try simp only [Act.put, List.getElem_toArray, List.getElem_cons_zero, List.getElem_cons_succ, List.setIfInBounds_toArray, List.set_cons_zero, List.set_cons_succ]
      refine wpAnyH_take (i := 2) (v := ?_) rfl (by kernel_rfl) (by kernel_rfl) (by kernel_rfl) (fun _ _ _ h => h) (Or.inl ⟨by rfl, ?_⟩) (by assumption) ?_
      rotate_left 1
      · intro w hSw
        go_simp
        try with_reducible rfl
      try simp only [Act.put, List.getElem_toArray, List.getElem_cons_zero, List.getElem_cons_succ, List.setIfInBounds_toArray, List.set_cons_zero, List.set_cons_succ]
      refine wpAnyH_take (i := 3) (v := ?_) rfl (by kernel_rfl) (by kernel_rfl) (by kernel_rfl) (fun _ _ _ h => h) (Or.inl ⟨by rfl, ?_⟩) (by assumption) ?_
      rotate_left 1
      · intro w hSw
        go_simp
        try with_reducible rfl
      try simp only [Act.put, List.getElem_toArray, List.getElem_cons_zero, List.getElem_cons_succ, List.setIfInBounds_toArray, List.set_cons_zero, List.set_cons_succ]
      refine wpAnyH_take (i := 4) (v := ?_) rfl (by kernel_rfl) (by kernel_rfl) (by kernel_rfl) (fun _ _ _ h => h) (Or.inl ⟨by rfl, ?_⟩) (by assumption) ?_
      rotate_left 1
      · intro w hSw
        go_simp
        try with_reducible rfl
      try simp only [Act.put, List.getElem_toArray, List.getElem_cons_zero, List.getElem_cons_succ, List.setIfInBounds_toArray, List.set_cons_zero, List.set_cons_succ]
      refine wpAnyH_take (i := 5) (v := .agg (markE m).cells.toArray) rfl (by kernel_rfl) (by kernel_rfl) (by kernel_rfl) (fun _ _ _ h => h) (yieldsIf_load_mid (by rfl) 47 _ rfl g (m * 34) (by first | rfl | simp [Act.eval, Act.put]) (markE m).cells _ (fun W hW => HR1.out W hW) Tryd.underlying47 rfl hsz) (by assumption) ?_
      try simp only [Act.put, List.getElem_toArray, List.getElem_cons_zero, List.getElem_cons_succ, List.setIfInBounds_toArray, List.set_cons_zero, List.set_cons_succ]
      refine wpAnyH_take (i := 6) (v := ?_) rfl (by kernel_rfl) (by kernel_rfl) (by kernel_rfl) (fun _ _ _ h => h) (Or.inl ⟨by rfl, ?_⟩) (by assumption) ?_
      rotate_left 1
      · intro w hSw
        go_simp
        try with_reducible rfl
      try simp only [Act.put, List.getElem_toArray, List.getElem_cons_zero, List.getElem_cons_succ, List.setIfInBounds_toArray, List.set_cons_zero, List.set_cons_succ]
      refine wpAnyH_ready (rs := [7]) (by kernel_rfl) (by simp) ?_
      refine AllReadyH.cons rfl (fun K hK => ?_) AllReadyH.nil
      go_simp
      refine (HMK.out).mono ?_
      rintro e w7 ⟨rfl, hk7⟩
      have HW7 := hid_of hk7
      clear hk7
      refine hK.out _ _ (HK.out.trans HW7.out) (fun hHeld => ?_)
      clear hK K
      try simp only [Act.put, List.getElem_toArray, List.getElem_cons_zero, List.getElem_cons_succ, List.setIfInBounds_toArray, List.set_cons_zero, List.set_cons_succ]
      refine wpAnyH_take (i := 8) (v := .bool (eqE (markE m) (markE m))) rfl (by kernel_rfl) (by kernel_rfl) (by kernel_rfl) (fun _ _ _ h => h) (yields_eql47 (by rfl) _ _ rfl (markE m) (markE m) (Nat.zero_le _) (Nat.zero_le _) rfl rfl) (by assumption) ?_
      try simp only [Act.put, List.getElem_toArray, List.getElem_cons_zero, List.getElem_cons_succ, List.setIfInBounds_toArray, List.set_cons_zero, List.set_cons_succ]
      rw [eqE_refl]
      refine wpAnyH_take (i := 9) (v := ?_) rfl (by kernel_rfl) (by kernel_rfl) (by kernel_rfl) (fun _ _ _ h => h) (Or.inl ⟨by rfl, ?_⟩) (by assumption) ?_
      rotate_left 1
      · intro w hSw
        go_simp
        try with_reducible rfl
      try simp only [Act.put, List.getElem_toArray, List.getElem_cons_zero, List.getElem_cons_succ, List.setIfInBounds_toArray, List.set_cons_zero, List.set_cons_succ]
      refine wpAnyH_take (i := 10) (v := ?_) rfl (by kernel_rfl) (by kernel_rfl) (by kernel_rfl) (fun _ _ _ h => h) (Or.inl ⟨by rfl, ?_⟩) (by assumption) ?_
      rotate_left 1
      · intro w hSw
        go_simp
        try with_reducible rfl
      try simp only [Act.put, List.getElem_toArray, List.getElem_cons_zero, List.getElem_cons_succ, List.setIfInBounds_toArray, List.set_cons_zero, List.set_cons_succ]
      refine wpAnyH_done (by kernel_rfl) ?_ _
      have HK7 : Hid (Kept (fun _ => False) w1 w7) := HK.out.trans HW7.out
      clear HW7 HK HMK HR1 hsz
      have hee : eqE (markE m) (markE m) = true := eqE_refl _
      try rw [hee]
      have hmj := HM.out
      go_wp2
      go_roundw
      case rel => exact ⟨rfl, j + 1, by omega, by rw [show n + (j + 1) = m + 1 by omega]; go_num, HK7.out⟩
      case measure => simp [intOf]; omega
    · obtain rfl : j = 67 := by omega
      have HT : Hid (wr.there g 0 ((n + 67) * 34)) := by
        have := (HL1.out.kept hk (fun f => f)).there
        rwa [← HN.out] at this
      have HKW : Hid (Kept (fun k => k = g) w wr) := (HK1.out.trans hk).mono (fun _ _ f => f.elim)
      clear hk hm
      go_wp2
      go_loopw [8] (fun i wq => ∃ k : Nat, k ≤ n + 67 ∧ i = .int .i64 k ∧ wq.there g 0 ((n + 67) * 34) ∧ Kept (fun k => k = g) w wq) (fun i _ => (n + 67) - (intOf i).toNat)
      case atStart => exact ⟨0, by omega, rfl, HT.out, HKW.out⟩
      case round =>
        obtain ⟨k, hk, rfl, hth, hkq⟩ := hrel
        by_cases hlt2 : k < n + 67
        · have hkI : (k : Int) < (n : Int) + 67 := by omega
          have hk0 : (0 : Int) ≤ (k : Int) := by omega
          have hs34 : (Tryd.prog.info? 47).map (·.size) = some (entA ⟨#[115, 112, 111, 105, 108, 116]⟩ 7 []).size := by rw [size47, entA_size _ _ _ (by decide)]
          have h1c := entA_cells ⟨#[115, 112, 111, 105, 108, 116]⟩ 7 []
          have hth2 : wr.there g (k * 34) (entA ⟨#[115, 112, 111, 105, 108, 116]⟩ 7 []).size := there_sub hth (by rw [entA_size _ _ _ (by decide)]; have : (k + 1) * 34 ≤ (n + 67) * 34 := Nat.mul_le_mul_right _ (by omega); omega)
          have HREL : Hid ((wr.setCells g (k * 34) (entA ⟨#[115, 112, 111, 105, 108, 116]⟩ 7 []).toList).there g 0 ((n + 67) * 34) ∧ Kept (fun k => k = g) w (wr.setCells g (k * 34) (entA ⟨#[115, 112, 111, 105, 108, 116]⟩ 7 []).toList)) := ⟨World.there_setCells hth _ _ _, hkq.trans (kept_cells _ _ _ _)⟩
          clear hth hkq HT HKW
          go_upto_region 9 with (first | refine wpList_two rfl _ _ rfl ⟨#[115, 112, 111, 105, 108, 116]⟩ 7 rfl rfl ?_ | refine wpList_store_mid rfl 47 _ _ rfl g (k * 34) (entA ⟨#[115, 112, 111, 105, 108, 116]⟩ 7 []) rfl rfl hth2 hs34 h1c ?_)
          clear hth2
          generalize wr.setCells g (k * 34) _ = w3 at *
          go_wp2
          go_roundw
          case rel =>
            refine ⟨_, _, _, _, _, _, _, _, _, _, _, ⟨k + 1, by omega, ?_, HREL.out.1, HREL.out.2⟩, rfl⟩
            go_num
          case measure => simp [intOf]; omega
        · have HKS := hid_of hkq
          clear hth hkq HT HKW
          go_wp2
          go_ret
          exact ⟨rfl, HKS.out⟩
end Go.Proofs.YtcpkbajmilkhpaaDoor
