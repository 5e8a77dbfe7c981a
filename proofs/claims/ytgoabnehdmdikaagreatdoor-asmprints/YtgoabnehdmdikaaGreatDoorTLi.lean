/-
  TLi: Li.
-/
import Derived.Test.YtgoabnehdmdikaaGreatDoorTPd
namespace Go.Proofs.YtgoabnehdmdikaaGreatDoor
open Go.RowKit
set_option linter.unusedVariables false
set_option linter.unusedSimpArgs false
set_option maxRecDepth 100000

/-- The mark at a place. -/
def markI (i : Nat) : IN := ⟨-9, i⟩
/-- A block that is lent: the instructions, and so many marks behind them. -/
structure LentI (w : World) (g : Nat) (ys : List IN) (j : Nat) : Prop where
  there : w.there g 0 ((ys.length + 67) * 2)
  ents : ∀ i y, ys[i]? = some y → w.rangeAt g (i * 2) y.cells
  marks : ∀ t, t < j → w.rangeAt g ((ys.length + t) * 2) (markI (ys.length + t)).cells
theorem LentI.step {w : World} {g : Nat} {ys : List IN} {j : Nat} (h : LentI w g ys j) (hj : j < 67) : LentI (w.setCells g ((ys.length + j) * 2) (markI (ys.length + j)).cells) g ys (j + 1) := by
  have hth : w.there g ((ys.length + j) * 2) (markI (ys.length + j)).cells.length := there_sub h.there (by show _ + 2 ≤ _; omega)
  refine ⟨World.there_setCells h.there _ _ _, fun i y hi => ?_, fun t ht => ?_⟩
  · refine World.rangeAt_setCells_apart (h.ents i y hi) _ _ _ (.inr (.inl ?_))
    have hil : i < ys.length := (List.getElem?_eq_some_iff.1 hi).1
    show i * 2 + 2 ≤ _
    omega
  · rcases Nat.lt_or_ge t j with h1 | h1
    · refine World.rangeAt_setCells_apart (h.marks t h1) _ _ _ (.inr (.inl ?_))
      show (ys.length + t) * 2 + 2 ≤ _
      omega
    · have e : t = j := by omega
      subst e
      exact World.rangeAt_setCells_same _ _ _ _ hth
theorem there_kept {S : Nat → Prop} {w w' : World} {g n : Nat} (h : w.there g 0 n) (hk : Kept S w w') (hS : ¬ S g) : w'.there g 0 n := fun i hi => by
  have h1 := h i hi
  cases hb : w.heap[g]? with
  | none =>
    have := h1.1
    simp [World.cell?, hb] at this
  | some ob =>
    have hb' := (hk.block g (Array.getElem?_eq_some_iff.1 hb).1 hS).trans hb
    unfold World.cell? World.frozen? at h1 ⊢
    simp only [hb, hb'] at h1 ⊢
    exact h1
theorem LentI.kept {S : Nat → Prop} {w w' : World} {g : Nat} {ys : List IN} {j : Nat} (h : LentI w g ys j) (hk : Kept S w w') (hS : ¬ S g) : LentI w' g ys j :=
  ⟨there_kept h.there hk hS, fun i y hy k u hu => hk.cell (h.ents i y hy k u hu) hS, fun t ht k u hu => hk.cell (h.marks t ht k u hu) hS⟩
theorem LentI.row {w : World} {g : Nat} {ys : List IN} {j c : Nat} (h : LentI w g ys j) : RowI w (.slice (some ⟨g, 0, none⟩) ys.length c) ys := by
  refine .inr ⟨g, 0, c, rfl, fun i y hy => ?_⟩
  rw [Nat.zero_add]
  exact h.ents i y hy
def zin (n : Nat) : Array Value := madeCells (Value.agg #[.int .i64 0, .int .i64 0]).cells n
theorem zin_size (n : Nat) : (zin n).size = n := size_madeCells _ n
theorem make_ins (W : World) (l : Nat) (h : l * 16 ≤ 140737488355328) : (Instr.makeSlice 76 (.int .i64 (l : Int)) (.int .i64 (l : Int))).run Tryz.prog W = .ok (.slice (some ⟨W.heap.size, 0, none⟩) l l) (W.alloc (.cells (zin (l * 2)) 75)) := by
  obtain ⟨i0, hi, hz0, hz1, hz2⟩ := info_parts Tryz.info75
  have := run_make (P := Tryz.prog) W 76 75 i0 _ Tryz.underlying76 hi hz0 .i64 .i64 (l : Int) (l : Int) (by omega) (by omega) (by rw [hz2]; omega) (by omega)
  rw [hz1] at this
  simpa [zin, Value.cells] using this
theorem run_copy52 (w : World) (ty : TypeId) (b dLen dCap : Nat) (a : Option Addr) (n sCap : Nat) (cs : List Value) (hn : cs.length = n * 2) (hle : n ≤ dLen) (ha : a = none → n = 0)
    (hsrc : ∀ ad, a = some ad → ∀ j v, cs[j]? = some v → w.cell? (ad.add j) = some v) (hth : w.there b 0 (n * 2)) (h1 : ∀ v ∈ cs, v.oneCell' = true) :
    (Builtin.copy_ #[76, 76] ty #[.slice (some ⟨b, 0, none⟩) dLen dCap, .slice a n sCap]).run Tryz.prog w = .ok (goInt n) (w.setCells b 0 cs) := by
  obtain ⟨i0, hi, hz0, hz1, hz2⟩ := info_parts Tryz.info75
  have hst := run_storeCells_cells (P := Tryz.prog) b 0 cs 0 w (fun j hj => by simpa using (hth j (by omega)).1) (fun j hj => by simpa using (hth j (by omega)).2) h1
  have hmin : Nat.min n dLen = n := Nat.min_eq_left hle
  cases a with
  | none =>
    have h0 := ha rfl
    subst h0
    have e : cs = [] := List.length_eq_zero_iff.1 (by omega)
    subst e
    simp [Builtin.copy_, run_underlying Tryz.underlying76, Builtin.lenOf, Builtin.firstCells, sizeOf, typeInfo, hi, hz1, hmin, storeCells, World.setCells]
  | some ad =>
    have hl := run_loadCells_list (P := Tryz.prog) w ad cs (hsrc ad rfl)
    rw [hn] at hl
    simp [Builtin.copy_, run_underlying Tryz.underlying76, Builtin.lenOf, Builtin.firstCells, sizeOf, typeInfo, hi, hz1, hmin, hl, hst]
theorem icells_one (ys : List IN) : ∀ u ∈ icells ys, u.oneCell' = true := by
  intro u hu
  obtain ⟨y, _, hy⟩ := List.mem_flatMap.1 hu
  simp [IN.cells] at hy
  rcases hy with rfl | rfl <;> rfl
theorem rowI_cells {w : World} {a : Addr} {c : Nat} {ys : List IN} (h : RowI w (.slice (some a) ys.length c) ys) : ∀ j v, (icells ys)[j]? = some v → w.cell? (a.add j) = some v := by
  intro j v hj
  have hl := (List.getElem?_eq_some_iff.1 hj).1
  rw [icells_length ys] at hl
  rcases h with ⟨e, _⟩ | ⟨g, o, c', e, hc⟩
  · rw [e] at hl; simp at hl
  · cases e
    have hq : j / 2 < ys.length := by omega
    obtain ⟨y, hyi⟩ : ∃ y, ys[j / 2]? = some y := ⟨_, List.getElem?_eq_getElem hq⟩
    have hat := icells_at ys (j / 2) y hyi (j % 2) (by omega)
    rw [show j / 2 * 2 + j % 2 = j by omega, hj] at hat
    have := hc (j / 2) y hyi (j % 2) v hat.symm
    rw [Addr.add_lit, show o + j = o + j / 2 * 2 + j % 2 by omega]
    exact this
theorem lendI_copy (w : World) (ao : Option Addr) (c : Nat) (ys : List IN) (hv : RowI w (.slice ao ys.length c) ys) : ∃ W', (Builtin.copy_ #[76, 76] 3 #[.slice (some ⟨w.heap.size, 0, none⟩) (ys.length + 67) (ys.length + 67), .slice ao ys.length c]).run Tryz.prog (w.alloc (.cells (zin ((ys.length + 67) * 2)) 75)) = .ok (goInt ys.length) W' ∧
    LentI W' w.heap.size ys 0 ∧ Kept (fun _ => False) w W' := by
  have hb := heap_alloc_new w (.cells (zin ((ys.length + 67) * 2)) 75)
  have hkA : Kept (fun _ => False) w (w.alloc (.cells (zin ((ys.length + 67) * 2)) 75)) := (Kept.refl _ _).alloc _
  have hvA := hv.kept hkA (fun _ _ f => f)
  have hth : (w.alloc (.cells (zin ((ys.length + 67) * 2)) 75)).there w.heap.size 0 ((ys.length + 67) * 2) := fun j hj => by
    refine ⟨?_, frozen_block _ _ _ _ _ hb⟩
    rw [cell_block _ _ _ _ _ _ hb, Array.getElem?_eq_getElem (by rw [zin_size]; omega)]
    rfl
  have hel : (icells ys).length = ys.length * 2 := by rw [icells_length]; omega
  have hr := run_copy52 (w.alloc (.cells (zin ((ys.length + 67) * 2)) 75)) 3 w.heap.size (ys.length + 67) (ys.length + 67) ao ys.length c (icells ys) hel (by omega) (fun e => by
    subst e
    rcases hv with ⟨e, _⟩ | ⟨g, o, c', e, _⟩
    · rw [e]; rfl
    · cases e) (fun ad e => by
    subst e
    exact rowI_cells hvA) (there_sub hth (by omega)) (icells_one ys)
  refine ⟨_, hr, ⟨World.there_setCells hth _ _ _, fun i y hi j u hj => ?_, fun t ht => absurd ht (by omega)⟩, hkA.step (kept_cells _ _ _ _) (fun i hi e => by omega)⟩
  have hj2 : j < 2 := by
    have := (List.getElem?_eq_some_iff.1 hj).1
    simpa [IN.cells] using this
  have hs := World.rangeAt_setCells_same (w.alloc (.cells (zin ((ys.length + 67) * 2)) 75)) w.heap.size 0 (icells ys) (there_sub hth (by rw [hel]; omega)) (i * 2 + j) u (by rw [icells_at ys i y hi j hj2, hj])
  rwa [Nat.zero_add] at hs

set_option maxHeartbeats 2000000 in
theorem lendI_any (ao : Option Addr) (c : Nat) (ys : List IN) (w : World) (hv : RowI w (.slice ao ys.length c) ys) (hn : (ys.length + 67) * 16 ≤ 140737488355328) :
    Calls Tryz.prog 27 #[.slice ao ys.length c] w fun e w' => e = .returned (.slice (some ⟨w.heap.size, 0, none⟩) ys.length (ys.length + 67)) ∧ LentI w' w.heap.size ys 67 ∧ Kept (fun _ => False) w w' := by
  obtain ⟨W', hcp, hl, hk⟩ := lendI_copy w ao c ys hv
  have mk := make_ins w (ys.length + 67) hn
  rw [show ((ys.length + 67 : Nat) : Int) = (ys.length : Int) + 67 from by omega] at mk
  have HL := hid_of hl
  have HK := hid_of hk
  obtain ⟨n, hN⟩ : ∃ n, n = ys.length := ⟨_, rfl⟩
  have HN := hid_of hN
  rw [← hN] at mk hcp hn ⊢
  clear hl hk hv hN
  go_enter Tryz.func27, Tryz.ntmps27
  go_wp2
  clear mk hcp
  go_loopw [4] (fun i wr => ∃ j : Nat, j ≤ 67 ∧ i = .int .i64 ((n + j : Nat) : Int) ∧ LentI wr w.heap.size ys j ∧ Kept (fun _ => False) w wr) (fun i _ => (n + 67) - (intOf i).toNat)
  case atStart => exact ⟨0, by omega, by simp, HL.out, HK.out⟩
  case round =>
    obtain ⟨j, hj, rfl, hLe, hKe⟩ := hrel
    obtain ⟨m, hm⟩ : ∃ m, m = n + j := ⟨_, rfl⟩
    by_cases hlt : j < 67
    · have hth : wr.there w.heap.size (m * 2) (#[.int .i64 (-9), .int .i64 (m : Int)] : Array Value).size := there_sub hLe.there (by show m * 2 + 2 ≤ _; rw [← HN.out]; omega)
      have hLS := hLe.step hlt
      rw [← HN.out, ← hm] at hLS
      have hjI : (m : Int) < (n : Int) + 67 := by omega
      have hm0 : (0 : Int) ≤ (m : Int) := by omega
      have HREL : Hid (LentI (wr.setCells w.heap.size (m * 2) (markI m).cells) w.heap.size ys (j + 1) ∧ Kept (fun _ => False) w (wr.setCells w.heap.size (m * 2) (markI m).cells)) := ⟨hLS, hKe.step (kept_cells _ _ _ _) (fun i hi e => by omega)⟩
      have HM := hid_of hm
      rw [← hm]
      clear hLe hKe HL HK hLS hm
      go_upto_region 5 with (refine wpList_store_mid rfl 75 _ _ rfl w.heap.size (m * 2) #[.int .i64 (-9), .int .i64 (m : Int)] rfl rfl hth size52 (two_one _ _ rfl rfl) ?_)
      have hmj := HM.out
      have HREL2 : Hid (LentI (wr.setCells w.heap.size (m * 2) (#[.int .i64 (-9), .int .i64 (m : Int)] : Array Value).toList) w.heap.size ys (j + 1) ∧ Kept (fun _ => False) w (wr.setCells w.heap.size (m * 2) (#[.int .i64 (-9), .int .i64 (m : Int)] : Array Value).toList)) := HREL.out
      generalize wr.setCells w.heap.size (m * 2) (#[.int .i64 (-9), .int .i64 (m : Int)] : Array Value).toList = w3 at *
      clear hth HREL
      go_wp2
      go_roundw
      case rel => exact ⟨j + 1, by omega, by rw [show n + (j + 1) = m + 1 by omega]; go_num, HREL2.out.1, HREL2.out.2⟩
      case measure => simp [intOf]; omega
    · obtain rfl : j = 67 := by omega
      have HLS := hid_of hLe
      have HKS := hid_of hKe
      clear hLe hKe HL HK hm
      go_wp2
      go_ret
      exact ⟨rfl, HLS.out, HKS.out⟩

/-- While lent instructions are written over. -/
def OverI (w wr : World) (g n : Nat) : Prop := wr.there g 0 n ∧ Kept (fun k => k = g) w wr

set_option maxHeartbeats 4000000 in
theorem heldI_any (g : Nat) (v : Value) (ys : List IN) (w : World) (hl : LentI w g ys 67) (hx : RowI w v ys) (hn : (ys.length + 67) * 16 ≤ 140737488355328) :
    Calls Tryz.prog 36 #[.slice (some ⟨g, 0, none⟩) ys.length (ys.length + 67), v] w fun e w' => e = .returned (.bool true) ∧ Kept (fun k => k = g) w w' := by
  have hS := same_any (.slice (some ⟨g, 0, none⟩) ys.length (ys.length + 67)) v ys ys w hl.row hx (by omega) (by omega)
  rw [sameI_refl] at hS
  obtain ⟨n, hN⟩ : ∃ n, n = ys.length := ⟨_, rfl⟩
  have HN := hid_of hN
  have HL := hid_of hl
  rw [← hN] at hS hn ⊢
  have HS := hid_of hS
  clear hl hx hS hN
  go_enter Tryz.func36, Tryz.ntmps36
  go_wp2_with fail
  refine HS.out.mono ?_
  rintro e w1 ⟨rfl, d1, rfl⟩
  have HL1 := hid_of (HL.out.kept (kept_drewN (Kept.refl (fun _ => False) w) d1) (fun f => f))
  have HK1 := hid_of (kept_drewN (Kept.refl (fun k => k = g) w) d1)
  clear HS HL
  generalize w.drewN d1 = w1 at *
  have hnI : (0 : Int) ≤ (n : Int) + 67 := by omega
  go_wp2
  go_loopw [5, 7] (fun ok i wr => ok = .bool true ∧ ∃ j : Nat, j ≤ 67 ∧ i = .int .i64 ((n + j : Nat) : Int) ∧ wr = w1) (fun _ i _ => (n + 67) - (intOf i).toNat)
  case atStart => exact ⟨rfl, 0, by omega, by simp, rfl⟩
  case round =>
    obtain ⟨rfl, j, hj, rfl, rfl⟩ := hrel
    obtain ⟨m, hm⟩ : ∃ m, m = n + j := ⟨_, rfl⟩
    by_cases hlt : j < 67
    · have hjI : (m : Int) < (n : Int) + 67 := by omega
      have hm0 : (0 : Int) ≤ (m : Int) := by omega
      have hR := HL1.out.marks j hlt
      rw [← HN.out, ← hm] at hR
      have c0 := hR 0 _ rfl
      have c1 := hR 1 _ rfl
      rw [show (markI m).op = -9 from rfl, show m * 2 + 0 = m * 2 from rfl] at c0
      rw [show (markI m).a = (m : Int) from rfl] at c1
      have hq : ∀ w, (binOp .eql 75 (.agg #[.int .i64 (-9), .int .i64 (m : Int)]) (.agg #[.int .i64 (-9), .int .i64 (m : Int)])).run Tryz.prog w = .ok (.bool true) w := fun w => by
        rw [run_eql52]
        simp
      have HM := hid_of hm
      rw [← hm]
      clear hm hR HL1
      go_wp2
      have hmj := HM.out
      go_roundw
      case rel => exact ⟨rfl, j + 1, by omega, by rw [show n + (j + 1) = m + 1 by omega]; go_num, trivial⟩
      case measure => simp [intOf]; omega
    · obtain rfl : j = 67 := by omega
      have HO : Hid (OverI w wr g ((n + 67) * 2)) := ⟨by rw [HN.out]; exact HL1.out.there, HK1.out⟩
      clear HL1 HK1 hm
      go_wp2
      go_loopw [8] (fun i wq => ∃ k : Nat, k ≤ n + 67 ∧ i = .int .i64 (k : Int) ∧ OverI w wq g ((n + 67) * 2)) (fun i _ => (n + 67) - (intOf i).toNat)
      case atStart => exact ⟨0, by omega, rfl, HO.out⟩
      case round =>
        obtain ⟨k, hk, rfl, hov⟩ := hrel
        by_cases hlt2 : k < n + 67
        · have hth : ∀ W : World, OverI w W g ((n + 67) * 2) → W.there g (k * 2) (#[.int .i64 77, .int .i64 (-7)] : Array Value).size := fun W h => there_sub h.1 (by show k * 2 + 2 ≤ _; omega)
          have hthk := hth _ hov
          have HOS : Hid (∀ W : World, OverI w W g ((n + 67) * 2) → OverI w (W.setCells g (k * 2) (#[.int .i64 77, .int .i64 (-7)] : Array Value).toList) g ((n + 67) * 2)) := fun W h => ⟨World.there_setCells h.1 _ _ _, h.2.trans (kept_cells _ _ _ _)⟩
          have HOV := hid_of hov
          have hkI : (k : Int) < (n : Int) + 67 := by omega
          clear hov HO hth
          go_wp2_with (refine wpList_store_mid rfl 75 _ _ rfl g (k * 2) #[.int .i64 77, .int .i64 (-7)] rfl rfl hthk size52 (two_one _ _ rfl rfl) ?_)
          go_roundw
          case rel => exact ⟨k + 1, by omega, by go_num, HOS.out _ HOV.out⟩
          case measure => simp [intOf]; omega
        · have HOS := hid_of hov
          clear hov HO
          go_wp2
          go_ret
          exact ⟨rfl, HOS.out.2⟩
end Go.Proofs.YtgoabnehdmdikaaGreatDoor
