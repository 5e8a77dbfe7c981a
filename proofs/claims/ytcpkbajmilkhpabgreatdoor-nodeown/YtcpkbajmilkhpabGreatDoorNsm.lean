/-
  retortlaw5's Same by contract.
-/
import Derived.Test.YtcpkbajmilkhpabGreatDoorNeq
import Derived.Deep.MidRow
import Derived.Deep.RegionHeld3
namespace Go.Proofs.YtcpkbajmilkhpabGreatDoor
open Go.RowKit
set_option linter.unusedVariables false
set_option linter.unusedSimpArgs false
set_option maxRecDepth 100000

/-- A value is a slice of entries. -/
def RowE (w : World) (v : Value) (ys : List EV) : Prop :=
  (ys = [] ∧ ∃ ao c, v = .slice ao 0 c) ∨ ∃ g o c, v = .slice (some ⟨g, o, none⟩) ys.length c ∧ ∀ i y, ys[i]? = some y → w.rangeAt g (o + i * 34) y.cells
theorem RowE.shape {w : World} {v : Value} {ys : List EV} (h : RowE w v ys) : ∃ ao c, v = .slice ao ys.length c := by
  rcases h with ⟨rfl, ao, c, rfl⟩ | ⟨g, o, c, rfl, _⟩
  · exact ⟨ao, c, rfl⟩
  · exact ⟨_, c, rfl⟩
theorem RowE.kept {S : Nat → Prop} {w w' : World} {v : Value} {ys : List EV} (h : RowE w v ys) (hk : Kept S w w') (hS : ∀ g, v.ownBlock = some g → ¬ S g) : RowE w' v ys := by
  rcases h with h | ⟨g, o, c, rfl, hc⟩
  · exact .inl h
  · exact .inr ⟨g, o, c, rfl, fun i y hy j u hj => hk.cell (hc i y hy j u hj) (hS g rfl)⟩

theorem ents_at : ∀ (ys : List EV) (_ : ∀ y ∈ ys, y.fr.length ≤ 32) (i : Nat) (y : EV), ys[i]? = some y → ∀ j, j < 34 → (ents ys)[i * 34 + j]? = y.cells[j]?
  | [], _, i, y, h, _, _ => by simp at h
  | z :: zs, hz, 0, y, h, j, hj => by
    simp at h
    subst h
    rw [Nat.zero_mul, Nat.zero_add]
    show (z.cells ++ ents zs)[j]? = _
    rw [List.getElem?_append_left (by rw [EV.clen z (hz z (List.mem_cons_self ..))]; exact hj)]
  | z :: zs, hz, i + 1, y, h, j, hj => by
    have h' : zs[i]? = some y := by simpa using h
    have ih := ents_at zs (fun y hy => hz y (List.mem_cons_of_mem _ hy)) i y h' j hj
    have hl := EV.clen z (hz z (List.mem_cons_self ..))
    show (z.cells ++ ents zs)[(i + 1) * 34 + j]? = _
    rw [List.getElem?_append_right (by rw [hl]; omega), hl, show (i + 1) * 34 + j - 34 = i * 34 + j by omega]
    exact ih

theorem rowE_own {w : World} {base : Nat} {v : Value} {ys : List EV} (h : w.ownsRow base 41 34 v ys.length (ents ys)) (hy : ∀ y ∈ ys, y.fr.length ≤ 32) : RowE w v ys := by
  rcases h.2 with ⟨rfl, h0⟩ | ⟨g, cap, cur, rfl, hrest⟩
  · exact .inl ⟨List.length_eq_zero_iff.1 h0, _, _, by rw [h0] at *⟩
  · refine .inr ⟨g, 0, cap, rfl, fun i y hi j u hj => ?_⟩
    have hil : i < ys.length := (List.getElem?_eq_some_iff.1 hi).1
    have hj34 : j < 34 := by
      have := (List.getElem?_eq_some_iff.1 hj).1
      rwa [EV.clen y (hy y (List.mem_of_getElem? hi))] at this
    have hb : i * 34 + j < ys.length * 34 := by
      have : (i + 1) * 34 ≤ ys.length * 34 := Nat.mul_le_mul_right _ hil
      omega
    rw [show 0 + i * 34 + j = i * 34 + j by omega, h.cellAt _ hb, ents_at ys hy i y hi j hj34, hj]

/-- Are the lists the same? -/
def sameL : List EV → List EV → Bool
  | [], [] => true
  | y :: ys, z :: zs => eqE y z && sameL ys zs
  | _, _ => false
theorem sameL_refl : ∀ ys : List EV, sameL ys ys = true
  | [] => rfl
  | y :: ys => by rw [sameL, eqE_refl, sameL_refl ys]; rfl
theorem sameL_len : ∀ ys zs : List EV, ys.length ≠ zs.length → sameL ys zs = false
  | [], [], h => absurd rfl h
  | [], _ :: _, _ => rfl
  | _ :: _, [], _ => rfl
  | y :: ys, z :: zs, h => by
    rw [sameL, sameL_len ys zs (by simpa using h), Bool.and_false]
theorem sameL_drop : ∀ (ys zs : List EV) (i : Nat) (y z : EV), ys[i]? = some y → zs[i]? = some z → sameL (ys.drop i) (zs.drop i) = (eqE y z && sameL (ys.drop (i + 1)) (zs.drop (i + 1)))
  | [], _, i, _, _, h, _ => by simp at h
  | _ :: _, [], i, _, _, _, h => by simp at h
  | a :: ys, b :: zs, 0, y, z, h1, h2 => by
    simp at h1 h2
    subst h1
    subst h2
    rfl
  | a :: ys, b :: zs, i + 1, y, z, h1, h2 => by
    have := sameL_drop ys zs i y z (by simpa using h1) (by simpa using h2)
    simpa using this

theorem guard47 : Tryz.prog.eqGuardType Tryz.prog.depth 41 = false := by kernel_rfl
theorem yields_neq47 {ops : Array Oper} {S : World → Prop} {o : Oper} {a : Act} (hw : Region.wanted o (yielded ops a.tmps) = true) (x y : Operand) (ho : o.op = .binOp .neq 41 x y 41) (Y Z : EV) (hY : Y.fr.length ≤ 32) (hZ : Z.fr.length ≤ 32) (hx : a.eval x = .agg Y.cells.toArray) (hy : a.eval y = .agg Z.cells.toArray) :
    YieldsIf Tryz.prog ops S o (.bool (!eqE Y Z)) a :=
  .inl ⟨hw, fun w _ => by
    unfold execOp
    simp only [ho, hx, hy, Sem.run_bind, Sem.run_pure, run_eqGuard_agg w .neq 41 _ _ _ _ guard47, run_neq47 w Y Z hY hZ, Result.andThen_ok]⟩

set_option maxHeartbeats 2000000 in
theorem same_any (v u : Value) (ys zs : List EV) (w : World) (hv : RowE w v ys) (hu : RowE w u zs) (hy : ∀ y ∈ ys, y.fr.length ≤ 32) (hz : ∀ z ∈ zs, z.fr.length ≤ 32) (hl : ys.length ≤ 140737488355328) :
    Calls Tryz.prog 12 #[v, u] w fun e w' => e = .returned (.bool (sameL ys zs)) ∧ Kept (fun _ => False) w w' := by
  obtain ⟨ao, c, rfl⟩ := hv.shape
  obtain ⟨ao', c', rfl⟩ := hu.shape
  have HV := hid_of hv
  have HU := hid_of hu
  have HY := hid_of hy
  have HZ := hid_of hz
  clear hv hu hy hz
  by_cases hne : ys.length = zs.length
  · obtain ⟨n, hn⟩ : ∃ n, n = ys.length := ⟨_, rfl⟩
    have HN := hid_of hn
    have HNE : Hid (zs.length = n) := by unfold Hid; rw [hn, hne]
    rw [← hn] at hl
    rw [← hne, ← hn]
    clear hn hne
    go_enter Tryz.func12, Tryz.ntmps12
    go_wp2
    go_loopw [5] (fun iv wr => ∃ i : Nat, i ≤ n ∧ iv = .int .i64 i ∧ Kept (fun _ => False) w wr ∧ sameL ys zs = sameL (ys.drop i) (zs.drop i)) (fun iv _ => n - (intOf iv).toNat)
    case atStart => exact ⟨0, by omega, rfl, Kept.refl _ _, rfl⟩
    case round =>
      obtain ⟨i, hi, rfl, hk, hs⟩ := hrel
      by_cases hlt : i < n
      · have hltI : (i : Int) < (n : Int) := by omega
        have hi0 : (0 : Int) ≤ (i : Int) := by omega
        have hly : i < ys.length := by rw [← HN.out]; exact hlt
        have hlz : i < zs.length := by rw [HNE.out]; exact hlt
        obtain ⟨y, hyi⟩ : ∃ y, ys[i]? = some y := ⟨_, List.getElem?_eq_getElem hly⟩
        obtain ⟨z, hzi⟩ : ∃ z, zs[i]? = some z := ⟨_, List.getElem?_eq_getElem hlz⟩
        have hy32 := HY.out y (List.mem_of_getElem? hyi)
        have hz32 := HZ.out z (List.mem_of_getElem? hzi)
        obtain ⟨g, o, e1, r1⟩ : ∃ g o, ao = some ⟨g, o, none⟩ ∧ wr.rangeAt g (o + i * 34) y.cells := by
          rcases HV.out.kept hk (fun _ _ f => f) with ⟨e, _⟩ | ⟨g, o, c2, e, hc⟩
          · rw [e] at hly; simp at hly
          · cases e; exact ⟨g, o, rfl, hc i y hyi⟩
        obtain ⟨g', o', e2, r2⟩ : ∃ g o, ao' = some ⟨g, o, none⟩ ∧ wr.rangeAt g (o + i * 34) z.cells := by
          rcases HU.out.kept hk (fun _ _ f => f) with ⟨e, _⟩ | ⟨g, o, c2, e, hc⟩
          · rw [e] at hlz; simp at hlz
          · cases e; exact ⟨g, o, rfl, hc i z hzi⟩
        subst e1
        subst e2
        rw [sameL_drop ys zs i y z hyi hzi] at hs
        obtain ⟨q, hq⟩ : ∃ q, q = eqE y z := ⟨_, rfl⟩
        rw [← hq] at hs
        have hsz : (Tryz.prog.info? 41).map (·.size) = some y.cells.length := by rw [size47, EV.clen y hy32]
        have hsz' : (Tryz.prog.info? 41).map (·.size) = some z.cells.length := by rw [size47, EV.clen z hz32]
        have HQ := hid_of hq
        have HS := hid_of hs
        have HKD : Hid (Kept (fun _ => False) w wr.drew) := hk.drew
        have HR : Hid (wr.rangeAt g (o + i * 34) y.cells ∧ wr.rangeAt g' (o' + i * 34) z.cells) := ⟨r1, r2⟩
        clear hyi hzi hly hlz hk r1 r2 hs hq
        go_upto_region 6 with fail
        refine wp_region_held_drew (S := fun w' => w'.rangeAt g (o + i * 34) y.cells ∧ w'.rangeAt g' (o' + i * 34) z.cells) (by kernel_rfl) HR.out (fun hHeld => ?_)
        refine wpAnyH_take (i := 0) (v := ?_) rfl (by kernel_rfl) (by kernel_rfl) (by kernel_rfl) (fun _ _ _ h => h) (Or.inl ⟨by rfl, ?_⟩) (by assumption) ?_
        rotate_left 1
        · intro w hSw
          go_simp
          try with_reducible rfl
        try simp only [Act.put, List.getElem_toArray, List.getElem_cons_zero, List.getElem_cons_succ, List.setIfInBounds_toArray, List.set_cons_zero, List.set_cons_succ]
        refine wpAnyH_take (i := 1) (v := ?_) rfl (by kernel_rfl) (by kernel_rfl) (by kernel_rfl) (fun _ _ _ h => h) (Or.inl ⟨by rfl, ?_⟩) (by assumption) ?_
        rotate_left 1
        · intro w hSw
          go_simp
          try with_reducible rfl
        try simp only [Act.put, List.getElem_toArray, List.getElem_cons_zero, List.getElem_cons_succ, List.setIfInBounds_toArray, List.set_cons_zero, List.set_cons_succ]
        refine wpAnyH_take (i := 2) (v := ?_) rfl (by kernel_rfl) (by kernel_rfl) (by kernel_rfl) (fun _ _ _ h => h) (Or.inl ⟨by rfl, ?_⟩) (by assumption) ?_
        rotate_left 1
        · intro w hSw
          go_simp
          try with_reducible rfl
        try simp only [Act.put, List.getElem_toArray, List.getElem_cons_zero, List.getElem_cons_succ, List.setIfInBounds_toArray, List.set_cons_zero, List.set_cons_succ]
        refine wpAnyH_take (i := 3) (v := .agg y.cells.toArray) rfl (by kernel_rfl) (by kernel_rfl) (by kernel_rfl) (fun _ _ _ h => h) (yieldsIf_load_mid (by rfl) 41 _ rfl g (o + i * 34) rfl y.cells _ (fun w hSw => hSw.1) Tryz.underlying41 rfl hsz) (by assumption) ?_
        try simp only [Act.put, List.getElem_toArray, List.getElem_cons_zero, List.getElem_cons_succ, List.setIfInBounds_toArray, List.set_cons_zero, List.set_cons_succ]
        refine wpAnyH_take (i := 4) (v := ?_) rfl (by kernel_rfl) (by kernel_rfl) (by kernel_rfl) (fun _ _ _ h => h) (Or.inl ⟨by rfl, ?_⟩) (by assumption) ?_
        rotate_left 1
        · intro w hSw
          go_simp
          try with_reducible rfl
        try simp only [Act.put, List.getElem_toArray, List.getElem_cons_zero, List.getElem_cons_succ, List.setIfInBounds_toArray, List.set_cons_zero, List.set_cons_succ]
        refine wpAnyH_take (i := 5) (v := ?_) rfl (by kernel_rfl) (by kernel_rfl) (by kernel_rfl) (fun _ _ _ h => h) (Or.inl ⟨by rfl, ?_⟩) (by assumption) ?_
        rotate_left 1
        · intro w hSw
          go_simp
          try with_reducible rfl
        try simp only [Act.put, List.getElem_toArray, List.getElem_cons_zero, List.getElem_cons_succ, List.setIfInBounds_toArray, List.set_cons_zero, List.set_cons_succ]
        refine wpAnyH_take (i := 6) (v := ?_) rfl (by kernel_rfl) (by kernel_rfl) (by kernel_rfl) (fun _ _ _ h => h) (Or.inl ⟨by rfl, ?_⟩) (by assumption) ?_
        rotate_left 1
        · intro w hSw
          go_simp
          try with_reducible rfl
        try simp only [Act.put, List.getElem_toArray, List.getElem_cons_zero, List.getElem_cons_succ, List.setIfInBounds_toArray, List.set_cons_zero, List.set_cons_succ]
        refine wpAnyH_take (i := 7) (v := .agg z.cells.toArray) rfl (by kernel_rfl) (by kernel_rfl) (by kernel_rfl) (fun _ _ _ h => h) (yieldsIf_load_mid (by rfl) 41 _ rfl g' (o' + i * 34) rfl z.cells _ (fun w hSw => hSw.2) Tryz.underlying41 rfl hsz') (by assumption) ?_
        try simp only [Act.put, List.getElem_toArray, List.getElem_cons_zero, List.getElem_cons_succ, List.setIfInBounds_toArray, List.set_cons_zero, List.set_cons_succ]
        refine wpAnyH_take (i := 8) (v := .bool (!eqE y z)) rfl (by kernel_rfl) (by kernel_rfl) (by kernel_rfl) (fun _ _ _ h => h) (yields_neq47 (by rfl) _ _ rfl y z hy32 hz32 rfl rfl) (by assumption) ?_
        try simp only [Act.put, List.getElem_toArray, List.getElem_cons_zero, List.getElem_cons_succ, List.setIfInBounds_toArray, List.set_cons_zero, List.set_cons_succ]
        refine wpAnyH_done (by kernel_rfl) ?_ _
        have hqb : (!eqE y z) = !q := by rw [← HQ.out]
        rw [hqb]
        clear hqb
        cases q
        · go_wp2
          go_ret
          exact ⟨by rw [HS.out]; rfl, HKD.out⟩
        · go_wp2
          go_roundw
          case rel => exact ⟨i + 1, by omega, by go_num, HKD.out, by rw [HS.out, Bool.true_and]⟩
          case measure => simp [intOf]; omega
      · have hnl : ¬ ((i : Int) < (n : Int)) := by omega
        have hie : i = n := by omega
        subst hie
        have HS : Hid (sameL ys zs = true) := by
          unfold Hid
          rw [hs, List.drop_of_length_le (by rw [HN.out]; exact Nat.le_refl _), List.drop_of_length_le (by rw [HNE.out]; exact Nat.le_refl _)]
          rfl
        have HK := hid_of hk
        clear hk hs
        go_wp2
        go_ret
        exact ⟨by rw [HS.out]; rfl, HK.out⟩
  · have HE := hid_of (sameL_len ys zs hne)
    obtain ⟨n, hn⟩ : ∃ n, n = ys.length := ⟨_, rfl⟩
    obtain ⟨m, hm⟩ : ∃ m, m = zs.length := ⟨_, rfl⟩
    rw [← hn, ← hm] at hne ⊢
    have hnm : ((n : Int) == (m : Int)) = false := by rw [beq_eq_false_iff_ne]; omega
    have hnm2 : ((n : Int) != (m : Int)) = true := by rw [bne_iff_ne]; omega
    clear hn hm hne
    go_enter Tryz.func12, Tryz.ntmps12
    go_wp2
    go_ret
    exact ⟨by rw [HE.out]; rfl, Kept.refl _ _⟩
end Go.Proofs.YtcpkbajmilkhpabGreatDoor
