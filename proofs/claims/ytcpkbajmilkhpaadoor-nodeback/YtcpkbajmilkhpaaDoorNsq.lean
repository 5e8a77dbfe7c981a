/-
  retortlaw5's Same by contract, as a call that only reads.
-/
import Derived.Test.YtcpkbajmilkhpaaDoorNsm
namespace Go.Proofs.YtcpkbajmilkhpaaDoor
open Go.RowKit
set_option linter.unusedVariables false
set_option linter.unusedSimpArgs false
set_option maxRecDepth 100000

set_option maxHeartbeats 2000000 in
theorem same_q (v u : Value) (ys zs : List EV) (w : World) (hv : RowE w v ys) (hu : RowE w u zs) (hy : ∀ y ∈ ys, y.fr.length ≤ 32) (hz : ∀ z ∈ zs, z.fr.length ≤ 32) (hl : ys.length ≤ 140737488355328) :
    Calls Tryd.prog 20 #[v, u] w fun e w' => e = .returned (.bool (sameL ys zs)) ∧ ∃ d, w' = w.drewN d := by
  obtain ⟨ao, c, rfl⟩ := hv.shape
  obtain ⟨ao', c', rfl⟩ := hu.shape
  have HV := hid_of hv
  have HU := hid_of hu
  have HY := hid_of hy
  have HZ := hid_of hz
  clear hv hu hy hz
  by_cases hne : ys.length = zs.length
  · obtain ⟨n, hn⟩ : ∃ n, n = ys.length := ⟨_, rfl⟩
    have HN := hid_of hn
    have HNE : Hid (zs.length = n) := by unfold Hid; rw [hn, hne]
    rw [← hn] at hl
    rw [← hne, ← hn]
    clear hn hne
    go_enter Tryd.func20, Tryd.ntmps20
    go_wp2
    go_loopw [5] (fun iv wr => ∃ i : Nat, i ≤ n ∧ iv = .int .i64 i ∧ (∃ d, wr = w.drewN d) ∧ sameL ys zs = sameL (ys.drop i) (zs.drop i)) (fun iv _ => n - (intOf iv).toNat)
    case atStart => exact ⟨0, by omega, rfl, ⟨0, rfl⟩, rfl⟩
    case round =>
      obtain ⟨i, hi, rfl, hdw, hs⟩ := hrel
      have hk : Kept (fun _ => False) w wr := by
        obtain ⟨d, hd⟩ := hdw
        rw [hd]
        exact kept_drewN (Kept.refl _ _) d
      have HDW := hid_of hdw
      clear hdw
      by_cases hlt : i < n
      · have hltI : (i : Int) < (n : Int) := by omega
        have hi0 : (0 : Int) ≤ (i : Int) := by omega
        have hly : i < ys.length := by rw [← HN.out]; exact hlt
        have hlz : i < zs.length := by rw [HNE.out]; exact hlt
        obtain ⟨y, hyi⟩ : ∃ y, ys[i]? = some y := ⟨_, List.getElem?_eq_getElem hly⟩
        obtain ⟨z, hzi⟩ : ∃ z, zs[i]? = some z := ⟨_, List.getElem?_eq_getElem hlz⟩
        have hy32 := HY.out y (List.mem_of_getElem? hyi)
        have hz32 := HZ.out z (List.mem_of_getElem? hzi)
        obtain ⟨g, o, e1, r1⟩ : ∃ g o, ao = some ⟨g, o, none⟩ ∧ wr.rangeAt g (o + i * 34) y.cells := by
          rcases HV.out.kept hk (fun _ _ f => f) with ⟨e, _⟩ | ⟨g, o, c2, e, hc⟩
          · rw [e] at hly; simp at hly
          · cases e; exact ⟨g, o, rfl, hc i y hyi⟩
        obtain ⟨g', o', e2, r2⟩ : ∃ g o, ao' = some ⟨g, o, none⟩ ∧ wr.rangeAt g (o + i * 34) z.cells := by
          rcases HU.out.kept hk (fun _ _ f => f) with ⟨e, _⟩ | ⟨g, o, c2, e, hc⟩
          · rw [e] at hlz; simp at hlz
          · cases e; exact ⟨g, o, rfl, hc i z hzi⟩
        subst e1
        subst e2
        rw [sameL_drop ys zs i y z hyi hzi] at hs
        obtain ⟨q, hq⟩ : ∃ q, q = eqE y z := ⟨_, rfl⟩
        rw [← hq] at hs
        have hsz : (Tryd.prog.info? 47).map (·.size) = some y.cells.length := by rw [size47, EV.clen y hy32]
        have hsz' : (Tryd.prog.info? 47).map (·.size) = some z.cells.length := by rw [size47, EV.clen z hz32]
        have HQ := hid_of hq
        have HS := hid_of hs
        have HKD : Hid (∃ d, wr.drew = w.drewN d) := by
          obtain ⟨d, hd⟩ := HDW.out
          exact ⟨d + 1, by rw [hd]; rfl⟩
        have HR : Hid (wr.rangeAt g (o + i * 34) y.cells ∧ wr.rangeAt g' (o' + i * 34) z.cells) := ⟨r1, r2⟩
        clear hyi hzi hly hlz hk r1 r2 hs hq
        go_upto_region 6 with fail
        refine wp_region_held_drew (S := fun w' => w'.rangeAt g (o + i * 34) y.cells ∧ w'.rangeAt g' (o' + i * 34) z.cells) (by kernel_rfl) HR.out (fun hHeld => ?_)
        refine wpAnyH_take (i := 0) (v := ?_) rfl (by kernel_rfl) (by kernel_rfl) (by kernel_rfl) (fun _ _ _ h => h) (Or.inl ⟨by rfl, ?_⟩) (by assumption) ?_
        rotate_left 1
        · intro w hSw
          go_simp
          try with_reducible rfl
        try simp only [Act.put, List.getElem_toArray, List.getElem_cons_zero, List.getElem_cons_succ, List.setIfInBounds_toArray, List.set_cons_zero, List.set_cons_succ]
        refine wpAnyH_take (i := 1) (v := ?_) rfl (by kernel_rfl) (by kernel_rfl) (by kernel_rfl) (fun _ _ _ h => h) (Or.inl ⟨by rfl, ?_⟩) (by assumption) ?_
        rotate_left 1
        · intro w hSw
          go_simp
          try with_reducible rfl
        try simp only [Act.put, List.getElem_toArray, List.getElem_cons_zero, List.getElem_cons_succ, List.setIfInBounds_toArray, List.set_cons_zero, List.set_cons_succ]
        refine wpAnyH_take (i := 2) (v := ?_) rfl (by kernel_rfl) (by kernel_rfl) (by kernel_rfl) (fun _ _ _ h => h) (Or.inl ⟨by rfl, ?_⟩) (by assumption) ?_
        rotate_left 1
        · intro w hSw
          go_simp
          try with_reducible rfl
        try simp only [Act.put, List.getElem_toArray, List.getElem_cons_zero, List.getElem_cons_succ, List.setIfInBounds_toArray, List.set_cons_zero, List.set_cons_succ]
        refine wpAnyH_take (i := 3) (v := .agg y.cells.toArray) rfl (by kernel_rfl) (by kernel_rfl) (by kernel_rfl) (fun _ _ _ h => h) (yieldsIf_load_mid (by rfl) 47 _ rfl g (o + i * 34) rfl y.cells _ (fun w hSw => hSw.1) Tryd.underlying47 rfl hsz) (by assumption) ?_
        try simp only [Act.put, List.getElem_toArray, List.getElem_cons_zero, List.getElem_cons_succ, List.setIfInBounds_toArray, List.set_cons_zero, List.set_cons_succ]
        refine wpAnyH_take (i := 4) (v := ?_) rfl (by kernel_rfl) (by kernel_rfl) (by kernel_rfl) (fun _ _ _ h => h) (Or.inl ⟨by rfl, ?_⟩) (by assumption) ?_
        rotate_left 1
        · intro w hSw
          go_simp
          try with_reducible rfl
        try simp only [Act.put, List.getElem_toArray, List.getElem_cons_zero, List.getElem_cons_succ, List.setIfInBounds_toArray, List.set_cons_zero, List.set_cons_succ]
        refine wpAnyH_take (i := 5) (v := ?_) rfl (by kernel_rfl) (by kernel_rfl) (by kernel_rfl) (fun _ _ _ h => h) (Or.inl ⟨by rfl, ?_⟩) (by assumption) ?_
        rotate_left 1
        · intro w hSw
          go_simp
          try with_reducible rfl
        try simp only [Act.put, List.getElem_toArray, List.getElem_cons_zero, List.getElem_cons_succ, List.setIfInBounds_toArray, List.set_cons_zero, List.set_cons_succ]
        refine wpAnyH_take (i := 6) (v := ?_) rfl (by kernel_rfl) (by kernel_rfl) (by kernel_rfl) (fun _ _ _ h => h) (Or.inl ⟨by rfl, ?_⟩) (by assumption) ?_
        rotate_left 1
        · intro w hSw
          go_simp
          try with_reducible rfl
        try simp only [Act.put, List.getElem_toArray, List.getElem_cons_zero, List.getElem_cons_succ, List.setIfInBounds_toArray, List.set_cons_zero, List.set_cons_succ]
        refine wpAnyH_take (i := 7) (v := .agg z.cells.toArray) rfl (by kernel_rfl) (by kernel_rfl) (by kernel_rfl) (fun _ _ _ h => h) (yieldsIf_load_mid (by rfl) 47 _ rfl g' (o' + i * 34) rfl z.cells _ (fun w hSw => hSw.2) Tryd.underlying47 rfl hsz') (by assumption) ?_
        try simp only [Act.put, List.getElem_toArray, List.getElem_cons_zero, List.getElem_cons_succ, List.setIfInBounds_toArray, List.set_cons_zero, List.set_cons_succ]
        refine wpAnyH_take (i := 8) (v := .bool (!eqE y z)) rfl (by kernel_rfl) (by kernel_rfl) (by kernel_rfl) (fun _ _ _ h => h) (yields_neq47 (by rfl) _ _ rfl y z hy32 hz32 rfl rfl) (by assumption) ?_
        try simp only [Act.put, List.getElem_toArray, List.getElem_cons_zero, List.getElem_cons_succ, List.setIfInBounds_toArray, List.set_cons_zero, List.set_cons_succ]
        refine wpAnyH_done (by kernel_rfl) ?_ _
        have hqb : (!eqE y z) = !q := by rw [← HQ.out]
        rw [hqb]
        clear hqb
        cases q
        · go_wp2
          go_ret
          exact ⟨by rw [HS.out]; rfl, HKD.out⟩
        · go_wp2
          go_roundw
          case rel => exact ⟨i + 1, by omega, by go_num, HKD.out, by rw [HS.out, Bool.true_and]⟩
          case measure => simp [intOf]; omega
      · have hnl : ¬ ((i : Int) < (n : Int)) := by omega
        have hie : i = n := by omega
        subst hie
        have HS : Hid (sameL ys zs = true) := by
          unfold Hid
          rw [hs, List.drop_of_length_le (by rw [HN.out]; exact Nat.le_refl _), List.drop_of_length_le (by rw [HNE.out]; exact Nat.le_refl _)]
          rfl
        clear hk hs
        go_wp2
        go_ret
        exact ⟨by rw [HS.out]; rfl, HDW.out⟩
  · have HE := hid_of (sameL_len ys zs hne)
    obtain ⟨n, hn⟩ : ∃ n, n = ys.length := ⟨_, rfl⟩
    obtain ⟨m, hm⟩ : ∃ m, m = zs.length := ⟨_, rfl⟩
    rw [← hn, ← hm] at hne ⊢
    have hnm : ((n : Int) == (m : Int)) = false := by rw [beq_eq_false_iff_ne]; omega
    have hnm2 : ((n : Int) != (m : Int)) = true := by rw [bne_iff_ne]; omega
    clear hn hm hne
    go_enter Tryd.func20, Tryd.ntmps20
    go_wp2
    go_ret
    exact ⟨by rw [HE.out]; rfl, ⟨0, rfl⟩⟩
end Go.Proofs.YtcpkbajmilkhpaaDoor
