/-
  The reference's With by contract.
-/
import Derived.Test.YtcpkbajmilkhpabGreatDoorNec
import Derived.Test.YtcpkbajmilkhpabGreatDoorNrf
import Derived.Deep.RegionHeld3
namespace Go.Proofs.YtcpkbajmilkhpabGreatDoor
open Go.RowKit
set_option linter.unusedVariables false
set_option linter.unusedSimpArgs false
set_option maxRecDepth 100000

theorem with_drop (x : EV) (p : Bool) (ys : List EV) (i : Nat) (y : EV) (h : ys[i]? = some y) : withL x p (ys.drop i) = (if p = false ∧ lessB y.nm x.nm = false then [x] else []) ++ ((if nmEq y x.nm = true then [] else [y]) ++ withL x (p || !lessB y.nm x.nm) (ys.drop (i + 1))) := by
  obtain ⟨hl, rfl⟩ := List.getElem?_eq_some_iff.1 h
  rw [List.drop_eq_getElem_cons hl]
  rfl
theorem owns_low {w : World} {b : Nat} {v : Value} {n : Nat} {xs : List Value} (h : w.ownsRow (b + 1) 41 34 v n xs) : w.ownsRow b 41 34 v n xs := by
  refine ⟨h.1, ?_⟩
  rcases h.2 with h | ⟨g, cap, cur, e, hb, r⟩
  · exact .inl h
  · exact .inr ⟨g, cap, cur, e, by omega, r⟩

set_option maxHeartbeats 4000000 in
theorem with_ref (ao : Option Addr) (c : Nat) (ys : List EV) (x : EV) (w : World) (hv : RowE w (.slice ao ys.length c) ys) (hy : ∀ y ∈ ys, y.fr.length ≤ 32) (hyn : ∀ y ∈ ys, (∀ b ∈ y.nm, 0 ≤ b ∧ b ≤ 255) ∧ y.nm.length ≤ 140737488351232) (hn : ys.length ≤ 1000000) (hx32 : x.fr.length ≤ 32) (hxn : ∀ b ∈ x.nm, 0 ≤ b ∧ b ≤ 255) (hxl : x.nm.length ≤ 140737488351232) :
    Calls Tryz.prog 14 #[.slice ao ys.length c, .agg x.cells.toArray] w fun e w' => RowOut w (withL x false ys) e w' := by
  obtain ⟨n, hN⟩ : ∃ n, n = ys.length := ⟨_, rfl⟩
  have HN := hid_of hN
  have HV := hid_of hv
  have HY := hid_of hy
  have HYN := hid_of hyn
  have HX32 := hid_of hx32
  have HXN := hid_of hxn
  have HXLL := hid_of hxl
  have HXLn := hid_of (EV.clen x hx32)
  have HXS : Hid ((Tryz.prog.info? 41).map (·.size) = some x.cells.toArray.size) := by unfold Hid; rw [size47, List.size_toArray, HXLn.out]
  rw [← hN] at hn ⊢
  clear hv hy hN hyn hx32 hxn hxl
  have hb := heap_alloc_new w (.cells x.cells.toArray 41)
  have hkA : Kept (fun _ => False) w (w.alloc (.cells x.cells.toArray 41)) := (Kept.refl _ _).alloc _
  go_enter Tryz.func14, Tryz.ntmps14
  go_upto_region 1 with (refine Go.Great.wpList_boxTo rfl 41 _ rfl _ rfl w.heap.size rfl x.cells.toArray rfl ?_)
  generalize w.alloc (.cells x.cells.toArray 41) = wB at *
  have HBB := hid_of hb
  have HKB := hid_of hkA
  clear hb hkA
  go_wp2
  go_loopw [5, 6, 7] (fun ov pv iv wr => ∃ (i m : Nat) (p : Bool) (ou : List EV) (ao' : Option Addr) (cp : Nat), i ≤ n ∧ m ≤ 2 * i ∧ iv = .int .i64 i ∧ pv = .bool p ∧ ov = .slice ao' m cp ∧ m = ou.length ∧ withL x false ys = ou ++ withL x p (ys.drop i) ∧ wr.ownsRow (w.heap.size + 1) 41 34 (.slice ao' m cp) m (ents ou) ∧ Kept (fun _ => False) w wr ∧ wr.heap[w.heap.size]? = some (.cells x.cells.toArray 41 (0, 0))) (fun _ _ iv _ => n - (intOf iv).toNat)
  case atStart => exact ⟨0, 0, false, [], none, 0, Nat.zero_le _, Nat.le_refl _, rfl, rfl, rfl, rfl, rfl, World.ownsRow_nil _ _ _ _, HKB.out, HBB.out⟩
  case round =>
    obtain ⟨i, m, p, ou, ao', cp, hi, hm2, rfl, rfl, rfl, hm, ht, ho, hk, hX⟩ := hrel
    have HM := hid_of hm
    have HOW := hid_of ho
    have HK := hid_of hk
    have HX := hid_of hX
    by_cases hlt : i < n
    · have hltI : (i : Int) < (n : Int) := by omega
      have hi0 : (0 : Int) ≤ (i : Int) := by omega
      have hly : i < ys.length := by rw [← HN.out]; exact hlt
      obtain ⟨y, hyi⟩ : ∃ y, ys[i]? = some y := ⟨_, List.getElem?_eq_getElem hly⟩
      have HY32 := hid_of (HY.out y (List.mem_of_getElem? hyi))
      have hyl := EV.clen y HY32.out
      obtain ⟨g, o, e1, r1⟩ : ∃ g o, ao = some ⟨g, o, none⟩ ∧ w.rangeAt g (o + i * 34) y.cells := by
        rcases HV.out with ⟨e, _⟩ | ⟨g, o, c2, e, hc⟩
        · rw [e] at hly; simp at hly
        · cases e; exact ⟨g, o, rfl, hc i y hyi⟩
      subst e1
      have HSZ : Hid ((Tryz.prog.info? 41).map (·.size) = some y.cells.length) := by unfold Hid; rw [size47, hyl]
      have HRW : Hid (∀ W, Kept (fun _ => False) w W → W.rangeAt g (o + i * 34) y.cells) := fun W hW j u hj => hW.cell (r1 j u hj) (fun f => f)
      have HSW : Hid (∀ W, Kept (fun _ => False) w W → W.heap[w.heap.size]? = some (.cells x.cells.toArray 41 (0, 0)) → W.cell? ⟨w.heap.size, 0, none⟩ = some (.string (str x.nm)) ∧ W.cell? ⟨g, o + i * 34, none⟩ = some (.string (str y.nm))) := fun W hW hB => ⟨by rw [cell_block _ _ _ _ _ _ hB]; rfl, by have := HRW.out W hW 0 (.string (str y.nm)) rfl; rwa [Nat.add_zero] at this⟩
      have HXL : Hid (w.heap.size < wr.heap.size) := (Array.getElem?_eq_some_iff.1 hX).1
      have HD : Hid (Kept (fun _ => False) wr wr.drew) := (Kept.refl _ _).drew
      have HSX : Hid (∀ W, Kept (fun _ => False) wr W → W.cell? ⟨w.heap.size, 0, none⟩ = some (.string (str x.nm)) ∧ W.cell? ⟨g, o + i * 34, none⟩ = some (.string (str y.nm))) := fun W hW => HSW.out W (hk.trans hW) ((hW.block w.heap.size HXL.out (fun f => f)).trans hX)
      have hyb := HYN.out y (List.mem_of_getElem? hyi)
      have hAB : ∀ W, Calls Tryz.prog 34 #[.string (str x.nm), .string (str y.nm)] W fun e w' => e = .returned (.bool (lessB y.nm x.nm)) ∧ ∃ n, w' = W.drewN n := fun W => by
        have := above_ref x.nm y.nm W HXN.out hyb.1 HXLL.out hyb.2
        rw [above_lessB x.nm y.nm HXN.out hyb.1] at this
        exact this
      rw [with_drop x p ys i y hyi] at ht
      obtain ⟨ab, hab⟩ : ∃ ab, ab = lessB y.nm x.nm := ⟨_, rfl⟩
      rw [← hab] at ht hAB
      have HAB := hid_of hAB
      obtain ⟨q, hq⟩ : ∃ q, q = nmEq y x.nm := ⟨_, rfl⟩
      have hqs : ((str y.nm).toList == (str x.nm).toList) = q := hq.symm
      rw [← hq] at ht
      clear hk ho hm hX hyi hly r1 hyb hAB hab hq
      cases p
      · cases ab
        · cases q
          · have HT : Hid (withL x false ys = ((ou ++ [x]) ++ [y]) ++ withL x true (ys.drop (i + 1))) := by unfold Hid; rw [ht]; simp
            clear ht
            go_upto_region 6 with fail
            refine wp_region_held_drew (S := fun w' => Kept (fun _ => False) wr w') (by kernel_rfl) HD.out (fun hHeld => ?_)
            refine wpAnyH_take (i := 0) (v := ?_) rfl (by kernel_rfl) (by kernel_rfl) (by kernel_rfl) (fun _ _ _ h => h) (Or.inl ⟨by rfl, ?_⟩) (by assumption) ?_
            rotate_left 1
            · intro w hSw
              obtain ⟨hs1, hs2⟩ := HSX.out w hSw
              go_simp
              try with_reducible rfl
            try simp only [Act.put, List.getElem_toArray, List.getElem_cons_zero, List.getElem_cons_succ, List.setIfInBounds_toArray, List.set_cons_zero, List.set_cons_succ]
            refine wpAnyH_take (i := 1) (v := ?_) rfl (by kernel_rfl) (by kernel_rfl) (by kernel_rfl) (fun _ _ _ h => h) (Or.inl ⟨by rfl, ?_⟩) (by assumption) ?_
            rotate_left 1
            · intro w hSw
              obtain ⟨hs1, hs2⟩ := HSX.out w hSw
              go_simp
              try with_reducible rfl
            try simp only [Act.put, List.getElem_toArray, List.getElem_cons_zero, List.getElem_cons_succ, List.setIfInBounds_toArray, List.set_cons_zero, List.set_cons_succ]
            refine wpAnyH_take (i := 2) (v := ?_) rfl (by kernel_rfl) (by kernel_rfl) (by kernel_rfl) (fun _ _ _ h => h) (Or.inl ⟨by rfl, ?_⟩) (by assumption) ?_
            rotate_left 1
            · intro w hSw
              obtain ⟨hs1, hs2⟩ := HSX.out w hSw
              go_simp
              try with_reducible rfl
            try simp only [Act.put, List.getElem_toArray, List.getElem_cons_zero, List.getElem_cons_succ, List.setIfInBounds_toArray, List.set_cons_zero, List.set_cons_succ]
            refine wpAnyH_take (i := 3) (v := ?_) rfl (by kernel_rfl) (by kernel_rfl) (by kernel_rfl) (fun _ _ _ h => h) (Or.inl ⟨by rfl, ?_⟩) (by assumption) ?_
            rotate_left 1
            · intro w hSw
              obtain ⟨hs1, hs2⟩ := HSX.out w hSw
              go_simp
              try with_reducible rfl
            try simp only [Act.put, List.getElem_toArray, List.getElem_cons_zero, List.getElem_cons_succ, List.setIfInBounds_toArray, List.set_cons_zero, List.set_cons_succ]
            refine wpAnyH_take (i := 4) (v := ?_) rfl (by kernel_rfl) (by kernel_rfl) (by kernel_rfl) (fun _ _ _ h => h) (Or.inl ⟨by rfl, ?_⟩) (by assumption) ?_
            rotate_left 1
            · intro w hSw
              obtain ⟨hs1, hs2⟩ := HSX.out w hSw
              go_simp
              try with_reducible rfl
            try simp only [Act.put, List.getElem_toArray, List.getElem_cons_zero, List.getElem_cons_succ, List.setIfInBounds_toArray, List.set_cons_zero, List.set_cons_succ]
            refine wpAnyH_take (i := 5) (v := ?_) rfl (by kernel_rfl) (by kernel_rfl) (by kernel_rfl) (fun _ _ _ h => h) (Or.inl ⟨by rfl, ?_⟩) (by assumption) ?_
            rotate_left 1
            · intro w hSw
              obtain ⟨hs1, hs2⟩ := HSX.out w hSw
              go_simp
              try with_reducible rfl
            try simp only [Act.put, List.getElem_toArray, List.getElem_cons_zero, List.getElem_cons_succ, List.setIfInBounds_toArray, List.set_cons_zero, List.set_cons_succ]
            refine wpAnyH_take (i := 6) (v := ?_) rfl (by kernel_rfl) (by kernel_rfl) (by kernel_rfl) (fun _ _ _ h => h) (Or.inl ⟨by rfl, ?_⟩) (by assumption) ?_
            rotate_left 1
            · intro w hSw
              obtain ⟨hs1, hs2⟩ := HSX.out w hSw
              go_simp
              try with_reducible rfl
            try simp only [Act.put, List.getElem_toArray, List.getElem_cons_zero, List.getElem_cons_succ, List.setIfInBounds_toArray, List.set_cons_zero, List.set_cons_succ]
            refine wpAnyH_take (i := 7) (v := ?_) rfl (by kernel_rfl) (by kernel_rfl) (by kernel_rfl) (fun _ _ _ h => h) (Or.inl ⟨by rfl, ?_⟩) (by assumption) ?_
            rotate_left 1
            · intro w hSw
              obtain ⟨hs1, hs2⟩ := HSX.out w hSw
              go_simp
              try with_reducible rfl
            try simp only [Act.put, List.getElem_toArray, List.getElem_cons_zero, List.getElem_cons_succ, List.setIfInBounds_toArray, List.set_cons_zero, List.set_cons_succ]
            refine wpAnyH_take (i := 8) (v := ?_) rfl (by kernel_rfl) (by kernel_rfl) (by kernel_rfl) (fun _ _ _ h => h) (Or.inl ⟨by rfl, ?_⟩) (by assumption) ?_
            rotate_left 1
            · intro w hSw
              obtain ⟨hs1, hs2⟩ := HSX.out w hSw
              go_simp
              try with_reducible rfl
            try simp only [Act.put, List.getElem_toArray, List.getElem_cons_zero, List.getElem_cons_succ, List.setIfInBounds_toArray, List.set_cons_zero, List.set_cons_succ]
            refine wpAnyH_take (i := 9) (v := ?_) rfl (by kernel_rfl) (by kernel_rfl) (by kernel_rfl) (fun _ _ _ h => h) (Or.inl ⟨by rfl, ?_⟩) (by assumption) ?_
            rotate_left 1
            · intro w hSw
              obtain ⟨hs1, hs2⟩ := HSX.out w hSw
              go_simp
              try with_reducible rfl
            try simp only [Act.put, List.getElem_toArray, List.getElem_cons_zero, List.getElem_cons_succ, List.setIfInBounds_toArray, List.set_cons_zero, List.set_cons_succ]
            refine wpAnyH_ready (rs := [10]) (by kernel_rfl) (by simp) ?_
            refine AllReadyH.cons rfl (fun K hK => ?_) AllReadyH.nil
            go_simp
            refine (HAB.out _).mono ?_
            rintro e w5 ⟨rfl, k5, hw5⟩
            have hk5 : Kept (fun _ => False) wr.drew w5 := by rw [hw5]; exact kept_drewN (Kept.refl _ _) k5
            clear hw5
            have hk6 : Kept (fun _ => False) wr w5 := HD.out.trans hk5
            refine hK.out _ _ hk6 (fun hHeld => ?_)
            clear hK K hk5
            try simp only [Act.put, List.getElem_toArray, List.getElem_cons_zero, List.getElem_cons_succ, List.setIfInBounds_toArray, List.set_cons_zero, List.set_cons_succ]
            refine wpAnyH_take (i := 11) (v := ?_) rfl (by kernel_rfl) (by kernel_rfl) (by kernel_rfl) (fun _ _ _ h => h) (Or.inl ⟨by rfl, ?_⟩) (by assumption) ?_
            rotate_left 1
            · intro w hSw
              obtain ⟨hs1, hs2⟩ := HSX.out w hSw
              go_simp
              try with_reducible rfl
            try simp only [Act.put, List.getElem_toArray, List.getElem_cons_zero, List.getElem_cons_succ, List.setIfInBounds_toArray, List.set_cons_zero, List.set_cons_succ]
            refine wpAnyH_take (i := 12) (v := ?_) rfl (by kernel_rfl) (by kernel_rfl) (by kernel_rfl) (fun _ _ _ h => h) (Or.inl ⟨by rfl, ?_⟩) (by assumption) ?_
            rotate_left 1
            · intro w hSw
              obtain ⟨hs1, hs2⟩ := HSX.out w hSw
              go_simp
              try with_reducible rfl
            try simp only [Act.put, List.getElem_toArray, List.getElem_cons_zero, List.getElem_cons_succ, List.setIfInBounds_toArray, List.set_cons_zero, List.set_cons_succ]
            refine wpAnyH_done (by kernel_rfl) ?_ _
            have hk6x := hk6
            have HK6 := hid_of (HK.out.trans hk6x)
            have HW6 := hid_of (hk6x.ownsRow HOW.out (fun _ _ f => f))
            have HX6 := hid_of ((hk6x.block w.heap.size HXL.out (fun f => f)).trans HX.out)
            have hsx6 : w.heap.size + 1 ≤ w5.heap.size := by have := (Array.getElem?_eq_some_iff.1 HX6.out).1; omega
            clear hk6x hk6
            clear HD HK HOW HX HXL
            have howx := HW6.out
            rw [HM.out] at howx
            obtain ⟨v7, w7, hr7, ho7, ⟨g7, c7, hv7⟩, hk7⟩ := app_ent w5 _ (w.heap.size + 1) ou x HX32.out howx hsx6 (by have := HM.out; omega)
            have hl7 : (ou ++ [x]).length = m + 1 := by rw [List.length_append, HM.out]; rfl
            rw [hl7] at hv7 ho7
            subst hv7
            rw [← HM.out] at hr7
            have hlt7 := howx.lt
            have HK7 := hid_of (HK6.out.step hk7 (fun q hq e => by have := (hlt7 q e).1; omega))
            have HX7 := hid_of ((hk7.block w.heap.size (by omega) (fun e => by have := (hlt7 _ e).1; omega)).trans HX6.out)
            have HO7 := hid_of ho7
            have HR7 := hid_of hr7
            have HBX := hid_of HX6.out
            have HM7 : Hid (m + 1 = (ou ++ [x]).length) := hl7.symm
            clear howx ho7 hr7 hl7 hlt7 hk7 HK6 HX6 HW6 HM
            go_upto_region 9 with (first | refine wpList_load_row rfl 41 _ rfl w.heap.size rfl 41 x.cells.toArray (0, 0) _ HBX.out Tryz.underlying41 rfl HXS.out ?_ | refine wpList_build47 rfl _ rfl x.cells rfl HXLn.out ?_ | (refine wp_app2 rfl (.tmp 27) (.tmp 29) 22 22 ?_ _ _ rfl rfl (.slice (some ⟨g7, 0, none⟩) (m + 1) c7) w7 ?_ ?_; rfl; exact HR7.out))
            clear HBX HR7
            have HM := HM7.out
            clear HM7
            replace HM := hid_of HM
            have HD : Hid (Kept (fun _ => False) w7 w7.drew) := (Kept.refl _ _).drew
            have HSX : Hid (∀ W, Kept (fun _ => False) w7 W → W.cell? ⟨w.heap.size, 0, none⟩ = some (.string (str x.nm)) ∧ W.cell? ⟨g, o + i * 34, none⟩ = some (.string (str y.nm))) := fun W hW => HSW.out W (HK7.out.trans hW) ((hW.block w.heap.size (Array.getElem?_eq_some_iff.1 HX7.out).1 (fun f => f)).trans HX7.out)
            refine wp_region_held_drew (S := fun w' => Kept (fun _ => False) w7 w') (by kernel_rfl) HD.out (fun hHeld => ?_)
            refine wpAnyH_take (i := 0) (v := ?_) rfl (by kernel_rfl) (by kernel_rfl) (by kernel_rfl) (fun _ _ _ h => h) (Or.inl ⟨by rfl, ?_⟩) (by assumption) ?_
            rotate_left 1
            · intro w hSw
              obtain ⟨hs1, hs2⟩ := HSX.out w hSw
              go_simp
              try with_reducible rfl
            try simp only [Act.put, List.getElem_toArray, List.getElem_cons_zero, List.getElem_cons_succ, List.setIfInBounds_toArray, List.set_cons_zero, List.set_cons_succ]
            refine wpAnyH_take (i := 1) (v := ?_) rfl (by kernel_rfl) (by kernel_rfl) (by kernel_rfl) (fun _ _ _ h => h) (Or.inl ⟨by rfl, ?_⟩) (by assumption) ?_
            rotate_left 1
            · intro w hSw
              obtain ⟨hs1, hs2⟩ := HSX.out w hSw
              go_simp
              try with_reducible rfl
            try simp only [Act.put, List.getElem_toArray, List.getElem_cons_zero, List.getElem_cons_succ, List.setIfInBounds_toArray, List.set_cons_zero, List.set_cons_succ]
            refine wpAnyH_take (i := 2) (v := ?_) rfl (by kernel_rfl) (by kernel_rfl) (by kernel_rfl) (fun _ _ _ h => h) (Or.inl ⟨by rfl, ?_⟩) (by assumption) ?_
            rotate_left 1
            · intro w hSw
              obtain ⟨hs1, hs2⟩ := HSX.out w hSw
              go_simp
              try with_reducible rfl
            try simp only [Act.put, List.getElem_toArray, List.getElem_cons_zero, List.getElem_cons_succ, List.setIfInBounds_toArray, List.set_cons_zero, List.set_cons_succ]
            refine wpAnyH_take (i := 3) (v := ?_) rfl (by kernel_rfl) (by kernel_rfl) (by kernel_rfl) (fun _ _ _ h => h) (Or.inl ⟨by rfl, ?_⟩) (by assumption) ?_
            rotate_left 1
            · intro w hSw
              obtain ⟨hs1, hs2⟩ := HSX.out w hSw
              go_simp
              try with_reducible rfl
            try simp only [Act.put, List.getElem_toArray, List.getElem_cons_zero, List.getElem_cons_succ, List.setIfInBounds_toArray, List.set_cons_zero, List.set_cons_succ]
            refine wpAnyH_take (i := 4) (v := ?_) rfl (by kernel_rfl) (by kernel_rfl) (by kernel_rfl) (fun _ _ _ h => h) (Or.inl ⟨by rfl, ?_⟩) (by assumption) ?_
            rotate_left 1
            · intro w hSw
              obtain ⟨hs1, hs2⟩ := HSX.out w hSw
              go_simp
              try with_reducible rfl
            try simp only [Act.put, List.getElem_toArray, List.getElem_cons_zero, List.getElem_cons_succ, List.setIfInBounds_toArray, List.set_cons_zero, List.set_cons_succ]
            refine wpAnyH_take (i := 5) (v := ?_) rfl (by kernel_rfl) (by kernel_rfl) (by kernel_rfl) (fun _ _ _ h => h) (Or.inl ⟨by rfl, ?_⟩) (by assumption) ?_
            rotate_left 1
            · intro w hSw
              obtain ⟨hs1, hs2⟩ := HSX.out w hSw
              go_simp
              try with_reducible rfl
            try simp only [Act.put, List.getElem_toArray, List.getElem_cons_zero, List.getElem_cons_succ, List.setIfInBounds_toArray, List.set_cons_zero, List.set_cons_succ]
            refine wpAnyH_take (i := 6) (v := ?_) rfl (by kernel_rfl) (by kernel_rfl) (by kernel_rfl) (fun _ _ _ h => h) (Or.inl ⟨by rfl, ?_⟩) (by assumption) ?_
            rotate_left 1
            · intro w hSw
              obtain ⟨hs1, hs2⟩ := HSX.out w hSw
              go_simp
              try with_reducible rfl
            try simp only [Act.put, List.getElem_toArray, List.getElem_cons_zero, List.getElem_cons_succ, List.setIfInBounds_toArray, List.set_cons_zero, List.set_cons_succ]
            refine wpAnyH_take (i := 7) (v := ?_) rfl (by kernel_rfl) (by kernel_rfl) (by kernel_rfl) (fun _ _ _ h => h) (Or.inl ⟨by rfl, ?_⟩) (by assumption) ?_
            rotate_left 1
            · intro w hSw
              obtain ⟨hs1, hs2⟩ := HSX.out w hSw
              go_simp
              try with_reducible rfl
            try simp only [Act.put, List.getElem_toArray, List.getElem_cons_zero, List.getElem_cons_succ, List.setIfInBounds_toArray, List.set_cons_zero, List.set_cons_succ]
            refine wpAnyH_done (by kernel_rfl) ?_ _
            have HK8 := hid_of (HK7.out.trans HD.out)
            have HO8 := hid_of (HD.out.ownsRow HO7.out (fun _ _ f => f))
            have HX8 := hid_of ((HD.out.block w.heap.size (Array.getElem?_eq_some_iff.1 HX7.out).1 (fun f => f)).trans HX7.out)
            clear HK7 HX7 HO7 HD HSX
            generalize w7.drew = w8 at *
            have hsx8 : w.heap.size + 1 ≤ w8.heap.size := by have := (Array.getElem?_eq_some_iff.1 HX8.out).1; omega
            have howx := HO8.out
            rw [HM.out] at howx
            obtain ⟨v7, w9, hr7, ho7, ⟨g9, c9, hv7⟩, hk7⟩ := app_ent w8 _ (w.heap.size + 1) (ou ++ [x]) y HY32.out howx hsx8 (by have := HM.out; omega)
            have hl7 : ((ou ++ [x]) ++ [y]).length = (m + 1) + 1 := by rw [List.length_append, HM.out]; rfl
            rw [hl7] at hv7 ho7
            subst hv7
            rw [← HM.out] at hr7
            have hlt7 := howx.lt
            have HREL : Hid ((m + 1) + 1 = ((ou ++ [x]) ++ [y]).length ∧ withL x false ys = ((ou ++ [x]) ++ [y]) ++ withL x true (ys.drop (i + 1)) ∧ w9.ownsRow (w.heap.size + 1) 41 34 (.slice (some ⟨g9, 0, none⟩) ((m + 1) + 1) c9) ((m + 1) + 1) (ents ((ou ++ [x]) ++ [y])) ∧ Kept (fun _ => False) w w9 ∧ w9.heap[w.heap.size]? = some (.cells x.cells.toArray 41 (0, 0))) := ⟨hl7.symm, HT.out, ho7, HK8.out.step hk7 (fun q hq e => by have := (hlt7 q e).1; omega), (hk7.block w.heap.size (by omega) (fun e => by have := (hlt7 _ e).1; omega)).trans HX8.out⟩
            have HR9 := hid_of hr7
            have HRG := hid_of (HRW.out w8 HK8.out)
            clear howx ho7 hr7 hl7 hlt7 hk7 HK8 HX8 HO8 HM HT
            go_wp2_with (first | refine wpList_load_mid rfl 41 _ rfl g (o + i * 34) rfl y.cells _ HRG.out Tryz.underlying41 rfl HSZ.out ?_ | refine wpList_build47 rfl _ rfl y.cells rfl hyl ?_ | (refine wp_app2 rfl (.tmp 39) (.tmp 44) 22 22 ?_ _ _ rfl rfl (.slice (some ⟨g9, 0, none⟩) ((m + 1) + 1) c9) w9 ?_ ?_; rfl; exact HR9.out))
            go_roundw
            case rel => exact ⟨i + 1, (m + 1) + 1, true, (ou ++ [x]) ++ [y], some ⟨g9, 0, none⟩, c9, by omega, by omega, by go_num, rfl, rfl, HREL.out⟩
            case measure => simp [intOf]; omega
          · have HT : Hid (withL x false ys = (ou ++ [x]) ++ withL x true (ys.drop (i + 1))) := by unfold Hid; rw [ht]; simp
            clear ht
            go_upto_region 6 with fail
            refine wp_region_held_drew (S := fun w' => Kept (fun _ => False) wr w') (by kernel_rfl) HD.out (fun hHeld => ?_)
            refine wpAnyH_take (i := 0) (v := ?_) rfl (by kernel_rfl) (by kernel_rfl) (by kernel_rfl) (fun _ _ _ h => h) (Or.inl ⟨by rfl, ?_⟩) (by assumption) ?_
            rotate_left 1
            · intro w hSw
              obtain ⟨hs1, hs2⟩ := HSX.out w hSw
              go_simp
              try with_reducible rfl
            try simp only [Act.put, List.getElem_toArray, List.getElem_cons_zero, List.getElem_cons_succ, List.setIfInBounds_toArray, List.set_cons_zero, List.set_cons_succ]
            refine wpAnyH_take (i := 1) (v := ?_) rfl (by kernel_rfl) (by kernel_rfl) (by kernel_rfl) (fun _ _ _ h => h) (Or.inl ⟨by rfl, ?_⟩) (by assumption) ?_
            rotate_left 1
            · intro w hSw
              obtain ⟨hs1, hs2⟩ := HSX.out w hSw
              go_simp
              try with_reducible rfl
            try simp only [Act.put, List.getElem_toArray, List.getElem_cons_zero, List.getElem_cons_succ, List.setIfInBounds_toArray, List.set_cons_zero, List.set_cons_succ]
            refine wpAnyH_take (i := 2) (v := ?_) rfl (by kernel_rfl) (by kernel_rfl) (by kernel_rfl) (fun _ _ _ h => h) (Or.inl ⟨by rfl, ?_⟩) (by assumption) ?_
            rotate_left 1
            · intro w hSw
              obtain ⟨hs1, hs2⟩ := HSX.out w hSw
              go_simp
              try with_reducible rfl
            try simp only [Act.put, List.getElem_toArray, List.getElem_cons_zero, List.getElem_cons_succ, List.setIfInBounds_toArray, List.set_cons_zero, List.set_cons_succ]
            refine wpAnyH_take (i := 3) (v := ?_) rfl (by kernel_rfl) (by kernel_rfl) (by kernel_rfl) (fun _ _ _ h => h) (Or.inl ⟨by rfl, ?_⟩) (by assumption) ?_
            rotate_left 1
            · intro w hSw
              obtain ⟨hs1, hs2⟩ := HSX.out w hSw
              go_simp
              try with_reducible rfl
            try simp only [Act.put, List.getElem_toArray, List.getElem_cons_zero, List.getElem_cons_succ, List.setIfInBounds_toArray, List.set_cons_zero, List.set_cons_succ]
            refine wpAnyH_take (i := 4) (v := ?_) rfl (by kernel_rfl) (by kernel_rfl) (by kernel_rfl) (fun _ _ _ h => h) (Or.inl ⟨by rfl, ?_⟩) (by assumption) ?_
            rotate_left 1
            · intro w hSw
              obtain ⟨hs1, hs2⟩ := HSX.out w hSw
              go_simp
              try with_reducible rfl
            try simp only [Act.put, List.getElem_toArray, List.getElem_cons_zero, List.getElem_cons_succ, List.setIfInBounds_toArray, List.set_cons_zero, List.set_cons_succ]
            refine wpAnyH_take (i := 5) (v := ?_) rfl (by kernel_rfl) (by kernel_rfl) (by kernel_rfl) (fun _ _ _ h => h) (Or.inl ⟨by rfl, ?_⟩) (by assumption) ?_
            rotate_left 1
            · intro w hSw
              obtain ⟨hs1, hs2⟩ := HSX.out w hSw
              go_simp
              try with_reducible rfl
            try simp only [Act.put, List.getElem_toArray, List.getElem_cons_zero, List.getElem_cons_succ, List.setIfInBounds_toArray, List.set_cons_zero, List.set_cons_succ]
            refine wpAnyH_take (i := 6) (v := ?_) rfl (by kernel_rfl) (by kernel_rfl) (by kernel_rfl) (fun _ _ _ h => h) (Or.inl ⟨by rfl, ?_⟩) (by assumption) ?_
            rotate_left 1
            · intro w hSw
              obtain ⟨hs1, hs2⟩ := HSX.out w hSw
              go_simp
              try with_reducible rfl
            try simp only [Act.put, List.getElem_toArray, List.getElem_cons_zero, List.getElem_cons_succ, List.setIfInBounds_toArray, List.set_cons_zero, List.set_cons_succ]
            refine wpAnyH_take (i := 7) (v := ?_) rfl (by kernel_rfl) (by kernel_rfl) (by kernel_rfl) (fun _ _ _ h => h) (Or.inl ⟨by rfl, ?_⟩) (by assumption) ?_
            rotate_left 1
            · intro w hSw
              obtain ⟨hs1, hs2⟩ := HSX.out w hSw
              go_simp
              try with_reducible rfl
            try simp only [Act.put, List.getElem_toArray, List.getElem_cons_zero, List.getElem_cons_succ, List.setIfInBounds_toArray, List.set_cons_zero, List.set_cons_succ]
            refine wpAnyH_take (i := 8) (v := ?_) rfl (by kernel_rfl) (by kernel_rfl) (by kernel_rfl) (fun _ _ _ h => h) (Or.inl ⟨by rfl, ?_⟩) (by assumption) ?_
            rotate_left 1
            · intro w hSw
              obtain ⟨hs1, hs2⟩ := HSX.out w hSw
              go_simp
              try with_reducible rfl
            try simp only [Act.put, List.getElem_toArray, List.getElem_cons_zero, List.getElem_cons_succ, List.setIfInBounds_toArray, List.set_cons_zero, List.set_cons_succ]
            refine wpAnyH_take (i := 9) (v := ?_) rfl (by kernel_rfl) (by kernel_rfl) (by kernel_rfl) (fun _ _ _ h => h) (Or.inl ⟨by rfl, ?_⟩) (by assumption) ?_
            rotate_left 1
            · intro w hSw
              obtain ⟨hs1, hs2⟩ := HSX.out w hSw
              go_simp
              try with_reducible rfl
            try simp only [Act.put, List.getElem_toArray, List.getElem_cons_zero, List.getElem_cons_succ, List.setIfInBounds_toArray, List.set_cons_zero, List.set_cons_succ]
            refine wpAnyH_ready (rs := [10]) (by kernel_rfl) (by simp) ?_
            refine AllReadyH.cons rfl (fun K hK => ?_) AllReadyH.nil
            go_simp
            refine (HAB.out _).mono ?_
            rintro e w5 ⟨rfl, k5, hw5⟩
            have hk5 : Kept (fun _ => False) wr.drew w5 := by rw [hw5]; exact kept_drewN (Kept.refl _ _) k5
            clear hw5
            have hk6 : Kept (fun _ => False) wr w5 := HD.out.trans hk5
            refine hK.out _ _ hk6 (fun hHeld => ?_)
            clear hK K hk5
            try simp only [Act.put, List.getElem_toArray, List.getElem_cons_zero, List.getElem_cons_succ, List.setIfInBounds_toArray, List.set_cons_zero, List.set_cons_succ]
            refine wpAnyH_take (i := 11) (v := ?_) rfl (by kernel_rfl) (by kernel_rfl) (by kernel_rfl) (fun _ _ _ h => h) (Or.inl ⟨by rfl, ?_⟩) (by assumption) ?_
            rotate_left 1
            · intro w hSw
              obtain ⟨hs1, hs2⟩ := HSX.out w hSw
              go_simp
              try with_reducible rfl
            try simp only [Act.put, List.getElem_toArray, List.getElem_cons_zero, List.getElem_cons_succ, List.setIfInBounds_toArray, List.set_cons_zero, List.set_cons_succ]
            refine wpAnyH_take (i := 12) (v := ?_) rfl (by kernel_rfl) (by kernel_rfl) (by kernel_rfl) (fun _ _ _ h => h) (Or.inl ⟨by rfl, ?_⟩) (by assumption) ?_
            rotate_left 1
            · intro w hSw
              obtain ⟨hs1, hs2⟩ := HSX.out w hSw
              go_simp
              try with_reducible rfl
            try simp only [Act.put, List.getElem_toArray, List.getElem_cons_zero, List.getElem_cons_succ, List.setIfInBounds_toArray, List.set_cons_zero, List.set_cons_succ]
            refine wpAnyH_done (by kernel_rfl) ?_ _
            have hk6x := hk6
            have HK6 := hid_of (HK.out.trans hk6x)
            have HW6 := hid_of (hk6x.ownsRow HOW.out (fun _ _ f => f))
            have HX6 := hid_of ((hk6x.block w.heap.size HXL.out (fun f => f)).trans HX.out)
            have hsx6 : w.heap.size + 1 ≤ w5.heap.size := by have := (Array.getElem?_eq_some_iff.1 HX6.out).1; omega
            clear hk6x hk6
            clear HD HK HOW HX HXL
            have howx := HW6.out
            rw [HM.out] at howx
            obtain ⟨v7, w7, hr7, ho7, ⟨g7, c7, hv7⟩, hk7⟩ := app_ent w5 _ (w.heap.size + 1) ou x HX32.out howx hsx6 (by have := HM.out; omega)
            have hl7 : (ou ++ [x]).length = m + 1 := by rw [List.length_append, HM.out]; rfl
            rw [hl7] at hv7 ho7
            subst hv7
            rw [← HM.out] at hr7
            have hlt7 := howx.lt
            have HK7 := hid_of (HK6.out.step hk7 (fun q hq e => by have := (hlt7 q e).1; omega))
            have HX7 := hid_of ((hk7.block w.heap.size (by omega) (fun e => by have := (hlt7 _ e).1; omega)).trans HX6.out)
            have HO7 := hid_of ho7
            have HR7 := hid_of hr7
            have HBX := hid_of HX6.out
            have HM7 : Hid (m + 1 = (ou ++ [x]).length) := hl7.symm
            clear howx ho7 hr7 hl7 hlt7 hk7 HK6 HX6 HW6 HM
            go_upto_region 9 with (first | refine wpList_load_row rfl 41 _ rfl w.heap.size rfl 41 x.cells.toArray (0, 0) _ HBX.out Tryz.underlying41 rfl HXS.out ?_ | refine wpList_build47 rfl _ rfl x.cells rfl HXLn.out ?_ | (refine wp_app2 rfl (.tmp 27) (.tmp 29) 22 22 ?_ _ _ rfl rfl (.slice (some ⟨g7, 0, none⟩) (m + 1) c7) w7 ?_ ?_; rfl; exact HR7.out))
            clear HBX HR7
            have HM := HM7.out
            clear HM7
            replace HM := hid_of HM
            have HD : Hid (Kept (fun _ => False) w7 w7.drew) := (Kept.refl _ _).drew
            have HSX : Hid (∀ W, Kept (fun _ => False) w7 W → W.cell? ⟨w.heap.size, 0, none⟩ = some (.string (str x.nm)) ∧ W.cell? ⟨g, o + i * 34, none⟩ = some (.string (str y.nm))) := fun W hW => HSW.out W (HK7.out.trans hW) ((hW.block w.heap.size (Array.getElem?_eq_some_iff.1 HX7.out).1 (fun f => f)).trans HX7.out)
            refine wp_region_held_drew (S := fun w' => Kept (fun _ => False) w7 w') (by kernel_rfl) HD.out (fun hHeld => ?_)
            refine wpAnyH_take (i := 0) (v := ?_) rfl (by kernel_rfl) (by kernel_rfl) (by kernel_rfl) (fun _ _ _ h => h) (Or.inl ⟨by rfl, ?_⟩) (by assumption) ?_
            rotate_left 1
            · intro w hSw
              obtain ⟨hs1, hs2⟩ := HSX.out w hSw
              go_simp
              try with_reducible rfl
            try simp only [Act.put, List.getElem_toArray, List.getElem_cons_zero, List.getElem_cons_succ, List.setIfInBounds_toArray, List.set_cons_zero, List.set_cons_succ]
            refine wpAnyH_take (i := 1) (v := ?_) rfl (by kernel_rfl) (by kernel_rfl) (by kernel_rfl) (fun _ _ _ h => h) (Or.inl ⟨by rfl, ?_⟩) (by assumption) ?_
            rotate_left 1
            · intro w hSw
              obtain ⟨hs1, hs2⟩ := HSX.out w hSw
              go_simp
              try with_reducible rfl
            try simp only [Act.put, List.getElem_toArray, List.getElem_cons_zero, List.getElem_cons_succ, List.setIfInBounds_toArray, List.set_cons_zero, List.set_cons_succ]
            refine wpAnyH_take (i := 2) (v := ?_) rfl (by kernel_rfl) (by kernel_rfl) (by kernel_rfl) (fun _ _ _ h => h) (Or.inl ⟨by rfl, ?_⟩) (by assumption) ?_
            rotate_left 1
            · intro w hSw
              obtain ⟨hs1, hs2⟩ := HSX.out w hSw
              go_simp
              try with_reducible rfl
            try simp only [Act.put, List.getElem_toArray, List.getElem_cons_zero, List.getElem_cons_succ, List.setIfInBounds_toArray, List.set_cons_zero, List.set_cons_succ]
            refine wpAnyH_take (i := 3) (v := ?_) rfl (by kernel_rfl) (by kernel_rfl) (by kernel_rfl) (fun _ _ _ h => h) (Or.inl ⟨by rfl, ?_⟩) (by assumption) ?_
            rotate_left 1
            · intro w hSw
              obtain ⟨hs1, hs2⟩ := HSX.out w hSw
              go_simp
              try with_reducible rfl
            try simp only [Act.put, List.getElem_toArray, List.getElem_cons_zero, List.getElem_cons_succ, List.setIfInBounds_toArray, List.set_cons_zero, List.set_cons_succ]
            refine wpAnyH_take (i := 4) (v := ?_) rfl (by kernel_rfl) (by kernel_rfl) (by kernel_rfl) (fun _ _ _ h => h) (Or.inl ⟨by rfl, ?_⟩) (by assumption) ?_
            rotate_left 1
            · intro w hSw
              obtain ⟨hs1, hs2⟩ := HSX.out w hSw
              go_simp
              try with_reducible rfl
            try simp only [Act.put, List.getElem_toArray, List.getElem_cons_zero, List.getElem_cons_succ, List.setIfInBounds_toArray, List.set_cons_zero, List.set_cons_succ]
            refine wpAnyH_take (i := 5) (v := ?_) rfl (by kernel_rfl) (by kernel_rfl) (by kernel_rfl) (fun _ _ _ h => h) (Or.inl ⟨by rfl, ?_⟩) (by assumption) ?_
            rotate_left 1
            · intro w hSw
              obtain ⟨hs1, hs2⟩ := HSX.out w hSw
              go_simp
              try with_reducible rfl
            try simp only [Act.put, List.getElem_toArray, List.getElem_cons_zero, List.getElem_cons_succ, List.setIfInBounds_toArray, List.set_cons_zero, List.set_cons_succ]
            refine wpAnyH_take (i := 6) (v := ?_) rfl (by kernel_rfl) (by kernel_rfl) (by kernel_rfl) (fun _ _ _ h => h) (Or.inl ⟨by rfl, ?_⟩) (by assumption) ?_
            rotate_left 1
            · intro w hSw
              obtain ⟨hs1, hs2⟩ := HSX.out w hSw
              go_simp
              try with_reducible rfl
            try simp only [Act.put, List.getElem_toArray, List.getElem_cons_zero, List.getElem_cons_succ, List.setIfInBounds_toArray, List.set_cons_zero, List.set_cons_succ]
            refine wpAnyH_take (i := 7) (v := ?_) rfl (by kernel_rfl) (by kernel_rfl) (by kernel_rfl) (fun _ _ _ h => h) (Or.inl ⟨by rfl, ?_⟩) (by assumption) ?_
            rotate_left 1
            · intro w hSw
              obtain ⟨hs1, hs2⟩ := HSX.out w hSw
              go_simp
              try with_reducible rfl
            try simp only [Act.put, List.getElem_toArray, List.getElem_cons_zero, List.getElem_cons_succ, List.setIfInBounds_toArray, List.set_cons_zero, List.set_cons_succ]
            refine wpAnyH_done (by kernel_rfl) ?_ _
            have HK8 := hid_of (HK7.out.trans HD.out)
            have HO8 := hid_of (HD.out.ownsRow HO7.out (fun _ _ f => f))
            have HX8 := hid_of ((HD.out.block w.heap.size (Array.getElem?_eq_some_iff.1 HX7.out).1 (fun f => f)).trans HX7.out)
            clear HK7 HX7 HO7 HD HSX
            generalize w7.drew = w8 at *
            go_wp2
            go_roundw
            case rel => exact ⟨i + 1, (m + 1), true, (ou ++ [x]), (some ⟨g7, 0, none⟩), c7, by omega, by omega, by go_num, rfl, rfl, HM.out, HT.out, HO8.out, HK8.out, HX8.out⟩
            case measure => simp [intOf]; omega
        · cases q
          · have HT : Hid (withL x false ys = (ou ++ [y]) ++ withL x false (ys.drop (i + 1))) := by unfold Hid; rw [ht]; simp
            clear ht
            go_upto_region 6 with fail
            refine wp_region_held_drew (S := fun w' => Kept (fun _ => False) wr w') (by kernel_rfl) HD.out (fun hHeld => ?_)
            refine wpAnyH_take (i := 0) (v := ?_) rfl (by kernel_rfl) (by kernel_rfl) (by kernel_rfl) (fun _ _ _ h => h) (Or.inl ⟨by rfl, ?_⟩) (by assumption) ?_
            rotate_left 1
            · intro w hSw
              obtain ⟨hs1, hs2⟩ := HSX.out w hSw
              go_simp
              try with_reducible rfl
            try simp only [Act.put, List.getElem_toArray, List.getElem_cons_zero, List.getElem_cons_succ, List.setIfInBounds_toArray, List.set_cons_zero, List.set_cons_succ]
            refine wpAnyH_take (i := 1) (v := ?_) rfl (by kernel_rfl) (by kernel_rfl) (by kernel_rfl) (fun _ _ _ h => h) (Or.inl ⟨by rfl, ?_⟩) (by assumption) ?_
            rotate_left 1
            · intro w hSw
              obtain ⟨hs1, hs2⟩ := HSX.out w hSw
              go_simp
              try with_reducible rfl
            try simp only [Act.put, List.getElem_toArray, List.getElem_cons_zero, List.getElem_cons_succ, List.setIfInBounds_toArray, List.set_cons_zero, List.set_cons_succ]
            refine wpAnyH_take (i := 2) (v := ?_) rfl (by kernel_rfl) (by kernel_rfl) (by kernel_rfl) (fun _ _ _ h => h) (Or.inl ⟨by rfl, ?_⟩) (by assumption) ?_
            rotate_left 1
            · intro w hSw
              obtain ⟨hs1, hs2⟩ := HSX.out w hSw
              go_simp
              try with_reducible rfl
            try simp only [Act.put, List.getElem_toArray, List.getElem_cons_zero, List.getElem_cons_succ, List.setIfInBounds_toArray, List.set_cons_zero, List.set_cons_succ]
            refine wpAnyH_take (i := 3) (v := ?_) rfl (by kernel_rfl) (by kernel_rfl) (by kernel_rfl) (fun _ _ _ h => h) (Or.inl ⟨by rfl, ?_⟩) (by assumption) ?_
            rotate_left 1
            · intro w hSw
              obtain ⟨hs1, hs2⟩ := HSX.out w hSw
              go_simp
              try with_reducible rfl
            try simp only [Act.put, List.getElem_toArray, List.getElem_cons_zero, List.getElem_cons_succ, List.setIfInBounds_toArray, List.set_cons_zero, List.set_cons_succ]
            refine wpAnyH_take (i := 4) (v := ?_) rfl (by kernel_rfl) (by kernel_rfl) (by kernel_rfl) (fun _ _ _ h => h) (Or.inl ⟨by rfl, ?_⟩) (by assumption) ?_
            rotate_left 1
            · intro w hSw
              obtain ⟨hs1, hs2⟩ := HSX.out w hSw
              go_simp
              try with_reducible rfl
            try simp only [Act.put, List.getElem_toArray, List.getElem_cons_zero, List.getElem_cons_succ, List.setIfInBounds_toArray, List.set_cons_zero, List.set_cons_succ]
            refine wpAnyH_take (i := 5) (v := ?_) rfl (by kernel_rfl) (by kernel_rfl) (by kernel_rfl) (fun _ _ _ h => h) (Or.inl ⟨by rfl, ?_⟩) (by assumption) ?_
            rotate_left 1
            · intro w hSw
              obtain ⟨hs1, hs2⟩ := HSX.out w hSw
              go_simp
              try with_reducible rfl
            try simp only [Act.put, List.getElem_toArray, List.getElem_cons_zero, List.getElem_cons_succ, List.setIfInBounds_toArray, List.set_cons_zero, List.set_cons_succ]
            refine wpAnyH_take (i := 6) (v := ?_) rfl (by kernel_rfl) (by kernel_rfl) (by kernel_rfl) (fun _ _ _ h => h) (Or.inl ⟨by rfl, ?_⟩) (by assumption) ?_
            rotate_left 1
            · intro w hSw
              obtain ⟨hs1, hs2⟩ := HSX.out w hSw
              go_simp
              try with_reducible rfl
            try simp only [Act.put, List.getElem_toArray, List.getElem_cons_zero, List.getElem_cons_succ, List.setIfInBounds_toArray, List.set_cons_zero, List.set_cons_succ]
            refine wpAnyH_take (i := 7) (v := ?_) rfl (by kernel_rfl) (by kernel_rfl) (by kernel_rfl) (fun _ _ _ h => h) (Or.inl ⟨by rfl, ?_⟩) (by assumption) ?_
            rotate_left 1
            · intro w hSw
              obtain ⟨hs1, hs2⟩ := HSX.out w hSw
              go_simp
              try with_reducible rfl
            try simp only [Act.put, List.getElem_toArray, List.getElem_cons_zero, List.getElem_cons_succ, List.setIfInBounds_toArray, List.set_cons_zero, List.set_cons_succ]
            refine wpAnyH_take (i := 8) (v := ?_) rfl (by kernel_rfl) (by kernel_rfl) (by kernel_rfl) (fun _ _ _ h => h) (Or.inl ⟨by rfl, ?_⟩) (by assumption) ?_
            rotate_left 1
            · intro w hSw
              obtain ⟨hs1, hs2⟩ := HSX.out w hSw
              go_simp
              try with_reducible rfl
            try simp only [Act.put, List.getElem_toArray, List.getElem_cons_zero, List.getElem_cons_succ, List.setIfInBounds_toArray, List.set_cons_zero, List.set_cons_succ]
            refine wpAnyH_take (i := 9) (v := ?_) rfl (by kernel_rfl) (by kernel_rfl) (by kernel_rfl) (fun _ _ _ h => h) (Or.inl ⟨by rfl, ?_⟩) (by assumption) ?_
            rotate_left 1
            · intro w hSw
              obtain ⟨hs1, hs2⟩ := HSX.out w hSw
              go_simp
              try with_reducible rfl
            try simp only [Act.put, List.getElem_toArray, List.getElem_cons_zero, List.getElem_cons_succ, List.setIfInBounds_toArray, List.set_cons_zero, List.set_cons_succ]
            refine wpAnyH_ready (rs := [10]) (by kernel_rfl) (by simp) ?_
            refine AllReadyH.cons rfl (fun K hK => ?_) AllReadyH.nil
            go_simp
            refine (HAB.out _).mono ?_
            rintro e w5 ⟨rfl, k5, hw5⟩
            have hk5 : Kept (fun _ => False) wr.drew w5 := by rw [hw5]; exact kept_drewN (Kept.refl _ _) k5
            clear hw5
            have hk6 : Kept (fun _ => False) wr w5 := HD.out.trans hk5
            refine hK.out _ _ hk6 (fun hHeld => ?_)
            clear hK K hk5
            try simp only [Act.put, List.getElem_toArray, List.getElem_cons_zero, List.getElem_cons_succ, List.setIfInBounds_toArray, List.set_cons_zero, List.set_cons_succ]
            refine wpAnyH_take (i := 11) (v := ?_) rfl (by kernel_rfl) (by kernel_rfl) (by kernel_rfl) (fun _ _ _ h => h) (Or.inl ⟨by rfl, ?_⟩) (by assumption) ?_
            rotate_left 1
            · intro w hSw
              obtain ⟨hs1, hs2⟩ := HSX.out w hSw
              go_simp
              try with_reducible rfl
            try simp only [Act.put, List.getElem_toArray, List.getElem_cons_zero, List.getElem_cons_succ, List.setIfInBounds_toArray, List.set_cons_zero, List.set_cons_succ]
            refine wpAnyH_take (i := 12) (v := ?_) rfl (by kernel_rfl) (by kernel_rfl) (by kernel_rfl) (fun _ _ _ h => h) (Or.inl ⟨by rfl, ?_⟩) (by assumption) ?_
            rotate_left 1
            · intro w hSw
              obtain ⟨hs1, hs2⟩ := HSX.out w hSw
              go_simp
              try with_reducible rfl
            try simp only [Act.put, List.getElem_toArray, List.getElem_cons_zero, List.getElem_cons_succ, List.setIfInBounds_toArray, List.set_cons_zero, List.set_cons_succ]
            refine wpAnyH_done (by kernel_rfl) ?_ _
            have hk6x := hk6
            have HK6 := hid_of (HK.out.trans hk6x)
            have HW6 := hid_of (hk6x.ownsRow HOW.out (fun _ _ f => f))
            have HX6 := hid_of ((hk6x.block w.heap.size HXL.out (fun f => f)).trans HX.out)
            have hsx6 : w.heap.size + 1 ≤ w5.heap.size := by have := (Array.getElem?_eq_some_iff.1 HX6.out).1; omega
            clear hk6x hk6
            clear HD HK HOW HX HXL
            have HK7 := hid_of HK6.out
            have HX7 := hid_of HX6.out
            have HO7 := hid_of HW6.out
            clear HK6 HX6 HW6
            go_upto_region 9 with fail
            have HD : Hid (Kept (fun _ => False) w5 w5.drew) := (Kept.refl _ _).drew
            have HSX : Hid (∀ W, Kept (fun _ => False) w5 W → W.cell? ⟨w.heap.size, 0, none⟩ = some (.string (str x.nm)) ∧ W.cell? ⟨g, o + i * 34, none⟩ = some (.string (str y.nm))) := fun W hW => HSW.out W (HK7.out.trans hW) ((hW.block w.heap.size (Array.getElem?_eq_some_iff.1 HX7.out).1 (fun f => f)).trans HX7.out)
            refine wp_region_held_drew (S := fun w' => Kept (fun _ => False) w5 w') (by kernel_rfl) HD.out (fun hHeld => ?_)
            refine wpAnyH_take (i := 0) (v := ?_) rfl (by kernel_rfl) (by kernel_rfl) (by kernel_rfl) (fun _ _ _ h => h) (Or.inl ⟨by rfl, ?_⟩) (by assumption) ?_
            rotate_left 1
            · intro w hSw
              obtain ⟨hs1, hs2⟩ := HSX.out w hSw
              go_simp
              try with_reducible rfl
            try simp only [Act.put, List.getElem_toArray, List.getElem_cons_zero, List.getElem_cons_succ, List.setIfInBounds_toArray, List.set_cons_zero, List.set_cons_succ]
            refine wpAnyH_take (i := 1) (v := ?_) rfl (by kernel_rfl) (by kernel_rfl) (by kernel_rfl) (fun _ _ _ h => h) (Or.inl ⟨by rfl, ?_⟩) (by assumption) ?_
            rotate_left 1
            · intro w hSw
              obtain ⟨hs1, hs2⟩ := HSX.out w hSw
              go_simp
              try with_reducible rfl
            try simp only [Act.put, List.getElem_toArray, List.getElem_cons_zero, List.getElem_cons_succ, List.setIfInBounds_toArray, List.set_cons_zero, List.set_cons_succ]
            refine wpAnyH_take (i := 2) (v := ?_) rfl (by kernel_rfl) (by kernel_rfl) (by kernel_rfl) (fun _ _ _ h => h) (Or.inl ⟨by rfl, ?_⟩) (by assumption) ?_
            rotate_left 1
            · intro w hSw
              obtain ⟨hs1, hs2⟩ := HSX.out w hSw
              go_simp
              try with_reducible rfl
            try simp only [Act.put, List.getElem_toArray, List.getElem_cons_zero, List.getElem_cons_succ, List.setIfInBounds_toArray, List.set_cons_zero, List.set_cons_succ]
            refine wpAnyH_take (i := 3) (v := ?_) rfl (by kernel_rfl) (by kernel_rfl) (by kernel_rfl) (fun _ _ _ h => h) (Or.inl ⟨by rfl, ?_⟩) (by assumption) ?_
            rotate_left 1
            · intro w hSw
              obtain ⟨hs1, hs2⟩ := HSX.out w hSw
              go_simp
              try with_reducible rfl
            try simp only [Act.put, List.getElem_toArray, List.getElem_cons_zero, List.getElem_cons_succ, List.setIfInBounds_toArray, List.set_cons_zero, List.set_cons_succ]
            refine wpAnyH_take (i := 4) (v := ?_) rfl (by kernel_rfl) (by kernel_rfl) (by kernel_rfl) (fun _ _ _ h => h) (Or.inl ⟨by rfl, ?_⟩) (by assumption) ?_
            rotate_left 1
            · intro w hSw
              obtain ⟨hs1, hs2⟩ := HSX.out w hSw
              go_simp
              try with_reducible rfl
            try simp only [Act.put, List.getElem_toArray, List.getElem_cons_zero, List.getElem_cons_succ, List.setIfInBounds_toArray, List.set_cons_zero, List.set_cons_succ]
            refine wpAnyH_take (i := 5) (v := ?_) rfl (by kernel_rfl) (by kernel_rfl) (by kernel_rfl) (fun _ _ _ h => h) (Or.inl ⟨by rfl, ?_⟩) (by assumption) ?_
            rotate_left 1
            · intro w hSw
              obtain ⟨hs1, hs2⟩ := HSX.out w hSw
              go_simp
              try with_reducible rfl
            try simp only [Act.put, List.getElem_toArray, List.getElem_cons_zero, List.getElem_cons_succ, List.setIfInBounds_toArray, List.set_cons_zero, List.set_cons_succ]
            refine wpAnyH_take (i := 6) (v := ?_) rfl (by kernel_rfl) (by kernel_rfl) (by kernel_rfl) (fun _ _ _ h => h) (Or.inl ⟨by rfl, ?_⟩) (by assumption) ?_
            rotate_left 1
            · intro w hSw
              obtain ⟨hs1, hs2⟩ := HSX.out w hSw
              go_simp
              try with_reducible rfl
            try simp only [Act.put, List.getElem_toArray, List.getElem_cons_zero, List.getElem_cons_succ, List.setIfInBounds_toArray, List.set_cons_zero, List.set_cons_succ]
            refine wpAnyH_take (i := 7) (v := ?_) rfl (by kernel_rfl) (by kernel_rfl) (by kernel_rfl) (fun _ _ _ h => h) (Or.inl ⟨by rfl, ?_⟩) (by assumption) ?_
            rotate_left 1
            · intro w hSw
              obtain ⟨hs1, hs2⟩ := HSX.out w hSw
              go_simp
              try with_reducible rfl
            try simp only [Act.put, List.getElem_toArray, List.getElem_cons_zero, List.getElem_cons_succ, List.setIfInBounds_toArray, List.set_cons_zero, List.set_cons_succ]
            refine wpAnyH_done (by kernel_rfl) ?_ _
            have HK8 := hid_of (HK7.out.trans HD.out)
            have HO8 := hid_of (HD.out.ownsRow HO7.out (fun _ _ f => f))
            have HX8 := hid_of ((HD.out.block w.heap.size (Array.getElem?_eq_some_iff.1 HX7.out).1 (fun f => f)).trans HX7.out)
            clear HK7 HX7 HO7 HD HSX
            generalize w5.drew = w8 at *
            have hsx8 : w.heap.size + 1 ≤ w8.heap.size := by have := (Array.getElem?_eq_some_iff.1 HX8.out).1; omega
            have howx := HO8.out
            rw [HM.out] at howx
            obtain ⟨v7, w9, hr7, ho7, ⟨g9, c9, hv7⟩, hk7⟩ := app_ent w8 _ (w.heap.size + 1) ou y HY32.out howx hsx8 (by have := HM.out; omega)
            have hl7 : (ou ++ [y]).length = m + 1 := by rw [List.length_append, HM.out]; rfl
            rw [hl7] at hv7 ho7
            subst hv7
            rw [← HM.out] at hr7
            have hlt7 := howx.lt
            have HREL : Hid (m + 1 = (ou ++ [y]).length ∧ withL x false ys = (ou ++ [y]) ++ withL x false (ys.drop (i + 1)) ∧ w9.ownsRow (w.heap.size + 1) 41 34 (.slice (some ⟨g9, 0, none⟩) (m + 1) c9) (m + 1) (ents (ou ++ [y])) ∧ Kept (fun _ => False) w w9 ∧ w9.heap[w.heap.size]? = some (.cells x.cells.toArray 41 (0, 0))) := ⟨hl7.symm, HT.out, ho7, HK8.out.step hk7 (fun q hq e => by have := (hlt7 q e).1; omega), (hk7.block w.heap.size (by omega) (fun e => by have := (hlt7 _ e).1; omega)).trans HX8.out⟩
            have HR9 := hid_of hr7
            have HRG := hid_of (HRW.out w8 HK8.out)
            clear howx ho7 hr7 hl7 hlt7 hk7 HK8 HX8 HO8 HM HT
            go_wp2_with (first | refine wpList_load_mid rfl 41 _ rfl g (o + i * 34) rfl y.cells _ HRG.out Tryz.underlying41 rfl HSZ.out ?_ | refine wpList_build47 rfl _ rfl y.cells rfl hyl ?_ | (refine wp_app2 rfl (.tmp 39) (.tmp 44) 22 22 ?_ _ _ rfl rfl (.slice (some ⟨g9, 0, none⟩) (m + 1) c9) w9 ?_ ?_; rfl; exact HR9.out))
            go_roundw
            case rel => exact ⟨i + 1, m + 1, false, ou ++ [y], some ⟨g9, 0, none⟩, c9, by omega, by omega, by go_num, rfl, rfl, HREL.out⟩
            case measure => simp [intOf]; omega
          · have HT : Hid (withL x false ys = ou ++ withL x false (ys.drop (i + 1))) := by unfold Hid; rw [ht]; simp
            clear ht
            go_upto_region 6 with fail
            refine wp_region_held_drew (S := fun w' => Kept (fun _ => False) wr w') (by kernel_rfl) HD.out (fun hHeld => ?_)
            refine wpAnyH_take (i := 0) (v := ?_) rfl (by kernel_rfl) (by kernel_rfl) (by kernel_rfl) (fun _ _ _ h => h) (Or.inl ⟨by rfl, ?_⟩) (by assumption) ?_
            rotate_left 1
            · intro w hSw
              obtain ⟨hs1, hs2⟩ := HSX.out w hSw
              go_simp
              try with_reducible rfl
            try simp only [Act.put, List.getElem_toArray, List.getElem_cons_zero, List.getElem_cons_succ, List.setIfInBounds_toArray, List.set_cons_zero, List.set_cons_succ]
            refine wpAnyH_take (i := 1) (v := ?_) rfl (by kernel_rfl) (by kernel_rfl) (by kernel_rfl) (fun _ _ _ h => h) (Or.inl ⟨by rfl, ?_⟩) (by assumption) ?_
            rotate_left 1
            · intro w hSw
              obtain ⟨hs1, hs2⟩ := HSX.out w hSw
              go_simp
              try with_reducible rfl
            try simp only [Act.put, List.getElem_toArray, List.getElem_cons_zero, List.getElem_cons_succ, List.setIfInBounds_toArray, List.set_cons_zero, List.set_cons_succ]
            refine wpAnyH_take (i := 2) (v := ?_) rfl (by kernel_rfl) (by kernel_rfl) (by kernel_rfl) (fun _ _ _ h => h) (Or.inl ⟨by rfl, ?_⟩) (by assumption) ?_
            rotate_left 1
            · intro w hSw
              obtain ⟨hs1, hs2⟩ := HSX.out w hSw
              go_simp
              try with_reducible rfl
            try simp only [Act.put, List.getElem_toArray, List.getElem_cons_zero, List.getElem_cons_succ, List.setIfInBounds_toArray, List.set_cons_zero, List.set_cons_succ]
            refine wpAnyH_take (i := 3) (v := ?_) rfl (by kernel_rfl) (by kernel_rfl) (by kernel_rfl) (fun _ _ _ h => h) (Or.inl ⟨by rfl, ?_⟩) (by assumption) ?_
            rotate_left 1
            · intro w hSw
              obtain ⟨hs1, hs2⟩ := HSX.out w hSw
              go_simp
              try with_reducible rfl
            try simp only [Act.put, List.getElem_toArray, List.getElem_cons_zero, List.getElem_cons_succ, List.setIfInBounds_toArray, List.set_cons_zero, List.set_cons_succ]
            refine wpAnyH_take (i := 4) (v := ?_) rfl (by kernel_rfl) (by kernel_rfl) (by kernel_rfl) (fun _ _ _ h => h) (Or.inl ⟨by rfl, ?_⟩) (by assumption) ?_
            rotate_left 1
            · intro w hSw
              obtain ⟨hs1, hs2⟩ := HSX.out w hSw
              go_simp
              try with_reducible rfl
            try simp only [Act.put, List.getElem_toArray, List.getElem_cons_zero, List.getElem_cons_succ, List.setIfInBounds_toArray, List.set_cons_zero, List.set_cons_succ]
            refine wpAnyH_take (i := 5) (v := ?_) rfl (by kernel_rfl) (by kernel_rfl) (by kernel_rfl) (fun _ _ _ h => h) (Or.inl ⟨by rfl, ?_⟩) (by assumption) ?_
            rotate_left 1
            · intro w hSw
              obtain ⟨hs1, hs2⟩ := HSX.out w hSw
              go_simp
              try with_reducible rfl
            try simp only [Act.put, List.getElem_toArray, List.getElem_cons_zero, List.getElem_cons_succ, List.setIfInBounds_toArray, List.set_cons_zero, List.set_cons_succ]
            refine wpAnyH_take (i := 6) (v := ?_) rfl (by kernel_rfl) (by kernel_rfl) (by kernel_rfl) (fun _ _ _ h => h) (Or.inl ⟨by rfl, ?_⟩) (by assumption) ?_
            rotate_left 1
            · intro w hSw
              obtain ⟨hs1, hs2⟩ := HSX.out w hSw
              go_simp
              try with_reducible rfl
            try simp only [Act.put, List.getElem_toArray, List.getElem_cons_zero, List.getElem_cons_succ, List.setIfInBounds_toArray, List.set_cons_zero, List.set_cons_succ]
            refine wpAnyH_take (i := 7) (v := ?_) rfl (by kernel_rfl) (by kernel_rfl) (by kernel_rfl) (fun _ _ _ h => h) (Or.inl ⟨by rfl, ?_⟩) (by assumption) ?_
            rotate_left 1
            · intro w hSw
              obtain ⟨hs1, hs2⟩ := HSX.out w hSw
              go_simp
              try with_reducible rfl
            try simp only [Act.put, List.getElem_toArray, List.getElem_cons_zero, List.getElem_cons_succ, List.setIfInBounds_toArray, List.set_cons_zero, List.set_cons_succ]
            refine wpAnyH_take (i := 8) (v := ?_) rfl (by kernel_rfl) (by kernel_rfl) (by kernel_rfl) (fun _ _ _ h => h) (Or.inl ⟨by rfl, ?_⟩) (by assumption) ?_
            rotate_left 1
            · intro w hSw
              obtain ⟨hs1, hs2⟩ := HSX.out w hSw
              go_simp
              try with_reducible rfl
            try simp only [Act.put, List.getElem_toArray, List.getElem_cons_zero, List.getElem_cons_succ, List.setIfInBounds_toArray, List.set_cons_zero, List.set_cons_succ]
            refine wpAnyH_take (i := 9) (v := ?_) rfl (by kernel_rfl) (by kernel_rfl) (by kernel_rfl) (fun _ _ _ h => h) (Or.inl ⟨by rfl, ?_⟩) (by assumption) ?_
            rotate_left 1
            · intro w hSw
              obtain ⟨hs1, hs2⟩ := HSX.out w hSw
              go_simp
              try with_reducible rfl
            try simp only [Act.put, List.getElem_toArray, List.getElem_cons_zero, List.getElem_cons_succ, List.setIfInBounds_toArray, List.set_cons_zero, List.set_cons_succ]
            refine wpAnyH_ready (rs := [10]) (by kernel_rfl) (by simp) ?_
            refine AllReadyH.cons rfl (fun K hK => ?_) AllReadyH.nil
            go_simp
            refine (HAB.out _).mono ?_
            rintro e w5 ⟨rfl, k5, hw5⟩
            have hk5 : Kept (fun _ => False) wr.drew w5 := by rw [hw5]; exact kept_drewN (Kept.refl _ _) k5
            clear hw5
            have hk6 : Kept (fun _ => False) wr w5 := HD.out.trans hk5
            refine hK.out _ _ hk6 (fun hHeld => ?_)
            clear hK K hk5
            try simp only [Act.put, List.getElem_toArray, List.getElem_cons_zero, List.getElem_cons_succ, List.setIfInBounds_toArray, List.set_cons_zero, List.set_cons_succ]
            refine wpAnyH_take (i := 11) (v := ?_) rfl (by kernel_rfl) (by kernel_rfl) (by kernel_rfl) (fun _ _ _ h => h) (Or.inl ⟨by rfl, ?_⟩) (by assumption) ?_
            rotate_left 1
            · intro w hSw
              obtain ⟨hs1, hs2⟩ := HSX.out w hSw
              go_simp
              try with_reducible rfl
            try simp only [Act.put, List.getElem_toArray, List.getElem_cons_zero, List.getElem_cons_succ, List.setIfInBounds_toArray, List.set_cons_zero, List.set_cons_succ]
            refine wpAnyH_take (i := 12) (v := ?_) rfl (by kernel_rfl) (by kernel_rfl) (by kernel_rfl) (fun _ _ _ h => h) (Or.inl ⟨by rfl, ?_⟩) (by assumption) ?_
            rotate_left 1
            · intro w hSw
              obtain ⟨hs1, hs2⟩ := HSX.out w hSw
              go_simp
              try with_reducible rfl
            try simp only [Act.put, List.getElem_toArray, List.getElem_cons_zero, List.getElem_cons_succ, List.setIfInBounds_toArray, List.set_cons_zero, List.set_cons_succ]
            refine wpAnyH_done (by kernel_rfl) ?_ _
            have hk6x := hk6
            have HK6 := hid_of (HK.out.trans hk6x)
            have HW6 := hid_of (hk6x.ownsRow HOW.out (fun _ _ f => f))
            have HX6 := hid_of ((hk6x.block w.heap.size HXL.out (fun f => f)).trans HX.out)
            have hsx6 : w.heap.size + 1 ≤ w5.heap.size := by have := (Array.getElem?_eq_some_iff.1 HX6.out).1; omega
            clear hk6x hk6
            clear HD HK HOW HX HXL
            have HK7 := hid_of HK6.out
            have HX7 := hid_of HX6.out
            have HO7 := hid_of HW6.out
            clear HK6 HX6 HW6
            go_upto_region 9 with fail
            have HD : Hid (Kept (fun _ => False) w5 w5.drew) := (Kept.refl _ _).drew
            have HSX : Hid (∀ W, Kept (fun _ => False) w5 W → W.cell? ⟨w.heap.size, 0, none⟩ = some (.string (str x.nm)) ∧ W.cell? ⟨g, o + i * 34, none⟩ = some (.string (str y.nm))) := fun W hW => HSW.out W (HK7.out.trans hW) ((hW.block w.heap.size (Array.getElem?_eq_some_iff.1 HX7.out).1 (fun f => f)).trans HX7.out)
            refine wp_region_held_drew (S := fun w' => Kept (fun _ => False) w5 w') (by kernel_rfl) HD.out (fun hHeld => ?_)
            refine wpAnyH_take (i := 0) (v := ?_) rfl (by kernel_rfl) (by kernel_rfl) (by kernel_rfl) (fun _ _ _ h => h) (Or.inl ⟨by rfl, ?_⟩) (by assumption) ?_
            rotate_left 1
            · intro w hSw
              obtain ⟨hs1, hs2⟩ := HSX.out w hSw
              go_simp
              try with_reducible rfl
            try simp only [Act.put, List.getElem_toArray, List.getElem_cons_zero, List.getElem_cons_succ, List.setIfInBounds_toArray, List.set_cons_zero, List.set_cons_succ]
            refine wpAnyH_take (i := 1) (v := ?_) rfl (by kernel_rfl) (by kernel_rfl) (by kernel_rfl) (fun _ _ _ h => h) (Or.inl ⟨by rfl, ?_⟩) (by assumption) ?_
            rotate_left 1
            · intro w hSw
              obtain ⟨hs1, hs2⟩ := HSX.out w hSw
              go_simp
              try with_reducible rfl
            try simp only [Act.put, List.getElem_toArray, List.getElem_cons_zero, List.getElem_cons_succ, List.setIfInBounds_toArray, List.set_cons_zero, List.set_cons_succ]
            refine wpAnyH_take (i := 2) (v := ?_) rfl (by kernel_rfl) (by kernel_rfl) (by kernel_rfl) (fun _ _ _ h => h) (Or.inl ⟨by rfl, ?_⟩) (by assumption) ?_
            rotate_left 1
            · intro w hSw
              obtain ⟨hs1, hs2⟩ := HSX.out w hSw
              go_simp
              try with_reducible rfl
            try simp only [Act.put, List.getElem_toArray, List.getElem_cons_zero, List.getElem_cons_succ, List.setIfInBounds_toArray, List.set_cons_zero, List.set_cons_succ]
            refine wpAnyH_take (i := 3) (v := ?_) rfl (by kernel_rfl) (by kernel_rfl) (by kernel_rfl) (fun _ _ _ h => h) (Or.inl ⟨by rfl, ?_⟩) (by assumption) ?_
            rotate_left 1
            · intro w hSw
              obtain ⟨hs1, hs2⟩ := HSX.out w hSw
              go_simp
              try with_reducible rfl
            try simp only [Act.put, List.getElem_toArray, List.getElem_cons_zero, List.getElem_cons_succ, List.setIfInBounds_toArray, List.set_cons_zero, List.set_cons_succ]
            refine wpAnyH_take (i := 4) (v := ?_) rfl (by kernel_rfl) (by kernel_rfl) (by kernel_rfl) (fun _ _ _ h => h) (Or.inl ⟨by rfl, ?_⟩) (by assumption) ?_
            rotate_left 1
            · intro w hSw
              obtain ⟨hs1, hs2⟩ := HSX.out w hSw
              go_simp
              try with_reducible rfl
            try simp only [Act.put, List.getElem_toArray, List.getElem_cons_zero, List.getElem_cons_succ, List.setIfInBounds_toArray, List.set_cons_zero, List.set_cons_succ]
            refine wpAnyH_take (i := 5) (v := ?_) rfl (by kernel_rfl) (by kernel_rfl) (by kernel_rfl) (fun _ _ _ h => h) (Or.inl ⟨by rfl, ?_⟩) (by assumption) ?_
            rotate_left 1
            · intro w hSw
              obtain ⟨hs1, hs2⟩ := HSX.out w hSw
              go_simp
              try with_reducible rfl
            try simp only [Act.put, List.getElem_toArray, List.getElem_cons_zero, List.getElem_cons_succ, List.setIfInBounds_toArray, List.set_cons_zero, List.set_cons_succ]
            refine wpAnyH_take (i := 6) (v := ?_) rfl (by kernel_rfl) (by kernel_rfl) (by kernel_rfl) (fun _ _ _ h => h) (Or.inl ⟨by rfl, ?_⟩) (by assumption) ?_
            rotate_left 1
            · intro w hSw
              obtain ⟨hs1, hs2⟩ := HSX.out w hSw
              go_simp
              try with_reducible rfl
            try simp only [Act.put, List.getElem_toArray, List.getElem_cons_zero, List.getElem_cons_succ, List.setIfInBounds_toArray, List.set_cons_zero, List.set_cons_succ]
            refine wpAnyH_take (i := 7) (v := ?_) rfl (by kernel_rfl) (by kernel_rfl) (by kernel_rfl) (fun _ _ _ h => h) (Or.inl ⟨by rfl, ?_⟩) (by assumption) ?_
            rotate_left 1
            · intro w hSw
              obtain ⟨hs1, hs2⟩ := HSX.out w hSw
              go_simp
              try with_reducible rfl
            try simp only [Act.put, List.getElem_toArray, List.getElem_cons_zero, List.getElem_cons_succ, List.setIfInBounds_toArray, List.set_cons_zero, List.set_cons_succ]
            refine wpAnyH_done (by kernel_rfl) ?_ _
            have HK8 := hid_of (HK7.out.trans HD.out)
            have HO8 := hid_of (HD.out.ownsRow HO7.out (fun _ _ f => f))
            have HX8 := hid_of ((HD.out.block w.heap.size (Array.getElem?_eq_some_iff.1 HX7.out).1 (fun f => f)).trans HX7.out)
            clear HK7 HX7 HO7 HD HSX
            generalize w5.drew = w8 at *
            go_wp2
            go_roundw
            case rel => exact ⟨i + 1, m, false, ou, ao', cp, by omega, by omega, by go_num, rfl, rfl, HM.out, HT.out, HO8.out, HK8.out, HX8.out⟩
            case measure => simp [intOf]; omega
      · obtain ⟨ab', hab'⟩ : ∃ ab', ab' = ab := ⟨_, rfl⟩
        cases q
        · have HT : Hid (withL x false ys = (ou ++ [y]) ++ withL x true (ys.drop (i + 1))) := by unfold Hid; rw [ht]; simp
          clear ht
          clear HAB
          go_upto_region 6 with fail
          refine wp_region_held_drew (S := fun w' => Kept (fun _ => False) wr w') (by kernel_rfl) HD.out (fun hHeld => ?_)
          refine wpAnyH_take (i := 0) (v := ?_) rfl (by kernel_rfl) (by kernel_rfl) (by kernel_rfl) (fun _ _ _ h => h) (Or.inl ⟨by rfl, ?_⟩) (by assumption) ?_
          rotate_left 1
          · intro w hSw
            obtain ⟨hs1, hs2⟩ := HSX.out w hSw
            go_simp
            try with_reducible rfl
          try simp only [Act.put, List.getElem_toArray, List.getElem_cons_zero, List.getElem_cons_succ, List.setIfInBounds_toArray, List.set_cons_zero, List.set_cons_succ]
          refine wpAnyH_take (i := 1) (v := ?_) rfl (by kernel_rfl) (by kernel_rfl) (by kernel_rfl) (fun _ _ _ h => h) (Or.inl ⟨by rfl, ?_⟩) (by assumption) ?_
          rotate_left 1
          · intro w hSw
            obtain ⟨hs1, hs2⟩ := HSX.out w hSw
            go_simp
            try with_reducible rfl
          try simp only [Act.put, List.getElem_toArray, List.getElem_cons_zero, List.getElem_cons_succ, List.setIfInBounds_toArray, List.set_cons_zero, List.set_cons_succ]
          refine wpAnyH_take (i := 2) (v := ?_) rfl (by kernel_rfl) (by kernel_rfl) (by kernel_rfl) (fun _ _ _ h => h) (Or.inl ⟨by rfl, ?_⟩) (by assumption) ?_
          rotate_left 1
          · intro w hSw
            obtain ⟨hs1, hs2⟩ := HSX.out w hSw
            go_simp
            try with_reducible rfl
          try simp only [Act.put, List.getElem_toArray, List.getElem_cons_zero, List.getElem_cons_succ, List.setIfInBounds_toArray, List.set_cons_zero, List.set_cons_succ]
          refine wpAnyH_take (i := 3) (v := undef) rfl (by kernel_rfl) (by kernel_rfl) (by kernel_rfl) (fun _ _ _ h => h) (Or.inr ⟨by rfl, rfl⟩) (by assumption) ?_
          try simp only [Act.put, List.getElem_toArray, List.getElem_cons_zero, List.getElem_cons_succ, List.setIfInBounds_toArray, List.set_cons_zero, List.set_cons_succ]
          refine wpAnyH_take (i := 4) (v := undef) rfl (by kernel_rfl) (by kernel_rfl) (by kernel_rfl) (fun _ _ _ h => h) (Or.inr ⟨by rfl, rfl⟩) (by assumption) ?_
          try simp only [Act.put, List.getElem_toArray, List.getElem_cons_zero, List.getElem_cons_succ, List.setIfInBounds_toArray, List.set_cons_zero, List.set_cons_succ]
          refine wpAnyH_take (i := 5) (v := undef) rfl (by kernel_rfl) (by kernel_rfl) (by kernel_rfl) (fun _ _ _ h => h) (Or.inr ⟨by rfl, rfl⟩) (by assumption) ?_
          try simp only [Act.put, List.getElem_toArray, List.getElem_cons_zero, List.getElem_cons_succ, List.setIfInBounds_toArray, List.set_cons_zero, List.set_cons_succ]
          refine wpAnyH_take (i := 6) (v := undef) rfl (by kernel_rfl) (by kernel_rfl) (by kernel_rfl) (fun _ _ _ h => h) (Or.inr ⟨by rfl, rfl⟩) (by assumption) ?_
          try simp only [Act.put, List.getElem_toArray, List.getElem_cons_zero, List.getElem_cons_succ, List.setIfInBounds_toArray, List.set_cons_zero, List.set_cons_succ]
          refine wpAnyH_take (i := 7) (v := undef) rfl (by kernel_rfl) (by kernel_rfl) (by kernel_rfl) (fun _ _ _ h => h) (Or.inr ⟨by rfl, rfl⟩) (by assumption) ?_
          try simp only [Act.put, List.getElem_toArray, List.getElem_cons_zero, List.getElem_cons_succ, List.setIfInBounds_toArray, List.set_cons_zero, List.set_cons_succ]
          refine wpAnyH_take (i := 8) (v := undef) rfl (by kernel_rfl) (by kernel_rfl) (by kernel_rfl) (fun _ _ _ h => h) (Or.inr ⟨by rfl, rfl⟩) (by assumption) ?_
          try simp only [Act.put, List.getElem_toArray, List.getElem_cons_zero, List.getElem_cons_succ, List.setIfInBounds_toArray, List.set_cons_zero, List.set_cons_succ]
          refine wpAnyH_take (i := 9) (v := undef) rfl (by kernel_rfl) (by kernel_rfl) (by kernel_rfl) (fun _ _ _ h => h) (Or.inr ⟨by rfl, rfl⟩) (by assumption) ?_
          try simp only [Act.put, List.getElem_toArray, List.getElem_cons_zero, List.getElem_cons_succ, List.setIfInBounds_toArray, List.set_cons_zero, List.set_cons_succ]
          refine wpAnyH_ready (rs := [10]) (by kernel_rfl) (by simp) ?_
          refine AllReadyH.cons rfl (fun K hK => ?_) AllReadyH.nil
          go_simp
          refine hK.out _ _ (by assumption) (fun hHeld => ?_)
          clear hK K
          try simp only [Act.put, List.getElem_toArray, List.getElem_cons_zero, List.getElem_cons_succ, List.setIfInBounds_toArray, List.set_cons_zero, List.set_cons_succ]
          refine wpAnyH_take (i := 11) (v := undef) rfl (by kernel_rfl) (by kernel_rfl) (by kernel_rfl) (fun _ _ _ h => h) (Or.inr ⟨by rfl, rfl⟩) (by assumption) ?_
          try simp only [Act.put, List.getElem_toArray, List.getElem_cons_zero, List.getElem_cons_succ, List.setIfInBounds_toArray, List.set_cons_zero, List.set_cons_succ]
          refine wpAnyH_take (i := 12) (v := ?_) rfl (by kernel_rfl) (by kernel_rfl) (by kernel_rfl) (fun _ _ _ h => h) (Or.inl ⟨by rfl, ?_⟩) (by assumption) ?_
          rotate_left 1
          · intro w hSw
            obtain ⟨hs1, hs2⟩ := HSX.out w hSw
            go_simp
            try with_reducible rfl
          try simp only [Act.put, List.getElem_toArray, List.getElem_cons_zero, List.getElem_cons_succ, List.setIfInBounds_toArray, List.set_cons_zero, List.set_cons_succ]
          refine wpAnyH_done (by kernel_rfl) ?_ _
          have hk6x := HD.out
          have HK6 := hid_of (HK.out.trans hk6x)
          have HW6 := hid_of (hk6x.ownsRow HOW.out (fun _ _ f => f))
          have HX6 := hid_of ((hk6x.block w.heap.size HXL.out (fun f => f)).trans HX.out)
          have hsx6 : w.heap.size + 1 ≤ wr.drew.heap.size := by have := (Array.getElem?_eq_some_iff.1 HX6.out).1; omega
          clear hk6x
          generalize wr.drew = w5 at *
          clear HD HK HOW HX HXL
          have HK7 := hid_of HK6.out
          have HX7 := hid_of HX6.out
          have HO7 := hid_of HW6.out
          clear HK6 HX6 HW6
          go_upto_region 9 with fail
          have HD : Hid (Kept (fun _ => False) w5 w5.drew) := (Kept.refl _ _).drew
          have HSX : Hid (∀ W, Kept (fun _ => False) w5 W → W.cell? ⟨w.heap.size, 0, none⟩ = some (.string (str x.nm)) ∧ W.cell? ⟨g, o + i * 34, none⟩ = some (.string (str y.nm))) := fun W hW => HSW.out W (HK7.out.trans hW) ((hW.block w.heap.size (Array.getElem?_eq_some_iff.1 HX7.out).1 (fun f => f)).trans HX7.out)
          refine wp_region_held_drew (S := fun w' => Kept (fun _ => False) w5 w') (by kernel_rfl) HD.out (fun hHeld => ?_)
          refine wpAnyH_take (i := 0) (v := ?_) rfl (by kernel_rfl) (by kernel_rfl) (by kernel_rfl) (fun _ _ _ h => h) (Or.inl ⟨by rfl, ?_⟩) (by assumption) ?_
          rotate_left 1
          · intro w hSw
            obtain ⟨hs1, hs2⟩ := HSX.out w hSw
            go_simp
            try with_reducible rfl
          try simp only [Act.put, List.getElem_toArray, List.getElem_cons_zero, List.getElem_cons_succ, List.setIfInBounds_toArray, List.set_cons_zero, List.set_cons_succ]
          refine wpAnyH_take (i := 1) (v := ?_) rfl (by kernel_rfl) (by kernel_rfl) (by kernel_rfl) (fun _ _ _ h => h) (Or.inl ⟨by rfl, ?_⟩) (by assumption) ?_
          rotate_left 1
          · intro w hSw
            obtain ⟨hs1, hs2⟩ := HSX.out w hSw
            go_simp
            try with_reducible rfl
          try simp only [Act.put, List.getElem_toArray, List.getElem_cons_zero, List.getElem_cons_succ, List.setIfInBounds_toArray, List.set_cons_zero, List.set_cons_succ]
          refine wpAnyH_take (i := 2) (v := ?_) rfl (by kernel_rfl) (by kernel_rfl) (by kernel_rfl) (fun _ _ _ h => h) (Or.inl ⟨by rfl, ?_⟩) (by assumption) ?_
          rotate_left 1
          · intro w hSw
            obtain ⟨hs1, hs2⟩ := HSX.out w hSw
            go_simp
            try with_reducible rfl
          try simp only [Act.put, List.getElem_toArray, List.getElem_cons_zero, List.getElem_cons_succ, List.setIfInBounds_toArray, List.set_cons_zero, List.set_cons_succ]
          refine wpAnyH_take (i := 3) (v := ?_) rfl (by kernel_rfl) (by kernel_rfl) (by kernel_rfl) (fun _ _ _ h => h) (Or.inl ⟨by rfl, ?_⟩) (by assumption) ?_
          rotate_left 1
          · intro w hSw
            obtain ⟨hs1, hs2⟩ := HSX.out w hSw
            go_simp
            try with_reducible rfl
          try simp only [Act.put, List.getElem_toArray, List.getElem_cons_zero, List.getElem_cons_succ, List.setIfInBounds_toArray, List.set_cons_zero, List.set_cons_succ]
          refine wpAnyH_take (i := 4) (v := ?_) rfl (by kernel_rfl) (by kernel_rfl) (by kernel_rfl) (fun _ _ _ h => h) (Or.inl ⟨by rfl, ?_⟩) (by assumption) ?_
          rotate_left 1
          · intro w hSw
            obtain ⟨hs1, hs2⟩ := HSX.out w hSw
            go_simp
            try with_reducible rfl
          try simp only [Act.put, List.getElem_toArray, List.getElem_cons_zero, List.getElem_cons_succ, List.setIfInBounds_toArray, List.set_cons_zero, List.set_cons_succ]
          refine wpAnyH_take (i := 5) (v := ?_) rfl (by kernel_rfl) (by kernel_rfl) (by kernel_rfl) (fun _ _ _ h => h) (Or.inl ⟨by rfl, ?_⟩) (by assumption) ?_
          rotate_left 1
          · intro w hSw
            obtain ⟨hs1, hs2⟩ := HSX.out w hSw
            go_simp
            try with_reducible rfl
          try simp only [Act.put, List.getElem_toArray, List.getElem_cons_zero, List.getElem_cons_succ, List.setIfInBounds_toArray, List.set_cons_zero, List.set_cons_succ]
          refine wpAnyH_take (i := 6) (v := ?_) rfl (by kernel_rfl) (by kernel_rfl) (by kernel_rfl) (fun _ _ _ h => h) (Or.inl ⟨by rfl, ?_⟩) (by assumption) ?_
          rotate_left 1
          · intro w hSw
            obtain ⟨hs1, hs2⟩ := HSX.out w hSw
            go_simp
            try with_reducible rfl
          try simp only [Act.put, List.getElem_toArray, List.getElem_cons_zero, List.getElem_cons_succ, List.setIfInBounds_toArray, List.set_cons_zero, List.set_cons_succ]
          refine wpAnyH_take (i := 7) (v := ?_) rfl (by kernel_rfl) (by kernel_rfl) (by kernel_rfl) (fun _ _ _ h => h) (Or.inl ⟨by rfl, ?_⟩) (by assumption) ?_
          rotate_left 1
          · intro w hSw
            obtain ⟨hs1, hs2⟩ := HSX.out w hSw
            go_simp
            try with_reducible rfl
          try simp only [Act.put, List.getElem_toArray, List.getElem_cons_zero, List.getElem_cons_succ, List.setIfInBounds_toArray, List.set_cons_zero, List.set_cons_succ]
          refine wpAnyH_done (by kernel_rfl) ?_ _
          have HK8 := hid_of (HK7.out.trans HD.out)
          have HO8 := hid_of (HD.out.ownsRow HO7.out (fun _ _ f => f))
          have HX8 := hid_of ((HD.out.block w.heap.size (Array.getElem?_eq_some_iff.1 HX7.out).1 (fun f => f)).trans HX7.out)
          clear HK7 HX7 HO7 HD HSX
          generalize w5.drew = w8 at *
          have hsx8 : w.heap.size + 1 ≤ w8.heap.size := by have := (Array.getElem?_eq_some_iff.1 HX8.out).1; omega
          have howx := HO8.out
          rw [HM.out] at howx
          obtain ⟨v7, w9, hr7, ho7, ⟨g9, c9, hv7⟩, hk7⟩ := app_ent w8 _ (w.heap.size + 1) ou y HY32.out howx hsx8 (by have := HM.out; omega)
          have hl7 : (ou ++ [y]).length = m + 1 := by rw [List.length_append, HM.out]; rfl
          rw [hl7] at hv7 ho7
          subst hv7
          rw [← HM.out] at hr7
          have hlt7 := howx.lt
          have HREL : Hid (m + 1 = (ou ++ [y]).length ∧ withL x false ys = (ou ++ [y]) ++ withL x true (ys.drop (i + 1)) ∧ w9.ownsRow (w.heap.size + 1) 41 34 (.slice (some ⟨g9, 0, none⟩) (m + 1) c9) (m + 1) (ents (ou ++ [y])) ∧ Kept (fun _ => False) w w9 ∧ w9.heap[w.heap.size]? = some (.cells x.cells.toArray 41 (0, 0))) := ⟨hl7.symm, HT.out, ho7, HK8.out.step hk7 (fun q hq e => by have := (hlt7 q e).1; omega), (hk7.block w.heap.size (by omega) (fun e => by have := (hlt7 _ e).1; omega)).trans HX8.out⟩
          have HR9 := hid_of hr7
          have HRG := hid_of (HRW.out w8 HK8.out)
          clear howx ho7 hr7 hl7 hlt7 hk7 HK8 HX8 HO8 HM HT
          go_wp2_with (first | refine wpList_load_mid rfl 41 _ rfl g (o + i * 34) rfl y.cells _ HRG.out Tryz.underlying41 rfl HSZ.out ?_ | refine wpList_build47 rfl _ rfl y.cells rfl hyl ?_ | (refine wp_app2 rfl (.tmp 39) (.tmp 44) 22 22 ?_ _ _ rfl rfl (.slice (some ⟨g9, 0, none⟩) (m + 1) c9) w9 ?_ ?_; rfl; exact HR9.out))
          go_roundw
          case rel => exact ⟨i + 1, m + 1, true, ou ++ [y], some ⟨g9, 0, none⟩, c9, by omega, by omega, by go_num, rfl, rfl, HREL.out⟩
          case measure => simp [intOf]; omega
        · have HT : Hid (withL x false ys = ou ++ withL x true (ys.drop (i + 1))) := by unfold Hid; rw [ht]; simp
          clear ht
          clear HAB
          go_upto_region 6 with fail
          refine wp_region_held_drew (S := fun w' => Kept (fun _ => False) wr w') (by kernel_rfl) HD.out (fun hHeld => ?_)
          refine wpAnyH_take (i := 0) (v := ?_) rfl (by kernel_rfl) (by kernel_rfl) (by kernel_rfl) (fun _ _ _ h => h) (Or.inl ⟨by rfl, ?_⟩) (by assumption) ?_
          rotate_left 1
          · intro w hSw
            obtain ⟨hs1, hs2⟩ := HSX.out w hSw
            go_simp
            try with_reducible rfl
          try simp only [Act.put, List.getElem_toArray, List.getElem_cons_zero, List.getElem_cons_succ, List.setIfInBounds_toArray, List.set_cons_zero, List.set_cons_succ]
          refine wpAnyH_take (i := 1) (v := ?_) rfl (by kernel_rfl) (by kernel_rfl) (by kernel_rfl) (fun _ _ _ h => h) (Or.inl ⟨by rfl, ?_⟩) (by assumption) ?_
          rotate_left 1
          · intro w hSw
            obtain ⟨hs1, hs2⟩ := HSX.out w hSw
            go_simp
            try with_reducible rfl
          try simp only [Act.put, List.getElem_toArray, List.getElem_cons_zero, List.getElem_cons_succ, List.setIfInBounds_toArray, List.set_cons_zero, List.set_cons_succ]
          refine wpAnyH_take (i := 2) (v := ?_) rfl (by kernel_rfl) (by kernel_rfl) (by kernel_rfl) (fun _ _ _ h => h) (Or.inl ⟨by rfl, ?_⟩) (by assumption) ?_
          rotate_left 1
          · intro w hSw
            obtain ⟨hs1, hs2⟩ := HSX.out w hSw
            go_simp
            try with_reducible rfl
          try simp only [Act.put, List.getElem_toArray, List.getElem_cons_zero, List.getElem_cons_succ, List.setIfInBounds_toArray, List.set_cons_zero, List.set_cons_succ]
          refine wpAnyH_take (i := 3) (v := undef) rfl (by kernel_rfl) (by kernel_rfl) (by kernel_rfl) (fun _ _ _ h => h) (Or.inr ⟨by rfl, rfl⟩) (by assumption) ?_
          try simp only [Act.put, List.getElem_toArray, List.getElem_cons_zero, List.getElem_cons_succ, List.setIfInBounds_toArray, List.set_cons_zero, List.set_cons_succ]
          refine wpAnyH_take (i := 4) (v := undef) rfl (by kernel_rfl) (by kernel_rfl) (by kernel_rfl) (fun _ _ _ h => h) (Or.inr ⟨by rfl, rfl⟩) (by assumption) ?_
          try simp only [Act.put, List.getElem_toArray, List.getElem_cons_zero, List.getElem_cons_succ, List.setIfInBounds_toArray, List.set_cons_zero, List.set_cons_succ]
          refine wpAnyH_take (i := 5) (v := undef) rfl (by kernel_rfl) (by kernel_rfl) (by kernel_rfl) (fun _ _ _ h => h) (Or.inr ⟨by rfl, rfl⟩) (by assumption) ?_
          try simp only [Act.put, List.getElem_toArray, List.getElem_cons_zero, List.getElem_cons_succ, List.setIfInBounds_toArray, List.set_cons_zero, List.set_cons_succ]
          refine wpAnyH_take (i := 6) (v := undef) rfl (by kernel_rfl) (by kernel_rfl) (by kernel_rfl) (fun _ _ _ h => h) (Or.inr ⟨by rfl, rfl⟩) (by assumption) ?_
          try simp only [Act.put, List.getElem_toArray, List.getElem_cons_zero, List.getElem_cons_succ, List.setIfInBounds_toArray, List.set_cons_zero, List.set_cons_succ]
          refine wpAnyH_take (i := 7) (v := undef) rfl (by kernel_rfl) (by kernel_rfl) (by kernel_rfl) (fun _ _ _ h => h) (Or.inr ⟨by rfl, rfl⟩) (by assumption) ?_
          try simp only [Act.put, List.getElem_toArray, List.getElem_cons_zero, List.getElem_cons_succ, List.setIfInBounds_toArray, List.set_cons_zero, List.set_cons_succ]
          refine wpAnyH_take (i := 8) (v := undef) rfl (by kernel_rfl) (by kernel_rfl) (by kernel_rfl) (fun _ _ _ h => h) (Or.inr ⟨by rfl, rfl⟩) (by assumption) ?_
          try simp only [Act.put, List.getElem_toArray, List.getElem_cons_zero, List.getElem_cons_succ, List.setIfInBounds_toArray, List.set_cons_zero, List.set_cons_succ]
          refine wpAnyH_take (i := 9) (v := undef) rfl (by kernel_rfl) (by kernel_rfl) (by kernel_rfl) (fun _ _ _ h => h) (Or.inr ⟨by rfl, rfl⟩) (by assumption) ?_
          try simp only [Act.put, List.getElem_toArray, List.getElem_cons_zero, List.getElem_cons_succ, List.setIfInBounds_toArray, List.set_cons_zero, List.set_cons_succ]
          refine wpAnyH_ready (rs := [10]) (by kernel_rfl) (by simp) ?_
          refine AllReadyH.cons rfl (fun K hK => ?_) AllReadyH.nil
          go_simp
          refine hK.out _ _ (by assumption) (fun hHeld => ?_)
          clear hK K
          try simp only [Act.put, List.getElem_toArray, List.getElem_cons_zero, List.getElem_cons_succ, List.setIfInBounds_toArray, List.set_cons_zero, List.set_cons_succ]
          refine wpAnyH_take (i := 11) (v := undef) rfl (by kernel_rfl) (by kernel_rfl) (by kernel_rfl) (fun _ _ _ h => h) (Or.inr ⟨by rfl, rfl⟩) (by assumption) ?_
          try simp only [Act.put, List.getElem_toArray, List.getElem_cons_zero, List.getElem_cons_succ, List.setIfInBounds_toArray, List.set_cons_zero, List.set_cons_succ]
          refine wpAnyH_take (i := 12) (v := ?_) rfl (by kernel_rfl) (by kernel_rfl) (by kernel_rfl) (fun _ _ _ h => h) (Or.inl ⟨by rfl, ?_⟩) (by assumption) ?_
          rotate_left 1
          · intro w hSw
            obtain ⟨hs1, hs2⟩ := HSX.out w hSw
            go_simp
            try with_reducible rfl
          try simp only [Act.put, List.getElem_toArray, List.getElem_cons_zero, List.getElem_cons_succ, List.setIfInBounds_toArray, List.set_cons_zero, List.set_cons_succ]
          refine wpAnyH_done (by kernel_rfl) ?_ _
          have hk6x := HD.out
          have HK6 := hid_of (HK.out.trans hk6x)
          have HW6 := hid_of (hk6x.ownsRow HOW.out (fun _ _ f => f))
          have HX6 := hid_of ((hk6x.block w.heap.size HXL.out (fun f => f)).trans HX.out)
          have hsx6 : w.heap.size + 1 ≤ wr.drew.heap.size := by have := (Array.getElem?_eq_some_iff.1 HX6.out).1; omega
          clear hk6x
          generalize wr.drew = w5 at *
          clear HD HK HOW HX HXL
          have HK7 := hid_of HK6.out
          have HX7 := hid_of HX6.out
          have HO7 := hid_of HW6.out
          clear HK6 HX6 HW6
          go_upto_region 9 with fail
          have HD : Hid (Kept (fun _ => False) w5 w5.drew) := (Kept.refl _ _).drew
          have HSX : Hid (∀ W, Kept (fun _ => False) w5 W → W.cell? ⟨w.heap.size, 0, none⟩ = some (.string (str x.nm)) ∧ W.cell? ⟨g, o + i * 34, none⟩ = some (.string (str y.nm))) := fun W hW => HSW.out W (HK7.out.trans hW) ((hW.block w.heap.size (Array.getElem?_eq_some_iff.1 HX7.out).1 (fun f => f)).trans HX7.out)
          refine wp_region_held_drew (S := fun w' => Kept (fun _ => False) w5 w') (by kernel_rfl) HD.out (fun hHeld => ?_)
          refine wpAnyH_take (i := 0) (v := ?_) rfl (by kernel_rfl) (by kernel_rfl) (by kernel_rfl) (fun _ _ _ h => h) (Or.inl ⟨by rfl, ?_⟩) (by assumption) ?_
          rotate_left 1
          · intro w hSw
            obtain ⟨hs1, hs2⟩ := HSX.out w hSw
            go_simp
            try with_reducible rfl
          try simp only [Act.put, List.getElem_toArray, List.getElem_cons_zero, List.getElem_cons_succ, List.setIfInBounds_toArray, List.set_cons_zero, List.set_cons_succ]
          refine wpAnyH_take (i := 1) (v := ?_) rfl (by kernel_rfl) (by kernel_rfl) (by kernel_rfl) (fun _ _ _ h => h) (Or.inl ⟨by rfl, ?_⟩) (by assumption) ?_
          rotate_left 1
          · intro w hSw
            obtain ⟨hs1, hs2⟩ := HSX.out w hSw
            go_simp
            try with_reducible rfl
          try simp only [Act.put, List.getElem_toArray, List.getElem_cons_zero, List.getElem_cons_succ, List.setIfInBounds_toArray, List.set_cons_zero, List.set_cons_succ]
          refine wpAnyH_take (i := 2) (v := ?_) rfl (by kernel_rfl) (by kernel_rfl) (by kernel_rfl) (fun _ _ _ h => h) (Or.inl ⟨by rfl, ?_⟩) (by assumption) ?_
          rotate_left 1
          · intro w hSw
            obtain ⟨hs1, hs2⟩ := HSX.out w hSw
            go_simp
            try with_reducible rfl
          try simp only [Act.put, List.getElem_toArray, List.getElem_cons_zero, List.getElem_cons_succ, List.setIfInBounds_toArray, List.set_cons_zero, List.set_cons_succ]
          refine wpAnyH_take (i := 3) (v := ?_) rfl (by kernel_rfl) (by kernel_rfl) (by kernel_rfl) (fun _ _ _ h => h) (Or.inl ⟨by rfl, ?_⟩) (by assumption) ?_
          rotate_left 1
          · intro w hSw
            obtain ⟨hs1, hs2⟩ := HSX.out w hSw
            go_simp
            try with_reducible rfl
          try simp only [Act.put, List.getElem_toArray, List.getElem_cons_zero, List.getElem_cons_succ, List.setIfInBounds_toArray, List.set_cons_zero, List.set_cons_succ]
          refine wpAnyH_take (i := 4) (v := ?_) rfl (by kernel_rfl) (by kernel_rfl) (by kernel_rfl) (fun _ _ _ h => h) (Or.inl ⟨by rfl, ?_⟩) (by assumption) ?_
          rotate_left 1
          · intro w hSw
            obtain ⟨hs1, hs2⟩ := HSX.out w hSw
            go_simp
            try with_reducible rfl
          try simp only [Act.put, List.getElem_toArray, List.getElem_cons_zero, List.getElem_cons_succ, List.setIfInBounds_toArray, List.set_cons_zero, List.set_cons_succ]
          refine wpAnyH_take (i := 5) (v := ?_) rfl (by kernel_rfl) (by kernel_rfl) (by kernel_rfl) (fun _ _ _ h => h) (Or.inl ⟨by rfl, ?_⟩) (by assumption) ?_
          rotate_left 1
          · intro w hSw
            obtain ⟨hs1, hs2⟩ := HSX.out w hSw
            go_simp
            try with_reducible rfl
          try simp only [Act.put, List.getElem_toArray, List.getElem_cons_zero, List.getElem_cons_succ, List.setIfInBounds_toArray, List.set_cons_zero, List.set_cons_succ]
          refine wpAnyH_take (i := 6) (v := ?_) rfl (by kernel_rfl) (by kernel_rfl) (by kernel_rfl) (fun _ _ _ h => h) (Or.inl ⟨by rfl, ?_⟩) (by assumption) ?_
          rotate_left 1
          · intro w hSw
            obtain ⟨hs1, hs2⟩ := HSX.out w hSw
            go_simp
            try with_reducible rfl
          try simp only [Act.put, List.getElem_toArray, List.getElem_cons_zero, List.getElem_cons_succ, List.setIfInBounds_toArray, List.set_cons_zero, List.set_cons_succ]
          refine wpAnyH_take (i := 7) (v := ?_) rfl (by kernel_rfl) (by kernel_rfl) (by kernel_rfl) (fun _ _ _ h => h) (Or.inl ⟨by rfl, ?_⟩) (by assumption) ?_
          rotate_left 1
          · intro w hSw
            obtain ⟨hs1, hs2⟩ := HSX.out w hSw
            go_simp
            try with_reducible rfl
          try simp only [Act.put, List.getElem_toArray, List.getElem_cons_zero, List.getElem_cons_succ, List.setIfInBounds_toArray, List.set_cons_zero, List.set_cons_succ]
          refine wpAnyH_done (by kernel_rfl) ?_ _
          have HK8 := hid_of (HK7.out.trans HD.out)
          have HO8 := hid_of (HD.out.ownsRow HO7.out (fun _ _ f => f))
          have HX8 := hid_of ((HD.out.block w.heap.size (Array.getElem?_eq_some_iff.1 HX7.out).1 (fun f => f)).trans HX7.out)
          clear HK7 HX7 HO7 HD HSX
          generalize w5.drew = w8 at *
          go_wp2
          go_roundw
          case rel => exact ⟨i + 1, m, true, ou, ao', cp, by omega, by omega, by go_num, rfl, rfl, HM.out, HT.out, HO8.out, HK8.out, HX8.out⟩
          case measure => simp [intOf]; omega
    · have hnl : ¬ ((i : Int) < (n : Int)) := by omega
      have hie : i = n := by omega
      subst hie
      rw [List.drop_of_length_le (by rw [HN.out]; exact Nat.le_refl _)] at ht
      cases p
      · have ht2 : withL x false ys = ou ++ [x] := ht
        rw [hm] at ho
        have hsx : w.heap.size + 1 ≤ wr.heap.size := by have := (Array.getElem?_eq_some_iff.1 hX).1; omega
        obtain ⟨v7, w7, hr7, ho7, ⟨g7, c7, hv7⟩, hk7⟩ := app_ent wr _ (w.heap.size + 1) ou x HX32.out ho hsx (by omega)
        have hl7 : (ou ++ [x]).length = m + 1 := by rw [List.length_append, hm]; rfl
        rw [hl7] at hv7 ho7
        subst hv7
        rw [← hm] at hr7
        have hlt7 := ho.lt
        have HG : Hid (RowOut w (withL x false ys) (.returned (.slice (some ⟨g7, 0, none⟩) (m + 1) c7)) w7) := ⟨_, rfl, by rw [ht2, hl7]; exact owns_low ho7, hk.step hk7 (fun q hq e => by have := (hlt7 q e).1; omega)⟩
        have HR7 := hid_of hr7
        clear ht ht2 hm ho hk hX hr7 ho7 hk7 hl7 hlt7 hsx HM HOW HK
        go_wp2_with (first | refine wpList_load_row rfl 41 _ rfl w.heap.size rfl 41 x.cells.toArray (0, 0) _ HX.out Tryz.underlying41 rfl HXS.out ?_ | refine wpList_build47 rfl _ rfl x.cells rfl HXLn.out ?_ | (refine wp_app2 rfl (.tmp 48) (.tmp 50) 22 22 ?_ _ _ rfl rfl (.slice (some ⟨g7, 0, none⟩) (m + 1) c7) w7 ?_ ?_; rfl; exact HR7.out))
        go_ret
        exact HG.out
      · have ht2 : withL x false ys = ou ++ [] := ht
        rw [List.append_nil] at ht2
        have HG : Hid (RowOut w (withL x false ys) (.returned (.slice ao' m cp)) wr) := ⟨_, rfl, by rw [ht2, ← hm]; exact owns_low ho, hk⟩
        clear ht ht2 hm ho hk hX HM HOW HK
        go_wp2
        go_ret
        exact HG.out
end Go.Proofs.YtcpkbajmilkhpabGreatDoor
