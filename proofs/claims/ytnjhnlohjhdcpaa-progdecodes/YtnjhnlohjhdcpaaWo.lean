/-
  ProgOther: the walk.
-/
import Derived.Test.YtnjhnlohjhdcpaaSh
import Derived.Test.YtnjhnlohjhdcpaaBp
import Derived.Test.YtnjhnlohjhdcpaaOxz
namespace Go.Proofs.Ytnjhnlohjhdcpaa
open Go.ChangeShapes Go.WideShapes Go.ChangeAt Go.RowKit Go.Deep
set_option linter.unusedVariables false
set_option linter.unusedSimpArgs false
set_option maxRecDepth 100000

theorem decPD_fault {xs : List Int} {f : Int} (hb : BytesOk xs) (h : decPD xs = .error f) : f ≠ 0 := by
  unfold decPD at h
  split at h
  · cases h; decide
  · cases h1 : progD xs with
    | error e => rw [h1] at h; cases h; exact progD_fault hb h1
    | ok q =>
      obtain ⟨P, rest⟩ := q
      rw [h1] at h
      dsimp only at h
      split at h
      · split at h
        · cases h
        · rename_i hc; cases h; exact hc
      · cases h; decide

set_option maxHeartbeats 8000000 in
theorem other_walk (ao : Option Addr) (c : Nat) (xs : List Int) (w : World) (hx : SrcR w (.slice ao xs.length c) xs) (hib : IsB w (.slice ao xs.length c) xs) (hb : BytesOk xs) :
    Calls Try.prog 8 #[.slice ao xs.length c] w fun e w' => e = .returned (.bool true) ∧ Kept (fun _ => False) w w' := by
  obtain ⟨n, hn⟩ : ∃ n, n = xs.length := ⟨_, rfl⟩
  have HX := hid_of hx
  have HB := hid_of hb
  have HIB := hid_of hib
  rw [← hn] at HX HIB ⊢
  have HN := hid_of hn
  clear hx hb hib hn
  go_enter Try.func8, Try.ntmps8
  go_wp2_with fail
  refine (known_pos w).mono ?_
  rintro e w1 ⟨rfl, hk1, hs1⟩
  obtain ⟨g, hg, hri⟩ := HX.out.at hk1 hs1
  have hD := decode_p g ao c xs w1 (by rw [← HN.out]; exact hri) hg HB.out
  rw [← HN.out] at hD
  have HD := hid_of hD
  have HK1 := hid_of hk1
  clear hk1 hs1 hg hri hD
  go_wp2_with fail
  refine HD.out.mono ?_
  rintro e w2 ⟨hk2, he⟩
  have HK2 := hid_of (HK1.out.trans hk2)
  clear HD hk2
  cases hd : decPD xs with
  | error flt =>
    have hne := decPD_fault HB.out hd
    rw [hd] at he
    subst he
    have hkA : Kept (fun _ => False) w2 (w2.alloc (.cells #[.int .i64 0, .slice none 0 0, .slice none 0 0] 25)) := (Kept.refl _ _).alloc _
    have hbA := heap_alloc_new w2 (.cells #[.int .i64 0, .slice none 0 0, .slice none 0 0] 25)
    have c0 := cell_block _ w2.heap.size 0 _ _ _ hbA
    have c1 := cell_block _ w2.heap.size 1 _ _ _ hbA
    have c2 := cell_block _ w2.heap.size 2 _ _ _ hbA
    have HSM := hid_of (rsame_any _ _ noneP noneP (w2.alloc (.cells #[.int .i64 0, .slice none 0 0, .slice none 0 0] 25)) _ (noneP_is _ _) (noneP_is _ _) (Nat.le_refl _) noneP_ok noneP_ok)
    rw [sameP_refl] at HSM
    have HK3 := hid_of (HK2.out.trans hkA)
    have hb1 : (flt == 0) = false := by simp; exact hne
    have hb2 : (flt != 0) = true := by simp; exact hne
    clear hkA hbA hne hd
    go_wp2_with fail
    refine HSM.out.mono ?_
    rintro e w4 ⟨rfl, hk4⟩
    have HK4 := hid_of (HK3.out.trans hk4)
    clear HSM hk4 c0 c1 c2
    go_wp2
    go_ret
    exact ⟨rfl, HK4.out⟩
  | ok p =>
    obtain ⟨e1, e2, e3⟩ := decPD_enc HB.out hd
    rw [hd] at he
    obtain ⟨⟨dv, fv, cvs, rfl, hop⟩, hok⟩ := he
    obtain ⟨dao, dc, hds⟩ := ownsRow_shape hop.dat
    obtain ⟨fao, fc, hfs⟩ := ownsRow_shape hop.fns.row
    obtain ⟨nd, hnd⟩ : ∃ n, n = p.data.length := ⟨_, rfl⟩
    obtain ⟨nf, hnf⟩ : ∃ n, n = p.fns.length := ⟨_, rfl⟩
    obtain ⟨mem, hmem⟩ : ∃ n, n = p.mem := ⟨_, rfl⟩
    rw [← hnd] at hds
    rw [← hnf] at hfs
    rw [← hmem]
    subst hds
    subst hfs
    have hpg := hop.pg
    rw [← hmem] at hpg
    have hkA : Kept (fun _ => False) w2 (w2.alloc (.cells #[.int .i64 mem, .slice dao nd dc, .slice fao nf fc] 25)) := (Kept.refl _ _).alloc _
    have hbA := heap_alloc_new w2 (.cells #[.int .i64 mem, .slice dao nd dc, .slice fao nf fc] 25)
    have c0 := cell_block _ w2.heap.size 0 _ _ _ hbA
    have c1 := cell_block _ w2.heap.size 1 _ _ _ hbA
    have c2 := cell_block _ w2.heap.size 2 _ _ _ hbA
    have HPG := hid_of (hpg.kept hkA (fun _ _ f => f))
    have HOK := hid_of hok
    have HBA := hid_of hbA
    have HSZ := hid_of hkA.size
    have HEN := hid_of (encode_p _ p _ w2.heap.size HPG.out HSZ.out hok)
    have HK3 := hid_of (HK2.out.trans hkA)
    have HE1 := hid_of e1
    have HE2 := hid_of e2
    have HE3 := hid_of e3
    clear hkA hbA hop hok hnd hnf hmem hpg e1 e2 e3 hd
    go_wp2_with fail
    generalize w2.alloc (.cells #[.int .i64 mem, .slice dao nd dc, .slice fao nf fc] 25) = w3 at *
    generalize w2.heap.size = gx at *
    refine HEN.out.mono ?_
    rintro e w4 ⟨hk4, he⟩
    rw [if_pos HE1.out, HE2.out, ← HN.out] at he
    obtain ⟨v4, rfl, ho4⟩ := he
    obtain ⟨bo, bc, hv4⟩ := ownsRow_shape ho4
    subst hv4
    have hs1 := conv_str _ _ _ (isB_own ho4)
    have hs2 := conv_str _ _ _ (HIB.out.kept (HK3.out.trans hk4) (fun _ _ f => f))
    obtain ⟨sa, hsa⟩ : ∃ s, s = str xs := ⟨_, rfl⟩
    rw [← hsa] at hs1 hs2
    have hb4 := (hk4.block _ (Array.getElem?_eq_some_iff.1 HBA.out).1 (fun f => f)).trans HBA.out
    have d0 := cell_block _ gx 0 _ _ _ hb4
    have d1 := cell_block _ gx 1 _ _ _ hb4
    have d2 := cell_block _ gx 2 _ _ _ hb4
    have hCK := check_p _ p w4 gx (HPG.out.kept hk4 (fun _ _ f => f)) (Nat.le_trans HSZ.out hk4.size) HOK.out
    rw [HE3.out] at hCK
    have HCK := hid_of hCK
    have HK4 := hid_of (HK3.out.trans hk4)
    clear hk4 ho4 hb4 hCK HEN c0 c1 c2 hsa HE1 HE2 HE3
    go_wp2_with fail
    refine HCK.out.mono ?_
    rintro e w5 ⟨rfl, hk5⟩
    have HK5 := hid_of (HK4.out.trans hk5)
    clear hk5 HCK hs1 hs2 d0 d1 d2
    go_wp2
    go_ret
    exact ⟨rfl, HK5.out⟩
end Go.Proofs.Ytnjhnlohjhdcpaa
