/-
  An instruction, a function as text.
-/
import Derived.Test.YtkilngknklpadaaGreatDoorAm
namespace Go.Proofs.YtkilngknklpadaaGreatDoor
open Go.RowKit
set_option linter.unusedVariables false
set_option linter.unusedSimpArgs false
set_option maxRecDepth 100000

abbrev retY : List Value := [.int .u8 9, .int .u8 114, .int .u8 101, .int .u8 116, .int .u8 10]
abbrev ret3 : ByteArray := ⟨#[114, 101, 116]⟩
set_option maxHeartbeats 8000000 in
theorem instrB_ret (sv : Value) (n : Nat) (xs : List Value) (x pl fs : Int) (w0 w : World) (hk : Kept (fun _ => False) w0 w) (ho : w.ownsRow w0.heap.size 5 1 sv n xs) (hn : n ≤ 100000) :
    Calls Tryz.prog 44 #[sv, .agg #[.int .i64 18, .int .i64 x], .int .i64 pl, .int .i64 fs] w (BR w0 w n xs retY) := by
  have hka : Kept (fun _ => False) w (w.alloc (.cells #[.int .i64 18, .int .i64 x] 51)) := (Kept.refl _ _).alloc _
  have HX := hid_of (heap_alloc_new w (.cells #[.int .i64 18, .int .i64 x] 51))
  have HK1 := hid_of (hk.trans hka)
  have HO1 := hid_of (hka.ownsRow ho (fun _ _ f => f))
  have HT1 := hid_of (oth5_kept hka)
  have HN := hid_of hn
  obtain ⟨a1, c1, hv1⟩ := ownsRow_shape ho
  subst hv1
  clear hka hk ho hn
  go_enter Tryz.func44, Tryz.ntmps44
  go_upto_region 1 with fail
  generalize w.alloc (.cells #[.int .i64 18, .int .i64 x] 51) = w1 at *
  generalize w.heap.size = gx at *
  obtain ⟨b0, b1, _⟩ := look2 HX.out
  have HOF := hid_of (of_any 18 w1 (by decide) (by decide))
  rw [ret_row', show isRow insL 18 = true by kernel_rfl] at HOF
  generalize (rowS insL 18).t = tt at *
  generalize (rowS insL 18).g = gg at *
  go_wp2_with fail
  refine HOF.out.mono ?_
  rintro e w2 ⟨rfl, hk2⟩
  have hka : Kept (fun _ => False) w2 (w2.alloc (.cells #[.string ret3, .int .i64 0, .int .i64 tt, .int .i64 gg] 134)) := (Kept.refl _ _).alloc _
  have HS3 := hid_of (heap_alloc_new w2 (.cells #[.string ret3, .int .i64 0, .int .i64 tt, .int .i64 gg] 134))
  have HK3 := hid_of (HK1.out.trans (hk2.trans hka))
  have HO3 := hid_of ((hk2.trans hka).ownsRow HO1.out (fun _ _ f => f))
  have HT3 := hid_of (HT1.out.trans (oth5_kept (hk2.trans hka)))
  clear hk2 hka HOF HX HK1 HO1 HT1 b0 b1
  go_upto_region 2 with fail
  generalize w2.alloc (.cells #[.string ret3, .int .i64 0, .int .i64 tt, .int .i64 gg] 134) = w3 at *
  generalize w2.heap.size = gs at *
  have hKwd : Kept (fun _ => False) w3 w3.drew := (Kept.refl _ _).drew
  have HSM : Hid (∀ w', Lib.OthersKept 5 none w3 w' → w'.cell? ⟨gs, 0, none⟩ = some (.string ret3)) := fun w' hw => cell_block _ _ 0 _ _ _ (Oth5.box hw HS3.out (by decide))
  refine wp_region_held_drew (S := fun w' => Lib.OthersKept 5 none w3 w') (by kernel_rfl) (oth5_kept hKwd) (fun hHeld => ?_)
  generalize w3.drew = wd at *
  obtain ⟨v4, w4, hr4, ho4, hk04, hk14, _⟩ := push_byte (hKwd.ownsRow HO3.out (fun _ _ f => f)) (.int .u8 9) rfl (HK3.out.trans hKwd) (by have := HN.out; omega)
  have hT4 := (oth5_kept hKwd).trans (oth5_of (hKwd.ownsRow HO3.out (fun _ _ f => f)) hk14)
  obtain ⟨v5, w5, hr5, ho5, hk05, hk15⟩ := push_str ho4 ret3 hk04 (by have := HN.out; show n + 1 + 3 ≤ 900000; omega)
  have hT5 := hT4.trans (oth5_of ho4 hk15)
  have HT5 := hid_of hT5
  have HT4 := hid_of hT4
  have HK5 := hid_of hk05
  have HO5 := hid_of ho5
  obtain ⟨a4, c4, hv4⟩ := ownsRow_shape ho4
  obtain ⟨n4, hn4⟩ : ∃ m, m = n + 1 := ⟨_, rfl⟩
  rw [← hn4] at hv4
  subst hv4
  obtain ⟨a5, c5, hv5⟩ := ownsRow_shape ho5
  obtain ⟨n5, hn5⟩ : ∃ m, m = n + 1 + ret3.size := ⟨_, rfl⟩
  rw [← hn5] at hv5
  subst hv5
  have HR4 := hid_of hr4
  have HR5 := hid_of hr5
  clear hr4 hr5 ho4 ho5 hk04 hk05 hk14 hk15 hT4 hT5 hn4 hn5
  iterate 1
    refine tkn (v := ?_) 0 rfl ?_ ?_; rotate_left 1
    · intro w hSw; have s0 := HSM.out w hSw; go_simp; try with_reducible rfl
    try simp only [Act.put, tdy]
  iterate 2
    refine tkn (v := ?_) 3 rfl ?_ ?_; rotate_left 1
    · intro w hSw; have s0 := HSM.out w hSw; go_simp; try with_reducible rfl
    try simp only [Act.put, tdy]
  refine wpAnyH_ready (rs := [1]) (by kernel_rfl) (by simp) ?_
  refine AllReadyH.cons rfl (fun K hK => ?_) AllReadyH.nil
  go_simp
  refine hK.out _ _ (hHeld.alloc _) (fun hHeld => ?_)
  clear hK K
  try simp only [Act.put, tdy]
  refine wpAnyH_ready (rs := [2]) (by kernel_rfl) (by simp) ?_
  refine AllReadyH.cons rfl (fun K hK => ?_) AllReadyH.nil
  refine step_app rfl (.tmp 19) (.tmp 20) 34 34 rfl _ _ rfl rfl (.slice a4 n4 c4) w4 HR4.out ?_
  refine hK.out _ _ HT4.out (fun hHeld => ?_)
  clear hK K
  try simp only [Act.put, tdy]
  refine wpAnyH_ready (rs := [5]) (by kernel_rfl) (by simp) ?_
  refine AllReadyH.cons rfl (fun K hK => ?_) AllReadyH.nil
  refine step_app rfl (.tmp 21) (.tmp 23) 34 9 rfl _ _ rfl rfl (.slice a5 n5 c5) w5 HR5.out ?_
  refine hK.out _ _ HT5.out (fun hHeld => ?_)
  clear hK K
  try simp only [Act.put, tdy]
  refine wpAnyH_ready (rs := [6]) (by kernel_rfl) (by simp) ?_
  refine AllReadyH.cons rfl (fun K hK => ?_) AllReadyH.nil
  go_simp
  refine hK.out _ _ hHeld (fun hHeld => ?_)
  clear hK K
  try simp only [Act.put, tdy]
  refine wpAnyH_done (by kernel_rfl) ?_ _
  have HS5 := hid_of (Oth5.box HT5.out HS3.out (by decide))
  have HT6 := hid_of (HT3.out.trans HT5.out)
  clear hHeld hKwd HSM HT4 HR4 HR5 HS3 HT3 HT5 HK3 HO3
  have s1 := cell_block _ _ 1 _ _ _ HS5.out
  obtain ⟨v7, w7, hr7, ho7, hk07, hk17, _⟩ := push_byte HO5.out (.int .u8 10) rfl HK5.out (by have := HN.out; show n + 1 + 3 ≤ 900000; omega)
  have hlen : n + 1 + ret3.size + 1 = n + retY.length := by show n + 1 + 3 + 1 = n + 5; omega
  have happ : xs ++ [Value.int .u8 9] ++ Lib.strCells ret3 ++ [Value.int .u8 10] = xs ++ retY := by rw [List.append_assoc, List.append_assoc]; rfl
  rw [hlen, happ] at ho7
  obtain ⟨a7, c7, hv7⟩ := ownsRow_shape ho7
  have HBR : Hid (BR w0 w n xs retY (.returned v7) w7) := ⟨a7, c7, by rw [hv7], by rw [← hv7]; exact ho7, hk07, HT6.out.trans (oth5_of HO5.out hk17)⟩
  obtain ⟨n7, hn7⟩ : ∃ m, m = n + retY.length := ⟨_, rfl⟩
  rw [← hn7] at hv7
  subst hv7
  have HR7 := hid_of hr7
  clear hr7 ho7 hk07 hk17 hlen happ hn7
  go_wp2_with (at_builtin; refine wp_app2 rfl (.tmp 81) (.tmp 82) 34 34 rfl _ _ rfl rfl _ w7 HR7.out ?_)
  go_ret
  exact HBR.out
end Go.Proofs.YtkilngknklpadaaGreatDoor
