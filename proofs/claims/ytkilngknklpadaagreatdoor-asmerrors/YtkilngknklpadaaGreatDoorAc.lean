/-
  Letters and digits; a digit is read.
-/
import Derived.Test.YtkilngknklpadaaGreatDoorAb
namespace Go.Proofs.YtkilngknklpadaaGreatDoor
open Go.RowKit
set_option linter.unusedVariables false
set_option linter.unusedSimpArgs false
set_option maxRecDepth 100000

theorem letter_yes (r : Int) (w : World) (h1 : 97 ≤ r) (h2 : r ≤ 122) :
    Calls Tryz.prog 110 #[.int .i32 r] w fun e w' => e = .returned (.bool true) ∧ w' = w := by
  go_enter Tryz.func110, Tryz.ntmps110
  go_wp2
  go_ret
  exact ⟨rfl, rfl⟩
theorem letter_dig (r : Int) (w : World) (h1 : 48 ≤ r) (h2 : r ≤ 57) :
    Calls Tryz.prog 110 #[.int .i32 r] w fun e w' => e = .returned (.bool false) ∧ w' = w := by
  have h3 : ¬ (97 ≤ r) := by omega
  have h4 : ¬ (65 ≤ r) := by omega
  have h5 : (r == 95) = false := by simp; omega
  go_enter Tryz.func110, Tryz.ntmps110
  go_wp2
  go_ret
  exact ⟨rfl, rfl⟩
theorem letter_bl (w : World) :
    Calls Tryz.prog 110 #[.int .i32 32] w fun e w' => e = .returned (.bool false) ∧ w' = w := by
  go_enter Tryz.func110, Tryz.ntmps110
  go_wp2
  go_ret
  exact ⟨rfl, rfl⟩
theorem digit_yes (r : Int) (w : World) (h1 : 48 ≤ r) (h2 : r ≤ 57) :
    Calls Tryz.prog 111 #[.int .i32 r] w fun e w' => e = .returned (.bool true) ∧ w' = w := by
  go_enter Tryz.func111, Tryz.ntmps111
  go_wp2
  go_ret
  exact ⟨rfl, rfl⟩
theorem digit_bl (w : World) :
    Calls Tryz.prog 111 #[.int .i32 32] w fun e w' => e = .returned (.bool false) ∧ w' = w := by
  go_enter Tryz.func111, Tryz.ntmps111
  go_wp2
  go_ret
  exact ⟨rfl, rfl⟩
theorem goes_let (r : Int) (w : World) (h1 : 97 ≤ r) (h2 : r ≤ 122) :
    Calls Tryz.prog 80 #[.int .i32 r] w fun e w' => e = .returned (.bool true) ∧ w' = w := by
  go_enter Tryz.func80, Tryz.ntmps80
  go_wp2_with fail
  refine (letter_yes r w h1 h2).mono ?_
  rintro e w1 ⟨rfl, hw⟩
  have hw := hw.symm
  subst hw
  go_wp2
  go_ret
  exact ⟨rfl, rfl⟩
theorem goes_bl (w : World) :
    Calls Tryz.prog 80 #[.int .i32 32] w fun e w' => e = .returned (.bool false) ∧ w' = w := by
  go_enter Tryz.func80, Tryz.ntmps80
  go_wp2_with fail
  refine (letter_bl w).mono ?_
  rintro e w1 ⟨rfl, hw⟩
  have hw := hw.symm
  subst hw
  go_wp2_with fail
  refine (digit_bl w).mono ?_
  rintro e w1 ⟨rfl, hw⟩
  have hw := hw.symm
  subst hw
  go_wp2
  go_ret
  exact ⟨rfl, rfl⟩
set_option maxHeartbeats 4000000 in
theorem trimR (b : UInt8) (g : Nat) (w : World) (hc : w.cell? ⟨g, b.toNat, none⟩ = some (.bool true)) :
    Calls Tryz.prog 162 #[.string ⟨#[b]⟩, .pointer (some ⟨g, 0, none⟩)] w fun e w' => e = .returned (.string ⟨#[]⟩) ∧ w' = w := by
  have HC := hid_of (Tryz.asciiSet_contains g b true w hc)
  clear hc
  go_enter Tryz.func162, Tryz.ntmps162
  go_wp2_with fail
  go_loopw [0] (fun sv wr => wr = w ∧ (sv = .string ⟨#[b]⟩ ∨ sv = .string ⟨#[]⟩)) (fun sv _ => match sv with | .string s => s.size | _ => 0)
  case atStart => exact ⟨rfl, .inl rfl⟩
  case round =>
    obtain ⟨hw, hs⟩ := hrel
    have hw := hw.symm
    subst hw
    rcases hs with rfl | rfl
    · go_wp2_with fail
      refine HC.out.mono ?_
      rintro e w1 ⟨rfl, hw⟩
      have hw := hw.symm
      subst hw
      go_wp2
      go_roundw
      case rel => first | exact ⟨rfl, .inr rfl⟩ | exact ⟨trivial, .inr rfl⟩
      case measure => exact Nat.zero_lt_one
    · go_wp2
      go_ret
      exact ⟨rfl, rfl⟩
set_option maxHeartbeats 4000000 in
theorem trimL (v : Value) (w : World) : Calls Tryz.prog 161 #[.string ⟨#[]⟩, v] w fun e w' => e = .returned (.string ⟨#[]⟩) ∧ w' = w := by
  go_enter Tryz.func161, Tryz.ntmps161
  go_wp2_with fail
  go_loopw [0] (fun sv wr => wr = w ∧ sv = .string ⟨#[]⟩) (fun sv _ => 0)
  case atStart => exact ⟨rfl, rfl⟩
  case round =>
    obtain ⟨hw, rfl⟩ := hrel
    have hw := hw.symm
    subst hw
    go_wp2
    go_ret
    exact ⟨rfl, rfl⟩
abbrev dgs : ByteArray := ⟨#[48, 49, 50, 51, 52, 53, 54, 55, 56, 57]⟩
def z211 : Array Value := Array.replicate 256 (.bool false)
theorem zero211 : ∀ w, (zeroValue 211).run Tryz.prog w = .ok (.agg (Array.replicate 256 (.bool false))) w := fun w => by kernel_rfl
def dset : Array Value := Lib.setCells dgs.data.toList
theorem dset_at (n : Nat) (h1 : 48 ≤ n) (h2 : n ≤ 57) : dset[n]? = some (.bool true) := by
  have : n = 48 ∨ n = 49 ∨ n = 50 ∨ n = 51 ∨ n = 52 ∨ n = 53 ∨ n = 54 ∨ n = 55 ∨ n = 56 ∨ n = 57 := by omega
  rcases this with rfl | rfl | rfl | rfl | rfl | rfl | rfl | rfl | rfl | rfl <;> rfl
theorem size211 : (Tryz.prog.info? 211).map (·.size) = some dset.size := by kernel_rfl
theorem dset_one : dset.all (·.oneCell') = true := by kernel_rfl
theorem dset_size : z211.size = dset.size := by kernel_rfl
theorem set_dig (w : World) : Calls Tryz.prog 160 #[.string dgs] w fun e w' => e = .returned (.tuple #[.agg dset, .bool true]) ∧ w' = w.alloc (.cells dset 211) :=
  Tryz.strings_makeASCIISet zero211 dgs w (by decide) (fun j b hj => by
    have hjl := (List.getElem?_eq_some_iff.1 hj).1
    have h10 : j < 10 := hjl
    have : j = 0 ∨ j = 1 ∨ j = 2 ∨ j = 3 ∨ j = 4 ∨ j = 5 ∨ j = 6 ∨ j = 7 ∨ j = 8 ∨ j = 9 := by omega
    rcases this with rfl | rfl | rfl | rfl | rfl | rfl | rfl | rfl | rfl | rfl <;> (simp [dgs] at hj; subst hj; decide))
attribute [irreducible] dset z211
set_option maxHeartbeats 4000000 in
theorem trim_dig (b : UInt8) (h1 : 48 ≤ b.toNat) (h2 : b.toNat ≤ 57) (w : World) :
    Calls Tryz.prog 133 #[.string ⟨#[b]⟩, .string dgs] w fun e w' => e = .returned (.string ⟨#[]⟩) ∧ Kept (fun _ => False) w w' := by
  have HS := hid_of (set_dig w)
  have hd : dset[b.toNat]? = some (.bool true) := dset_at _ h1 h2
  have hk0 : Kept (fun _ => False) w (w.alloc (.cells dset 211)) := (Kept.refl _ _).alloc _
  obtain ⟨hO, hX, hK⟩ := new_row (w.alloc (.cells dset 211)) z211 dset 211
  have HK := hid_of (hk0.trans hK)
  have HR := hid_of (trimR b (w.alloc (.cells dset 211)).heap.size _ ((cell_block _ _ b.toNat _ _ _ hX).trans hd))
  clear hd hk0 hX hK
  go_enter Tryz.func133, Tryz.ntmps133
  go_wp2_with fail
  refine HS.out.mono ?_
  rintro e w1 ⟨rfl, hw⟩
  rw [← hw] at HR HK hO
  clear HS hw
  go_upto_region 6 with (first | refine wpList_to rfl (some 5) rfl (.pointer (some ⟨w1.heap.size, 0, none⟩)) (w1.alloc (.cells z211 211)) (by unfold z211; kernel_rfl) ?_ | refine wpList_store_row rfl 211 _ _ rfl w1.heap.size dset rfl rfl 211 _ hO size211 dset_size dset_one ?_)
  clear hO
  generalize (w1.alloc (.cells z211 211)).setRow w1.heap.size dset = w2 at *
  generalize w1.heap.size = g at *
  go_wp2_with fail
  refine HR.out.mono ?_
  rintro e w3 ⟨rfl, hw⟩
  have hw := hw.symm
  subst hw
  go_wp2_with fail
  refine (trimL _ w2).mono ?_
  rintro e w3 ⟨rfl, hw⟩
  have hw := hw.symm
  subst hw
  go_wp2
  go_ret
  exact ⟨rfl, HK.out⟩
set_option maxHeartbeats 4000000 in
theorem made_dig (b : UInt8) (h1 : 48 ≤ b.toNat) (h2 : b.toNat ≤ 57) (w : World) :
    Calls Tryz.prog 115 #[.string ⟨#[b]⟩, .string dgs] w fun e w' => e = .returned (.bool true) ∧ Kept (fun _ => False) w w' := by
  go_enter Tryz.func115, Tryz.ntmps115
  go_wp2_with fail
  refine (trim_dig b h1 h2 w).mono ?_
  rintro e w3 ⟨rfl, hk⟩
  have HK := hid_of hk
  clear hk
  go_wp2
  go_ret
  exact ⟨rfl, HK.out⟩
set_option maxHeartbeats 4000000 in
theorem is_nil (tp : TypeId) (pv : Value) (w : World) : Calls Tryz.prog 117 #[.nilIface, .iface tp pv] w fun e w' => e = .returned (.bool false) ∧ w' = w := by
  have he : ∀ w, (binOp .eql 27 .nilIface (.iface tp pv)).run Tryz.prog w = .ok (.bool false) w := fun w => by kernel_rfl
  go_enter Tryz.func117, Tryz.ntmps117
  go_wp2
  go_ret
  exact ⟨rfl, rfl⟩
/-- What lies in the program's own variables. -/
structure Gl (w : World) : Prop where
  tab : Lib.TabIs Tryz.prog w "internal/strconv.uint64pow10" .u64 Lib.pow10Tab
  len : ∃ m, w.cell? ⟨1, 0, none⟩ = some (.int .i64 m)
  err : ∃ tp pv, w.cell? ⟨2, 0, none⟩ = some (.iface tp pv)
  lo : 13 ≤ w.heap.size
theorem var_block {P : Program} {w w' : World} {n : String} {g : Nat} (hg : P.globalNamed n = some g) (hb : w'.heap[g]? = w.heap[g]?) : w'.var? P n = w.var? P n := by
  unfold World.var?
  rw [hg]
  simp only [Option.bind_some, hb]
theorem pow_named : Tryz.prog.globalNamed "internal/strconv.uint64pow10" = some 0 := by kernel_rfl
theorem Gl.kept {S : Nat → Prop} {w w' : World} (h : Gl w) (hk : Kept S w w') (hS : ∀ q, q < 3 → ¬ S q) : Gl w' := by
  obtain ⟨m, hm⟩ := h.len
  obtain ⟨tp, pv, he⟩ := h.err
  have := h.lo
  refine ⟨?_, ⟨m, hk.cell hm (hS 1 (by decide))⟩, ⟨tp, pv, hk.cell he (hS 2 (by decide))⟩, Nat.le_trans h.lo hk.size⟩
  unfold Lib.TabIs
  rw [var_block pow_named (hk.block 0 (by omega) (hS 0 (by decide)))]
  exact h.tab
theorem Gl.same {w w' : World} (h : Gl w) (hk : Kept (fun _ => False) w w') : Gl w' := h.kept hk (fun _ _ f => f)
theorem kept_bytes (w : World) (t : ByteArray) : Kept (fun _ => False) w (Lib.bytesWorld w 5 t) := by
  refine ⟨rfl, rfl, rfl, ?_, fun k hk _ => ?_⟩
  · simp [Lib.bytesWorld, World.freeze]
  · show ((w.drew.alloc _).heap.modify _ _)[k]? = _
    rw [Array.getElem?_modify, if_neg (show ¬ w.heap.size = k by omega)]
    exact Below.heap_alloc w.drew _ _ hk
theorem size82 : (Tryz.prog.info? 82).map (·.size) = some 4 := by kernel_rfl
set_option maxHeartbeats 8000000 in
theorem num_dig (b : UInt8) (hb : b = 48 ∨ b = 49) (w : World) (hG : Gl w) :
    Calls Tryz.prog 87 #[.string ⟨#[b]⟩] w fun e w' => e = .returned (.tuple #[.agg #[.int .i64 1, .string ⟨#[]⟩, .int .i64 ((b.toNat : Int) - 48), .bool false], .bool true]) ∧ Kept (fun _ => False) w w' := by
  have hk0 : Kept (fun _ => False) w (w.alloc (.cells #[.int .i64 0, .string ⟨#[]⟩, .int .i64 0, .bool false] 82)) := (Kept.refl _ _).alloc _
  have hb0 := heap_alloc_new w (.cells #[.int .i64 0, .string ⟨#[]⟩, .int .i64 0, .bool false] 82)
  have HG := hid_of (hG.same hk0)
  have HK := hid_of hk0
  have HB := hid_of hb0
  have HCP := hid_of (Tryz.strings_CutPrefix ⟨#[b]⟩ ⟨#[48, 120]⟩)
  have hcp : Lib.hasPrefix [b] [48, 120] = false := by rcases hb with rfl | rfl <;> rfl
  have hct : Lib.trimPrefix [b] [48, 120] = [b] := by rcases hb with rfl | rfl <;> rfl
  have HPI := hid_of (Tryz.strconv_ParseInt_10_at64_ok ⟨#[b]⟩ (by show 1 ≤ _; decide) ((b.toNat : Int) - 48) (by rcases hb with rfl | rfl <;> rfl))
  have HTP := hid_of (Tryz.strings_TrimPrefix ⟨#[b]⟩ ⟨#[45]⟩)
  have htp : Lib.trimPrefix [b] [45] = [b] := by rcases hb with rfl | rfl <;> rfl
  have HMD := hid_of (made_dig b (by rcases hb with rfl | rfl <;> decide) (by rcases hb with rfl | rfl <;> decide))
  clear hb hk0 hb0 hG
  go_enter Tryz.func87, Tryz.ntmps87
  go_upto_region 1 with fail
  generalize w.alloc (.cells #[.int .i64 0, .string ⟨#[]⟩, .int .i64 0, .bool false] 82) = w1 at *
  obtain ⟨g, hg⟩ : ∃ g, g = w.heap.size := ⟨_, rfl⟩
  rw [← hg] at HB ⊢
  have HGW : Hid (w.heap.size ≤ g) := by rw [hg]; exact Nat.le_refl _
  clear hg
  go_wp2_with fail
  refine (HCP.out w1).mono ?_
  rintro e w2 ⟨he, hw⟩
  simp only [hcp, hct] at he
  subst he
  have hw := hw.symm
  subst hw
  clear HCP hcp hct
  go_wp2_with fail
  refine (HPI.out w1).mono ?_
  rintro e w2 ⟨rfl, hw⟩
  have hk2 : Kept (fun _ => False) w1 w2 := by
    rcases hw with rfl | ⟨t, rfl⟩
    · exact Kept.refl _ _
    · exact kept_bytes _ _
  have HK2 := hid_of (HK.out.trans hk2)
  have HB2 := hid_of (box_kept hk2 HB.out (fun f => f))
  obtain ⟨tp, pv, q2⟩ := (HG.out.same hk2).err
  have HIS := hid_of (is_nil tp pv w2)
  clear hw hk2 HPI HG HB HK
  go_wp2_with fail
  refine HIS.out.mono ?_
  rintro e w3 ⟨rfl, hw⟩
  have hw := hw.symm
  subst hw
  clear HIS q2
  go_wp2_with fail
  refine (HTP.out w2).mono ?_
  rintro e w3 ⟨he, hw⟩
  simp only [htp] at he
  subst he
  have hw := hw.symm
  subst hw
  clear HTP htp
  go_wp2_with fail
  refine (HMD.out w2).mono ?_
  rintro e w3 ⟨rfl, hk3⟩
  have hb3 := box_kept hk3 HB2.out (fun f => f)
  obtain ⟨hx, hkx⟩ := set4 w3 g 82 _ _ _ _ (.int .i64 1) (.string ⟨#[]⟩) (.int .i64 ((b.toNat : Int) - 48)) (.bool false) hb3
  obtain ⟨c0, c1, c2, c3, f0, f1, f2, f3⟩ := look4 hb3
  have HX := hid_of hx
  have HKX := hid_of ((HK2.out.trans hk3).step hkx (fun i hi e => by have := HGW.out; omega))
  clear hx hkx hb3 hk3 HMD HK2 HB2
  go_wp2
  refine bodyPost_ret (v := .tuple #[.agg #[.int .i64 1, .string ⟨#[]⟩, .int .i64 ((b.toNat : Int) - 48), .bool false], .bool true]) ?_ rfl ⟨rfl, HKX.out⟩
  exact results_row_tmp (by rfl) _ _ ⟨g, 0, none⟩ _ _ (by rfl) (by rfl) (run_loadVar_row _ g 82 82 _ (0, 0) _ HX.out Tryz.underlying82 rfl size82)
end Go.Proofs.YtkilngknklpadaaGreatDoor
