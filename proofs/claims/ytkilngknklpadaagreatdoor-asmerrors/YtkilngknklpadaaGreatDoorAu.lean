/-
  LineError: Unwrap and Error.
-/
import Derived.Test.YtkilngknklpadaaGreatDoorAt
namespace Go.Proofs.YtkilngknklpadaaGreatDoor
open Go.RowKit
set_option linter.unusedVariables false
set_option linter.unusedSimpArgs false
set_option maxRecDepth 100000

theorem m_num (w : World) (e : Int) : (method 382 25 (.int .i64 e) "Error").run Tryz.prog w = .ok (6, .int .i64 e) w := by kernel_rfl
theorem m_line (w : World) (a : Nat) : (method 382 24 (.pointer (some ⟨a, 0, none⟩)) "Error").run Tryz.prog w = .ok (8, .pointer (some ⟨a, 0, none⟩)) w := by kernel_rfl
set_option maxHeartbeats 4000000 in
theorem unwrap_any (g : Nat) (ln : Int) (v : Value) (w : World) (hv : v = .nilIface ∨ ∃ tp x, v = .iface tp x) (c1 : w.cell? ⟨g, 1, none⟩ = some v) :
    Calls Tryz.prog 7 #[.pointer (some ⟨g, 0, none⟩)] w fun x w' => x = .returned v ∧ w' = w := by
  rcases hv with rfl | ⟨tp, x, rfl⟩
  · go_enter Tryz.func7, Tryz.ntmps7
    go_wp2
    go_ret
    exact ⟨rfl, rfl⟩
  · go_enter Tryz.func7, Tryz.ntmps7
    go_wp2
    go_ret
    exact ⟨rfl, rfl⟩
/-- What stands ahead of an error's word: its line. -/
def lnS (ln : Int) : ByteArray := if ln = 0 then ⟨#[]⟩ else (⟨#[108, 105, 110, 101, 32]⟩ ++ ⟨(Lib.itoa ln).toArray⟩) ++ ⟨#[58, 32]⟩
theorem lnS_no : lnS 0 = ⟨#[]⟩ := if_pos rfl
theorem lnS_yes (ln : Int) (h : ln ≠ 0) : (⟨#[108, 105, 110, 101, 32]⟩ ++ (⟨(Lib.itoa ln).toArray⟩ : ByteArray)) ++ ⟨#[58, 32]⟩ = lnS ln := (if_neg h).symm
theorem ba_nil (s : ByteArray) : (⟨#[]⟩ : ByteArray) ++ s = s := by apply ByteArray.ext; simp
theorem lnS_size (ln : Int) (h0 : -9223372036854775808 ≤ ln) (h1 : ln ≤ 9223372036854775807) : (lnS ln).size ≤ 28 := by
  have := itoa_size ln h0 h1
  unfold lnS
  split
  · decide
  · simp only [ByteArray.size_append]; have e1 : (⟨#[108, 105, 110, 101, 32]⟩ : ByteArray).size = 5 := rfl; have e2 : (⟨#[58, 32]⟩ : ByteArray).size = 2 := rfl; omega
theorem Gl.kept0 {w w' : World} (h : Gl w) (hk : Kept (fun _ => False) w w') : Gl w' := h.kept hk (fun _ _ f => f)
theorem kept_grow {w w' : World} (h : ∃ k os, w' = Go.Sort.grow (w.drewN k) os) : Kept (fun _ => False) w w' := by
  obtain ⟨k, os, rfl⟩ := h
  exact ⟨rfl, rfl, rfl, by simp [Go.Sort.grow, World.drewN], fun q hq _ => Lib.heap_grow_old w k os q hq⟩
set_option maxHeartbeats 8000000 in
theorem error_no (g : Nat) (ln : Int) (w : World) (c0 : w.cell? ⟨g, 0, none⟩ = some (.int .i64 ln)) (c1 : w.cell? ⟨g, 1, none⟩ = some .nilIface) (f : Int → ByteArray) (hf : ∀ e, (f e).size ≤ 20) (h6 : ∀ e w, Calls Tryz.prog 6 #[.int .i64 e] w fun x w' => x = .returned (.string (f e)) ∧ w' = w) (hG : Gl w) (h0 : -9223372036854775808 ≤ ln) (h1 : ln ≤ 9223372036854775807) :
    Calls Tryz.prog 8 #[.pointer (some ⟨g, 0, none⟩)] w fun x w' => x = .returned (.string (lnS ln ++ f 0)) ∧ Kept (fun _ => False) w w' := by
  have H0 := hid_of (h6 0 w)
  have HG := hid_of hG
  have hz := itoa_size ln h0 h1
  have hs := hf 0
  clear h6 hf hG
  go_enter Tryz.func8, Tryz.ntmps8
  go_wp2_with fail
  refine H0.out.mono ?_
  rintro x w1 ⟨rfl, hw⟩
  have hw := hw.symm
  subst hw
  have HK := hid_of (Kept.refl (fun _ => False) w)
  have HGw := HG
  by_cases hl : ln = 0
  · subst hl
    clear hz
    go_wp2
    go_ret
    rw [lnS_no, ba_nil]
    exact ⟨rfl, HK.out⟩
  · have hl0 : (ln == 0) = false := by simp [hl]
    have HI := hid_of (Tryz.strconv_Itoa ln h0 h1 _ HGw.out.tab)
    have hS := lnS_yes ln hl
    have hz2 : ((⟨#[108, 105, 110, 101, 32]⟩ : ByteArray) ++ (⟨(Lib.itoa ln).toArray⟩ : ByteArray)).size ≤ 26 := by rw [ByteArray.size_append]; have e1 : (⟨#[108, 105, 110, 101, 32]⟩ : ByteArray).size = 5 := rfl; omega
    have hz3 := lnS_size ln h0 h1
    have hlen := Lib.itoa_length_le ln h0 h1
    go_wp2_with fail
    refine HI.out.mono ?_
    rintro x w2 ⟨rfl, hk⟩
    have HK2 := hid_of (HK.out.trans (kept_grow hk))
    clear hk HI c0 c1
    go_wp2
    go_ret
    exact ⟨rfl, HK2.out⟩
set_option maxHeartbeats 8000000 in
theorem error_num (g : Nat) (ln : Int) (e : Int) (w : World) (c0 : w.cell? ⟨g, 0, none⟩ = some (.int .i64 ln)) (c1 : w.cell? ⟨g, 1, none⟩ = some (.iface 25 (.int .i64 e))) (f : Int → ByteArray) (hf : ∀ e, (f e).size ≤ 20) (h6 : ∀ e w, Calls Tryz.prog 6 #[.int .i64 e] w fun x w' => x = .returned (.string (f e)) ∧ w' = w) (hG : Gl w) (h0 : -9223372036854775808 ≤ ln) (h1 : ln ≤ 9223372036854775807) :
    Calls Tryz.prog 8 #[.pointer (some ⟨g, 0, none⟩)] w fun x w' => x = .returned (.string (lnS ln ++ f e)) ∧ Kept (fun _ => False) w w' := by
  have H0 := hid_of (h6 0 w)
  have HG := hid_of hG
  have hz := itoa_size ln h0 h1
  have hs := hf e
  have HE := hid_of (h6 e w)
  have hm := m_num w e
  clear h6 hf hG
  go_enter Tryz.func8, Tryz.ntmps8
  go_wp2_with fail
  refine H0.out.mono ?_
  rintro x w1 ⟨rfl, hw⟩
  have hw := hw.symm
  subst hw
  go_wp2_with fail
  refine HE.out.mono ?_
  rintro x w2 ⟨rfl, hw⟩
  have hw := hw.symm
  subst hw
  clear hm
  have HK := hid_of (Kept.refl (fun _ => False) w)
  have HGw := HG
  by_cases hl : ln = 0
  · subst hl
    clear hz
    go_wp2
    go_ret
    rw [lnS_no, ba_nil]
    exact ⟨rfl, HK.out⟩
  · have hl0 : (ln == 0) = false := by simp [hl]
    have HI := hid_of (Tryz.strconv_Itoa ln h0 h1 _ HGw.out.tab)
    have hS := lnS_yes ln hl
    have hz2 : ((⟨#[108, 105, 110, 101, 32]⟩ : ByteArray) ++ (⟨(Lib.itoa ln).toArray⟩ : ByteArray)).size ≤ 26 := by rw [ByteArray.size_append]; have e1 : (⟨#[108, 105, 110, 101, 32]⟩ : ByteArray).size = 5 := rfl; omega
    have hz3 := lnS_size ln h0 h1
    have hlen := Lib.itoa_length_le ln h0 h1
    go_wp2_with fail
    refine HI.out.mono ?_
    rintro x w2 ⟨rfl, hk⟩
    have HK2 := hid_of (HK.out.trans (kept_grow hk))
    clear hk HI c0 c1
    go_wp2
    go_ret
    exact ⟨rfl, HK2.out⟩
set_option maxHeartbeats 8000000 in
theorem error_line (g : Nat) (ln : Int) (gi : Nat) (S : ByteArray) (w : World) (c0 : w.cell? ⟨g, 0, none⟩ = some (.int .i64 ln)) (c1 : w.cell? ⟨g, 1, none⟩ = some (.iface 24 (.pointer (some ⟨gi, 0, none⟩)))) (f : Int → ByteArray) (hf : ∀ e, (f e).size ≤ 20) (h6 : ∀ e w, Calls Tryz.prog 6 #[.int .i64 e] w fun x w' => x = .returned (.string (f e)) ∧ w' = w) (hG : Gl w) (h0 : -9223372036854775808 ≤ ln) (h1 : ln ≤ 9223372036854775807) (hs : S.size ≤ 48) (HE : Hid (Calls Tryz.prog 8 #[.pointer (some ⟨gi, 0, none⟩)] w fun x w' => x = .returned (.string S) ∧ Kept (fun _ => False) w w')) :
    Calls Tryz.prog 8 #[.pointer (some ⟨g, 0, none⟩)] w fun x w' => x = .returned (.string (lnS ln ++ S)) ∧ Kept (fun _ => False) w w' := by
  have H0 := hid_of (h6 0 w)
  have HG := hid_of hG
  have hz := itoa_size ln h0 h1
  have hm := m_line w gi
  clear h6 hf hG
  go_enter Tryz.func8, Tryz.ntmps8
  go_wp2_with fail
  refine H0.out.mono ?_
  rintro x w1 ⟨rfl, hw⟩
  have hw := hw.symm
  subst hw
  go_wp2_with fail
  refine HE.out.mono ?_
  rintro x w2 ⟨rfl, hk⟩
  have HK := hid_of hk
  have HGw := hid_of (HG.out.kept0 hk)
  have d0 := hk.cell c0 (fun f => f)
  have d1 := hk.cell c1 (fun f => f)
  clear hm hk c0 c1
  have c0 := d0
  have c1 := d1
  clear d0 d1
  by_cases hl : ln = 0
  · subst hl
    clear hz
    go_wp2
    go_ret
    rw [lnS_no, ba_nil]
    exact ⟨rfl, HK.out⟩
  · have hl0 : (ln == 0) = false := by simp [hl]
    have HI := hid_of (Tryz.strconv_Itoa ln h0 h1 _ HGw.out.tab)
    have hS := lnS_yes ln hl
    have hz2 : ((⟨#[108, 105, 110, 101, 32]⟩ : ByteArray) ++ (⟨(Lib.itoa ln).toArray⟩ : ByteArray)).size ≤ 26 := by rw [ByteArray.size_append]; have e1 : (⟨#[108, 105, 110, 101, 32]⟩ : ByteArray).size = 5 := rfl; omega
    have hz3 := lnS_size ln h0 h1
    have hlen := Lib.itoa_length_le ln h0 h1
    go_wp2_with fail
    refine HI.out.mono ?_
    rintro x w2 ⟨rfl, hk⟩
    have HK2 := hid_of (HK.out.trans (kept_grow hk))
    clear hk HI c0 c1
    go_wp2
    go_ret
    exact ⟨rfl, HK2.out⟩
end Go.Proofs.YtkilngknklpadaaGreatDoor
