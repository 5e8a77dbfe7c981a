/-
  NodeChecks: the walk.
-/
import Derived.Test.YtcpkbajmilkhpaaDoorNlh
import Derived.Test.YtcpkbajmilkhpaaDoorNre
import Derived.Test.YtcpkbajmilkhpaaDoorNbz
namespace Go.Proofs.YtcpkbajmilkhpaaDoor
open Go.RowKit
set_option linter.unusedVariables false
set_option linter.unusedSimpArgs false
set_option maxRecDepth 100000

set_option maxHeartbeats 4000000 in
theorem checks_walk (ao : Option Addr) (c : Nat) (ys : List EV) (w : World) (hv : RowE w (.slice ao ys.length c) ys) (hcap : ys.length ≤ c) (hcm : c ≤ 9223372036854775807) (hyok : ∀ y ∈ ys, y.Ok) (hn : (ys.length + 67) * 56 ≤ 140737488355328) (hlv : ∀ g, (Value.slice ao ys.length c).ownBlock = some g → g < w.heap.size) :
    Calls Tryd.prog 3 #[.slice ao ys.length c] w fun e w' => e = .returned (.bool true) ∧ Kept (fun _ => False) w w' := by
  have HKN := hid_of (known_any w)
  have HV := hid_of hv
  have HYO := hid_of hyok
  have HLV := hid_of hlv
  have HCAP := hid_of hcap
  have HNN := hid_of hn
  have hy32 : ∀ y ∈ ys, y.fr.length ≤ 32 := fun y hy => (hyok y hy).fr.1
  have HY := hid_of hy32
  obtain ⟨n, hN⟩ : ∃ n, n = ys.length := ⟨_, rfl⟩
  have HN := hid_of hN
  rw [← hN]
  clear hv hyok hlv hcap hn hy32 hN
  go_enter Tryd.func3, Tryd.ntmps3
  go_wp2_with fail
  refine HKN.out.mono ?_
  rintro e w1 ⟨rfl, hk1⟩
  have hL := lendE_any ao c ys w1 (HV.out.kept hk1 (fun _ _ f => f)) HY.out HNN.out
  rw [← HN.out] at hL
  have HL := hid_of hL
  have HK1 := hid_of hk1
  have hs1 := hk1.size
  clear hk1 hL HKN
  go_wp2_with fail
  refine HL.out.mono ?_
  rintro e w2 ⟨rfl, hl2, hk2⟩
  have hCA := check_any nameP nameC (.slice (some ⟨w1.heap.size, 0, none⟩) ys.length (ys.length + 67)) ys w2 hl2.row HY.out (fun y hy => (HYO.out y hy).nm)
  rw [← HN.out] at hCA
  have HCA := hid_of hCA
  have HL2 := hid_of hl2
  have HK2 := hid_of (HK1.out.trans hk2)
  clear hCA hl2 hk2 HL HK1
  go_wp2_with fail
  refine HCA.out.mono ?_
  rintro e w3 ⟨rfl, hk3⟩
  have hK3 := HK2.out.trans hk3
  have hCR := check_ref nameP nameRC nameP_nil ao c ys w3 (HV.out.kept hK3 (fun _ _ f => f)) HCAP.out hcm HY.out (fun y hy => ⟨(HYO.out y hy).nm, (HYO.out y hy).nl⟩)
  rw [← HN.out] at hCR
  have HCR := hid_of hCR
  have HL3 := hid_of (HL2.out.kept hk3 (fun f => f))
  have HK3 := hid_of hK3
  clear hCR hk3 hK3 HCA HL2 HK2
  go_wp2_with fail
  refine HCR.out.mono ?_
  rintro e w4 ⟨rfl, hk4⟩
  have hK4 := HK3.out.trans hk4
  have hHE := heldE_any w1.heap.size (.slice ao ys.length c) ys w4 (HL3.out.kept hk4 (fun f => f)) (HV.out.kept hK4 (fun _ _ f => f)) HY.out HNN.out
  rw [← HN.out] at hHE
  have HHE := hid_of hHE
  have HK4 := hid_of hK4
  clear hHE hk4 hK4 HCR HL3 HK3
  obtain ⟨cd, hcd⟩ : ∃ cd, cd = checkD nameP ys := ⟨_, rfl⟩
  rw [← hcd]
  have HCD := hid_of hcd
  clear hcd
  go_wp2_with fail
  refine HHE.out.mono ?_
  rintro e w5 ⟨rfl, hk5⟩
  have hK5 : Kept (fun _ => False) w w5 := HK4.out.step hk5 (fun i hi e => by omega)
  have hL5 := lendE_any ao c ys w5 (HV.out.kept hK5 (fun _ _ f => f)) HY.out HNN.out
  rw [← HN.out] at hL5
  have HL5 := hid_of hL5
  have HK5 := hid_of hK5
  have hs5 := hK5.size
  clear hk5 hK5 hL5 HHE HK4
  go_wp2_with fail
  refine HL5.out.mono ?_
  rintro e w6 ⟨rfl, hl6, hk6⟩
  have hs6 : w5.heap.size < w6.heap.size := by
    have h1 := (hl6.there 0 (by omega)).1
    rcases Nat.lt_or_ge w5.heap.size w6.heap.size with h | h
    · exact h
    · simp [World.cell?, Array.getElem?_eq_none h] at h1
  have hEA := (encode_any nameP nameC (.slice (some ⟨w5.heap.size, 0, none⟩) ys.length (ys.length + 67)) ys w6 hl6.row (fun g hg => by
    have e : w5.heap.size = g := by simpa [Value.ownBlock] using hg
    omega) (fun y hy => (HYO.out y hy).fr) nameP_len (fun y hy => (HYO.out y hy).nm) (fun y hy => (HYO.out y hy).k)).mono (fun e w' h => encR_out (fun hc => (right_enc HYO.out hc).1) h)
  rw [← HN.out] at hEA
  have HEA := hid_of hEA
  have HL6 := hid_of hl6
  have HK6 := hid_of (HK5.out.trans hk6)
  clear hEA hl6 hk6 HL5 HK5
  go_wp2_with fail
  refine HEA.out.mono ?_
  rintro e w7 ⟨hk7, hcase⟩
  have hK7 := HK6.out.trans hk7
  have hER := (encode_ref nameP nameRC nameP_nil nameP_len ao c ys w7 (HV.out.kept hK7 (fun _ _ f => f)) HCAP.out hcm (fun y hy => (HYO.out y hy).fr) (fun y hy => (HYO.out y hy).frb) (fun y hy => ⟨(HYO.out y hy).nm, (HYO.out y hy).nl⟩) (fun y hy => (HYO.out y hy).k)).mono (fun e w' h => encR_out (fun hc => (right_enc HYO.out hc).1) h)
  rw [← HN.out] at hER
  have HER := hid_of hER
  have HL7 := hid_of (HL6.out.kept hk7 (fun f => f))
  have HK7 := hid_of hK7
  have hs7 := hk7.size
  clear hER hk7 hK7 HEA HL6 HK6
  rcases hcase with ⟨hc, pv, rfl, hop⟩ | ⟨hc, rfl⟩
  · have HOP := hid_of (isB_own hop)
    have hop2 := hop.lt
    have HC := hid_of hc
    clear hop hc
    go_wp2_with fail
    refine HER.out.mono ?_
    rintro e w8 ⟨hk8, ⟨_, qv, rfl, hoq⟩ | ⟨hne, _⟩⟩
    · have hK8 := HK7.out.trans hk8
      have hHE := heldE_any w5.heap.size (.slice ao ys.length c) ys w8 (HL7.out.kept hk8 (fun f => f)) (HV.out.kept hK8 (fun _ _ f => f)) HY.out HNN.out
      rw [← HN.out] at hHE
      have HHE := hid_of hHE
      have HOQ := hid_of (isB_own hoq)
      have hoq2 := hoq.lt
      have HP8 := hid_of (HOP.out.kept hk8 (fun _ _ f => f))
      have HK8 := hid_of hK8
      have hs8 := hk8.size
      clear hHE hoq hk8 hK8 HER HL7 HK7 HOP
      go_wp2_with fail
      refine HHE.out.mono ?_
      rintro e w9 ⟨rfl, hk9⟩
      have hc1 := conv_str w9 pv (encB ys) (HP8.out.kept hk9 (fun q hq e => by have := (hop2 q hq).1; omega))
      have hc2 := conv_str w9 qv (encB ys) (HOQ.out.kept hk9 (fun q hq e => by have := (hoq2 q hq).1; omega))
      generalize str (encB ys) = sx at *
      have hss : (sx.toList == sx.toList) = true := by simp
      have HK9 : Hid (Kept (fun _ => False) w w9) := HK8.out.step hk9 (fun i hi e => by omega)
      clear hk9 HHE HP8 HOQ HK8 hop2 hoq2
      go_wp2
      go_ret
      exact ⟨rfl, HK9.out⟩
    · exact absurd HC.out hne
  · have HC := hid_of hc
    clear hc
    go_wp2_with fail
    refine HER.out.mono ?_
    rintro e w8 ⟨hk8, ⟨h0, _⟩ | ⟨_, rfl⟩⟩
    · exact absurd h0 HC.out
    · have hK8 := HK7.out.trans hk8
      have hHE := heldE_any w5.heap.size (.slice ao ys.length c) ys w8 (HL7.out.kept hk8 (fun f => f)) (HV.out.kept hK8 (fun _ _ f => f)) HY.out HNN.out
      rw [← HN.out] at hHE
      have HHE := hid_of hHE
      have HK8 := hid_of hK8
      clear hHE hk8 hK8 HER HL7 HK7
      obtain ⟨ce, hce⟩ : ∃ ce, ce = checkD nameP ys := ⟨_, rfl⟩
      rw [← hce]
      clear hce
      go_wp2_with fail
      refine HHE.out.mono ?_
      rintro e w9 ⟨rfl, hk9⟩
      have hc1 := conv_str w9 (.slice none 0 0) [] (.inl ⟨rfl, _, _, rfl⟩)
      generalize str [] = sx at *
      have hss : (sx.toList == sx.toList) = true := by simp
      have HK9 : Hid (Kept (fun _ => False) w w9) := HK8.out.step hk9 (fun i hi e => by omega)
      clear hk9 HHE HK8
      go_wp2
      go_ret
      exact ⟨rfl, HK9.out⟩
end Go.Proofs.YtcpkbajmilkhpaaDoor
