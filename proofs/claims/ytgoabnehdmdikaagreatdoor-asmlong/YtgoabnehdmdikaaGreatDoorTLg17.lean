import Derived.Test.YtgoabnehdmdikaaGreatDoorTLg16
set_option linter.unusedVariables false
set_option linter.unusedSimpArgs false
set_option maxRecDepth 100000
set_option maxHeartbeats 64000000
namespace Go.Proofs.YtgoabnehdmdikaaGreatDoor
open Go.RowKit
theorem Yo (D : ByteArray) (i : Nat) (j x : Int) (hj : j = (i : Int)) (h : i < D.size) (hx : ((D[i]'h).toNat : Int) = x) (w : World) : (Instr.index 9 (.string D) (.int .i64 j)).run Tryz.prog w = .ok (.int .u8 x) w := by
 subst hj
 rw [run_index_string (P := Tryz.prog) w 9 D .i64 (i : Int) Tryz.underlying9, dif_pos ⟨by omega, by omega⟩]
 simp only [Int.toNat_natCast]
 rw [hx]
def Zcy (ok : Bool) (n0 : Int) (f0 : Bool) (w : World) (e : Ending) (w' : World) : Prop :=
 ∃ (n : Int) (f : Bool), e = .returned (.tuple #[.int .i64 n, .bool f, .bool ok]) ∧ (ok = true → f = f0 ∧ (f0 = false → n = n0)) ∧ w' = w
theorem Zjv (D : ByteArray) (ds : List UInt8) (hD : D.data.toList = ds) (hm : D.size ≤ 9000000) (hNH : Zcp false ds) (h45 : ∀ h : 0 < D.size, (D[0]'h).toNat ≠ 45) (hs : D.size ≤ 2) (hs1 : 0 < D.size) (w : World) :
  Calls Tryz.prog 63 #[.string D] w (Zcy (okN (sgn false ds)) (Xe (sgn false ds)) (Yv (sgn false ds)) w) := by
 have hdl : ds.length = D.size := by rw [← hD, Lib.size_eq]
 have HDG : Hid (∀ (j : Nat) (hj : j < D.size), ds[j]'(by omega) = D[j]'hj) := fun j hj => by subst hD; rfl
 have hBAD : ∀ c ∈ ds, ¬ Yp c → okN (sgn false ds) = false := fun c hc hd => Zcw false ds hNH c hc hd
 have hGOOD := fun hne hd => Zci false ds hNH hne hd
 have hNIL : ds = [] → okN (sgn false ds) = false := fun e => by rw [e]; exact Zcx false
 have HBADF := Za hBAD
 have HGOOD := Za hGOOD
 have HNIL := Za hNIL
 clear hNH hBAD hGOOD hNIL hD
 generalize okN (sgn false ds) = ok at *
 generalize Yv (sgn false ds) = fz at *
 generalize Xe (sgn false ds) = vz at *
 have hz2 : ¬ (2 : Int) < D.size := by omega
 have hz3 : (0 : Int) < D.size := by omega
 obtain ⟨x0, hx0⟩ : ∃ x : Int, x = ((D[0]'(by omega)).toNat : Int) := ⟨_, rfl⟩
 have hj0 := fun w => Yo D 0 0 x0 rfl (by omega) hx0.symm w
 have hn45 : (x0 == 45) = false := by rw [beq_eq_false_iff_ne]; have := h45 (by omega); omega
 clear hx0
 clear h45
 go_enter Tryz.func63, Tryz.ntmps63
 go_wp2
 go_loop [8, 9, 10] (fun vu vb vi => ∃ (k : Nat) (a : Int) (big : Bool), vu = .int .u64 a ∧ vb = .bool big ∧ vi = .int .i64 k ∧ k ≤ D.size ∧ Hid (0 ≤ a ∧ a ≤ 9223372036854775808 ∧ (∀ c ∈ ds.take k, Yp c) ∧ (big = false → a = Zu 0 (ds.take k)) ∧ (big = true → 9223372036854775808 < Zu 0 ds)))
  (fun _ _ vi => D.size - (intOf vi).toNat)
 case atStart => exact ⟨0, 0, false, rfl, rfl, rfl, by omega, by omega, by omega, by simp, fun _ => rfl, (fun h => by cases h)⟩
 case round =>
  obtain ⟨k, a, big, rfl, rfl, rfl, hk, hh⟩ := hrel
  obtain ⟨a0, a1, hdk, hbf, hbt⟩ := hh.out
  clear hh
  by_cases hkn : k < D.size
  ·obtain ⟨c, hc⟩ := nmd (D[k]'hkn)
   have hck : ds[k]'(by omega) = c := by rw [hc]; exact HDG.out k hkn
   obtain ⟨x, hx⟩ : ∃ x : Int, x = (c.toNat : Int) := ⟨_, rfl⟩
   have hik := fun w => Yo D k (k : Int) x rfl hkn (by rw [hx, hc]) w
   have hmem : c ∈ ds := by rw [← hck]; exact List.getElem_mem _
   have htk : ds.take (k + 1) = ds.take k ++ [c] := by rw [Zag ds k (by omega), hck]
   have hc256 : c.toNat < 256 := c.toNat_lt
   have HDI := Za (fun w => Zcc x w)
   clear hc hck
   by_cases hdig : Yp c
   ·have hx0 : 48 ≤ x := by have := hdig.1; omega
    have hx1 : x ≤ 57 := by have := hdig.2; omega
    rw [show Xa x = true from decide_eq_true ⟨hx0, hx1⟩] at HDI
    have hdk2 : ∀ c' ∈ ds.take (k + 1), Yp c' := fun c' hc' => by
     rw [htk, List.mem_append] at hc'
     rcases hc' with h | h
     ·exact hdk c' h
     ·simp at h; rw [h]; exact hdig
    have hdf : (Zu 0 (ds.take (k + 1)) : Int) = Zu 0 (ds.take k) * 10 + (x - 48) := by
     rw [htk, Zbf]
     have := hdig.1
     omega
    have hdl2 := Zbv ds (k + 1)
    by_cases hbg : (9223372036854775808 - (x - 48)) / 10 < a
    ·have hB : 9223372036854775808 < Zu 0 ds := by
      by_cases hb : big = true
      ·exact hbt hb
      ·have := hbf (by simpa using hb)
       omega
     have HB := Za hB
     have HD2 := Za hdk2
     clear hB hdk hbf hbt hdk2 hdf hdl2 hdig hmem htk hx hc256
     go_wp2_with fail
     refine (HDI.out _).mono ?_
     rintro e w1 ⟨rfl, hw⟩
     have hw := hw.symm
     subst hw
     go_wp2
     refine ⟨⟨k + 1, x - 48, true, rfl, rfl, (by first | rfl | (congr 1; omega)), by omega, ⟨by omega, by omega, HD2.out, (fun h => by cases h), fun _ => HB.out⟩⟩, by simp [intOf]; omega⟩
    ·have HN : Hid (0 ≤ 10 * a + (x - 48) ∧ 10 * a + (x - 48) ≤ 9223372036854775808 ∧ (∀ c' ∈ ds.take (k + 1), Yp c') ∧ (big = false → 10 * a + (x - 48) = Zu 0 (ds.take (k + 1))) ∧ (big = true → 9223372036854775808 < Zu 0 ds)) := ⟨by omega, by omega, hdk2, fun h => by have := hbf h; omega, hbt⟩
     have hov : 10 * a + (x - 48) < 18446744073709551616 := by omega
     clear hdk hbf hbt hdk2 hdf hdl2 hdig hmem htk hx hc256
     go_wp2_with fail
     refine (HDI.out _).mono ?_
     rintro e w1 ⟨rfl, hw⟩
     have hw := hw.symm
     subst hw
     go_wp2
     refine ⟨⟨k + 1, 10 * a + (x - 48), big, rfl, rfl, (by first | rfl | (congr 1; omega)), by omega, HN⟩, by simp [intOf]; omega⟩
   ·rw [show Xa x = false from decide_eq_false (by unfold Yp at hdig; omega)] at HDI
    have hok : ok = false := HBADF.out c hmem hdig
    subst hok
    clear hdk hbf hbt hdig hmem htk hx hc256
    go_wp2_with fail
    refine (HDI.out _).mono ?_
    rintro e w1 ⟨rfl, hw⟩
    have hw := hw.symm
    subst hw
    go_wp2
    all_goals (try simp only [Exit.inBlock, Exit.then])
    all_goals refine bodyPost_ret (results_tmp3 rfl _ _ _) rfl ?_
    all_goals exact ⟨0, false, rfl, (fun h => by cases h), rfl⟩
  ·have hkk : k = D.size := by omega
   subst hkk
   rw [List.take_of_length_le (show ds.length ≤ D.size by omega)] at hdk hbf
   clear hkn
   by_cases hne : ds = []
   ·exact absurd hne (by intro e; rw [e] at hdl; simp at hdl; omega)
   ·obtain ⟨g1, g2, g3⟩ := HGOOD.out hne hdk
    have hds0 : (0 : Int) < D.size := by
     have : 0 < ds.length := List.length_pos_iff.2 hne
     omega
    have hdsn : 0 < D.size := by omega
    subst g1
    by_cases ha : a = 9223372036854775808
    ·subst ha
     have hf : fz = true := by
      rw [g2]
      apply decide_eq_true
      by_cases hb : big = true
      ·exact .inl (hbt hb)
      ·right
       have := hbf (by simpa using hb)
       exact ⟨by omega, by first | rfl | trivial⟩
     clear g2 g3 hbf hbt hdk hne
     subst hf
     go_wp2
     (try simp only [Exit.inBlock, Exit.then])
     refine bodyPost_ret (results_tmp3 rfl _ _ _) rfl ?_
     exact ⟨0, true, rfl, fun _ => ⟨rfl, fun h => by cases h⟩, rfl⟩
    ·have hae : (a == 9223372036854775808) = false := by rw [beq_eq_false_iff_ne]; exact ha
     have hal : a < 9223372036854775808 := by omega
     by_cases hb : big = true
     ·have hf : fz = true := by
       rw [g2]
       exact decide_eq_true (.inl (hbt hb))
      subst hb
      clear g2 g3 hbf hbt hdk hne ha
      subst hf
      go_wp2
      (try simp only [Exit.inBlock, Exit.then])
      refine bodyPost_ret (results_tmp3 rfl _ _ _) rfl ?_
      exact ⟨0, true, rfl, fun _ => ⟨rfl, fun h => by cases h⟩, rfl⟩
     ·have hb' : big = false := by simpa using hb
      have hv := hbf hb'
      have hf : fz = false := by
       rw [g2]
       apply decide_eq_false
       omega
      have hva : vz = a := by rw [g3 hf, hv]; rfl
      subst hb'
      subst hf
      subst hva
      clear g2 g3 hbf hbt hdk hne ha hb hv
      go_wp2
      (try simp only [Exit.inBlock, Exit.then])
      refine bodyPost_ret (results_tmp3 rfl _ _ _) rfl ?_
      exact ⟨vz, false, rfl, fun _ => ⟨rfl, fun _ => rfl⟩, rfl⟩
theorem Zjw (D : ByteArray) (ds : List UInt8) (hD : D.data.toList = ds) (hm : D.size ≤ 9000000) (hNH : Zcp false ds) (h45 : ∀ h : 0 < D.size, (D[0]'h).toNat ≠ 45) (hs : 2 < D.size) (h0 : (D[0]'(by omega)).toNat ≠ 48) (w : World) :
  Calls Tryz.prog 63 #[.string D] w (Zcy (okN (sgn false ds)) (Xe (sgn false ds)) (Yv (sgn false ds)) w) := by
 have hdl : ds.length = D.size := by rw [← hD, Lib.size_eq]
 have HDG : Hid (∀ (j : Nat) (hj : j < D.size), ds[j]'(by omega) = D[j]'hj) := fun j hj => by subst hD; rfl
 have hBAD : ∀ c ∈ ds, ¬ Yp c → okN (sgn false ds) = false := fun c hc hd => Zcw false ds hNH c hc hd
 have hGOOD := fun hne hd => Zci false ds hNH hne hd
 have hNIL : ds = [] → okN (sgn false ds) = false := fun e => by rw [e]; exact Zcx false
 have HBADF := Za hBAD
 have HGOOD := Za hGOOD
 have HNIL := Za hNIL
 clear hNH hBAD hGOOD hNIL hD
 generalize okN (sgn false ds) = ok at *
 generalize Yv (sgn false ds) = fz at *
 generalize Xe (sgn false ds) = vz at *
 have hz2 : (2 : Int) < D.size := by omega
 have hz3 : (0 : Int) < D.size := by omega
 have hz4 : (1 : Int) < D.size := by omega
 obtain ⟨x0, hx0⟩ : ∃ x : Int, x = ((D[0]'(by omega)).toNat : Int) := ⟨_, rfl⟩
 have hj0 := fun w => Yo D 0 0 x0 rfl (by omega) hx0.symm w
 have hn45 : (x0 == 45) = false := by rw [beq_eq_false_iff_ne]; have := h45 (by omega); omega
 have hn48 : (x0 == 48) = false := by rw [beq_eq_false_iff_ne]; omega
 clear hx0 h0
 clear h45
 go_enter Tryz.func63, Tryz.ntmps63
 go_wp2
 go_loop [8, 9, 10] (fun vu vb vi => ∃ (k : Nat) (a : Int) (big : Bool), vu = .int .u64 a ∧ vb = .bool big ∧ vi = .int .i64 k ∧ k ≤ D.size ∧ Hid (0 ≤ a ∧ a ≤ 9223372036854775808 ∧ (∀ c ∈ ds.take k, Yp c) ∧ (big = false → a = Zu 0 (ds.take k)) ∧ (big = true → 9223372036854775808 < Zu 0 ds)))
  (fun _ _ vi => D.size - (intOf vi).toNat)
 case atStart => exact ⟨0, 0, false, rfl, rfl, rfl, by omega, by omega, by omega, by simp, fun _ => rfl, (fun h => by cases h)⟩
 case round =>
  obtain ⟨k, a, big, rfl, rfl, rfl, hk, hh⟩ := hrel
  obtain ⟨a0, a1, hdk, hbf, hbt⟩ := hh.out
  clear hh
  by_cases hkn : k < D.size
  ·obtain ⟨c, hc⟩ := nmd (D[k]'hkn)
   have hck : ds[k]'(by omega) = c := by rw [hc]; exact HDG.out k hkn
   obtain ⟨x, hx⟩ : ∃ x : Int, x = (c.toNat : Int) := ⟨_, rfl⟩
   have hik := fun w => Yo D k (k : Int) x rfl hkn (by rw [hx, hc]) w
   have hmem : c ∈ ds := by rw [← hck]; exact List.getElem_mem _
   have htk : ds.take (k + 1) = ds.take k ++ [c] := by rw [Zag ds k (by omega), hck]
   have hc256 : c.toNat < 256 := c.toNat_lt
   have HDI := Za (fun w => Zcc x w)
   clear hc hck
   by_cases hdig : Yp c
   ·have hx0 : 48 ≤ x := by have := hdig.1; omega
    have hx1 : x ≤ 57 := by have := hdig.2; omega
    rw [show Xa x = true from decide_eq_true ⟨hx0, hx1⟩] at HDI
    have hdk2 : ∀ c' ∈ ds.take (k + 1), Yp c' := fun c' hc' => by
     rw [htk, List.mem_append] at hc'
     rcases hc' with h | h
     ·exact hdk c' h
     ·simp at h; rw [h]; exact hdig
    have hdf : (Zu 0 (ds.take (k + 1)) : Int) = Zu 0 (ds.take k) * 10 + (x - 48) := by
     rw [htk, Zbf]
     have := hdig.1
     omega
    have hdl2 := Zbv ds (k + 1)
    by_cases hbg : (9223372036854775808 - (x - 48)) / 10 < a
    ·have hB : 9223372036854775808 < Zu 0 ds := by
      by_cases hb : big = true
      ·exact hbt hb
      ·have := hbf (by simpa using hb)
       omega
     have HB := Za hB
     have HD2 := Za hdk2
     clear hB hdk hbf hbt hdk2 hdf hdl2 hdig hmem htk hx hc256
     go_wp2_with fail
     refine (HDI.out _).mono ?_
     rintro e w1 ⟨rfl, hw⟩
     have hw := hw.symm
     subst hw
     go_wp2
     refine ⟨⟨k + 1, x - 48, true, rfl, rfl, (by first | rfl | (congr 1; omega)), by omega, ⟨by omega, by omega, HD2.out, (fun h => by cases h), fun _ => HB.out⟩⟩, by simp [intOf]; omega⟩
    ·have HN : Hid (0 ≤ 10 * a + (x - 48) ∧ 10 * a + (x - 48) ≤ 9223372036854775808 ∧ (∀ c' ∈ ds.take (k + 1), Yp c') ∧ (big = false → 10 * a + (x - 48) = Zu 0 (ds.take (k + 1))) ∧ (big = true → 9223372036854775808 < Zu 0 ds)) := ⟨by omega, by omega, hdk2, fun h => by have := hbf h; omega, hbt⟩
     have hov : 10 * a + (x - 48) < 18446744073709551616 := by omega
     clear hdk hbf hbt hdk2 hdf hdl2 hdig hmem htk hx hc256
     go_wp2_with fail
     refine (HDI.out _).mono ?_
     rintro e w1 ⟨rfl, hw⟩
     have hw := hw.symm
     subst hw
     go_wp2
     refine ⟨⟨k + 1, 10 * a + (x - 48), big, rfl, rfl, (by first | rfl | (congr 1; omega)), by omega, HN⟩, by simp [intOf]; omega⟩
   ·rw [show Xa x = false from decide_eq_false (by unfold Yp at hdig; omega)] at HDI
    have hok : ok = false := HBADF.out c hmem hdig
    subst hok
    clear hdk hbf hbt hdig hmem htk hx hc256
    go_wp2_with fail
    refine (HDI.out _).mono ?_
    rintro e w1 ⟨rfl, hw⟩
    have hw := hw.symm
    subst hw
    go_wp2
    all_goals (try simp only [Exit.inBlock, Exit.then])
    all_goals refine bodyPost_ret (results_tmp3 rfl _ _ _) rfl ?_
    all_goals exact ⟨0, false, rfl, (fun h => by cases h), rfl⟩
  ·have hkk : k = D.size := by omega
   subst hkk
   rw [List.take_of_length_le (show ds.length ≤ D.size by omega)] at hdk hbf
   clear hkn
   by_cases hne : ds = []
   ·exact absurd hne (by intro e; rw [e] at hdl; simp at hdl; omega)
   ·obtain ⟨g1, g2, g3⟩ := HGOOD.out hne hdk
    have hds0 : (0 : Int) < D.size := by
     have : 0 < ds.length := List.length_pos_iff.2 hne
     omega
    have hdsn : 0 < D.size := by omega
    subst g1
    by_cases ha : a = 9223372036854775808
    ·subst ha
     have hf : fz = true := by
      rw [g2]
      apply decide_eq_true
      by_cases hb : big = true
      ·exact .inl (hbt hb)
      ·right
       have := hbf (by simpa using hb)
       exact ⟨by omega, by first | rfl | trivial⟩
     clear g2 g3 hbf hbt hdk hne
     subst hf
     go_wp2
     (try simp only [Exit.inBlock, Exit.then])
     refine bodyPost_ret (results_tmp3 rfl _ _ _) rfl ?_
     exact ⟨0, true, rfl, fun _ => ⟨rfl, fun h => by cases h⟩, rfl⟩
    ·have hae : (a == 9223372036854775808) = false := by rw [beq_eq_false_iff_ne]; exact ha
     have hal : a < 9223372036854775808 := by omega
     by_cases hb : big = true
     ·have hf : fz = true := by
       rw [g2]
       exact decide_eq_true (.inl (hbt hb))
      subst hb
      clear g2 g3 hbf hbt hdk hne ha
      subst hf
      go_wp2
      (try simp only [Exit.inBlock, Exit.then])
      refine bodyPost_ret (results_tmp3 rfl _ _ _) rfl ?_
      exact ⟨0, true, rfl, fun _ => ⟨rfl, fun h => by cases h⟩, rfl⟩
     ·have hb' : big = false := by simpa using hb
      have hv := hbf hb'
      have hf : fz = false := by
       rw [g2]
       apply decide_eq_false
       omega
      have hva : vz = a := by rw [g3 hf, hv]; rfl
      subst hb'
      subst hf
      subst hva
      clear g2 g3 hbf hbt hdk hne ha hb hv
      go_wp2
      (try simp only [Exit.inBlock, Exit.then])
      refine bodyPost_ret (results_tmp3 rfl _ _ _) rfl ?_
      exact ⟨vz, false, rfl, fun _ => ⟨rfl, fun _ => rfl⟩, rfl⟩
theorem Zjd (D : ByteArray) (ds : List UInt8) (hD : D.data.toList = ds) (hm : D.size ≤ 9000000) (hNH : Zcp false ds) (h45 : ∀ h : 0 < D.size, (D[0]'h).toNat ≠ 45) (hs : 2 < D.size) (h0 : (D[0]'(by omega)).toNat = 48) (h1 : (D[1]'(by omega)).toNat ≠ 120) (w : World) :
  Calls Tryz.prog 63 #[.string D] w (Zcy (okN (sgn false ds)) (Xe (sgn false ds)) (Yv (sgn false ds)) w) := by
 have hdl : ds.length = D.size := by rw [← hD, Lib.size_eq]
 have HDG : Hid (∀ (j : Nat) (hj : j < D.size), ds[j]'(by omega) = D[j]'hj) := fun j hj => by subst hD; rfl
 have hBAD : ∀ c ∈ ds, ¬ Yp c → okN (sgn false ds) = false := fun c hc hd => Zcw false ds hNH c hc hd
 have hGOOD := fun hne hd => Zci false ds hNH hne hd
 have hNIL : ds = [] → okN (sgn false ds) = false := fun e => by rw [e]; exact Zcx false
 have HBADF := Za hBAD
 have HGOOD := Za hGOOD
 have HNIL := Za hNIL
 clear hNH hBAD hGOOD hNIL hD
 generalize okN (sgn false ds) = ok at *
 generalize Yv (sgn false ds) = fz at *
 generalize Xe (sgn false ds) = vz at *
 have hz2 : (2 : Int) < D.size := by omega
 have hz3 : (0 : Int) < D.size := by omega
 have hz4 : (1 : Int) < D.size := by omega
 obtain ⟨x0, hx0⟩ : ∃ x : Int, x = ((D[0]'(by omega)).toNat : Int) := ⟨_, rfl⟩
 have hj0 := fun w => Yo D 0 0 x0 rfl (by omega) hx0.symm w
 have hn45 : (x0 == 45) = false := by rw [beq_eq_false_iff_ne]; have := h45 (by omega); omega
 have hn48 : x0 = 48 := by omega
 subst hn48
 clear hx0 h0
 obtain ⟨x1, hx1⟩ : ∃ x : Int, x = ((D[1]'(by omega)).toNat : Int) := ⟨_, rfl⟩
 have hj1 := fun w => Yo D 1 1 x1 rfl (by omega) hx1.symm w
 have hn120 : (x1 == 120) = false := by rw [beq_eq_false_iff_ne]; omega
 clear hx1 h1
 clear h45
 go_enter Tryz.func63, Tryz.ntmps63
 go_wp2
 go_loop [8, 9, 10] (fun vu vb vi => ∃ (k : Nat) (a : Int) (big : Bool), vu = .int .u64 a ∧ vb = .bool big ∧ vi = .int .i64 k ∧ k ≤ D.size ∧ Hid (0 ≤ a ∧ a ≤ 9223372036854775808 ∧ (∀ c ∈ ds.take k, Yp c) ∧ (big = false → a = Zu 0 (ds.take k)) ∧ (big = true → 9223372036854775808 < Zu 0 ds)))
  (fun _ _ vi => D.size - (intOf vi).toNat)
 case atStart => exact ⟨0, 0, false, rfl, rfl, rfl, by omega, by omega, by omega, by simp, fun _ => rfl, (fun h => by cases h)⟩
 case round =>
  obtain ⟨k, a, big, rfl, rfl, rfl, hk, hh⟩ := hrel
  obtain ⟨a0, a1, hdk, hbf, hbt⟩ := hh.out
  clear hh
  by_cases hkn : k < D.size
  ·obtain ⟨c, hc⟩ := nmd (D[k]'hkn)
   have hck : ds[k]'(by omega) = c := by rw [hc]; exact HDG.out k hkn
   obtain ⟨x, hx⟩ : ∃ x : Int, x = (c.toNat : Int) := ⟨_, rfl⟩
   have hik := fun w => Yo D k (k : Int) x rfl hkn (by rw [hx, hc]) w
   have hmem : c ∈ ds := by rw [← hck]; exact List.getElem_mem _
   have htk : ds.take (k + 1) = ds.take k ++ [c] := by rw [Zag ds k (by omega), hck]
   have hc256 : c.toNat < 256 := c.toNat_lt
   have HDI := Za (fun w => Zcc x w)
   clear hc hck
   by_cases hdig : Yp c
   ·have hx0 : 48 ≤ x := by have := hdig.1; omega
    have hx1 : x ≤ 57 := by have := hdig.2; omega
    rw [show Xa x = true from decide_eq_true ⟨hx0, hx1⟩] at HDI
    have hdk2 : ∀ c' ∈ ds.take (k + 1), Yp c' := fun c' hc' => by
     rw [htk, List.mem_append] at hc'
     rcases hc' with h | h
     ·exact hdk c' h
     ·simp at h; rw [h]; exact hdig
    have hdf : (Zu 0 (ds.take (k + 1)) : Int) = Zu 0 (ds.take k) * 10 + (x - 48) := by
     rw [htk, Zbf]
     have := hdig.1
     omega
    have hdl2 := Zbv ds (k + 1)
    by_cases hbg : (9223372036854775808 - (x - 48)) / 10 < a
    ·have hB : 9223372036854775808 < Zu 0 ds := by
      by_cases hb : big = true
      ·exact hbt hb
      ·have := hbf (by simpa using hb)
       omega
     have HB := Za hB
     have HD2 := Za hdk2
     clear hB hdk hbf hbt hdk2 hdf hdl2 hdig hmem htk hx hc256
     go_wp2_with fail
     refine (HDI.out _).mono ?_
     rintro e w1 ⟨rfl, hw⟩
     have hw := hw.symm
     subst hw
     go_wp2
     refine ⟨⟨k + 1, x - 48, true, rfl, rfl, (by first | rfl | (congr 1; omega)), by omega, ⟨by omega, by omega, HD2.out, (fun h => by cases h), fun _ => HB.out⟩⟩, by simp [intOf]; omega⟩
    ·have HN : Hid (0 ≤ 10 * a + (x - 48) ∧ 10 * a + (x - 48) ≤ 9223372036854775808 ∧ (∀ c' ∈ ds.take (k + 1), Yp c') ∧ (big = false → 10 * a + (x - 48) = Zu 0 (ds.take (k + 1))) ∧ (big = true → 9223372036854775808 < Zu 0 ds)) := ⟨by omega, by omega, hdk2, fun h => by have := hbf h; omega, hbt⟩
     have hov : 10 * a + (x - 48) < 18446744073709551616 := by omega
     clear hdk hbf hbt hdk2 hdf hdl2 hdig hmem htk hx hc256
     go_wp2_with fail
     refine (HDI.out _).mono ?_
     rintro e w1 ⟨rfl, hw⟩
     have hw := hw.symm
     subst hw
     go_wp2
     refine ⟨⟨k + 1, 10 * a + (x - 48), big, rfl, rfl, (by first | rfl | (congr 1; omega)), by omega, HN⟩, by simp [intOf]; omega⟩
   ·rw [show Xa x = false from decide_eq_false (by unfold Yp at hdig; omega)] at HDI
    have hok : ok = false := HBADF.out c hmem hdig
    subst hok
    clear hdk hbf hbt hdig hmem htk hx hc256
    go_wp2_with fail
    refine (HDI.out _).mono ?_
    rintro e w1 ⟨rfl, hw⟩
    have hw := hw.symm
    subst hw
    go_wp2
    all_goals (try simp only [Exit.inBlock, Exit.then])
    all_goals refine bodyPost_ret (results_tmp3 rfl _ _ _) rfl ?_
    all_goals exact ⟨0, false, rfl, (fun h => by cases h), rfl⟩
  ·have hkk : k = D.size := by omega
   subst hkk
   rw [List.take_of_length_le (show ds.length ≤ D.size by omega)] at hdk hbf
   clear hkn
   by_cases hne : ds = []
   ·exact absurd hne (by intro e; rw [e] at hdl; simp at hdl; omega)
   ·obtain ⟨g1, g2, g3⟩ := HGOOD.out hne hdk
    have hds0 : (0 : Int) < D.size := by
     have : 0 < ds.length := List.length_pos_iff.2 hne
     omega
    have hdsn : 0 < D.size := by omega
    subst g1
    by_cases ha : a = 9223372036854775808
    ·subst ha
     have hf : fz = true := by
      rw [g2]
      apply decide_eq_true
      by_cases hb : big = true
      ·exact .inl (hbt hb)
      ·right
       have := hbf (by simpa using hb)
       exact ⟨by omega, by first | rfl | trivial⟩
     clear g2 g3 hbf hbt hdk hne
     subst hf
     go_wp2
     (try simp only [Exit.inBlock, Exit.then])
     refine bodyPost_ret (results_tmp3 rfl _ _ _) rfl ?_
     exact ⟨0, true, rfl, fun _ => ⟨rfl, fun h => by cases h⟩, rfl⟩
    ·have hae : (a == 9223372036854775808) = false := by rw [beq_eq_false_iff_ne]; exact ha
     have hal : a < 9223372036854775808 := by omega
     by_cases hb : big = true
     ·have hf : fz = true := by
       rw [g2]
       exact decide_eq_true (.inl (hbt hb))
      subst hb
      clear g2 g3 hbf hbt hdk hne ha
      subst hf
      go_wp2
      (try simp only [Exit.inBlock, Exit.then])
      refine bodyPost_ret (results_tmp3 rfl _ _ _) rfl ?_
      exact ⟨0, true, rfl, fun _ => ⟨rfl, fun h => by cases h⟩, rfl⟩
     ·have hb' : big = false := by simpa using hb
      have hv := hbf hb'
      have hf : fz = false := by
       rw [g2]
       apply decide_eq_false
       omega
      have hva : vz = a := by rw [g3 hf, hv]; rfl
      subst hb'
      subst hf
      subst hva
      clear g2 g3 hbf hbt hdk hne ha hb hv
      go_wp2
      (try simp only [Exit.inBlock, Exit.then])
      refine bodyPost_ret (results_tmp3 rfl _ _ _) rfl ?_
      exact ⟨vz, false, rfl, fun _ => ⟨rfl, fun _ => rfl⟩, rfl⟩
theorem Zje (t D : ByteArray) (ds : List UInt8) (hD : D.data.toList = ds) (hDe : D = t.extract 1 t.size) (hz : 0 < t.size) (h45 : (t[0]'hz).toNat = 45) (hm : D.size ≤ 9000000) (hNH : Zcp true ds) (hs : D.size ≤ 2) (w : World) :
  Calls Tryz.prog 63 #[.string t] w (Zcy (okN (sgn true ds)) (Xe (sgn true ds)) (Yv (sgn true ds)) w) := by
 have hdl : ds.length = D.size := by rw [← hD, Lib.size_eq]
 have HDG : Hid (∀ (j : Nat) (hj : j < D.size), ds[j]'(by omega) = D[j]'hj) := fun j hj => by subst hD; rfl
 have hBAD : ∀ c ∈ ds, ¬ Yp c → okN (sgn true ds) = false := fun c hc hd => Zcw true ds hNH c hc hd
 have hGOOD := fun hne hd => Zci true ds hNH hne hd
 have hNIL : ds = [] → okN (sgn true ds) = false := fun e => by rw [e]; exact Zcx true
 have HBADF := Za hBAD
 have HGOOD := Za hGOOD
 have HNIL := Za hNIL
 clear hNH hBAD hGOOD hNIL hD
 generalize okN (sgn true ds) = ok at *
 generalize Yv (sgn true ds) = fz at *
 generalize Xe (sgn true ds) = vz at *
 have hz0 : (0 : Int) < t.size := by omega
 have hz1 : (1 : Int) ≤ t.size := by omega
 have hi0 := fun w => Yo t 0 0 45 rfl hz (by rw [h45]; rfl) w
 have HDE := Za hDe
 clear h45 hDe
 have hz2 : ¬ (2 : Int) < D.size := by omega
 go_enter Tryz.func63, Tryz.ntmps63
 go_upto_region 4 with fail
 rw [← HDE.out]
 go_wp2
 go_loop [8, 9, 10] (fun vu vb vi => ∃ (k : Nat) (a : Int) (big : Bool), vu = .int .u64 a ∧ vb = .bool big ∧ vi = .int .i64 k ∧ k ≤ D.size ∧ Hid (0 ≤ a ∧ a ≤ 9223372036854775808 ∧ (∀ c ∈ ds.take k, Yp c) ∧ (big = false → a = Zu 0 (ds.take k)) ∧ (big = true → 9223372036854775808 < Zu 0 ds)))
  (fun _ _ vi => D.size - (intOf vi).toNat)
 case atStart => exact ⟨0, 0, false, rfl, rfl, rfl, by omega, by omega, by omega, by simp, fun _ => rfl, (fun h => by cases h)⟩
 case round =>
  obtain ⟨k, a, big, rfl, rfl, rfl, hk, hh⟩ := hrel
  obtain ⟨a0, a1, hdk, hbf, hbt⟩ := hh.out
  clear hh
  by_cases hkn : k < D.size
  ·obtain ⟨c, hc⟩ := nmd (D[k]'hkn)
   have hck : ds[k]'(by omega) = c := by rw [hc]; exact HDG.out k hkn
   obtain ⟨x, hx⟩ : ∃ x : Int, x = (c.toNat : Int) := ⟨_, rfl⟩
   have hik := fun w => Yo D k (k : Int) x rfl hkn (by rw [hx, hc]) w
   have hmem : c ∈ ds := by rw [← hck]; exact List.getElem_mem _
   have htk : ds.take (k + 1) = ds.take k ++ [c] := by rw [Zag ds k (by omega), hck]
   have hc256 : c.toNat < 256 := c.toNat_lt
   have HDI := Za (fun w => Zcc x w)
   clear hc hck
   by_cases hdig : Yp c
   ·have hx0 : 48 ≤ x := by have := hdig.1; omega
    have hx1 : x ≤ 57 := by have := hdig.2; omega
    rw [show Xa x = true from decide_eq_true ⟨hx0, hx1⟩] at HDI
    have hdk2 : ∀ c' ∈ ds.take (k + 1), Yp c' := fun c' hc' => by
     rw [htk, List.mem_append] at hc'
     rcases hc' with h | h
     ·exact hdk c' h
     ·simp at h; rw [h]; exact hdig
    have hdf : (Zu 0 (ds.take (k + 1)) : Int) = Zu 0 (ds.take k) * 10 + (x - 48) := by
     rw [htk, Zbf]
     have := hdig.1
     omega
    have hdl2 := Zbv ds (k + 1)
    by_cases hbg : (9223372036854775808 - (x - 48)) / 10 < a
    ·have hB : 9223372036854775808 < Zu 0 ds := by
      by_cases hb : big = true
      ·exact hbt hb
      ·have := hbf (by simpa using hb)
       omega
     have HB := Za hB
     have HD2 := Za hdk2
     clear hB hdk hbf hbt hdk2 hdf hdl2 hdig hmem htk hx hc256
     go_wp2_with fail
     refine (HDI.out _).mono ?_
     rintro e w1 ⟨rfl, hw⟩
     have hw := hw.symm
     subst hw
     go_wp2
     refine ⟨⟨k + 1, x - 48, true, rfl, rfl, (by first | rfl | (congr 1; omega)), by omega, ⟨by omega, by omega, HD2.out, (fun h => by cases h), fun _ => HB.out⟩⟩, by simp [intOf]; omega⟩
    ·have HN : Hid (0 ≤ 10 * a + (x - 48) ∧ 10 * a + (x - 48) ≤ 9223372036854775808 ∧ (∀ c' ∈ ds.take (k + 1), Yp c') ∧ (big = false → 10 * a + (x - 48) = Zu 0 (ds.take (k + 1))) ∧ (big = true → 9223372036854775808 < Zu 0 ds)) := ⟨by omega, by omega, hdk2, fun h => by have := hbf h; omega, hbt⟩
     have hov : 10 * a + (x - 48) < 18446744073709551616 := by omega
     clear hdk hbf hbt hdk2 hdf hdl2 hdig hmem htk hx hc256
     go_wp2_with fail
     refine (HDI.out _).mono ?_
     rintro e w1 ⟨rfl, hw⟩
     have hw := hw.symm
     subst hw
     go_wp2
     refine ⟨⟨k + 1, 10 * a + (x - 48), big, rfl, rfl, (by first | rfl | (congr 1; omega)), by omega, HN⟩, by simp [intOf]; omega⟩
   ·rw [show Xa x = false from decide_eq_false (by unfold Yp at hdig; omega)] at HDI
    have hok : ok = false := HBADF.out c hmem hdig
    subst hok
    clear hdk hbf hbt hdig hmem htk hx hc256
    go_wp2_with fail
    refine (HDI.out _).mono ?_
    rintro e w1 ⟨rfl, hw⟩
    have hw := hw.symm
    subst hw
    go_wp2
    all_goals (try simp only [Exit.inBlock, Exit.then])
    all_goals refine bodyPost_ret (results_tmp3 rfl _ _ _) rfl ?_
    all_goals exact ⟨0, false, rfl, (fun h => by cases h), rfl⟩
  ·have hkk : k = D.size := by omega
   subst hkk
   rw [List.take_of_length_le (show ds.length ≤ D.size by omega)] at hdk hbf
   clear hkn
   by_cases hne : ds = []
   ·have hV : Zu 0 ds = 0 := by rw [hne]; rfl
    have hb : big = false := by
     by_cases hb : big = true
     ·have := hbt hb; omega
     ·simpa using hb
    have ha : a = 0 := by have := hbf hb; omega
    have hok : ok = false := HNIL.out hne
    have hds0 : ¬ (0 : Int) < D.size := by rw [← hdl, hne]; simp
    have hdsn : ¬ 0 < D.size := by omega
    subst hb
    subst ha
    subst hok
    clear hV hbf hbt hdk hne
    go_wp2
    (try simp only [Exit.inBlock, Exit.then])
    refine bodyPost_ret (results_tmp3 rfl _ _ _) rfl ?_
    exact ⟨0, false, rfl, (fun h => by cases h), rfl⟩
   ·obtain ⟨g1, g2, g3⟩ := HGOOD.out hne hdk
    have hds0 : (0 : Int) < D.size := by
     have : 0 < ds.length := List.length_pos_iff.2 hne
     omega
    have hdsn : 0 < D.size := by omega
    subst g1
    by_cases hb : big = true
    ·have hf : fz = true := by
      rw [g2]
      exact decide_eq_true (.inl (hbt hb))
     subst hb
     subst hf
     clear g2 g3 hbf hbt hdk hne
     by_cases ha : a = 9223372036854775808
     ·subst ha
      go_wp2
      (try simp only [Exit.inBlock, Exit.then])
      refine bodyPost_ret (results_tmp3 rfl _ _ _) rfl ?_
      exact ⟨0, true, rfl, fun _ => ⟨rfl, fun h => by cases h⟩, rfl⟩
     ·have hae : (a == 9223372036854775808) = false := by rw [beq_eq_false_iff_ne]; exact ha
      go_wp2
      (try simp only [Exit.inBlock, Exit.then])
      refine bodyPost_ret (results_tmp3 rfl _ _ _) rfl ?_
      exact ⟨0, true, rfl, fun _ => ⟨rfl, fun h => by cases h⟩, rfl⟩
    ·have hb' : big = false := by simpa using hb
     have hv := hbf hb'
     have hf : fz = false := by
      rw [g2]
      apply decide_eq_false
      rintro (h | ⟨_, h⟩)
      ·omega
      ·cases h
     have hva : vz = -a := by rw [g3 hf, hv]; rfl
     subst hb'
     subst hf
     subst hva
     clear g2 g3 hbf hbt hdk hne hb hv
     by_cases ha : a = 9223372036854775808
     ·subst ha
      go_wp2
      (try simp only [Exit.inBlock, Exit.then])
      refine bodyPost_ret (results_tmp3 rfl _ _ _) rfl ?_
      exact ⟨_, false, rfl, fun _ => ⟨rfl, fun _ => by unfold wrap64; omega⟩, rfl⟩
     ·have hae : (a == 9223372036854775808) = false := by rw [beq_eq_false_iff_ne]; exact ha
      have hal : a < 9223372036854775808 := by omega
      go_wp2
      (try simp only [Exit.inBlock, Exit.then])
      refine bodyPost_ret (results_tmp3 rfl _ _ _) rfl ?_
      exact ⟨-a, false, rfl, fun _ => ⟨rfl, fun _ => rfl⟩, rfl⟩
theorem Zjf (t D : ByteArray) (ds : List UInt8) (hD : D.data.toList = ds) (hDe : D = t.extract 1 t.size) (hz : 0 < t.size) (h45 : (t[0]'hz).toNat = 45) (hm : D.size ≤ 9000000) (hNH : Zcp true ds) (hs : 2 < D.size) (h0 : (D[0]'(by omega)).toNat ≠ 48) (w : World) :
  Calls Tryz.prog 63 #[.string t] w (Zcy (okN (sgn true ds)) (Xe (sgn true ds)) (Yv (sgn true ds)) w) := by
 have hdl : ds.length = D.size := by rw [← hD, Lib.size_eq]
 have HDG : Hid (∀ (j : Nat) (hj : j < D.size), ds[j]'(by omega) = D[j]'hj) := fun j hj => by subst hD; rfl
 have hBAD : ∀ c ∈ ds, ¬ Yp c → okN (sgn true ds) = false := fun c hc hd => Zcw true ds hNH c hc hd
 have hGOOD := fun hne hd => Zci true ds hNH hne hd
 have hNIL : ds = [] → okN (sgn true ds) = false := fun e => by rw [e]; exact Zcx true
 have HBADF := Za hBAD
 have HGOOD := Za hGOOD
 have HNIL := Za hNIL
 clear hNH hBAD hGOOD hNIL hD
 generalize okN (sgn true ds) = ok at *
 generalize Yv (sgn true ds) = fz at *
 generalize Xe (sgn true ds) = vz at *
 have hz0 : (0 : Int) < t.size := by omega
 have hz1 : (1 : Int) ≤ t.size := by omega
 have hi0 := fun w => Yo t 0 0 45 rfl hz (by rw [h45]; rfl) w
 have HDE := Za hDe
 clear h45 hDe
 have hz2 : (2 : Int) < D.size := by omega
 have hz3 : (0 : Int) < D.size := by omega
 have hz4 : (1 : Int) < D.size := by omega
 obtain ⟨x0, hx0⟩ : ∃ x : Int, x = ((D[0]'(by omega)).toNat : Int) := ⟨_, rfl⟩
 have hj0 := fun w => Yo D 0 0 x0 rfl (by omega) hx0.symm w
 have hn48 : (x0 == 48) = false := by rw [beq_eq_false_iff_ne]; omega
 clear hx0 h0
 go_enter Tryz.func63, Tryz.ntmps63
 go_upto_region 4 with fail
 rw [← HDE.out]
 go_wp2
 go_loop [8, 9, 10] (fun vu vb vi => ∃ (k : Nat) (a : Int) (big : Bool), vu = .int .u64 a ∧ vb = .bool big ∧ vi = .int .i64 k ∧ k ≤ D.size ∧ Hid (0 ≤ a ∧ a ≤ 9223372036854775808 ∧ (∀ c ∈ ds.take k, Yp c) ∧ (big = false → a = Zu 0 (ds.take k)) ∧ (big = true → 9223372036854775808 < Zu 0 ds)))
  (fun _ _ vi => D.size - (intOf vi).toNat)
 case atStart => exact ⟨0, 0, false, rfl, rfl, rfl, by omega, by omega, by omega, by simp, fun _ => rfl, (fun h => by cases h)⟩
 case round =>
  obtain ⟨k, a, big, rfl, rfl, rfl, hk, hh⟩ := hrel
  obtain ⟨a0, a1, hdk, hbf, hbt⟩ := hh.out
  clear hh
  by_cases hkn : k < D.size
  ·obtain ⟨c, hc⟩ := nmd (D[k]'hkn)
   have hck : ds[k]'(by omega) = c := by rw [hc]; exact HDG.out k hkn
   obtain ⟨x, hx⟩ : ∃ x : Int, x = (c.toNat : Int) := ⟨_, rfl⟩
   have hik := fun w => Yo D k (k : Int) x rfl hkn (by rw [hx, hc]) w
   have hmem : c ∈ ds := by rw [← hck]; exact List.getElem_mem _
   have htk : ds.take (k + 1) = ds.take k ++ [c] := by rw [Zag ds k (by omega), hck]
   have hc256 : c.toNat < 256 := c.toNat_lt
   have HDI := Za (fun w => Zcc x w)
   clear hc hck
   by_cases hdig : Yp c
   ·have hx0 : 48 ≤ x := by have := hdig.1; omega
    have hx1 : x ≤ 57 := by have := hdig.2; omega
    rw [show Xa x = true from decide_eq_true ⟨hx0, hx1⟩] at HDI
    have hdk2 : ∀ c' ∈ ds.take (k + 1), Yp c' := fun c' hc' => by
     rw [htk, List.mem_append] at hc'
     rcases hc' with h | h
     ·exact hdk c' h
     ·simp at h; rw [h]; exact hdig
    have hdf : (Zu 0 (ds.take (k + 1)) : Int) = Zu 0 (ds.take k) * 10 + (x - 48) := by
     rw [htk, Zbf]
     have := hdig.1
     omega
    have hdl2 := Zbv ds (k + 1)
    by_cases hbg : (9223372036854775808 - (x - 48)) / 10 < a
    ·have hB : 9223372036854775808 < Zu 0 ds := by
      by_cases hb : big = true
      ·exact hbt hb
      ·have := hbf (by simpa using hb)
       omega
     have HB := Za hB
     have HD2 := Za hdk2
     clear hB hdk hbf hbt hdk2 hdf hdl2 hdig hmem htk hx hc256
     go_wp2_with fail
     refine (HDI.out _).mono ?_
     rintro e w1 ⟨rfl, hw⟩
     have hw := hw.symm
     subst hw
     go_wp2
     refine ⟨⟨k + 1, x - 48, true, rfl, rfl, (by first | rfl | (congr 1; omega)), by omega, ⟨by omega, by omega, HD2.out, (fun h => by cases h), fun _ => HB.out⟩⟩, by simp [intOf]; omega⟩
    ·have HN : Hid (0 ≤ 10 * a + (x - 48) ∧ 10 * a + (x - 48) ≤ 9223372036854775808 ∧ (∀ c' ∈ ds.take (k + 1), Yp c') ∧ (big = false → 10 * a + (x - 48) = Zu 0 (ds.take (k + 1))) ∧ (big = true → 9223372036854775808 < Zu 0 ds)) := ⟨by omega, by omega, hdk2, fun h => by have := hbf h; omega, hbt⟩
     have hov : 10 * a + (x - 48) < 18446744073709551616 := by omega
     clear hdk hbf hbt hdk2 hdf hdl2 hdig hmem htk hx hc256
     go_wp2_with fail
     refine (HDI.out _).mono ?_
     rintro e w1 ⟨rfl, hw⟩
     have hw := hw.symm
     subst hw
     go_wp2
     refine ⟨⟨k + 1, 10 * a + (x - 48), big, rfl, rfl, (by first | rfl | (congr 1; omega)), by omega, HN⟩, by simp [intOf]; omega⟩
   ·rw [show Xa x = false from decide_eq_false (by unfold Yp at hdig; omega)] at HDI
    have hok : ok = false := HBADF.out c hmem hdig
    subst hok
    clear hdk hbf hbt hdig hmem htk hx hc256
    go_wp2_with fail
    refine (HDI.out _).mono ?_
    rintro e w1 ⟨rfl, hw⟩
    have hw := hw.symm
    subst hw
    go_wp2
    all_goals (try simp only [Exit.inBlock, Exit.then])
    all_goals refine bodyPost_ret (results_tmp3 rfl _ _ _) rfl ?_
    all_goals exact ⟨0, false, rfl, (fun h => by cases h), rfl⟩
  ·have hkk : k = D.size := by omega
   subst hkk
   rw [List.take_of_length_le (show ds.length ≤ D.size by omega)] at hdk hbf
   clear hkn
   by_cases hne : ds = []
   ·exact absurd hne (by intro e; rw [e] at hdl; simp at hdl; omega)
   ·obtain ⟨g1, g2, g3⟩ := HGOOD.out hne hdk
    have hds0 : (0 : Int) < D.size := by
     have : 0 < ds.length := List.length_pos_iff.2 hne
     omega
    have hdsn : 0 < D.size := by omega
    subst g1
    by_cases hb : big = true
    ·have hf : fz = true := by
      rw [g2]
      exact decide_eq_true (.inl (hbt hb))
     subst hb
     subst hf
     clear g2 g3 hbf hbt hdk hne
     by_cases ha : a = 9223372036854775808
     ·subst ha
      go_wp2
      (try simp only [Exit.inBlock, Exit.then])
      refine bodyPost_ret (results_tmp3 rfl _ _ _) rfl ?_
      exact ⟨0, true, rfl, fun _ => ⟨rfl, fun h => by cases h⟩, rfl⟩
     ·have hae : (a == 9223372036854775808) = false := by rw [beq_eq_false_iff_ne]; exact ha
      go_wp2
      (try simp only [Exit.inBlock, Exit.then])
      refine bodyPost_ret (results_tmp3 rfl _ _ _) rfl ?_
      exact ⟨0, true, rfl, fun _ => ⟨rfl, fun h => by cases h⟩, rfl⟩
    ·have hb' : big = false := by simpa using hb
     have hv := hbf hb'
     have hf : fz = false := by
      rw [g2]
      apply decide_eq_false
      rintro (h | ⟨_, h⟩)
      ·omega
      ·cases h
     have hva : vz = -a := by rw [g3 hf, hv]; rfl
     subst hb'
     subst hf
     subst hva
     clear g2 g3 hbf hbt hdk hne hb hv
     by_cases ha : a = 9223372036854775808
     ·subst ha
      go_wp2
      (try simp only [Exit.inBlock, Exit.then])
      refine bodyPost_ret (results_tmp3 rfl _ _ _) rfl ?_
      exact ⟨_, false, rfl, fun _ => ⟨rfl, fun _ => by unfold wrap64; omega⟩, rfl⟩
     ·have hae : (a == 9223372036854775808) = false := by rw [beq_eq_false_iff_ne]; exact ha
      have hal : a < 9223372036854775808 := by omega
      go_wp2
      (try simp only [Exit.inBlock, Exit.then])
      refine bodyPost_ret (results_tmp3 rfl _ _ _) rfl ?_
      exact ⟨-a, false, rfl, fun _ => ⟨rfl, fun _ => rfl⟩, rfl⟩
theorem Zho (t D : ByteArray) (ds : List UInt8) (hD : D.data.toList = ds) (hDe : D = t.extract 1 t.size) (hz : 0 < t.size) (h45 : (t[0]'hz).toNat = 45) (hm : D.size ≤ 9000000) (hNH : Zcp true ds) (hs : 2 < D.size) (h0 : (D[0]'(by omega)).toNat = 48) (h1 : (D[1]'(by omega)).toNat ≠ 120) (w : World) :
  Calls Tryz.prog 63 #[.string t] w (Zcy (okN (sgn true ds)) (Xe (sgn true ds)) (Yv (sgn true ds)) w) := by
 have hdl : ds.length = D.size := by rw [← hD, Lib.size_eq]
 have HDG : Hid (∀ (j : Nat) (hj : j < D.size), ds[j]'(by omega) = D[j]'hj) := fun j hj => by subst hD; rfl
 have hBAD : ∀ c ∈ ds, ¬ Yp c → okN (sgn true ds) = false := fun c hc hd => Zcw true ds hNH c hc hd
 have hGOOD := fun hne hd => Zci true ds hNH hne hd
 have hNIL : ds = [] → okN (sgn true ds) = false := fun e => by rw [e]; exact Zcx true
 have HBADF := Za hBAD
 have HGOOD := Za hGOOD
 have HNIL := Za hNIL
 clear hNH hBAD hGOOD hNIL hD
 generalize okN (sgn true ds) = ok at *
 generalize Yv (sgn true ds) = fz at *
 generalize Xe (sgn true ds) = vz at *
 have hz0 : (0 : Int) < t.size := by omega
 have hz1 : (1 : Int) ≤ t.size := by omega
 have hi0 := fun w => Yo t 0 0 45 rfl hz (by rw [h45]; rfl) w
 have HDE := Za hDe
 clear h45 hDe
 have hz2 : (2 : Int) < D.size := by omega
 have hz3 : (0 : Int) < D.size := by omega
 have hz4 : (1 : Int) < D.size := by omega
 obtain ⟨x0, hx0⟩ : ∃ x : Int, x = ((D[0]'(by omega)).toNat : Int) := ⟨_, rfl⟩
 have hj0 := fun w => Yo D 0 0 x0 rfl (by omega) hx0.symm w
 have hn48 : x0 = 48 := by omega
 subst hn48
 clear hx0 h0
 obtain ⟨x1, hx1⟩ : ∃ x : Int, x = ((D[1]'(by omega)).toNat : Int) := ⟨_, rfl⟩
 have hj1 := fun w => Yo D 1 1 x1 rfl (by omega) hx1.symm w
 have hn120 : (x1 == 120) = false := by rw [beq_eq_false_iff_ne]; omega
 clear hx1 h1
 go_enter Tryz.func63, Tryz.ntmps63
 go_upto_region 4 with fail
 rw [← HDE.out]
 go_wp2
 go_loop [8, 9, 10] (fun vu vb vi => ∃ (k : Nat) (a : Int) (big : Bool), vu = .int .u64 a ∧ vb = .bool big ∧ vi = .int .i64 k ∧ k ≤ D.size ∧ Hid (0 ≤ a ∧ a ≤ 9223372036854775808 ∧ (∀ c ∈ ds.take k, Yp c) ∧ (big = false → a = Zu 0 (ds.take k)) ∧ (big = true → 9223372036854775808 < Zu 0 ds)))
  (fun _ _ vi => D.size - (intOf vi).toNat)
 case atStart => exact ⟨0, 0, false, rfl, rfl, rfl, by omega, by omega, by omega, by simp, fun _ => rfl, (fun h => by cases h)⟩
 case round =>
  obtain ⟨k, a, big, rfl, rfl, rfl, hk, hh⟩ := hrel
  obtain ⟨a0, a1, hdk, hbf, hbt⟩ := hh.out
  clear hh
  by_cases hkn : k < D.size
  ·obtain ⟨c, hc⟩ := nmd (D[k]'hkn)
   have hck : ds[k]'(by omega) = c := by rw [hc]; exact HDG.out k hkn
   obtain ⟨x, hx⟩ : ∃ x : Int, x = (c.toNat : Int) := ⟨_, rfl⟩
   have hik := fun w => Yo D k (k : Int) x rfl hkn (by rw [hx, hc]) w
   have hmem : c ∈ ds := by rw [← hck]; exact List.getElem_mem _
   have htk : ds.take (k + 1) = ds.take k ++ [c] := by rw [Zag ds k (by omega), hck]
   have hc256 : c.toNat < 256 := c.toNat_lt
   have HDI := Za (fun w => Zcc x w)
   clear hc hck
   by_cases hdig : Yp c
   ·have hx0 : 48 ≤ x := by have := hdig.1; omega
    have hx1 : x ≤ 57 := by have := hdig.2; omega
    rw [show Xa x = true from decide_eq_true ⟨hx0, hx1⟩] at HDI
    have hdk2 : ∀ c' ∈ ds.take (k + 1), Yp c' := fun c' hc' => by
     rw [htk, List.mem_append] at hc'
     rcases hc' with h | h
     ·exact hdk c' h
     ·simp at h; rw [h]; exact hdig
    have hdf : (Zu 0 (ds.take (k + 1)) : Int) = Zu 0 (ds.take k) * 10 + (x - 48) := by
     rw [htk, Zbf]
     have := hdig.1
     omega
    have hdl2 := Zbv ds (k + 1)
    by_cases hbg : (9223372036854775808 - (x - 48)) / 10 < a
    ·have hB : 9223372036854775808 < Zu 0 ds := by
      by_cases hb : big = true
      ·exact hbt hb
      ·have := hbf (by simpa using hb)
       omega
     have HB := Za hB
     have HD2 := Za hdk2
     clear hB hdk hbf hbt hdk2 hdf hdl2 hdig hmem htk hx hc256
     go_wp2_with fail
     refine (HDI.out _).mono ?_
     rintro e w1 ⟨rfl, hw⟩
     have hw := hw.symm
     subst hw
     go_wp2
     refine ⟨⟨k + 1, x - 48, true, rfl, rfl, (by first | rfl | (congr 1; omega)), by omega, ⟨by omega, by omega, HD2.out, (fun h => by cases h), fun _ => HB.out⟩⟩, by simp [intOf]; omega⟩
    ·have HN : Hid (0 ≤ 10 * a + (x - 48) ∧ 10 * a + (x - 48) ≤ 9223372036854775808 ∧ (∀ c' ∈ ds.take (k + 1), Yp c') ∧ (big = false → 10 * a + (x - 48) = Zu 0 (ds.take (k + 1))) ∧ (big = true → 9223372036854775808 < Zu 0 ds)) := ⟨by omega, by omega, hdk2, fun h => by have := hbf h; omega, hbt⟩
     have hov : 10 * a + (x - 48) < 18446744073709551616 := by omega
     clear hdk hbf hbt hdk2 hdf hdl2 hdig hmem htk hx hc256
     go_wp2_with fail
     refine (HDI.out _).mono ?_
     rintro e w1 ⟨rfl, hw⟩
     have hw := hw.symm
     subst hw
     go_wp2
     refine ⟨⟨k + 1, 10 * a + (x - 48), big, rfl, rfl, (by first | rfl | (congr 1; omega)), by omega, HN⟩, by simp [intOf]; omega⟩
   ·rw [show Xa x = false from decide_eq_false (by unfold Yp at hdig; omega)] at HDI
    have hok : ok = false := HBADF.out c hmem hdig
    subst hok
    clear hdk hbf hbt hdig hmem htk hx hc256
    go_wp2_with fail
    refine (HDI.out _).mono ?_
    rintro e w1 ⟨rfl, hw⟩
    have hw := hw.symm
    subst hw
    go_wp2
    all_goals (try simp only [Exit.inBlock, Exit.then])
    all_goals refine bodyPost_ret (results_tmp3 rfl _ _ _) rfl ?_
    all_goals exact ⟨0, false, rfl, (fun h => by cases h), rfl⟩
  ·have hkk : k = D.size := by omega
   subst hkk
   rw [List.take_of_length_le (show ds.length ≤ D.size by omega)] at hdk hbf
   clear hkn
   by_cases hne : ds = []
   ·exact absurd hne (by intro e; rw [e] at hdl; simp at hdl; omega)
   ·obtain ⟨g1, g2, g3⟩ := HGOOD.out hne hdk
    have hds0 : (0 : Int) < D.size := by
     have : 0 < ds.length := List.length_pos_iff.2 hne
     omega
    have hdsn : 0 < D.size := by omega
    subst g1
    by_cases hb : big = true
    ·have hf : fz = true := by
      rw [g2]
      exact decide_eq_true (.inl (hbt hb))
     subst hb
     subst hf
     clear g2 g3 hbf hbt hdk hne
     by_cases ha : a = 9223372036854775808
     ·subst ha
      go_wp2
      (try simp only [Exit.inBlock, Exit.then])
      refine bodyPost_ret (results_tmp3 rfl _ _ _) rfl ?_
      exact ⟨0, true, rfl, fun _ => ⟨rfl, fun h => by cases h⟩, rfl⟩
     ·have hae : (a == 9223372036854775808) = false := by rw [beq_eq_false_iff_ne]; exact ha
      go_wp2
      (try simp only [Exit.inBlock, Exit.then])
      refine bodyPost_ret (results_tmp3 rfl _ _ _) rfl ?_
      exact ⟨0, true, rfl, fun _ => ⟨rfl, fun h => by cases h⟩, rfl⟩
    ·have hb' : big = false := by simpa using hb
     have hv := hbf hb'
     have hf : fz = false := by
      rw [g2]
      apply decide_eq_false
      rintro (h | ⟨_, h⟩)
      ·omega
      ·cases h
     have hva : vz = -a := by rw [g3 hf, hv]; rfl
     subst hb'
     subst hf
     subst hva
     clear g2 g3 hbf hbt hdk hne hb hv
     by_cases ha : a = 9223372036854775808
     ·subst ha
      go_wp2
      (try simp only [Exit.inBlock, Exit.then])
      refine bodyPost_ret (results_tmp3 rfl _ _ _) rfl ?_
      exact ⟨_, false, rfl, fun _ => ⟨rfl, fun _ => by unfold wrap64; omega⟩, rfl⟩
     ·have hae : (a == 9223372036854775808) = false := by rw [beq_eq_false_iff_ne]; exact ha
      have hal : a < 9223372036854775808 := by omega
      go_wp2
      (try simp only [Exit.inBlock, Exit.then])
      refine bodyPost_ret (results_tmp3 rfl _ _ _) rfl ?_
      exact ⟨-a, false, rfl, fun _ => ⟨rfl, fun _ => rfl⟩, rfl⟩
theorem Zjx (t D : ByteArray) (ds : List UInt8) (hD : D.data.toList = ds) (hDe : D = t.extract 1 t.size) (hz : 0 < t.size) (h45 : (t[0]'hz).toNat = 45) (hm : D.size ≤ 9000000) (hNH : Zcp true ds) (hs : 2 < D.size) (h0 : (D[0]'(by omega)).toNat = 48) (h1 : (D[1]'(by omega)).toNat = 120) (w : World) :
  Calls Tryz.prog 63 #[.string t] w (Zcy (okN (sgn true ds)) (Xe (sgn true ds)) (Yv (sgn true ds)) w) := by
 have hdl : ds.length = D.size := by rw [← hD, Lib.size_eq]
 have HDG : Hid (∀ (j : Nat) (hj : j < D.size), ds[j]'(by omega) = D[j]'hj) := fun j hj => by subst hD; rfl
 have hBAD : ∀ c ∈ ds, ¬ Yp c → okN (sgn true ds) = false := fun c hc hd => Zcw true ds hNH c hc hd
 have hGOOD := fun hne hd => Zci true ds hNH hne hd
 have hNIL : ds = [] → okN (sgn true ds) = false := fun e => by rw [e]; exact Zcx true
 have HBADF := Za hBAD
 have HGOOD := Za hGOOD
 have HNIL := Za hNIL
 clear hNH hBAD hGOOD hNIL hD
 generalize okN (sgn true ds) = ok at *
 generalize Yv (sgn true ds) = fz at *
 generalize Xe (sgn true ds) = vz at *
 have hz0 : (0 : Int) < t.size := by omega
 have hz1 : (1 : Int) ≤ t.size := by omega
 have hi0 := fun w => Yo t 0 0 45 rfl hz (by rw [h45]; rfl) w
 have HDE := Za hDe
 clear h45 hDe
 have hz2 : (2 : Int) < D.size := by omega
 have hz3 : (0 : Int) < D.size := by omega
 have hz4 : (1 : Int) < D.size := by omega
 obtain ⟨x0, hx0⟩ : ∃ x : Int, x = ((D[0]'(by omega)).toNat : Int) := ⟨_, rfl⟩
 have hj0 := fun w => Yo D 0 0 x0 rfl (by omega) hx0.symm w
 have hn48 : x0 = 48 := by omega
 subst hn48
 clear hx0 h0
 obtain ⟨x1, hx1⟩ : ∃ x : Int, x = ((D[1]'(by omega)).toNat : Int) := ⟨_, rfl⟩
 have hj1 := fun w => Yo D 1 1 x1 rfl (by omega) hx1.symm w
 have hn120 : x1 = 120 := by omega
 subst hn120
 clear hx1 h1
 go_enter Tryz.func63, Tryz.ntmps63
 go_upto_region 4 with fail
 rw [← HDE.out]
 go_wp2
 go_loop [8, 9, 10] (fun vu vb vi => ∃ (k : Nat) (a : Int) (big : Bool), vu = .int .u64 a ∧ vb = .bool big ∧ vi = .int .i64 k ∧ k ≤ D.size ∧ Hid (0 ≤ a ∧ a ≤ 9223372036854775808 ∧ (∀ c ∈ ds.take k, Yp c) ∧ (big = false → a = Zu 0 (ds.take k)) ∧ (big = true → 9223372036854775808 < Zu 0 ds)))
  (fun _ _ vi => D.size - (intOf vi).toNat)
 case atStart => exact ⟨0, 0, false, rfl, rfl, rfl, by omega, by omega, by omega, by simp, fun _ => rfl, (fun h => by cases h)⟩
 case round =>
  obtain ⟨k, a, big, rfl, rfl, rfl, hk, hh⟩ := hrel
  obtain ⟨a0, a1, hdk, hbf, hbt⟩ := hh.out
  clear hh
  by_cases hkn : k < D.size
  ·obtain ⟨c, hc⟩ := nmd (D[k]'hkn)
   have hck : ds[k]'(by omega) = c := by rw [hc]; exact HDG.out k hkn
   obtain ⟨x, hx⟩ : ∃ x : Int, x = (c.toNat : Int) := ⟨_, rfl⟩
   have hik := fun w => Yo D k (k : Int) x rfl hkn (by rw [hx, hc]) w
   have hmem : c ∈ ds := by rw [← hck]; exact List.getElem_mem _
   have htk : ds.take (k + 1) = ds.take k ++ [c] := by rw [Zag ds k (by omega), hck]
   have hc256 : c.toNat < 256 := c.toNat_lt
   have HDI := Za (fun w => Zcc x w)
   clear hc hck
   by_cases hdig : Yp c
   ·have hx0 : 48 ≤ x := by have := hdig.1; omega
    have hx1 : x ≤ 57 := by have := hdig.2; omega
    rw [show Xa x = true from decide_eq_true ⟨hx0, hx1⟩] at HDI
    have hdk2 : ∀ c' ∈ ds.take (k + 1), Yp c' := fun c' hc' => by
     rw [htk, List.mem_append] at hc'
     rcases hc' with h | h
     ·exact hdk c' h
     ·simp at h; rw [h]; exact hdig
    have hdf : (Zu 0 (ds.take (k + 1)) : Int) = Zu 0 (ds.take k) * 10 + (x - 48) := by
     rw [htk, Zbf]
     have := hdig.1
     omega
    have hdl2 := Zbv ds (k + 1)
    by_cases hbg : (9223372036854775808 - (x - 48)) / 10 < a
    ·have hB : 9223372036854775808 < Zu 0 ds := by
      by_cases hb : big = true
      ·exact hbt hb
      ·have := hbf (by simpa using hb)
       omega
     have HB := Za hB
     have HD2 := Za hdk2
     clear hB hdk hbf hbt hdk2 hdf hdl2 hdig hmem htk hx hc256
     go_wp2_with fail
     refine (HDI.out _).mono ?_
     rintro e w1 ⟨rfl, hw⟩
     have hw := hw.symm
     subst hw
     go_wp2
     refine ⟨⟨k + 1, x - 48, true, rfl, rfl, (by first | rfl | (congr 1; omega)), by omega, ⟨by omega, by omega, HD2.out, (fun h => by cases h), fun _ => HB.out⟩⟩, by simp [intOf]; omega⟩
    ·have HN : Hid (0 ≤ 10 * a + (x - 48) ∧ 10 * a + (x - 48) ≤ 9223372036854775808 ∧ (∀ c' ∈ ds.take (k + 1), Yp c') ∧ (big = false → 10 * a + (x - 48) = Zu 0 (ds.take (k + 1))) ∧ (big = true → 9223372036854775808 < Zu 0 ds)) := ⟨by omega, by omega, hdk2, fun h => by have := hbf h; omega, hbt⟩
     have hov : 10 * a + (x - 48) < 18446744073709551616 := by omega
     clear hdk hbf hbt hdk2 hdf hdl2 hdig hmem htk hx hc256
     go_wp2_with fail
     refine (HDI.out _).mono ?_
     rintro e w1 ⟨rfl, hw⟩
     have hw := hw.symm
     subst hw
     go_wp2
     refine ⟨⟨k + 1, 10 * a + (x - 48), big, rfl, rfl, (by first | rfl | (congr 1; omega)), by omega, HN⟩, by simp [intOf]; omega⟩
   ·rw [show Xa x = false from decide_eq_false (by unfold Yp at hdig; omega)] at HDI
    have hok : ok = false := HBADF.out c hmem hdig
    subst hok
    clear hdk hbf hbt hdig hmem htk hx hc256
    go_wp2_with fail
    refine (HDI.out _).mono ?_
    rintro e w1 ⟨rfl, hw⟩
    have hw := hw.symm
    subst hw
    go_wp2
    all_goals (try simp only [Exit.inBlock, Exit.then])
    all_goals refine bodyPost_ret (results_tmp3 rfl _ _ _) rfl ?_
    all_goals exact ⟨0, false, rfl, (fun h => by cases h), rfl⟩
  ·have hkk : k = D.size := by omega
   subst hkk
   rw [List.take_of_length_le (show ds.length ≤ D.size by omega)] at hdk hbf
   clear hkn
   by_cases hne : ds = []
   ·exact absurd hne (by intro e; rw [e] at hdl; simp at hdl; omega)
   ·obtain ⟨g1, g2, g3⟩ := HGOOD.out hne hdk
    have hds0 : (0 : Int) < D.size := by
     have : 0 < ds.length := List.length_pos_iff.2 hne
     omega
    have hdsn : 0 < D.size := by omega
    subst g1
    by_cases hb : big = true
    ·have hf : fz = true := by
      rw [g2]
      exact decide_eq_true (.inl (hbt hb))
     subst hb
     subst hf
     clear g2 g3 hbf hbt hdk hne
     by_cases ha : a = 9223372036854775808
     ·subst ha
      go_wp2
      (try simp only [Exit.inBlock, Exit.then])
      refine bodyPost_ret (results_tmp3 rfl _ _ _) rfl ?_
      exact ⟨0, true, rfl, fun _ => ⟨rfl, fun h => by cases h⟩, rfl⟩
     ·have hae : (a == 9223372036854775808) = false := by rw [beq_eq_false_iff_ne]; exact ha
      go_wp2
      (try simp only [Exit.inBlock, Exit.then])
      refine bodyPost_ret (results_tmp3 rfl _ _ _) rfl ?_
      exact ⟨0, true, rfl, fun _ => ⟨rfl, fun h => by cases h⟩, rfl⟩
    ·have hb' : big = false := by simpa using hb
     have hv := hbf hb'
     have hf : fz = false := by
      rw [g2]
      apply decide_eq_false
      rintro (h | ⟨_, h⟩)
      ·omega
      ·cases h
     have hva : vz = -a := by rw [g3 hf, hv]; rfl
     subst hb'
     subst hf
     subst hva
     clear g2 g3 hbf hbt hdk hne hb hv
     by_cases ha : a = 9223372036854775808
     ·subst ha
      go_wp2
      (try simp only [Exit.inBlock, Exit.then])
      refine bodyPost_ret (results_tmp3 rfl _ _ _) rfl ?_
      exact ⟨_, false, rfl, fun _ => ⟨rfl, fun _ => by unfold wrap64; omega⟩, rfl⟩
     ·have hae : (a == 9223372036854775808) = false := by rw [beq_eq_false_iff_ne]; exact ha
      have hal : a < 9223372036854775808 := by omega
      go_wp2
      (try simp only [Exit.inBlock, Exit.then])
      refine bodyPost_ret (results_tmp3 rfl _ _ _) rfl ?_
      exact ⟨-a, false, rfl, fun _ => ⟨rfl, fun _ => rfl⟩, rfl⟩
end Go.Proofs.YtgoabnehdmdikaaGreatDoor
