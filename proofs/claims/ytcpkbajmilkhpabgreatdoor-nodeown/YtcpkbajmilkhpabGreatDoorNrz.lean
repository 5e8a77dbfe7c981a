/-
  Nrz: Nrx, Nrc.
-/
import Derived.Test.YtcpkbajmilkhpabGreatDoorNrp
import Derived.Test.YtcpkbajmilkhpabGreatDoorNck
import Derived.Test.YtcpkbajmilkhpabGreatDoorNfe
import Derived.BigGuardPart
namespace Go.Proofs.YtcpkbajmilkhpabGreatDoor
open Go.RowKit
set_option linter.unusedVariables false
set_option linter.unusedSimpArgs false
set_option maxRecDepth 100000

set_option maxRecDepth 100000 in
theorem above_big (nm ah : List Int) (w : World) (hn : ∀ x ∈ nm, 0 ≤ x ∧ x ≤ 255) (ha : ∀ x ∈ ah, 0 ≤ x ∧ x ≤ 255) (hln : nm.length ≤ 9223372036854775807) (hla : ah.length ≤ 9223372036854775807) :
    Calls Tryz.prog 34 #[.string (str nm), .string (str ah)] w fun e w' => e = .returned (.bool (aboveL nm ah)) ∧ ∃ n, w' = w.drewN n := by
  obtain ⟨s, hs⟩ : ∃ s, s = str nm := ⟨_, rfl⟩
  obtain ⟨t, ht⟩ : ∃ t, t = str ah := ⟨_, rfl⟩
  have hss : s.size = nm.length := by rw [hs, str_size]
  have hts : t.size = ah.length := by rw [ht, str_size]
  rw [← hs, ← ht]
  have HS := hid_of hs
  have HT := hid_of ht
  clear hs ht
  go_enter Tryz.func34, Tryz.ntmps34
  go_wp2
  go_loopw [5] (fun iv wr => ∃ i n : Nat, i ≤ nm.length ∧ iv = .int .i64 i ∧ wr = w.drewN n ∧ i ≤ ah.length ∧ aboveL nm ah = aboveL (nm.drop i) (ah.drop i)) (fun iv _ => nm.length - (intOf iv).toNat)
  case atStart => exact ⟨0, 0, Nat.zero_le _, rfl, rfl, Nat.zero_le _, rfl⟩
  case round =>
    obtain ⟨i, n, hi, rfl, rfl, hia, hab⟩ := hrel
    have HAB := hid_of hab
    clear hab
    by_cases hlt : i < nm.length
    · have hltI : (i : Int) < (nm.length : Int) := by omega
      by_cases hla2 : i < ah.length
      · have hgI : ¬ ((ah.length : Int) ≤ (i : Int)) := by omega
        have hgd : decide (ah.length ≤ i) = false := by simp; omega
        have hiS : i < s.size := by omega
        have hiT : i < t.size := by omega
        have eS := str_get nm i hn hlt s HS.out hiS
        have eT := str_get ah i ha hla2 t HT.out hiT
        have hdn : nm.drop i = nm.getD i 0 :: nm.drop (i + 1) := by rw [List.drop_eq_getElem_cons hlt, List.getD, List.getElem?_eq_getElem hlt]; rfl
        have hda : ah.drop i = ah.getD i 0 :: ah.drop (i + 1) := by rw [List.drop_eq_getElem_cons hla2, List.getD, List.getElem?_eq_getElem hla2]; rfl
        have HL : Hid (aboveL nm ah = if ah.getD i 0 < nm.getD i 0 then true else if nm.getD i 0 < ah.getD i 0 then false else aboveL (nm.drop (i + 1)) (ah.drop (i + 1))) := by unfold Hid; rw [HAB.out, hdn, hda]; rfl
        have HES := hid_of eS
        have HET := hid_of eT
        clear hdn hda eS eT HAB
        rcases Nat.lt_trichotomy (s[i].toNat) (t[i].toNat) with hc | hc | hc
        · have h1 : decide (t[i].toNat < s[i].toNat) = false := by simp; omega
          have HR : Hid (aboveL nm ah = false) := by unfold Hid; rw [HL.out, if_neg (by have h1 := HES.out; have h2 := HET.out; omega), if_pos (by have h1 := HES.out; have h2 := HET.out; omega)]
          go_wp2_with fail
          go_quiet (fail)
          go_wp2_with fail
          go_quiet (fail)
          go_wp2
          go_ret
          exact ⟨by rw [HR.out]; rfl, _, by first | rfl | (rw [drew2, drew2]) | (rw [drew2])⟩
        · have h1 : decide (t[i].toNat < s[i].toNat) = false := by simp; omega
          have h2 : decide (s[i].toNat < t[i].toNat) = false := by simp; omega
          have HR : Hid (aboveL nm ah = aboveL (nm.drop (i + 1)) (ah.drop (i + 1))) := by unfold Hid; rw [HL.out, if_neg (by have h1 := HES.out; have h2 := HET.out; omega), if_neg (by have h1 := HES.out; have h2 := HET.out; omega)]
          have hle1 : ¬ (t[i].toNat < s[i].toNat) := by omega
          have hle2 : ¬ (s[i].toNat < t[i].toNat) := by omega
          clear hc
          go_wp2_with fail
          go_quiet (fail)
          go_wp2_with fail
          go_quiet (fail)
          go_wp2
          go_roundw
          case rel => exact ⟨i + 1, _, by omega, by go_num, by first | rfl | (rw [drew2, drew2]) | (rw [drew2]), by omega, HR.out⟩
          case measure => simp [intOf]; omega
        · have h1 : decide (t[i].toNat < s[i].toNat) = true := by simp; omega
          have HR : Hid (aboveL nm ah = true) := by unfold Hid; rw [HL.out, if_pos (by have h1 := HES.out; have h2 := HET.out; omega)]
          go_wp2_with fail
          go_quiet (fail)
          go_wp2
          go_ret
          exact ⟨by rw [HR.out]; rfl, _, by first | rfl | (rw [drew2, drew2]) | (rw [drew2])⟩
      · have hgI : (ah.length : Int) ≤ (i : Int) := by omega
        have hgd : decide (ah.length ≤ i) = true := by simp; omega
        have HR : Hid (aboveL nm ah = true) := by
          unfold Hid
          rw [HAB.out, List.drop_eq_getElem_cons hlt, List.drop_eq_nil_of_le (show ah.length ≤ i by omega)]
          rfl
        go_wp2_with fail
        go_quiet (fail)
        go_wp2
        go_ret
        exact ⟨by rw [HR.out]; rfl, _, by first | rfl | (rw [drew2, drew2]) | (rw [drew2])⟩
    · have hnl : ¬ ((i : Int) < (nm.length : Int)) := by omega
      have HR : Hid (aboveL nm ah = false) := by
        unfold Hid
        rw [HAB.out, List.drop_eq_nil_of_le (show nm.length ≤ i by omega)]
        rfl
      go_wp2
      go_ret
      exact ⟨by rw [HR.out]; rfl, _, rfl⟩

set_option maxRecDepth 100000 in
set_option maxHeartbeats 1000000 in
theorem name_big (P : List Int → Bool) (HR : NameRC P) (s ah : List Int) (b o m cp : Nat) (w : World) (hs : ∀ x ∈ s, 0 ≤ x ∧ x ≤ 255) (ha : ∀ x ∈ ah, 0 ≤ x ∧ x ≤ 255) (hsl : s.length ≤ 9223372036854775807) (hal : ah.length ≤ 9223372036854775807) (hm : m ≤ 1024)
    (hc : w.cell? ⟨b, o + m * 34, none⟩ = some (.string (str ah))) :
    Calls Tryz.prog 37 #[.slice (some ⟨b, o, none⟩) (m + 1) cp, .string (str s)] w fun e w' => e = .returned (.bool (P s && aboveL s ah)) ∧ Kept (fun _ => False) w w' := by
  have HN := hid_of (HR s w hs)
  have HA := hid_of (fun w' => above_big s ah w' hs ha hsl hal)
  obtain ⟨q, hb⟩ : ∃ q, q = P s := ⟨_, rfl⟩
  rw [← hb] at HN ⊢
  have hw1 : IntKind.i64.wrap (m : Int) = (m : Int) := by simp [IntKind.wrap, IntKind.bits, IntKind.signed]; omega
  have hne : (((m : Int) + 1) == 0) = false := by simp; omega
  have hlt : (m : Int) < (m : Int) + 1 := by omega
  have hbl : b < w.heap.size := World.block_lt_of_cell? _ _ hc
  clear hb
  cases q
  · go_enter Tryz.func37, Tryz.ntmps37
    go_wp2_with fail
    refine HN.out.mono ?_
    rintro e w2 ⟨rfl, hk⟩
    have HK := hid_of hk
    clear hk HN
    go_wp2
    go_ret
    exact ⟨rfl, HK.out⟩
  · go_enter Tryz.func37, Tryz.ntmps37
    go_wp2_with fail
    refine HN.out.mono ?_
    rintro e w2 ⟨rfl, hk⟩
    have hc2 := hk.cell hc (fun f => f)
    have hbl2 : b < w2.heap.size := Nat.lt_of_lt_of_le hbl hk.size
    have HK := hid_of hk
    clear hk HN hc
    go_wp2_with fail
    refine (HA.out w2).mono ?_
    rintro e w3 ⟨rfl, n, rfl⟩
    have HK3 := hid_of (kept_drewN HK.out n)
    clear HA HK
    go_wp2
    go_ret
    exact ⟨rfl, HK3.out⟩

theorem name_wide (P : List Int → Bool) (HR : NameRC P) (h0 : P [] = false) (s ah : List Int) (lv : Value) (w : World) (hs : ∀ x ∈ s, 0 ≤ x ∧ x ≤ 255) (ha : ∀ x ∈ ah, 0 ≤ x ∧ x ≤ 255) (hsl : s.length ≤ 9223372036854775807) (hal : ah.length ≤ 9223372036854775807) (hl : LastN w lv ah) :
    Calls Tryz.prog 37 #[lv, .string (str s)] w fun e w' => e = .returned (.bool (P s && lessB ah s)) ∧ Kept (fun _ => False) w w' := by
  rcases hl with ⟨rfl, ao, cp, rfl⟩ | ⟨b, o, m, cp, rfl, hm, hc⟩
  · refine (name_none P HR s ao cp w hs).mono ?_
    rintro e w' ⟨rfl, hk⟩
    refine ⟨?_, hk⟩
    cases hp : P s with
    | false => rfl
    | true =>
      have : s ≠ [] := by
        intro e
        rw [e, h0] at hp
        cases hp
      rw [less_nil s this]
      rfl
  · refine (name_big P HR s ah b o m cp w hs ha hsl hal hm hc).mono ?_
    rintro e w' ⟨rfl, hk⟩
    exact ⟨by rw [above_lessB s ah hs ha], hk⟩

end Go.Proofs.YtcpkbajmilkhpabGreatDoor

namespace Go.Proofs.YtcpkbajmilkhpabGreatDoor
open Go.RowKit
set_option linter.unusedVariables false
set_option linter.unusedSimpArgs false
set_option maxRecDepth 100000

set_option maxHeartbeats 1000000 in
theorem entry_ref (P : List Int → Bool) (HR : NameRC P) (h0 : P [] = false) (lv : Value) (y : EV) (ah : List Int) (w : World) (hs : ∀ x ∈ y.nm, 0 ≤ x ∧ x ≤ 255) (ha : ∀ x ∈ ah, 0 ≤ x ∧ x ≤ 255) (hsl : y.nm.length ≤ 9223372036854775807) (hal : ah.length ≤ 9223372036854775807) (h32 : y.fr.length ≤ 32) (hl : LastN w lv ah) :
    Calls Tryz.prog 19 #[lv, .agg y.cells.toArray] w fun e w' => e = .returned (.bool (decide (y.k = 1 ∨ y.k = 2) && (P y.nm && lessB ah y.nm))) ∧ Kept (fun _ => False) w w' := by
  have hb := heap_alloc_new w (.cells y.cells.toArray 41)
  have hkA : Kept (fun _ => False) w (w.alloc (.cells y.cells.toArray 41)) := (Kept.refl _ _).alloc _
  have HNM := hid_of (name_wide P HR h0 y.nm ah lv _ hs ha hsl hal (hl.kept hkA (fun _ _ f => f)))
  have HKR := hid_of (kind_ref y.k (w.alloc (.cells y.cells.toArray 41)))
  have HKA := hid_of hkA
  clear hl hkA hs ha
  go_enter Tryz.func19, Tryz.ntmps19
  go_upto_region 1 with (refine Go.Great.wpList_boxTo rfl 41 _ rfl _ rfl w.heap.size rfl y.cells.toArray rfl ?_)
  generalize w.alloc (.cells y.cells.toArray 41) = wB at *
  have x0 : wB.cell? ⟨w.heap.size, 0, none⟩ = some (.string (str y.nm)) := by rw [cell_block _ _ _ _ _ _ hb]; rfl
  have x1 : wB.cell? ⟨w.heap.size, 1, none⟩ = some (.int .i64 y.k) := by rw [cell_block _ _ _ _ _ _ hb]; rfl
  have xl : w.heap.size < wB.heap.size := (Array.getElem?_eq_some_iff.1 hb).1
  clear hb
  obtain ⟨kb, hkb⟩ : ∃ kb, kb = decide (y.k = 1 ∨ y.k = 2) := ⟨_, rfl⟩
  obtain ⟨nb, hnb⟩ : ∃ nb, nb = (P y.nm && lessB ah y.nm) := ⟨_, rfl⟩
  rw [← hkb] at HKR
  rw [← hnb] at HNM
  have HKB := hid_of hkb
  have HNB := hid_of hnb
  clear hkb hnb
  cases kb
  · go_wp2_with fail
    refine HKR.out.mono ?_
    rintro e w2 ⟨rfl, rfl⟩
    clear HKR HNM
    go_wp2
    go_ret
    exact ⟨by rw [← HKB.out]; rfl, HKA.out⟩
  · go_wp2_with fail
    refine HKR.out.mono ?_
    rintro e w2 ⟨rfl, hw2⟩
    subst hw2
    clear HKR
    go_wp2_with fail
    refine HNM.out.mono ?_
    rintro e w3 ⟨rfl, hk3⟩
    have HK3 := hid_of (HKA.out.trans hk3)
    clear hk3 HNM
    go_wp2
    go_ret
    exact ⟨by rw [← HKB.out, ← HNB.out]; rfl, HK3.out⟩

set_option maxHeartbeats 2000000 in
theorem check_ref (P : List Int → Bool) (HR : NameRC P) (h0 : P [] = false) (ao : Option Addr) (c : Nat) (ys : List EV) (w : World) (hv : RowE w (.slice ao ys.length c) ys) (hcap : ys.length ≤ c) (hcm : c ≤ 9223372036854775807) (hy : ∀ y ∈ ys, y.fr.length ≤ 32) (hb : ∀ y ∈ ys, (∀ x ∈ y.nm, 0 ≤ x ∧ x ≤ 255) ∧ y.nm.length ≤ 9223372036854775807) :
    Calls Tryz.prog 5 #[.slice ao ys.length c] w fun e w' => e = .returned (.int .i64 (checkD P ys)) ∧ Kept (fun _ => False) w w' := by
  obtain ⟨n, hn⟩ : ∃ n, n = ys.length := ⟨_, rfl⟩
  have HN := hid_of hn
  have HV := hid_of hv
  have HY := hid_of hy
  have HB := hid_of hb
  have HRR := hid_of HR
  have HPN := hid_of h0
  rw [← hn] at hcap ⊢
  clear hv hy hb HR h0
  by_cases hlong : 1024 < n
  · have HE : Hid (checkD P ys = 2) := by unfold Hid checkD; rw [if_pos (by rw [← hn]; exact hlong)]
    have hlI : (1024 : Int) < (n : Int) := by omega
    clear hn hlong
    go_enter Tryz.func5, Tryz.ntmps5
    go_wp2
    go_ret
    exact ⟨by rw [HE.out]; rfl, Kept.refl _ _⟩
  have HE : Hid (checkD P ys = if goodE P [] ys = true then 0 else 51) := by unfold Hid checkD; rw [if_neg (by rw [← hn]; exact hlong)]
  have hlI : ¬ ((1024 : Int) < (n : Int)) := by omega
  clear hn
  go_enter Tryz.func5, Tryz.ntmps5
  go_wp2
  go_loopw [3] (fun iv wr => ∃ (i : Nat) (ah : List Int), i ≤ n ∧ iv = .int .i64 i ∧ Kept (fun _ => False) w wr ∧ goodE P [] ys = goodE P ah (ys.drop i) ∧ (∀ x ∈ ah, 0 ≤ x ∧ x ≤ 255) ∧ ah.length ≤ 9223372036854775807 ∧ LastN wr (.slice ao i c) ah) (fun iv _ => n - (intOf iv).toNat)
  case atStart => exact ⟨0, [], by omega, rfl, Kept.refl _ _, rfl, by simp, by simp, .inl ⟨rfl, _, _, rfl⟩⟩
  case round =>
    obtain ⟨i, ah, hi, rfl, hk, hg, hab, hal, hla⟩ := hrel
    by_cases hlt : i < n
    · have hltI : (i : Int) < (n : Int) := by omega
      have hi0 : (0 : Int) ≤ (i : Int) := by omega
      have hic : i ≤ c := by omega
      have hicI : (i : Int) ≤ (c : Int) := by omega
      have hly : i < ys.length := by rw [← HN.out]; exact hlt
      obtain ⟨y, hyi⟩ : ∃ y, ys[i]? = some y := ⟨_, List.getElem?_eq_getElem hly⟩
      have hy32 := HY.out y (List.mem_of_getElem? hyi)
      obtain ⟨hnb, hnl⟩ := HB.out y (List.mem_of_getElem? hyi)
      obtain ⟨g, o, e1, r1⟩ : ∃ g o, ao = some ⟨g, o, none⟩ ∧ w.rangeAt g (o + i * 34) y.cells := by
        rcases HV.out with ⟨e, _⟩ | ⟨g, o, c2, e, hc⟩
        · rw [e] at hly; simp at hly
        · cases e; exact ⟨g, o, rfl, hc i y hyi⟩
      subst e1
      rw [goodE_cons P ah ys i y hyi] at hg
      have hsz : (Tryz.prog.info? 41).map (·.size) = some y.cells.length := by rw [size47, EV.clen y hy32]
      have HEN := hid_of (entry_ref P HRR.out HPN.out (.slice (some ⟨g, o, none⟩) i c) y ah wr.drew hnb hab hnl hal hy32 (hla.kept (Kept.refl (fun _ => False) wr).drew (fun _ _ f => f)))
      have HR1 : Hid (∀ W, Kept (fun _ => False) w W → W.rangeAt g (o + i * 34) y.cells) := fun W hW j u hj => hW.cell (r1 j u hj) (fun f => f)
      have HLN : Hid (∀ W, Kept (fun _ => False) w W → LastN W (.slice (some ⟨g, o, none⟩) (i + 1) c) y.nm) := fun W hW => .inr ⟨g, o, i, c, rfl, by omega, by have := HR1.out W hW 0 (.string (str y.nm)) rfl; rwa [Nat.add_zero] at this⟩
      obtain ⟨q, hq⟩ : ∃ q, q = (decide (y.k = 1 ∨ y.k = 2) && (P y.nm && lessB ah y.nm)) := ⟨_, rfl⟩
      rw [← Bool.and_assoc, ← hq] at hg
      rw [← hq] at HEN
      have HG := hid_of hg
      have HK : Hid (Kept (fun _ => False) w wr.drew) := hk.drew
      have HNB := hid_of hnb
      clear hq hg hk hyi hly hab hla r1 hnb
      go_upto_region 6 with fail
      refine wp_region_held_drew (S := fun w' => Kept (fun _ => False) w w') (by kernel_rfl) HK.out (fun hHeld => ?_)
      refine wpAnyH_take (i := 0) (v := ?_) rfl (by kernel_rfl) (by kernel_rfl) (by kernel_rfl) (fun _ _ _ h => h) (Or.inl ⟨by rfl, ?_⟩) (by assumption) ?_
      rotate_left 1
      · intro w hSw
        go_simp
        try with_reducible rfl
      try simp only [Act.put, List.getElem_toArray, List.getElem_cons_zero, List.getElem_cons_succ, List.setIfInBounds_toArray, List.set_cons_zero, List.set_cons_succ]
      refine wpAnyH_take (i := 1) (v := ?_) rfl (by kernel_rfl) (by kernel_rfl) (by kernel_rfl) (fun _ _ _ h => h) (Or.inl ⟨by rfl, ?_⟩) (by assumption) ?_
      rotate_left 1
      · intro w hSw
        go_simp
        try with_reducible rfl
      try simp only [Act.put, List.getElem_toArray, List.getElem_cons_zero, List.getElem_cons_succ, List.setIfInBounds_toArray, List.set_cons_zero, List.set_cons_succ]
      refine wpAnyH_take (i := 2) (v := ?_) rfl (by kernel_rfl) (by kernel_rfl) (by kernel_rfl) (fun _ _ _ h => h) (Or.inl ⟨by rfl, ?_⟩) (by assumption) ?_
      rotate_left 1
      · intro w hSw
        go_simp
        try with_reducible rfl
      try simp only [Act.put, List.getElem_toArray, List.getElem_cons_zero, List.getElem_cons_succ, List.setIfInBounds_toArray, List.set_cons_zero, List.set_cons_succ]
      refine wpAnyH_take (i := 3) (v := ?_) rfl (by kernel_rfl) (by kernel_rfl) (by kernel_rfl) (fun _ _ _ h => h) (Or.inl ⟨by rfl, ?_⟩) (by assumption) ?_
      rotate_left 1
      · intro w hSw
        go_simp
        try with_reducible rfl
      try simp only [Act.put, List.getElem_toArray, List.getElem_cons_zero, List.getElem_cons_succ, List.setIfInBounds_toArray, List.set_cons_zero, List.set_cons_succ]
      refine wpAnyH_take (i := 4) (v := ?_) rfl (by kernel_rfl) (by kernel_rfl) (by kernel_rfl) (fun _ _ _ h => h) (Or.inl ⟨by rfl, ?_⟩) (by assumption) ?_
      rotate_left 1
      · intro w hSw
        go_simp
        try with_reducible rfl
      try simp only [Act.put, List.getElem_toArray, List.getElem_cons_zero, List.getElem_cons_succ, List.setIfInBounds_toArray, List.set_cons_zero, List.set_cons_succ]
      refine wpAnyH_take (i := 5) (v := ?_) rfl (by kernel_rfl) (by kernel_rfl) (by kernel_rfl) (fun _ _ _ h => h) (Or.inl ⟨by rfl, ?_⟩) (by assumption) ?_
      rotate_left 1
      · intro w hSw
        go_simp
        try with_reducible rfl
      try simp only [Act.put, List.getElem_toArray, List.getElem_cons_zero, List.getElem_cons_succ, List.setIfInBounds_toArray, List.set_cons_zero, List.set_cons_succ]
      refine wpAnyH_take (i := 6) (v := .agg y.cells.toArray) rfl (by kernel_rfl) (by kernel_rfl) (by kernel_rfl) (fun _ _ _ h => h) (yieldsIf_load_mid (by rfl) 41 _ rfl g (o + i * 34) rfl y.cells _ (fun W hW => HR1.out W hW) Tryz.underlying41 rfl hsz) (by assumption) ?_
      try simp only [Act.put, List.getElem_toArray, List.getElem_cons_zero, List.getElem_cons_succ, List.setIfInBounds_toArray, List.set_cons_zero, List.set_cons_succ]
      refine wpAnyH_ready (rs := [7]) (by kernel_rfl) (by simp) ?_
      refine AllReadyH.cons rfl (fun K hK => ?_) AllReadyH.nil
      go_simp
      refine (HEN.out).mono ?_
      rintro e w7 ⟨rfl, hk7⟩
      have HW7 := hid_of hk7
      clear hk7
      refine hK.out _ _ (HK.out.trans HW7.out) (fun hHeld => ?_)
      clear hK K
      try simp only [Act.put, List.getElem_toArray, List.getElem_cons_zero, List.getElem_cons_succ, List.setIfInBounds_toArray, List.set_cons_zero, List.set_cons_succ]
      refine wpAnyH_take (i := 8) (v := ?_) rfl (by kernel_rfl) (by kernel_rfl) (by kernel_rfl) (fun _ _ _ h => h) (Or.inl ⟨by rfl, ?_⟩) (by assumption) ?_
      rotate_left 1
      · intro w hSw
        go_simp
        try with_reducible rfl
      try simp only [Act.put, List.getElem_toArray, List.getElem_cons_zero, List.getElem_cons_succ, List.setIfInBounds_toArray, List.set_cons_zero, List.set_cons_succ]
      refine wpAnyH_done (by kernel_rfl) ?_ _
      have HK7 : Hid (Kept (fun _ => False) w w7) := HK.out.trans HW7.out
      clear HW7 HK HEN
      cases q
      · have HRS : Hid (checkD P ys = 51) := by
          unfold Hid
          rw [HE.out, HG.out]
          rfl
        go_wp2
        go_ret
        exact ⟨by rw [HRS.out]; rfl, HK7.out⟩
      · have HRS : Hid (goodE P [] ys = goodE P y.nm (ys.drop (i + 1))) := by
          unfold Hid
          rw [HG.out, Bool.true_and]
        go_wp2
        go_roundw
        case rel => exact ⟨i + 1, y.nm, by omega, by go_num, HK7.out, HRS.out, HNB.out, hnl, HLN.out _ HK7.out⟩
        case measure => simp [intOf]; omega
    · have hnl : ¬ ((i : Int) < (n : Int)) := by omega
      have hie : i = n := by omega
      subst hie
      have HRS : Hid (checkD P ys = 0) := by
        unfold Hid
        rw [HE.out, hg, List.drop_of_length_le (by rw [HN.out]; exact Nat.le_refl _)]
        rfl
      have HK := hid_of hk
      clear hk hg hab hla
      go_wp2
      go_ret
      exact ⟨by rw [HRS.out]; rfl, HK.out⟩
end Go.Proofs.YtcpkbajmilkhpabGreatDoor
