import Derived.Test.YtgoabnehdmdikaaGreatDoorTLg18
set_option linter.unusedVariables false
set_option linter.unusedSimpArgs false
set_option maxRecDepth 100000
set_option maxHeartbeats 64000000
namespace Go.Proofs.YtgoabnehdmdikaaGreatDoor
open Go.RowKit
def Zv1 (bs : List UInt8) (a : Nat) (w : World) (e : Ending) (w' : World) : Prop :=
 ∃ (tx : ByteArray) (en : Int) (ok : Bool), e = .returned (.tuple #[.string tx, .int .i64 en, .bool ok]) ∧ Kept nF w w' ∧
  ((ok = true ∧ ∃ (un : List Int) (i : Nat), tx = str un ∧ en = (i : Int) ∧ a < i ∧ i ≤ bs.length ∧ Shut bs a i un) ∨ (ok = false ∧ Zcq bs a))
theorem Zri (D : ByteArray) (at0 : Nat) (hs : D.size ≤ 65536) (ha : at0 < D.size) (w : World) :
  Calls Tryz.prog 59 #[.string D, .int .i64 (at0 : Int)] w (Zv1 D.data.toList (at0 + 1) w) := by
 obtain ⟨bs, hbs⟩ : ∃ bs, D.data.toList = bs := ⟨_, rfl⟩
 have hbl : bs.length = D.size := by rw [← hbs, Lib.size_eq]
 have HB : Hid (∀ (j : Nat) (hj : j < D.size), D[j]'hj = bs[j]'(by omega)) := fun j hj => by subst hbs; rfl
 rw [hbs]
 have HO0 : Hid (w.ownsRow w.heap.size 5 1 (.slice none 0 0) 0 (Zo [])) := World.ownsRow_nil _ _ _ _
 have hai : (at0 : Int) + 1 < 9223372036854775808 := by omega
 clear hbs
 go_enter Tryz.func59, Tryz.ntmps59
 go_wp2
 go_loopw [7, 8] (fun vo vi wr => ∃ (i : Nat) (un : List Int) (n : Nat) (va : Option Addr) (vc : Nat), vo = .slice va n vc ∧ n = un.length ∧ vi = .int .i64 (i : Int) ∧ at0 + 1 ≤ i ∧ i ≤ D.size ∧ n ≤ i ∧ Hid (wr.ownsRow w.heap.size 5 1 (.slice va n vc) n (Zo un)) ∧ Hid (Kept nF w wr) ∧ Hid (Into bs (at0 + 1) i un)) (fun _ vi _ => D.size - (intOf vi).toNat)
 case atStart => exact ⟨at0 + 1, [], 0, none, 0, rfl, rfl, by go_num, by omega, by omega, by omega, HO0, Kept.refl _ _, Into.first⟩
 case round =>
  clear HO0
  obtain ⟨i, un, n, va, vc, rfl, hn, rfl, hi0, hi1, hni, HO, HK, HI⟩ := hrel
  have hi2 : (i : Int) ≤ 65536 := by omega
  by_cases hlt : i < D.size
  ·obtain ⟨x, hx⟩ : ∃ x : Int, x = ((bs[i]'(by omega)).toNat : Int) := ⟨_, rfl⟩
   have hik := fun w => Yo D i (i : Int) x rfl hlt (by rw [HB.out i hlt, hx]) w
   have hx0 : 0 ≤ x := by omega
   have hx1 : x < 256 := by have := (bs[i]'(by omega)).toNat_lt; omega
   by_cases h34 : x = 34
   ·have HS := Za (HI.out.close (by omega) (UInt8.toNat_inj.1 (by show _ = 34; omega)))
    have hcv := Zaf wr (.slice va n vc) un (Zbc HO.out)
    subst h34
    clear hx hx0 hx1 HI HO hn
    go_wp2
    all_goals (try simp only [Exit.inBlock, Exit.then])
    all_goals refine bodyPost_ret (results_tmp3 rfl _ _ _) rfl ?_
    all_goals exact ⟨_, _, true, rfl, HK.out, .inl ⟨rfl, un, i + 1, rfl, by omega, by omega, by omega, HS.out⟩⟩
   have e34 : (x == 34) = false := by simp; exact h34
   by_cases hlo : x < 32
   ·have HN := Za (HI.out.bad (by omega) (.inl (by omega)))
    clear hx HI HO hn h34
    go_wp2
    all_goals (try simp only [Exit.inBlock, Exit.then])
    all_goals refine bodyPost_ret (results_tmp3 rfl _ _ _) rfl ?_
    all_goals exact ⟨_, _, false, rfl, HK.out, .inr ⟨rfl, HN.out⟩⟩
   by_cases hhi : 126 < x
   ·have HN := Za (HI.out.bad (by omega) (.inr (by omega)))
    clear hx HI HO hn h34
    go_wp2
    all_goals (try simp only [Exit.inBlock, Exit.then])
    all_goals refine bodyPost_ret (results_tmp3 rfl _ _ _) rfl ?_
    all_goals exact ⟨_, _, false, rfl, HK.out, .inr ⟨rfl, HN.out⟩⟩
   have hlo' : 32 ≤ x := by omega
   have hhi' : x ≤ 126 := by omega
   by_cases h92 : x = 92
   ·have hc92 : bs[i]'(by omega) = 92 := UInt8.toNat_inj.1 (by show _ = 92; omega)
    subst h92
    clear hx h34 hlo hhi hlo' hhi' hx0 hx1 e34
    by_cases h1 : i + 1 < D.size
    ·have hl1 : (i : Int) + 1 < D.size := by omega
     obtain ⟨y, hy⟩ : ∃ y : Int, y = ((bs[i + 1]'(by omega)).toNat : Int) := ⟨_, rfl⟩
     have hik1 := fun w => Yo D (i + 1) ((i : Int) + 1) y rfl h1 (by rw [HB.out (i + 1) h1, hy]) w
     by_cases hd : y = 34 ∨ y = 92
     ·have HI2 := Za (HI.out.self (by omega) hc92 (by omega))
      rw [← hy] at HI2
      obtain ⟨v', w', hr, ho, hk0, hk1, hn0⟩ := Zcn HO.out (.int .u8 y) rfl HK.out (by omega)
      have HR := Za hr
      have HK2 := Za hk0
      have HO1 : Hid (w'.ownsRow w.heap.size 5 1 v' (n + 1) (Zo (un ++ [y]))) := by
       show w'.ownsRow _ _ _ _ _ _
       rw [Zdb]
       exact ho
      obtain ⟨va2, vc2, hbv2⟩ := Zd ho
      obtain ⟨n2, hn2⟩ := nmd (n + 1)
      rw [← hn2] at hbv2 HO1
      subst hbv2
      have HO2 := HO1
      have HN2 := Za hn2
      clear hr ho hk0 hk1 hn0 HO1 hn2
      have HN0 := Za hn
      have HNI := Za hni
      clear hy HI hn HO hni
      rcases hd with rfl | rfl
      ·go_wp2_with (at_builtin; refine Zr rfl (.tmp 62) (.tmp 67) 23 23 rfl _ _ rfl rfl _ w' HR.out ?_)
       go_roundw
       case rel => exact ⟨i + 2, un ++ [34], n2, va2, vc2, rfl, by have := HN2.out; have := HN0.out; simp only [List.length_append, List.length_cons, List.length_nil]; omega, by go_num, by omega, by omega, by have := HN2.out; have := HNI.out; omega, HO2, HK2, HI2⟩
       case measure => simp [intOf]; omega
      ·go_wp2_with (at_builtin; refine Zr rfl (.tmp 62) (.tmp 67) 23 23 rfl _ _ rfl rfl _ w' HR.out ?_)
       go_roundw
       case rel => exact ⟨i + 2, un ++ [92], n2, va2, vc2, rfl, by have := HN2.out; have := HN0.out; simp only [List.length_append, List.length_cons, List.length_nil]; omega, by go_num, by omega, by omega, by have := HN2.out; have := HNI.out; omega, HO2, HK2, HI2⟩
       case measure => simp [intOf]; omega
     have ey34 : (y == 34) = false := by simp; omega
     have ey92 : (y == 92) = false := by simp; omega
     by_cases h3 : i + 3 < D.size
     ·have hl3 : (i : Int) + 3 < D.size := by omega
      have hl2 : (i : Int) + 2 < D.size := by omega
      by_cases h120 : y = 120
      ·obtain ⟨y2, hy2⟩ : ∃ y : Int, y = ((bs[i + 2]'(by omega)).toNat : Int) := ⟨_, rfl⟩
       obtain ⟨y3, hy3⟩ : ∃ y : Int, y = ((bs[i + 3]'(by omega)).toNat : Int) := ⟨_, rfl⟩
       have hik2 := fun w => Yo D (i + 2) ((i : Int) + 2) y2 rfl (by omega) (by rw [HB.out (i + 2) (by omega), hy2]) w
       have hik3 := fun w => Yo D (i + 3) ((i : Int) + 3) y3 rfl h3 (by rw [HB.out (i + 3) h3, hy3]) w
       have b2 := (bs[i + 2]'(by omega)).toNat_lt
       have b3 := (bs[i + 3]'(by omega)).toNat_lt
       have HX2 := Za (fun w => Zq7 y2 (by omega) (by omega) w)
       have HX3 := Za (fun w => Zq7 y3 (by omega) (by omega) w)
       by_cases g2 : Zz y2 < 0
       ·have HNN : Hid (Zcq bs (at0 + 1)) := HI.out.wrong (by omega) hc92 (fun g1 => ⟨by omega, by omega, fun _ _ => .inl (by rw [← hy2]; exact g2)⟩)
        have ey120 : (y == 120) = true := by simp; exact h120
        clear hy hy2 hy3 b2 b3 HI HO hn hd h120
        have g2e : Zz y2 = -1 := by have := Zqd y2; omega
        rw [g2e] at HX2
        clear g2 g2e
        go_wp2_with fail
        refine (HX2.out _).mono ?_
        rintro e w1 ⟨rfl, hw⟩
        have hw := hw.symm
        subst hw
        go_wp2
        all_goals (try simp only [Exit.inBlock, Exit.then])
        all_goals refine bodyPost_ret (results_tmp3 rfl _ _ _) rfl ?_
        all_goals exact ⟨_, _, false, rfl, HK.out, .inr ⟨rfl, HNN.out⟩⟩
       by_cases g3 : Zz y3 < 0
       ·have HNN : Hid (Zcq bs (at0 + 1)) := HI.out.wrong (by omega) hc92 (fun g1 => ⟨by omega, by omega, fun _ _ => .inr (by rw [← hy3]; exact g3)⟩)
        have ey120 : (y == 120) = true := by simp; exact h120
        clear hy hy2 hy3 b2 b3 HI HO hn hd h120
        have g2' : 0 ≤ Zz y2 := by omega
        have g3e : Zz y3 = -1 := by have := Zqd y3; omega
        obtain ⟨m2, hm2⟩ := Int.eq_ofNat_of_zero_le g2'
        rw [g3e] at HX3
        rw [hm2] at HX2
        clear g2 g3 g3e g2' hm2
        go_wp2_with fail
        refine (HX2.out _).mono ?_
        rintro e w1 ⟨rfl, hw⟩
        have hw := hw.symm
        subst hw
        go_wp2_with fail
        refine (HX3.out _).mono ?_
        rintro e w1 ⟨rfl, hw⟩
        have hw := hw.symm
        subst hw
        go_wp2
        all_goals (try simp only [Exit.inBlock, Exit.then])
        all_goals refine bodyPost_ret (results_tmp3 rfl _ _ _) rfl ?_
        all_goals exact ⟨_, _, false, rfl, HK.out, .inr ⟨rfl, HNN.out⟩⟩
       ·have g2' : 0 ≤ Zz y2 := by omega
        have g3' : 0 ≤ Zz y3 := by omega
        have HI2 := Za (HI.out.hex (by omega) hc92 (UInt8.toNat_inj.1 (by show _ = 120; omega)) (by rw [← hy2]; exact g2') (by rw [← hy3]; exact g3'))
        rw [← hy2, ← hy3] at HI2
        have k2 := Zeo y2
        have k3 := Zeo y3
        obtain ⟨m2, hm2⟩ := Int.eq_ofNat_of_zero_le g2'
        obtain ⟨m3, hm3⟩ := Int.eq_ofNat_of_zero_le g3'
        rw [hm2] at HX2 HI2 k2
        rw [hm3] at HX3 HI2 k3
        have ey120 : (y == 120) = true := by simp; exact h120
        have hw8 : IntKind.u8.wrap (16 * (m2 : Int) + m3) = 16 * (m2 : Int) + m3 := Zti _ (by omega) (by omega)
        have q1 : IntKind.i64.wrap ((i : Int) + 2) = (i : Int) + 2 := by simp [IntKind.wrap, IntKind.bits, IntKind.signed]; omega
        have q2 : IntKind.i64.wrap ((i : Int) + 3) = (i : Int) + 3 := by simp [IntKind.wrap, IntKind.bits, IntKind.signed]; omega
        have q3 : IntKind.i64.wrap (16 * (m2 : Int)) = 16 * (m2 : Int) := by simp [IntKind.wrap, IntKind.bits, IntKind.signed]; omega
        have q4 : IntKind.i64.wrap (16 * (m2 : Int) + m3) = 16 * (m2 : Int) + m3 := by simp [IntKind.wrap, IntKind.bits, IntKind.signed]; omega
        have HN0 := Za hn
        have HNI := Za hni
        clear hy hy2 hy3 b2 b3 HI hn hni hd h120 g2 g3 g2' g3' hm2 hm3
        go_wp2_with fail
        refine (HX2.out _).mono ?_
        rintro e w1 ⟨rfl, hw⟩
        have hw := hw.symm
        subst hw
        go_wp2_with fail
        refine (HX3.out _).mono ?_
        rintro e w1 ⟨rfl, hw⟩
        have hw := hw.symm
        subst hw
        go_upto_region 17 with fail
        have hkd : Kept nF wr wr.drew := (Kept.refl _ _).drew
        have HOd := Za (hkd.ownsRow HO.out (fun _ _ f => f))
        have HKd := Za (HK.out.trans hkd)
        clear hkd HO HK
        refine wp_region_held_drew (S := fun _ => True) (by kernel_rfl) trivial (fun qh => ?_)
        generalize wr.drew = wd at *
        obtain ⟨v', w', hr, ho, hk0, hk1, hn0⟩ := Zcn HOd.out (.int .u8 (16 * (m2 : Int) + m3)) rfl HKd.out (by have := HNI.out; omega)
        have HR := Za hr
        have HK2 := Za hk0
        have HO1 : Hid (w'.ownsRow w.heap.size 5 1 v' (n + 1) (Zo (un ++ [16 * (m2 : Int) + m3]))) := by
         show w'.ownsRow _ _ _ _ _ _
         rw [Zdb]
         exact ho
        obtain ⟨va2, vc2, hbv2⟩ := Zd ho
        obtain ⟨n2, hn2⟩ := nmd (n + 1)
        rw [← hn2] at hbv2 HO1
        subst hbv2
        have HO2 := HO1
        have HN2 := Za hn2
        clear hr ho hk0 hk1 hn0 HO1 hn2
        iterate 5
         refine tkn (v := ?_) 0 rfl ?_ ?_; rotate_left
         ·intro w hSw; go_simp; try with_reducible rfl
         try simp only [Act.put, tdy]
        iterate 4
         refine tkn (v := ?_) 7 rfl ?_ ?_; rotate_left
         ·intro w hSw; go_simp; try with_reducible rfl
         try simp only [Act.put, tdy]
        refine rdy 5 rfl (fun K hK => ?_)
        go_simp
        refine (HX2.out _).mono ?_
        rintro e w4 ⟨rfl, hw⟩
        have hw := hw.symm
        subst hw
        refine hK.out _ _ trivial (fun qh => ?_)
        clear hK K
        try simp only [Act.put, tdy]
        iterate 1
         refine tkn (v := ?_) 6 rfl ?_ ?_; rotate_left
         ·intro w hSw; go_simp; try with_reducible rfl
         try simp only [Act.put, tdy]
        refine rdy 11 rfl (fun K hK => ?_)
        go_simp
        refine (HX3.out _).mono ?_
        rintro e w4 ⟨rfl, hw⟩
        have hw := hw.symm
        subst hw
        refine hK.out _ _ trivial (fun qh => ?_)
        clear hK K
        try simp only [Act.put, tdy]
        iterate 2
         refine tkn (v := ?_) 12 rfl ?_ ?_; rotate_left
         ·intro w hSw; go_simp; try with_reducible rfl
         try simp only [Act.put, tdy]
        refine rdy 14 rfl (fun K hK => ?_)
        go_simp
        refine hK.out _ _ trivial (fun qh => ?_)
        clear hK K
        try simp only [Act.put, tdy]
        refine rdy 15 rfl (fun K hK => ?_)
        refine Zm rfl (.tmp 100) (.tmp 114) 23 23 rfl _ _ rfl rfl (.slice va2 n2 vc2) w' HR.out ?_
        refine hK.out _ _ trivial (fun qh => ?_)
        clear hK K
        try simp only [Act.put, tdy]
        refine rdy 16 rfl (fun K hK => ?_)
        go_simp
        refine hK.out _ _ trivial (fun qh => ?_)
        clear hK K
        try simp only [Act.put, tdy]
        refine wpAnyH_done (by kernel_rfl) ?_ _
        go_wp2
        go_roundw
        case rel => exact ⟨i + 4, un ++ [16 * (m2 : Int) + m3], n2, va2, vc2, rfl, by have := HN2.out; have := HN0.out; simp only [List.length_append, List.length_cons, List.length_nil]; omega, by go_num, by omega, by omega, by have := HN2.out; have := HNI.out; omega, HO2, HK2, HI2⟩
        case measure => simp [intOf]; omega
      ·have ey120 : (y == 120) = false := by simp; exact h120
       have HNN : Hid (Zcq bs (at0 + 1)) := HI.out.wrong (by omega) hc92 (fun g1 => ⟨by omega, by omega, fun g2 => by omega⟩)
       clear hy HI HO hn hd h120
       go_wp2
       all_goals (try simp only [Exit.inBlock, Exit.then])
       all_goals refine bodyPost_ret (results_tmp3 rfl _ _ _) rfl ?_
       all_goals exact ⟨_, _, false, rfl, HK.out, .inr ⟨rfl, HNN.out⟩⟩
     ·have hl3 : ¬ (i : Int) + 3 < D.size := by omega
      have HNN : Hid (Zcq bs (at0 + 1)) := HI.out.wrong (by omega) hc92 (fun g1 => ⟨by omega, by omega, fun _ g3 => by omega⟩)
      clear hy HI HO hn hd
      go_wp2
      all_goals (try simp only [Exit.inBlock, Exit.then])
      all_goals refine bodyPost_ret (results_tmp3 rfl _ _ _) rfl ?_
      all_goals exact ⟨_, _, false, rfl, HK.out, .inr ⟨rfl, HNN.out⟩⟩
    ·have hl1 : ¬ (i : Int) + 1 < D.size := by omega
     have hl3 : ¬ (i : Int) + 3 < D.size := by omega
     have HNN : Hid (Zcq bs (at0 + 1)) := HI.out.wrong (by omega) hc92 (fun g1 => by omega)
     clear HI HO hn
     go_wp2
     all_goals (try simp only [Exit.inBlock, Exit.then])
     all_goals refine bodyPost_ret (results_tmp3 rfl _ _ _) rfl ?_
     all_goals exact ⟨_, _, false, rfl, HK.out, .inr ⟨rfl, HNN.out⟩⟩
   ·have e92 : (x != 92) = true := by simp; exact h92
    have HI2 := Za (HI.out.plain (by omega) (by omega) (by omega) (by omega) (by omega))
    rw [← hx] at HI2
    obtain ⟨v', w', hr, ho, hk0, hk1, hn0⟩ := Zcn HO.out (.int .u8 x) rfl HK.out (by omega)
    have HR := Za hr
    have HK2 := Za hk0
    have HO1 : Hid (w'.ownsRow w.heap.size 5 1 v' (n + 1) (Zo (un ++ [x]))) := by
     show w'.ownsRow _ _ _ _ _ _
     rw [Zdb]
     exact ho
    obtain ⟨va2, vc2, hbv2⟩ := Zd ho
    obtain ⟨n2, hn2⟩ := nmd (n + 1)
    rw [← hn2] at hbv2 HO1
    subst hbv2
    have HO2 := HO1
    have HN2 := Za hn2
    clear hr ho hk0 hk1 hn0 HO1 hn2
    have HN0 := Za hn
    have HNI := Za hni
    clear hx HI h34 h92 hlo' hhi' hn HO hni hx0 hx1
    go_wp2_with (at_builtin; refine Zr rfl (.tmp 36) (.tmp 38) 23 23 rfl _ _ rfl rfl _ w' HR.out ?_)
    go_roundw
    case rel => exact ⟨i + 1, un ++ [x], n2, va2, vc2, rfl, by have := HN2.out; have := HN0.out; simp only [List.length_append, List.length_cons, List.length_nil]; omega, by go_num, by omega, by omega, by have := HN2.out; have := HNI.out; omega, HO2, HK2, HI2⟩
    case measure => simp [intOf]; omega
  ·have HN := Za (HI.out.over (by omega))
   clear HI HO hn
   go_wp2
   all_goals (try simp only [Exit.inBlock, Exit.then])
   all_goals refine bodyPost_ret (results_tmp3 rfl _ _ _) rfl ?_
   all_goals exact ⟨_, _, false, rfl, HK.out, .inr ⟨rfl, HN.out⟩⟩
end Go.Proofs.YtgoabnehdmdikaaGreatDoor
namespace Go.Proofs.YtgoabnehdmdikaaGreatDoor
open Go.RowKit
theorem Zg3 (D : ByteArray) (l : List UInt8) (h : D.data.toList = l) : str (l.map fun b => (b.toNat : Int)) = D := by
 apply ByteArray.ext
 apply Array.ext'
 unfold str
 rw [Zfn, h, List.map_map]
 have e : (ByteArray.empty.data.toList : List UInt8) = [] := rfl
 rw [e, List.nil_append]
 conv => rhs; rw [← List.map_id l]
 apply List.map_congr_left
 intro b _
 show UInt8.ofNat ((b.toNat : Int)).toNat = b
 rw [Int.toNat_natCast]
 simp
def Xk (bs : List UInt8) (i j : Nat) : List UInt8 := (bs.drop i).take (j - i)
theorem Zka (D : ByteArray) (bs : List UInt8) (h : D.data.toList = bs) (i j : Nat) : (D.extract i j).data.toList = Xk bs i j := by
 simp only [ByteArray.data_extract, Array.toList_extract, List.extract]
 rw [h]
 rfl
theorem Zl8 (b : UInt8) (l : List UInt8) (x : CS) (h : b.toNat ≠ 59) : Zy (b :: l) x = match Yb x b.toNat with | none => none | some y => Zy l y := by
 rw [Zy, if_neg (fun e => h e.1)]
 cases Yb x b.toNat <;> rfl
theorem Zuc {r : Int} (h : goP r = true) : r ≠ 59 := by
 rintro rfl
 exact absurd h (by decide)
theorem Zoq (l2 : List UInt8) (ps : List Pf) (st z : Int) (hst : st = 2 ∨ st = 3) : ∀ (l1 : List UInt8) (un : List Int), (∀ c ∈ l1, goP (c.toNat : Int) = true) → Zy (l1 ++ l2) ⟨ps, st, un, z⟩ = Zy l2 ⟨ps, st, un ++ l1.map (fun b => (b.toNat : Int)), z⟩
 | [], un, _ => by simp
 | b :: l1, un, h => by
  have hb := h b List.mem_cons_self
  rw [List.cons_append, Zl8 _ _ _ (fun e => Zuc hb (by omega))]
  have : Yb ⟨ps, st, un, z⟩ (b.toNat : Int) = some ⟨ps, st, un ++ [(b.toNat : Int)], z⟩ := by
   unfold Yb
   rw [if_pos hst, if_pos hb]
  rw [this]
  simp only
  rw [Zoq l2 ps st z hst l1 _ (fun c hc => h c (List.mem_cons_of_mem _ hc))]
  simp
theorem Zm9 {x : CS} {r : Int} (h0 : 0 ≤ x.st) (h4 : x.st < 4) (he : Wl x = true) (hg : 2 ≤ x.st → goP r = false) : Yb x r = Ye (Xf x) r := by
 unfold Yb
 by_cases h : x.st = 2 ∨ x.st = 3
 ·rw [if_pos h, if_neg (by rw [hg (by omega)]; simp), if_pos he]
 ·rw [if_neg h, if_neg (by omega), if_neg (by omega), if_neg (by omega)]
  unfold Xf
  rw [if_neg (by omega), if_neg (by omega)]
def PInv (bs : List UInt8) (i : Nat) (ps : List Pf) (s : Int) : Prop :=
 ∃ x : CS, Zy bs ⟨[], 0, [], 0⟩ = Zy (bs.drop i) x ∧ Wl x = true ∧ 0 ≤ x.st ∧ x.st < 4 ∧ (Xf x).ps = ps ∧ (Xf x).st = s ∧ (Xf x).un = [] ∧ (2 ≤ x.st → ∀ h : i < bs.length, goP ((bs[i]).toNat : Int) = false)
variable {bs : List UInt8} {i j : Nat} {ps : List Pf} {s : Int}
theorem PInv.first : PInv bs 0 [] 0 := ⟨⟨[], 0, [], 0⟩, rfl, rfl, by decide, by decide, rfl, rfl, rfl, fun h => absurd h (by decide)⟩
theorem PInv.over (h : PInv bs i ps s) (hi : bs.length ≤ i) : Yc bs = some ps := by
 obtain ⟨x, e, he, h0, h4, hp, -⟩ := h
 rw [Zcz, e, List.drop_of_length_le hi, Zy]
 unfold Zfm
 simp only
 rw [if_pos he, hp]
theorem PInv.semi (h : PInv bs i ps s) (hi : i < bs.length) (hc : ((bs[i]).toNat : Int) = 59) : Yc bs = some ps := by
 obtain ⟨x, e, he, h0, h4, hp, -⟩ := h
 rw [Zcz, e, Zad bs i hi, Zy, if_pos ⟨by omega, h4⟩]
 unfold Zfm
 simp only
 rw [if_pos he, hp]
theorem PInv.step (h : PInv bs i ps s) (hi : i < bs.length) (hc : ((bs[i]).toNat : Int) ≠ 59) : ∃ z, Zy bs ⟨[], 0, [], 0⟩ = match Ye ⟨ps, s, [], z⟩ ((bs[i]).toNat : Int) with | none => none | some y => Zy (bs.drop (i + 1)) y := by
 obtain ⟨x, e, he, h0, h4, rfl, rfl, hu, hg⟩ := h
 refine ⟨(Xf x).hi, ?_⟩
 rw [e, Zad bs i hi, Zl8 _ _ _ (by omega), Zm9 h0 h4 he (fun h2 => hg h2 hi)]
 have : (⟨(Xf x).ps, (Xf x).st, [], (Xf x).hi⟩ : CS) = Xf x := by rw [← hu]
 rw [this]
theorem PInv.mk01 {z : Int} (e : Zy bs ⟨[], 0, [], 0⟩ = Zy (bs.drop i) ⟨ps, s, [], z⟩) (hs : s = 0 ∨ s = 1) : PInv bs i ps s := by
 have hE : Xf ⟨ps, s, [], z⟩ = ⟨ps, s, [], z⟩ := by
  unfold Xf
  rw [if_neg (by show ¬ s = 2; omega), if_neg (by show ¬ s = 3; omega)]
 refine ⟨_, e, ?_, by show 0 ≤ s; omega, by show s < 4; omega, by rw [hE], by rw [hE], by rw [hE], fun h => ?_⟩
 ·unfold Wl
  rw [if_neg (by show ¬ s = 2; omega), if_neg (by show ¬ s = 3; omega)]
  exact decide_eq_true (by show s < 4; omega)
 ·have : 2 ≤ s := h
  omega
theorem PInv.blank (h : PInv bs i ps s) (hi : i < bs.length) (hc : Zfl ((bs[i]).toNat : Int) = true) : PInv bs (i + 1) ps 0 := by
 have hb := of_decide_eq_true hc
 obtain ⟨z, e⟩ := h.step hi (by omega)
 have hB : Ye ⟨ps, s, [], z⟩ ((bs[i]).toNat : Int) = some ⟨ps, 0, [], z⟩ := if_pos hb
 rw [hB] at e
 exact PInv.mk01 e (.inl rfl)
theorem PInv.colon (h : PInv bs i ps s) (hi : i < bs.length) (hc : ((bs[i]).toNat : Int) = 58) : PInv bs (i + 1) (ps ++ [⟨3, ⟨#[]⟩, 0, false⟩]) 0 := by
 obtain ⟨z, e⟩ := h.step hi (by omega)
 have hB : Ye ⟨ps, s, [], z⟩ ((bs[i]).toNat : Int) = some ⟨ps ++ [⟨3, ⟨#[]⟩, 0, false⟩], 0, [], z⟩ := by
  unfold Ye
  rw [if_neg (by omega), if_pos hc]
 rw [hB] at e
 exact PInv.mk01 e (.inl rfl)
theorem PInv.stuck (h : PInv bs i ps 1) (hi : i < bs.length) (h59 : ((bs[i]).toNat : Int) ≠ 59) (hb : Zfl ((bs[i]).toNat : Int) = false) (h58 : ((bs[i]).toNat : Int) ≠ 58) : Yc bs = none := by
 have hb' := of_decide_eq_false hb
 obtain ⟨z, e⟩ := h.step hi h59
 have hB : Ye ⟨ps, 1, [], z⟩ ((bs[i]).toNat : Int) = none := by
  unfold Ye
  rw [if_neg hb', if_neg h58, if_pos rfl]
 rw [hB] at e
 rw [Zcz, e]
 rfl
theorem PInv.other (h : PInv bs i ps s) (hi : i < bs.length) (h59 : ((bs[i]).toNat : Int) ≠ 59) (hb : Zfl ((bs[i]).toNat : Int) = false) (h58 : ((bs[i]).toNat : Int) ≠ 58) (h34 : ((bs[i]).toNat : Int) ≠ 34) (hl : Wc ((bs[i]).toNat : Int) = false) (hd : Xa ((bs[i]).toNat : Int) = false) (h45 : ((bs[i]).toNat : Int) ≠ 45) : Yc bs = none := by
 have hb' := of_decide_eq_false hb
 obtain ⟨z, e⟩ := h.step hi h59
 have hB : Ye ⟨ps, s, [], z⟩ ((bs[i]).toNat : Int) = none := by
  unfold Ye
  rw [if_neg hb', if_neg h58]
  by_cases hs : s = 1
  ·rw [if_pos hs]
  ·rw [if_neg hs, if_neg h34, if_neg (by rw [hl]; simp), if_neg (by rw [hd]; simp; exact h45)]
 rw [hB] at e
 rw [Zcz, e]
 rfl
theorem PInv.quote (h : PInv bs i ps 0) (hi : i < bs.length) (h34 : ((bs[i]).toNat : Int) = 34) : ∃ z, Zy bs ⟨[], 0, [], 0⟩ = Zy (bs.drop (i + 1)) ⟨ps, 4, [], z⟩ := by
 obtain ⟨z, e⟩ := h.step hi (by omega)
 have hB : Ye ⟨ps, 0, [], z⟩ ((bs[i]).toNat : Int) = some ⟨ps, 4, [], z⟩ := by
  unfold Ye
  rw [if_neg (by omega), if_neg (by omega), if_neg (by simp), if_pos h34]
 rw [hB] at e
 exact ⟨z, e⟩
theorem PInv.shut {un : List Int} (h : PInv bs i ps 0) (hi : i < bs.length) (h34 : ((bs[i]).toNat : Int) = 34) (hs : Shut bs (i + 1) j un) : PInv bs j (ps ++ [⟨2, str un, 0, false⟩]) 1 := by
 obtain ⟨z, e⟩ := h.quote hi h34
 obtain ⟨z', e'⟩ := hs ps z
 exact PInv.mk01 (e.trans e') (.inr rfl)
theorem PInv.never (h : PInv bs i ps 0) (hi : i < bs.length) (h34 : ((bs[i]).toNat : Int) = 34) (hs : Zcq bs (i + 1)) : Yc bs = none := by
 obtain ⟨z, e⟩ := h.quote hi h34
 rw [Zcz, e]
 exact hs ps z
theorem Zw7 {r : Int} (h : Wc r = true) : goP r = true := by unfold goP; rw [h]; rfl
theorem Zkb (bs : List UInt8) (i j : Nat) (hij : i ≤ j) : bs.drop i = Xk bs i j ++ bs.drop j := by
 have := (List.take_append_drop (j - i) (bs.drop i)).symm
 rw [List.drop_drop] at this
 rw [show i + (j - i) = j by omega] at this
 exact this
theorem Zor (bs : List UInt8) (i j : Nat) (hi : i < bs.length) (hij : i < j) : Xk bs i j = bs[i] :: Xk bs (i + 1) j := by
 unfold Xk
 rw [Zad bs i hi, show j - i = (j - (i + 1)) + 1 by omega, List.take_succ_cons]
theorem Zl9 {bs : List UInt8} {i j : Nat} {P : UInt8 → Prop} (h : ∀ k (hk : k < bs.length), i ≤ k → k < j → P bs[k]) : ∀ c ∈ Xk bs i j, P c := by
 intro c hc
 obtain ⟨n, hn, e⟩ := List.getElem_of_mem hc
 unfold Xk at hn e
 rw [List.length_take, List.length_drop] at hn
 rw [List.getElem_take, List.getElem_drop] at e
 rw [← e]
 exact h (i + n) (by omega) (by omega) (by omega)
theorem PInv.run (h : PInv bs i ps 0) (hi : i < bs.length) (st : Int) (hst : st = 2 ∨ st = 3) (hij : i < j) (hg : ∀ k (hk : k < bs.length), i + 1 ≤ k → k < j → goP ((bs[k]).toNat : Int) = true) (h59 : ((bs[i]).toNat : Int) ≠ 59)
  (hB : ∀ z, Ye ⟨ps, 0, [], z⟩ ((bs[i]).toNat : Int) = some ⟨ps, st, [((bs[i]).toNat : Int)], z⟩) : ∃ z, Zy bs ⟨[], 0, [], 0⟩ = Zy (bs.drop j) ⟨ps, st, (Xk bs i j).map (fun b => (b.toNat : Int)), z⟩ := by
 obtain ⟨z, e⟩ := h.step hi h59
 rw [hB z] at e
 simp only at e
 rw [Zkb bs (i + 1) j (by omega), Zoq _ _ _ _ hst _ _ (Zl9 hg)] at e
 refine ⟨z, e.trans ?_⟩
 rw [Zor bs i j hi hij, List.map_cons]
 rfl
theorem PInv.word (h : PInv bs i ps 0) (hi : i < bs.length) (hl : Wc ((bs[i]).toNat : Int) = true) (hij : i < j) (hg : ∀ k (hk : k < bs.length), i + 1 ≤ k → k < j → goP ((bs[k]).toNat : Int) = true) (he : ∀ h : j < bs.length, goP ((bs[j]).toNat : Int) = false) :
  PInv bs j (ps ++ [⟨0, str ((Xk bs i j).map (fun b => (b.toNat : Int))), 0, false⟩]) 1 := by
 have hl' := of_decide_eq_true hl
 obtain ⟨z, e⟩ := h.run hi 2 (.inl rfl) hij hg (by omega) (fun z => by
  unfold Ye
  rw [if_neg (by omega), if_neg (by omega), if_neg (by simp), if_neg (by omega), if_pos hl]
  rfl)
 exact ⟨_, e, rfl, (show (0 : Int) ≤ 2 by decide), (show (2 : Int) < 4 by decide), rfl, rfl, rfl, fun _ => he⟩
theorem PInv.nums (h : PInv bs i ps 0) (hi : i < bs.length) (hl : Xa ((bs[i]).toNat : Int) = true ∨ ((bs[i]).toNat : Int) = 45) (hij : i < j) (hg : ∀ k (hk : k < bs.length), i + 1 ≤ k → k < j → goP ((bs[k]).toNat : Int) = true) :
  ∃ z, Zy bs ⟨[], 0, [], 0⟩ = Zy (bs.drop j) ⟨ps, 3, (Xk bs i j).map (fun b => (b.toNat : Int)), z⟩ := by
 have hl' : (48 ≤ ((bs[i]).toNat : Int) ∧ ((bs[i]).toNat : Int) ≤ 57) ∨ ((bs[i]).toNat : Int) = 45 := hl.imp of_decide_eq_true id
 refine h.run hi 3 (.inr rfl) hij hg (by omega) (fun z => ?_)
 unfold Ye
 rw [if_neg (by omega), if_neg (by omega), if_neg (by simp), if_neg (by omega), if_neg, if_pos hl]
 ·rfl
 ·unfold Wc
  simp
  omega
theorem PInv.number (h : PInv bs i ps 0) (hi : i < bs.length) (hl : Xa ((bs[i]).toNat : Int) = true ∨ ((bs[i]).toNat : Int) = 45) (hij : i < j) (hg : ∀ k (hk : k < bs.length), i + 1 ≤ k → k < j → goP ((bs[k]).toNat : Int) = true) (he : ∀ h : j < bs.length, goP ((bs[j]).toNat : Int) = false)
  (D : ByteArray) (hD : D.data.toList = Xk bs i j) (hok : okN D.data.toList = true) :
  PInv bs j (ps ++ [⟨1, ⟨#[]⟩, Xe D.data.toList, Yv D.data.toList⟩]) 1 := by
 obtain ⟨z, e⟩ := h.nums hi hl hij hg
 rw [Zg3 D _ hD |>.symm] at hok ⊢
 refine ⟨_, e, ?_, (show (0 : Int) ≤ 3 by decide), (show (3 : Int) < 4 by decide), rfl, rfl, rfl, fun _ => he⟩
 exact hok
theorem PInv.unnumber (h : PInv bs i ps 0) (hi : i < bs.length) (hl : Xa ((bs[i]).toNat : Int) = true ∨ ((bs[i]).toNat : Int) = 45) (hij : i < j) (hg : ∀ k (hk : k < bs.length), i + 1 ≤ k → k < j → goP ((bs[k]).toNat : Int) = true) (he : ∀ h : j < bs.length, goP ((bs[j]).toNat : Int) = false)
  (D : ByteArray) (hD : D.data.toList = Xk bs i j) (hok : okN D.data.toList = false) : Yc bs = none := by
 obtain ⟨z, e⟩ := h.nums hi hl hij hg
 rw [Zg3 D _ hD |>.symm] at hok
 have hE : Wl ⟨ps, 3, (Xk bs i j).map (fun b => (b.toNat : Int)), z⟩ = false := hok
 rw [Zcz, e]
 by_cases hj : j < bs.length
 ·rw [Zad bs j hj, Zy]
  split
  ·unfold Zfm
   simp only
   rw [if_neg (by rw [hE]; simp)]
  ·have : Yb ⟨ps, 3, (Xk bs i j).map (fun b => (b.toNat : Int)), z⟩ ((bs[j]).toNat : Int) = none := by
    unfold Yb
    rw [if_pos (.inr rfl), if_neg (by rw [he hj]; simp), if_neg (by rw [hE]; simp)]
   rw [this]
   rfl
 ·rw [List.drop_of_length_le (by omega), Zy]
  unfold Zfm
  simp only
  rw [if_neg (by rw [hE]; simp)]
end Go.Proofs.YtgoabnehdmdikaaGreatDoor
