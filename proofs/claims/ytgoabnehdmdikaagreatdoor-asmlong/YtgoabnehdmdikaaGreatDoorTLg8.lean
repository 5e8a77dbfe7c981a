import Derived.Test.YtgoabnehdmdikaaGreatDoorTLg7
import Derived.Test.YtgoabnehdmdikaaGreatDoorTLg6
import Derived.Shelf.Lay
import Derived.Shelf.Lays
import Derived.Shelf.Strings.Runes
import Derived.Shelf.Small.Utf8
import Derived.WalkMore
import Derived.Laws.RangeAny
import Derived.Deep.LoopGhost
import Derived.Lib.OthersKept
set_option linter.unusedVariables false
set_option linter.unusedSimpArgs false
set_option maxRecDepth 100000
set_option maxHeartbeats 64000000
namespace Go.Proofs.YtgoabnehdmdikaaGreatDoor
open Go.RowKit
def Xv (k : Int) : Int := if k < 10 then 48 + k else 87 + k
def qa (c : Int) : List Int := if c = 34 ∨ c = 92 then [92, c] else if c < 32 ∨ 126 < c then [92, 120, Xv (c / 16), Xv (c % 16)] else [c]
def Xr (xs : List Int) : List Int := 34 :: xs.flatMap qa ++ [34]
abbrev Xc : ByteArray := ⟨#[48, 49, 50, 51, 52, 53, 54, 55, 56, 57, 97, 98, 99, 100, 101, 102]⟩
theorem Zsr (l : List Int) : ∀ u ∈ Zo l, u.oneCell' = true := by
 intro u hu
 obtain ⟨x, _, rfl⟩ := List.mem_map.1 hu
 rfl
theorem Zwu : ∀ n : Nat, n < 16 → (Xc[n]!).toNat = (Xv n).toNat := by decide
theorem Zb2 (w : World) (n : Int) (h0 : 0 ≤ n) (h1 : n < 16) : (Instr.index 9 (.string Xc) (.int .u8 n)).run Tryz.prog w = .ok (.int .u8 (Xv n)) w := by
 obtain ⟨k, rfl⟩ := Int.eq_ofNat_of_zero_le h0
 have hk : k < 16 := by omega
 have hs : Xc.size = 16 := rfl
 rw [run_index_string (P := Tryz.prog) w 9 Xc .u8 (k : Int) Tryz.underlying9, dif_pos ⟨h0, by rw [hs]; omega⟩]
 have e : (Xc[k]'(by omega)) = Xc[k]! := by simp [hs, hk]
 simp only [Int.toNat_natCast]
 rw [e, Zwu k hk]
 have : 0 ≤ Xv (k : Int) := by unfold Xv; split <;> omega
 rw [Int.toNat_of_nonneg this]
theorem Zth (c : Int) (h0 : 0 ≤ c) (h1 : c < 256) : bits .and .u8 c 15 = c % 16 := by
 rw [u8_and c 15 h0 h1 (by decide) (by decide)]
 have : c.toNat &&& (15 : Int).toNat = c.toNat % 16 := nat_mask4 _
 rw [this]
 omega
theorem Zav (zs : List Value) (l ns : List Int) : zs ++ Zo (34 :: l) ++ Zo ns = zs ++ Zo (34 :: (l ++ ns)) := by simp [Zo]
theorem Zmt (xs : List Int) (i : Nat) (h : i < xs.length) : (xs.take (i + 1)).flatMap qa = (xs.take i).flatMap qa ++ qa (xs.getD i 0) := by
 rw [List.take_succ_eq_append_getElem h, List.flatMap_append]
 simp [List.getD, List.getElem?_eq_getElem h]
theorem Bs.pushB {w0 w1 wr : World} {ao : Option Addr} {m c : Nat} {zs : List Value} (h : Bs w0 w1 wr ao m c zs) (ns : List Int) (hl : m + ns.length ≤ 140737488355328) :
  ∃ ao' m' c' w', (Builtin.append_ #[23, 23] 23 #[.slice ao m c, .slice (some ⟨wr.heap.size, 0, none⟩) ns.length ns.length]).run Tryz.prog (wr.alloc (.cells (Zo ns).toArray 5)) = .ok (.slice ao' m' c') w' ∧ Bs w0 w1 w' ao' m' c' (zs ++ Zo ns) := by
 obtain ⟨a, m', c', w', hr, hb⟩ := h.push (Zo ns) (Zsr _) (by simpa [Zo] using hl)
 simp only [Zo, List.length_map] at hr
 exact ⟨a, m', c', w', hr, hb⟩
theorem Zlr (ao : Option Addr) (m c : Nat) (zs : List Value) (dv : Value) (xs : List Int) (w0 w1 wr : World) (hx : IsB w0 dv xs) (hb : ∀ x ∈ xs, 0 ≤ x ∧ x ≤ 255) (hl : xs.length ≤ 1000000000000) (hm : m ≤ 1000000000000) (h : Bs w0 w1 wr ao m c zs) :
  Calls Tryz.prog 47 #[.slice ao m c, dv] wr fun e w' => ∃ ao' m' c', e = .returned (.slice ao' m' c') ∧ Bs w0 w1 w' ao' m' c' (zs ++ Zo (Xr xs)) := by
 obtain ⟨n, hn⟩ := nmd (xs.length)
 obtain ⟨va, vo, hv⟩ : ∃ (va : Option Addr) (vc : Nat), dv = .slice va n vc := by
  rcases hx with ⟨rfl, ao, c, rfl⟩ | ⟨g, o, c, rfl, _⟩
  ·exact ⟨ao, c, by rw [hn]; rfl⟩
  ·exact ⟨_, c, by rw [hn]⟩
 have HC : Hid (∀ i, i < n → ∃ g o, va = some ⟨g, o, none⟩ ∧ w0.cell? ⟨g, o + i, none⟩ = some (.int .u8 (xs.getD i 0)) ∧ 0 ≤ xs.getD i 0 ∧ xs.getD i 0 ≤ 255) := fun i hi => by
  have hi' : i < xs.length := by omega
  have hm : xs.getD i 0 ∈ xs := by simp [List.getD, List.getElem?_eq_getElem hi']
  rcases hx with ⟨rfl, ao, c, rfl⟩ | ⟨g, o, c, rfl, hc⟩
  ·exact absurd hi' (by simp)
  ·cases hv
   exact ⟨g, o, rfl, hc i hi', hb _ hm⟩
 have HN := Za hn
 have HL : Hid (n ≤ 1000000000000) := by rw [hn]; exact hl
 have HM := Za hm
 obtain ⟨a1, m1, c1, w2, hr1, hq1⟩ := h.pushB [34] (by simp; omega)
 have HR1 := Za hr1
 have HQ0 : Hid (Bs w0 w1 w2 a1 m1 c1 (zs ++ Zo (34 :: (xs.take 0).flatMap qa))) := hq1
 have HM1 : Hid (m1 ≤ 4 * 0 + 1 + m) := by show m1 ≤ 4 * 0 + 1 + m; have h2 := h.step hq1; simp [Zo] at h2; omega
 subst hv
 clear hx hb hl hn hm hr1 hq1 h
 go_enter Tryz.func47, Tryz.ntmps47
 go_wp2_with (at_builtin; refine Zr rfl (.tmp 7) (.tmp 8) 23 23 rfl _ _ rfl rfl _ w2 HR1.out ?_)
 go_loopw [0, 12] (fun qv iv wr => ∃ (i : Nat), iv = .int .i64 (i : Int) ∧ ∃ (ao : Option Addr) (k c : Nat), qv = .slice ao k c ∧ Hid (i ≤ n) ∧ Hid (Bs w0 w1 wr ao k c (zs ++ Zo (34 :: (xs.take i).flatMap qa))) ∧ Hid (k ≤ 4 * i + 1 + m)) (fun _ iv _ => n - (intOf iv).toNat)
 case atStart => exact ⟨0, rfl, _, _, _, rfl, Nat.zero_le _, HQ0.out, HM1.out⟩
 case round =>
  obtain ⟨i, rfl, ao, k, c, rfl, HI, HQ, HK⟩ := hrel
  clear HQ0 HR1 HM1
  by_cases hlt : i < n
  ·obtain ⟨g, o, rfl, hc, hc0, hc1⟩ := HC.out i hlt
   have hcell := HQ.out.kept.cell hc id
   have hltI : (i : Int) < (n : Int) := by omega
   have hiB : (i : Int) < 1000000000000 := by have := HL.out; omega
   have HT := Za (Zmt xs i (by have := HN.out; omega))
   generalize xs.getD i 0 = x at *
   clear hc
   by_cases h1 : x = 34 ∨ x = 92
   ·rcases h1 with rfl | rfl
    ·obtain ⟨a', k', c', w', hr, hq⟩ := HQ.out.pushB [92, 34] (by have := HK.out; have := HL.out; have := HI.out; have := HM.out; simp; omega)
     have hqb : qa 34 = [92, 34] := rfl
     have HR := Za hr
     rw [hqb] at HT
     have HQ2 : Hid (Bs w0 w1 w' a' k' c' (zs ++ Zo (34 :: (xs.take (i + 1)).flatMap qa))) := by rw [HT.out, ← Zav]; exact hq
     have HK2 : Hid (k' ≤ 4 * (i + 1) + 1 + m) := by show k' ≤ 4 * (i + 1) + 1 + m; have h := HQ.out.step hq; have := HK.out; simp [Zo] at h; omega
     clear hr hq hqb HT HQ HK HI
     go_wp2_with (at_builtin; refine Zr rfl (.tmp 27) (.tmp 29) 23 23 rfl _ _ rfl rfl _ w' HR.out ?_)
     go_roundw
     case rel => exact ⟨i + 1, by go_num, _, _, _, rfl, hlt, HQ2, HK2⟩
     case measure => simp [intOf]; omega
    ·obtain ⟨a', k', c', w', hr, hq⟩ := HQ.out.pushB [92, 92] (by have := HK.out; have := HL.out; have := HI.out; have := HM.out; simp; omega)
     have hqb : qa 92 = [92, 92] := rfl
     have HR := Za hr
     rw [hqb] at HT
     have HQ2 : Hid (Bs w0 w1 w' a' k' c' (zs ++ Zo (34 :: (xs.take (i + 1)).flatMap qa))) := by rw [HT.out, ← Zav]; exact hq
     have HK2 : Hid (k' ≤ 4 * (i + 1) + 1 + m) := by show k' ≤ 4 * (i + 1) + 1 + m; have h := HQ.out.step hq; have := HK.out; simp [Zo] at h; omega
     clear hr hq hqb HT HQ HK HI
     go_wp2_with (at_builtin; refine Zr rfl (.tmp 27) (.tmp 29) 23 23 rfl _ _ rfl rfl _ w' HR.out ?_)
     go_roundw
     case rel => exact ⟨i + 1, by go_num, _, _, _, rfl, hlt, HQ2, HK2⟩
     case measure => simp [intOf]; omega
   have e1 : (x == 92) = false := by simp; omega
   have e2 : (x == 34) = false := by simp; omega
   by_cases h4 : x < 32 ∨ 126 < x
   ·rcases h4 with h4 | h4
    ·have hkd : Kept nF wr wr.drew := (Kept.refl _ _).drew
     have HQd := Za (HQ.out.same hkd)
     go_upto_region 9 with fail
     refine wp_region_held_drew (S := fun _ => True) (by kernel_rfl) trivial (fun qh => ?_)
     generalize wr.drew = wd at *
     obtain ⟨a', k', c', w', hr, hq⟩ := HQd.out.pushB [92, 120, Xv (x / 16), Xv (x % 16)] (by have := HK.out; have := HL.out; have := HI.out; have := HM.out; simp; omega)
     have hqb : qa x = [92, 120, Xv (x / 16), Xv (x % 16)] := by unfold qa; rw [if_neg h1, if_pos (by omega)]
     have HR := Za hr
     rw [hqb] at HT
     have HQ2 : Hid (Bs w0 w1 w' a' k' c' (zs ++ Zo (34 :: (xs.take (i + 1)).flatMap qa))) := by rw [HT.out, ← Zav]; exact hq
     have HK2 : Hid (k' ≤ 4 * (i + 1) + 1 + m) := by show k' ≤ 4 * (i + 1) + 1 + m; have h := HQd.out.step hq; have := HK.out; simp [Zo] at h; omega
     have h15 := Zth x hc0 (by omega)
     have hd1 := fun w => Zb2 w (x / 16) (by omega) (by omega)
     have hd2 := fun w => Zb2 w (x % 16) (by omega) (by omega)
     clear hr hq hqb HT HQ HK HI HQd hkd h1 h4 e1 e2
     iterate 7
      refine tkn (v := ?_) 0 rfl ?_ ?_; rotate_left
      ·intro w hSw; go_simp; try with_reducible rfl
      try simp only [Act.put, tdy]
     refine rdy 7 rfl (fun K hK => ?_)
     go_simp
     refine hK.out _ _ trivial (fun qh => ?_)
     clear hK K
     try simp only [Act.put, tdy]
     refine rdy 8 rfl (fun K hK => ?_)
     refine Zm rfl (.tmp 38) (.tmp 45) 23 23 rfl _ _ rfl rfl (.slice a' k' c') w' HR.out ?_
     refine hK.out _ _ trivial (fun qh => ?_)
     clear hK K
     try simp only [Act.put, tdy]
     refine rdy 9 rfl (fun K hK => ?_)
     go_simp
     refine hK.out _ _ trivial (fun qh => ?_)
     clear hK K
     try simp only [Act.put, tdy]
     refine wpAnyH_done (by kernel_rfl) ?_ _
     go_wp2
     go_roundw
     case rel => exact ⟨i + 1, by go_num, _, _, _, rfl, hlt, HQ2, HK2⟩
     case measure => simp [intOf]; omega
    ·have h5 : ¬ x < 32 := by omega
     have hkd : Kept nF wr wr.drew := (Kept.refl _ _).drew
     have HQd := Za (HQ.out.same hkd)
     go_upto_region 9 with fail
     refine wp_region_held_drew (S := fun _ => True) (by kernel_rfl) trivial (fun qh => ?_)
     generalize wr.drew = wd at *
     obtain ⟨a', k', c', w', hr, hq⟩ := HQd.out.pushB [92, 120, Xv (x / 16), Xv (x % 16)] (by have := HK.out; have := HL.out; have := HI.out; have := HM.out; simp; omega)
     have hqb : qa x = [92, 120, Xv (x / 16), Xv (x % 16)] := by unfold qa; rw [if_neg h1, if_pos (by omega)]
     have HR := Za hr
     rw [hqb] at HT
     have HQ2 : Hid (Bs w0 w1 w' a' k' c' (zs ++ Zo (34 :: (xs.take (i + 1)).flatMap qa))) := by rw [HT.out, ← Zav]; exact hq
     have HK2 : Hid (k' ≤ 4 * (i + 1) + 1 + m) := by show k' ≤ 4 * (i + 1) + 1 + m; have h := HQd.out.step hq; have := HK.out; simp [Zo] at h; omega
     have h15 := Zth x hc0 (by omega)
     have hd1 := fun w => Zb2 w (x / 16) (by omega) (by omega)
     have hd2 := fun w => Zb2 w (x % 16) (by omega) (by omega)
     clear hr hq hqb HT HQ HK HI HQd hkd h1 h4 e1 e2
     iterate 7
      refine tkn (v := ?_) 0 rfl ?_ ?_; rotate_left
      ·intro w hSw; go_simp; try with_reducible rfl
      try simp only [Act.put, tdy]
     refine rdy 7 rfl (fun K hK => ?_)
     go_simp
     refine hK.out _ _ trivial (fun qh => ?_)
     clear hK K
     try simp only [Act.put, tdy]
     refine rdy 8 rfl (fun K hK => ?_)
     refine Zm rfl (.tmp 38) (.tmp 45) 23 23 rfl _ _ rfl rfl (.slice a' k' c') w' HR.out ?_
     refine hK.out _ _ trivial (fun qh => ?_)
     clear hK K
     try simp only [Act.put, tdy]
     refine rdy 9 rfl (fun K hK => ?_)
     go_simp
     refine hK.out _ _ trivial (fun qh => ?_)
     clear hK K
     try simp only [Act.put, tdy]
     refine wpAnyH_done (by kernel_rfl) ?_ _
     go_wp2
     go_roundw
     case rel => exact ⟨i + 1, by go_num, _, _, _, rfl, hlt, HQ2, HK2⟩
     case measure => simp [intOf]; omega
   have e5 : ¬ x < 32 := by omega
   have e6 : ¬ 126 < x := by omega
   obtain ⟨a', k', c', w', hr, hq⟩ := HQ.out.pushB [x] (by have := HK.out; have := HL.out; have := HI.out; have := HM.out; simp; omega)
   have hqb : qa x = [x] := by unfold qa; rw [if_neg h1, if_neg h4]
   have HR := Za hr
   rw [hqb] at HT
   have HQ2 : Hid (Bs w0 w1 w' a' k' c' (zs ++ Zo (34 :: (xs.take (i + 1)).flatMap qa))) := by rw [HT.out, ← Zav]; exact hq
   have HK2 : Hid (k' ≤ 4 * (i + 1) + 1 + m) := by show k' ≤ 4 * (i + 1) + 1 + m; have h := HQ.out.step hq; have := HK.out; simp [Zo] at h; omega
   clear hr hq hqb HT HQ HK HI
   go_wp2_with (at_builtin; refine Zr rfl (.tmp 16) (.tmp 18) 23 23 rfl _ _ rfl rfl _ w' HR.out ?_)
   go_roundw
   case rel => exact ⟨i + 1, by go_num, _, _, _, rfl, hlt, HQ2, HK2⟩
   case measure => simp [intOf]; omega
  ·have hnlt : ¬ (i : Int) < (n : Int) := by omega
   obtain ⟨a', k', c', w', hr, hq⟩ := HQ.out.pushB [34] (by have := HK.out; have := HL.out; have := HI.out; have := HM.out; simp; omega)
   have HR := Za hr
   have HQ2 : Hid (Bs w0 w1 w' a' k' c' (zs ++ Zo (Xr xs))) := by
    have := HI.out; have := HN.out
    rw [List.take_of_length_le (by omega)] at hq
    rw [List.append_assoc] at hq
    have e : Zo (34 :: xs.flatMap qa) ++ Zo [34] = Zo (Xr xs) := by simp [Zo, Xr]
    rw [e] at hq
    exact hq
   clear hr hq
   go_wp2_with (at_builtin; refine Zr rfl (.tmp 48) (.tmp 49) 23 23 rfl _ _ rfl rfl _ w' HR.out ?_)
   go_ret
   exact ⟨_, _, _, rfl, HQ2.out⟩
end Go.Proofs.YtgoabnehdmdikaaGreatDoor
namespace Go.Proofs.YtgoabnehdmdikaaGreatDoor
open Go.RowKit
def Wc (r : Int) : Bool := decide ((97 ≤ r ∧ r ≤ 122) ∨ (65 ≤ r ∧ r ≤ 90) ∨ r = 95)
def Xa (r : Int) : Bool := decide (48 ≤ r ∧ r ≤ 57)
def goP (r : Int) : Bool := Wc r || Xa r
theorem Zmu (r : Int) (w : World) : Calls Tryz.prog 134 #[.int .i32 r] w fun e w' => e = .returned (.bool (Wc r)) ∧ w' = w := by
 by_cases h1 : 97 ≤ r ∧ r ≤ 122
 ·have hL : Wc r = true := decide_eq_true (.inl h1)
  rw [hL]
  exact Znt r w h1.1 h1.2
 by_cases h2 : 65 ≤ r ∧ r ≤ 90
 ·have hL : Wc r = true := decide_eq_true (.inr (.inl h2))
  obtain ⟨h3, h4⟩ := h2
  have h5 : ¬ (97 ≤ r) := by omega
  rw [hL]
  go_enter Tryz.func134, Tryz.ntmps134
  go_wp2
  go_ret
  exact ⟨rfl, rfl⟩
 by_cases h3 : r = 95
 ·subst h3
  go_enter Tryz.func134, Tryz.ntmps134
  go_wp2
  go_ret
  exact ⟨rfl, rfl⟩
 ·have hL : Wc r = false := decide_eq_false (by omega)
  have h5 : (r == 95) = false := by simp; omega
  rw [hL]
  by_cases h6 : 97 ≤ r
  ·have h7 : ¬ r ≤ 122 := by omega
   have h8 : ¬ r ≤ 90 := by omega
   have h9 : (65 : Int) ≤ r := by omega
   clear hL h1 h2 h3
   go_enter Tryz.func134, Tryz.ntmps134
   go_wp2
   go_ret
   exact ⟨rfl, rfl⟩
  ·by_cases h7 : 65 ≤ r
   ·have h8 : ¬ r ≤ 90 := by omega
    clear hL h1 h2 h3
    go_enter Tryz.func134, Tryz.ntmps134
    go_wp2
    go_ret
    exact ⟨rfl, rfl⟩
   ·clear hL h1 h2 h3
    go_enter Tryz.func134, Tryz.ntmps134
    go_wp2
    go_ret
    exact ⟨rfl, rfl⟩
theorem Zp4 (r : Int) (w : World) : Calls Tryz.prog 135 #[.int .i32 r] w fun e w' => e = .returned (.bool (Xa r)) ∧ w' = w := by
 by_cases h1 : 48 ≤ r ∧ r ≤ 57
 ·have hL : Xa r = true := decide_eq_true h1
  rw [hL]
  exact Zpz r w h1.1 h1.2
 ·have hL : Xa r = false := decide_eq_false h1
  rw [hL]
  clear hL
  by_cases h2 : 48 ≤ r
  ·have h3 : ¬ r ≤ 57 := by omega
   clear h1
   go_enter Tryz.func135, Tryz.ntmps135
   go_wp2
   go_ret
   exact ⟨rfl, rfl⟩
  ·clear h1
   go_enter Tryz.func135, Tryz.ntmps135
   go_wp2
   go_ret
   exact ⟨rfl, rfl⟩
theorem Zxi (r : Int) (w : World) : Calls Tryz.prog 106 #[.int .i32 r] w fun e w' => e = .returned (.bool (goP r)) ∧ w' = w := by
 have hL := Zmu r w
 have hD := Zp4 r w
 have hg : goP r = (Wc r || Xa r) := rfl
 rw [hg]
 generalize Wc r = bl at *
 generalize Xa r = bd at *
 clear hg
 have HL := Za hL
 have HD := Za hD
 clear hL hD
 cases bl
 ·go_enter Tryz.func106, Tryz.ntmps106
  go_wp2_with fail
  refine HL.out.mono ?_
  rintro e w1 ⟨rfl, hw⟩
  have hw := hw.symm
  subst hw
  go_wp2_with fail
  refine HD.out.mono ?_
  rintro e w2 ⟨rfl, hw⟩
  have hw := hw.symm
  subst hw
  go_wp2
  go_ret
  exact ⟨rfl, rfl⟩
 ·go_enter Tryz.func106, Tryz.ntmps106
  go_wp2_with fail
  refine HL.out.mono ?_
  rintro e w1 ⟨rfl, hw⟩
  have hw := hw.symm
  subst hw
  go_wp2
  go_ret
  exact ⟨rfl, rfl⟩
structure CS where
 ps : List Pf
 st : Int
 un : List Int
 hi : Int
abbrev CgS (I : Nat × ByteArray × Nat) (w wr : World) (c : Nat) (x : CS) : Prop := Cg I w wr c x.ps x.st x.un x.hi
def Ye (x : CS) (r : Int) : Option CS :=
 if r = 9 ∨ r = 13 ∨ r = 32 then some ⟨x.ps, 0, x.un, x.hi⟩
 else if r = 58 then some ⟨x.ps ++ [⟨3, ⟨#[]⟩, 0, false⟩], 0, x.un, x.hi⟩
 else if x.st = 1 then none
 else if r = 34 then some ⟨x.ps, 4, x.un, x.hi⟩
 else if Wc r = true then some ⟨x.ps, 2, x.un ++ [r], x.hi⟩
 else if Xa r = true ∨ r = 45 then some ⟨x.ps, 3, x.un ++ [r], x.hi⟩
 else none
def Xd (x : CS) (r : Int) : Option CS :=
 if r = 34 then some ⟨x.ps ++ [⟨2, str x.un, 0, false⟩], 1, [], x.hi⟩
 else if r = 92 then some ⟨x.ps, 5, x.un, x.hi⟩
 else if r < 32 ∨ 126 < r then none
 else some ⟨x.ps, x.st, x.un ++ [r], x.hi⟩
def Wj (x : CS) (r : Int) : Option CS :=
 if r = 34 ∨ r = 92 then some ⟨x.ps, 4, x.un ++ [r], x.hi⟩
 else if r = 120 then some ⟨x.ps, 6, x.un, x.hi⟩
 else none
def Zhh (I : Nat × ByteArray × Nat) (w wr : World) (c : Nat) (o : Option CS) (e : Ending) (w' : World) : Prop :=
 (∃ y, o = some y ∧ e = .returned (.bool true) ∧ CgS I w w' c y) ∨ (o = none ∧ e = .returned (.bool false) ∧ Kept nF w w')
theorem Cg.setSt {I : Nat × ByteArray × Nat} {w wr : World} {c : Nat} {ps : List Pf} {st : Int} {un : List Int} {hi : Int} (h : Cg I w wr c ps st un hi) : ∃ pv uv, wr.heap[c]? = some (.cells #[pv, .int .i64 st, uv, .int .i64 hi] 160 (0, 0)) := by
 obtain ⟨pv, uv, h1, _⟩ := h.ex
 exact ⟨pv, uv, h1⟩
variable {I : Nat × ByteArray × Nat}
theorem Zp5 (c : Nat) (r : Int) (w wr : World) (x : CS) (h : CgS I w wr c x) (h0 : 0 ≤ r) (hl : x.ps.length ≤ 90000) (hu : x.un.length ≤ 900000) :
  Calls Tryz.prog 108 #[.pointer (some ⟨c, 0, none⟩), .int .i32 r] wr (Zhh I w wr c (Ye x r)) := by
 obtain ⟨ps, st, un, hi⟩ := x
 simp only at h hl hu
 obtain ⟨pv, uv, hb⟩ := h.setSt
 have q1 := Zb _ _ 1 _ _ _ hb
 have f1 := Ze _ _ 1 _ _ hb
 have HH := Za h
 have HBB := Za hb
 clear hb h
 by_cases h1 : r = 9 ∨ r = 13 ∨ r = 32
 ·have HE : Hid (Ye ⟨ps, st, un, hi⟩ r = some ⟨ps, 0, un, hi⟩) := if_pos h1
  have HS := Za (HH.out.setS 0)
  generalize Ye ⟨ps, st, un, hi⟩ r = o at *
  rcases h1 with rfl | rfl | rfl
  ·go_enter Tryz.func108, Tryz.ntmps108
   go_wp2
   go_ret
   exact .inl ⟨_, HE.out, rfl, HS.out⟩
  ·go_enter Tryz.func108, Tryz.ntmps108
   go_wp2
   go_ret
   exact .inl ⟨_, HE.out, rfl, HS.out⟩
  ·go_enter Tryz.func108, Tryz.ntmps108
   go_wp2
   go_ret
   exact .inl ⟨_, HE.out, rfl, HS.out⟩
 have n1 : r ≠ 9 ∧ r ≠ 13 ∧ r ≠ 32 := by omega
 have e9 : (r == 9) = false := by simp; omega
 have e13 : (r == 13) = false := by simp; omega
 have e32 : (r == 32) = false := by simp; omega
 by_cases h2 : r = 58
 ·have HE : Hid (Ye ⟨ps, st, un, hi⟩ r = some ⟨ps ++ [⟨3, ⟨#[]⟩, 0, false⟩], 0, un, hi⟩) := by show Ye _ _ = _; unfold Ye; rw [if_neg h1, if_pos h2]
  generalize Ye ⟨ps, st, un, hi⟩ r = o at *
  subst h2
  obtain ⟨pv, uv, hb0, hp0, hu0⟩ := HH.out.ex
  obtain ⟨v', w5, hr, ho, hk0, hk1, hn⟩ := Zhf hp0 (.int .i64 3) (.string ⟨#[]⟩) (.int .i64 0) (.bool false) rfl rfl rfl rfl HH.out.kept hl
  have hb5 := Zc hk1 hb0 (fun e => Zs hp0 hb0 (by decide) e)
  have hs := Zg w5 c 0 v'
  have hb6 := Zf _ _ 0 _ _ _ hb5 v'
  have hs2 := Zg (w5.setCell ⟨c, 0, none⟩ v') c 1 (.int .i64 0)
  have hb7 := Zf _ _ 1 _ _ _ hb6 (.int .i64 0)
  have hss := hs.trans hs2
  have hu5 := hk1.ownsRow hu0 (fun q hq e => Zh2 hu0 hp0 (by decide) q hq e)
  have HS : Hid (CgS I w ((w5.setCell ⟨c, 0, none⟩ v').setCell ⟨c, 1, none⟩ (.int .i64 0)) c ⟨ps ++ [⟨3, ⟨#[]⟩, 0, false⟩], 0, un, hi⟩) := by
   refine ⟨⟨_, _, hb7, ?_, hss.ownsRow hu5 (fun q hq e => Zs hu5 hb5 (by decide) (by rw [hq, e]))⟩, (hk0.setCell (.inl HH.out.lo) _).setCell (.inl HH.out.lo) _, HH.out.lo, Zc hss (Zc hk1 HH.out.it (Zbn hp0 HH.out.it)) (Zb1 hb5 (Zc hk1 HH.out.it (Zbn hp0 HH.out.it))), HH.out.ilo⟩
   simp only [List.length_append, List.length_cons, List.length_nil, Zae]
   exact hss.ownsRow ho (fun q hq e => Zs ho hb5 (by decide) (by rw [hq, e]))
  obtain ⟨a1, c1, hv1⟩ := Zd hp0
  obtain ⟨n1', hn1⟩ := nmd (ps.length)
  rw [← hn1] at hv1
  subst hv1
  obtain ⟨a2, c2, hv2⟩ := Zd ho
  obtain ⟨n2', hn2⟩ := nmd (ps.length + 1)
  rw [← hn2] at hv2
  subst hv2
  have z0 := Zb _ _ 0 _ _ _ hb0
  have z1 := Zb _ _ 0 _ _ _ hb5
  have zf := Ze _ _ 0 _ _ hb5
  have z2 := Zb _ _ 1 _ _ _ hb6
  have zf2 := Ze _ _ 1 _ _ hb6
  have HR := Za hr
  clear hr ho hk0 hk1 hn hb0 hp0 hu0 hb5 hb6 hb7 hs hs2 hss hu5 hn1 hn2 hl hu q1 f1
  go_enter Tryz.func108, Tryz.ntmps108
  go_wp2_with (at_builtin; refine Zr rfl (.tmp 26) (.tmp 28) 123 123 rfl _ _ rfl rfl _ w5 HR.out ?_)
  go_ret
  exact .inl ⟨_, HE.out, rfl, HS.out⟩
 have e58 : (r == 58) = false := by simp; omega
 by_cases h3 : st = 1
 ·have HE : Hid (Ye ⟨ps, st, un, hi⟩ r = none) := by show Ye _ _ = _; unfold Ye; rw [if_neg h1, if_neg h2, if_pos h3]
  generalize Ye ⟨ps, st, un, hi⟩ r = o at *
  subst h3
  clear h1 h2 n1
  go_enter Tryz.func108, Tryz.ntmps108
  go_wp2
  go_ret
  exact .inr ⟨HE.out, rfl, HH.out.kept⟩
 have es1 : (st == 1) = false := by simp; omega
 by_cases h4 : r = 34
 ·have HE : Hid (Ye ⟨ps, st, un, hi⟩ r = some ⟨ps, 4, un, hi⟩) := by show Ye _ _ = _; unfold Ye; rw [if_neg h1, if_neg h2, if_neg h3, if_pos h4]
  have HS := Za (HH.out.setS 4)
  generalize Ye ⟨ps, st, un, hi⟩ r = o at *
  subst h4
  clear h1 h2 n1 h3 e9 e13 e32 e58
  go_enter Tryz.func108, Tryz.ntmps108
  go_wp2
  go_ret
  exact .inl ⟨_, HE.out, rfl, HS.out⟩
 have e34 : (r == 34) = false := by simp; omega
 have hLE := Zmu r wr
 by_cases h5 : Wc r = true
 ·have HE : Hid (Ye ⟨ps, st, un, hi⟩ r = some ⟨ps, 2, un ++ [r], hi⟩) := by show Ye _ _ = _; unfold Ye; rw [if_neg h1, if_neg h2, if_neg h3, if_neg h4, if_pos h5]
  have hr2 : r < 256 := by have := of_decide_eq_true h5; omega
  have HGR := Za (Zgc c r w _ ps 2 un hi (HH.out.setS 2) h0 hr2 hu)
  rw [h5] at hLE
  have HLE := Za hLE
  generalize Ye ⟨ps, st, un, hi⟩ r = o at *
  clear h1 h2 n1 h3 h4 h5 hLE hr2
  go_enter Tryz.func108, Tryz.ntmps108
  go_wp2_with fail
  refine HLE.out.mono ?_
  rintro e w1 ⟨rfl, hw⟩
  have hw := hw.symm
  subst hw
  go_wp2_with fail
  refine HGR.out.mono ?_
  rintro e w2 ⟨⟨v, rfl⟩, hc2⟩
  have HS := Za hc2
  clear hc2 HGR HLE
  go_wp2
  go_ret
  exact .inl ⟨_, HE.out, rfl, HS.out⟩
 have h5f : Wc r = false := by simpa using h5
 rw [h5f] at hLE
 have HLE := Za hLE
 have hDI := Zp4 r wr
 clear hLE
 by_cases h6 : Xa r = true
 ·have HE : Hid (Ye ⟨ps, st, un, hi⟩ r = some ⟨ps, 3, un ++ [r], hi⟩) := by show Ye _ _ = _; unfold Ye; rw [if_neg h1, if_neg h2, if_neg h3, if_neg h4, if_neg h5, if_pos (.inl h6)]
  have hr2 : r < 256 := by have := of_decide_eq_true h6; omega
  have HGR := Za (Zgc c r w _ ps 3 un hi (HH.out.setS 3) h0 hr2 hu)
  rw [h6] at hDI
  have HDI := Za hDI
  generalize Ye ⟨ps, st, un, hi⟩ r = o at *
  clear h1 h2 n1 h3 h4 h5 h5f h6 hDI hr2
  go_enter Tryz.func108, Tryz.ntmps108
  go_wp2_with fail
  refine HLE.out.mono ?_
  rintro e w1 ⟨rfl, hw⟩
  have hw := hw.symm
  subst hw
  go_wp2_with fail
  refine HDI.out.mono ?_
  rintro e w1 ⟨rfl, hw⟩
  have hw := hw.symm
  subst hw
  go_wp2_with fail
  refine HGR.out.mono ?_
  rintro e w2 ⟨⟨v, rfl⟩, hc2⟩
  have HS := Za hc2
  clear hc2 HGR HLE HDI
  go_wp2
  go_ret
  exact .inl ⟨_, HE.out, rfl, HS.out⟩
 have h6f : Xa r = false := by simpa using h6
 rw [h6f] at hDI
 have HDI := Za hDI
 clear hDI
 by_cases h7 : r = 45
 ·have HE : Hid (Ye ⟨ps, st, un, hi⟩ r = some ⟨ps, 3, un ++ [r], hi⟩) := by show Ye _ _ = _; unfold Ye; rw [if_neg h1, if_neg h2, if_neg h3, if_neg h4, if_neg h5, if_pos (.inr h7)]
  have HGR := Za (Zgc c r w _ ps 3 un hi (HH.out.setS 3) h0 (by omega) hu)
  generalize Ye ⟨ps, st, un, hi⟩ r = o at *
  subst h7
  clear h1 h2 n1 h3 h4 h5 h5f h6 h6f e9 e13 e32 e58 e34
  go_enter Tryz.func108, Tryz.ntmps108
  go_wp2_with fail
  refine HLE.out.mono ?_
  rintro e w1 ⟨rfl, hw⟩
  have hw := hw.symm
  subst hw
  go_wp2_with fail
  refine HDI.out.mono ?_
  rintro e w1 ⟨rfl, hw⟩
  have hw := hw.symm
  subst hw
  go_wp2_with fail
  refine HGR.out.mono ?_
  rintro e w2 ⟨⟨v, rfl⟩, hc2⟩
  have HS := Za hc2
  clear hc2 HGR HLE HDI
  go_wp2
  go_ret
  exact .inl ⟨_, HE.out, rfl, HS.out⟩
 ·have HE : Hid (Ye ⟨ps, st, un, hi⟩ r = none) := by show Ye _ _ = _; unfold Ye; rw [if_neg h1, if_neg h2, if_neg h3, if_neg h4, if_neg h5, if_neg (by rw [h6f]; simpa using h7)]
  have e45 : (r == 45) = false := by simp; omega
  generalize Ye ⟨ps, st, un, hi⟩ r = o at *
  clear h1 h2 n1 h3 h4 h5 h5f h6 h6f h7
  go_enter Tryz.func108, Tryz.ntmps108
  go_wp2_with fail
  refine HLE.out.mono ?_
  rintro e w1 ⟨rfl, hw⟩
  have hw := hw.symm
  subst hw
  go_wp2_with fail
  refine HDI.out.mono ?_
  rintro e w1 ⟨rfl, hw⟩
  have hw := hw.symm
  subst hw
  go_wp2
  go_ret
  exact .inr ⟨HE.out, rfl, HH.out.kept⟩
end Go.Proofs.YtgoabnehdmdikaaGreatDoor
namespace Go.Proofs.YtgoabnehdmdikaaGreatDoor
open Go.RowKit
variable {I : Nat × ByteArray × Nat}
theorem Zvb (c : Nat) (r : Int) (w wr : World) (x : CS) (h : CgS I w wr c x) (h0 : 0 ≤ r) (hl : x.ps.length ≤ 90000) (hu : x.un.length ≤ 900000) :
  Calls Tryz.prog 109 #[.pointer (some ⟨c, 0, none⟩), .int .i32 r] wr (Zhh I w wr c (Xd x r)) := by
 obtain ⟨ps, st, un, hi⟩ := x
 simp only at h hl hu
 have HH := Za h
 by_cases h1 : r = 34
 ·have HE : Hid (Xd ⟨ps, st, un, hi⟩ r = some ⟨ps ++ [⟨2, str un, 0, false⟩], 1, [], hi⟩) := if_pos h1
  generalize Xd ⟨ps, st, un, hi⟩ r = o at *
  subst h1
  obtain ⟨pv, uv, hb0, hp0, hu0⟩ := h.ex
  have q2 := Zb _ _ 2 _ _ _ hb0
  have hcv := Zaf wr uv un (Zbc hu0)
  have HCL := Za (Zk6 c 2 (str un) 0 false w wr ps st un hi h hl)
  obtain ⟨a1, c1, hv1⟩ := Zd hu0
  obtain ⟨n1, hn1⟩ := nmd (un.length)
  rw [← hn1] at hv1
  subst hv1
  generalize str un = su at *
  clear h hl hu hb0 hp0 hu0 hn1
  go_enter Tryz.func109, Tryz.ntmps109
  go_wp2_with fail
  refine HCL.out.mono ?_
  rintro e w2 ⟨⟨v, rfl⟩, hc2⟩
  have HS := Za hc2
  clear hc2 HCL hcv q2
  go_wp2
  go_ret
  exact .inl ⟨_, HE.out, rfl, HS.out⟩
 have e34 : (r == 34) = false := by simp; omega
 by_cases h2 : r = 92
 ·have HE : Hid (Xd ⟨ps, st, un, hi⟩ r = some ⟨ps, 5, un, hi⟩) := by show Xd _ _ = _; unfold Xd; rw [if_neg h1, if_pos h2]
  have HS := Za (h.setS 5)
  generalize Xd ⟨ps, st, un, hi⟩ r = o at *
  subst h2
  obtain ⟨pv, uv, hb0, _⟩ := h.ex
  have q1 := Zb _ _ 1 _ _ _ hb0
  have f1 := Ze _ _ 1 _ _ hb0
  clear h hl hu hb0 h1 e34
  go_enter Tryz.func109, Tryz.ntmps109
  go_wp2
  go_ret
  exact .inl ⟨_, HE.out, rfl, HS.out⟩
 have e92 : (r == 92) = false := by simp; omega
 by_cases h3 : r < 32
 ·have HE : Hid (Xd ⟨ps, st, un, hi⟩ r = none) := by show Xd _ _ = _; unfold Xd; rw [if_neg h1, if_neg h2, if_pos (.inl h3)]
  generalize Xd ⟨ps, st, un, hi⟩ r = o at *
  clear h hl hu h1 h2
  go_enter Tryz.func109, Tryz.ntmps109
  go_wp2
  go_ret
  exact .inr ⟨HE.out, rfl, HH.out.kept⟩
 by_cases h4 : 126 < r
 ·have HE : Hid (Xd ⟨ps, st, un, hi⟩ r = none) := by show Xd _ _ = _; unfold Xd; rw [if_neg h1, if_neg h2, if_pos (.inr h4)]
  generalize Xd ⟨ps, st, un, hi⟩ r = o at *
  clear h hl hu h1 h2
  go_enter Tryz.func109, Tryz.ntmps109
  go_wp2
  go_ret
  exact .inr ⟨HE.out, rfl, HH.out.kept⟩
 ·have HE : Hid (Xd ⟨ps, st, un, hi⟩ r = some ⟨ps, st, un ++ [r], hi⟩) := by show Xd _ _ = _; unfold Xd; rw [if_neg h1, if_neg h2, if_neg (by omega)]
  have HGR := Za (Zgc c r w wr ps st un hi h h0 (by omega) hu)
  generalize Xd ⟨ps, st, un, hi⟩ r = o at *
  clear h hl hu h1 h2
  go_enter Tryz.func109, Tryz.ntmps109
  go_wp2_with fail
  refine HGR.out.mono ?_
  rintro e w2 ⟨⟨v, rfl⟩, hc2⟩
  have HS := Za hc2
  clear hc2 HGR
  go_wp2
  go_ret
  exact .inl ⟨_, HE.out, rfl, HS.out⟩
theorem Zss (c : Nat) (r : Int) (w wr : World) (x : CS) (h : CgS I w wr c x) (h0 : 0 ≤ r) (hl : x.ps.length ≤ 90000) (hu : x.un.length ≤ 900000) :
  Calls Tryz.prog 110 #[.pointer (some ⟨c, 0, none⟩), .int .i32 r] wr (Zhh I w wr c (Wj x r)) := by
 obtain ⟨ps, st, un, hi⟩ := x
 simp only at h hl hu
 have HH := Za h
 by_cases h1 : r = 34 ∨ r = 92
 ·have HE : Hid (Wj ⟨ps, st, un, hi⟩ r = some ⟨ps, 4, un ++ [r], hi⟩) := if_pos h1
  have HGR := Za (Zgc c r w wr ps st un hi h h0 (by omega) hu)
  generalize Wj ⟨ps, st, un, hi⟩ r = o at *
  clear h hl hu
  rcases h1 with rfl | rfl
  ·go_enter Tryz.func110, Tryz.ntmps110
   go_wp2_with fail
   refine HGR.out.mono ?_
   rintro e w2 ⟨⟨v, rfl⟩, hc2⟩
   have HS := Za (hc2.setS 4)
   obtain ⟨pv, uv, hb0, _⟩ := hc2.ex
   have q1 := Zb _ _ 1 _ _ _ hb0
   have f1 := Ze _ _ 1 _ _ hb0
   clear hc2 HGR hb0
   go_wp2
   go_ret
   exact .inl ⟨_, HE.out, rfl, HS.out⟩
  ·go_enter Tryz.func110, Tryz.ntmps110
   go_wp2_with fail
   refine HGR.out.mono ?_
   rintro e w2 ⟨⟨v, rfl⟩, hc2⟩
   have HS := Za (hc2.setS 4)
   obtain ⟨pv, uv, hb0, _⟩ := hc2.ex
   have q1 := Zb _ _ 1 _ _ _ hb0
   have f1 := Ze _ _ 1 _ _ hb0
   clear hc2 HGR hb0
   go_wp2
   go_ret
   exact .inl ⟨_, HE.out, rfl, HS.out⟩
 have e34 : (r == 34) = false := by simp; omega
 have e92 : (r == 92) = false := by simp; omega
 by_cases h2 : r = 120
 ·have HE : Hid (Wj ⟨ps, st, un, hi⟩ r = some ⟨ps, 6, un, hi⟩) := by show Wj _ _ = _; unfold Wj; rw [if_neg h1, if_pos h2]
  have HS := Za (h.setS 6)
  generalize Wj ⟨ps, st, un, hi⟩ r = o at *
  subst h2
  obtain ⟨pv, uv, hb0, _⟩ := h.ex
  have q1 := Zb _ _ 1 _ _ _ hb0
  have f1 := Ze _ _ 1 _ _ hb0
  clear h hl hu hb0 h1 e34 e92
  go_enter Tryz.func110, Tryz.ntmps110
  go_wp2
  go_ret
  exact .inl ⟨_, HE.out, rfl, HS.out⟩
 ·have HE : Hid (Wj ⟨ps, st, un, hi⟩ r = none) := by show Wj _ _ = _; unfold Wj; rw [if_neg h1, if_neg h2]
  have e120 : (r == 120) = false := by simp; omega
  generalize Wj ⟨ps, st, un, hi⟩ r = o at *
  clear h hl hu h1 h2
  go_enter Tryz.func110, Tryz.ntmps110
  go_wp2
  go_ret
  exact .inr ⟨HE.out, rfl, HH.out.kept⟩
end Go.Proofs.YtgoabnehdmdikaaGreatDoor
namespace Go.Proofs
open Go.Shelf
shelf_lay Lays.n119 Nm 119 at Tryz as Tryz.lays119
shelf_lay Lays.n152 Nm 152 at Tryz as Tryz.lays152
shelf_lay Lays.n137 Nm 137 at Tryz as Tryz.lays137
end Go.Proofs
namespace Go.Proofs.YtgoabnehdmdikaaGreatDoor
open Go.RowKit Go.Shelf
def Zz (r : Int) : Int := if 48 ≤ r ∧ r ≤ 57 then r - 48 else if 97 ≤ r ∧ r ≤ 102 then r - 87 else -1
theorem Zp6 : ∀ n : Nat, n < 128 → (Lib.indexByte Xc.data.toList n.toUInt8 : Int) = Zz n := by decide
theorem Zp7 (c : UInt8) (hc : 128 ≤ c.toNat) : (Lib.indexByte [50, 51, 52, 53, 54, 55, 56, 57, 97, 98, 99, 100, 101, 102] c : Int) = -1 := by
 have h : ∀ n : Nat, n < 256 → 128 ≤ n → (Lib.indexByte [50, 51, 52, 53, 54, 55, 56, 57, 97, 98, 99, 100, 101, 102] n.toUInt8 : Int) = -1 := by decide +kernel
 have e := h c.toNat (UInt8.toNat_lt c) hc
 rwa [show c.toNat.toUInt8 = c by simp] at e
theorem Zp8 (c : UInt8) (hc : 128 ≤ c.toNat) : (Lib.indexByte [51, 52, 53, 54, 55, 56, 57, 97, 98, 99, 100, 101, 102] c : Int) = -1 := by
 have h : ∀ n : Nat, n < 256 → 128 ≤ n → (Lib.indexByte [51, 52, 53, 54, 55, 56, 57, 97, 98, 99, 100, 101, 102] n.toUInt8 : Int) = -1 := by decide +kernel
 have e := h c.toNat (UInt8.toNat_lt c) hc
 rwa [show c.toNat.toUInt8 = c by simp] at e
theorem Zp9 (c : UInt8) (hc : 128 ≤ c.toNat) : (Lib.indexByte [52, 53, 54, 55, 56, 57, 97, 98, 99, 100, 101, 102] c : Int) = -1 := by
 have h : ∀ n : Nat, n < 256 → 128 ≤ n → (Lib.indexByte [52, 53, 54, 55, 56, 57, 97, 98, 99, 100, 101, 102] n.toUInt8 : Int) = -1 := by decide +kernel
 have e := h c.toNat (UInt8.toNat_lt c) hc
 rwa [show c.toNat.toUInt8 = c by simp] at e
theorem Zst (r : Nat) (h1 : 128 ≤ r) : (∃ b c : UInt8, Utf8.encode (r : Int) = ⟨#[b, c]⟩ ∧ 128 ≤ c.toNat) ∨ (∃ b c d : UInt8, Utf8.encode (r : Int) = ⟨#[b, c, d]⟩ ∧ 128 ≤ d.toNat) ∨ (∃ b c d e : UInt8, Utf8.encode (r : Int) = ⟨#[b, c, d, e]⟩ ∧ 128 ≤ e.toNat) := by
 have key : ∀ c : Nat, 128 ≤ c → (if c < 0x80 then (⟨#[UInt8.ofNat c]⟩ : ByteArray) else if c < 0x800 then ⟨#[UInt8.ofNat (0xC0 + c / 64), UInt8.ofNat (0x80 + c % 64)]⟩ else if c < 0x10000 then ⟨#[UInt8.ofNat (0xE0 + c / 4096), UInt8.ofNat (0x80 + c / 64 % 64), UInt8.ofNat (0x80 + c % 64)]⟩ else ⟨#[UInt8.ofNat (0xF0 + c / 262144), UInt8.ofNat (0x80 + c / 4096 % 64), UInt8.ofNat (0x80 + c / 64 % 64), UInt8.ofNat (0x80 + c % 64)]⟩) = Utf8.encode (r : Int) → (∃ b c : UInt8, Utf8.encode (r : Int) = ⟨#[b, c]⟩ ∧ 128 ≤ c.toNat) ∨ (∃ b c d : UInt8, Utf8.encode (r : Int) = ⟨#[b, c, d]⟩ ∧ 128 ≤ d.toNat) ∨ (∃ b c d e : UInt8, Utf8.encode (r : Int) = ⟨#[b, c, d, e]⟩ ∧ 128 ≤ e.toNat) := by
  intro c hc h
  rw [if_neg (by omega)] at h
  split at h
  ·refine .inl ⟨_, _, h.symm, ?_⟩
   rw [UInt8.toNat_ofNat']
   omega
  ·split at h
   ·refine .inr (.inl ⟨_, _, _, h.symm, ?_⟩)
    rw [UInt8.toNat_ofNat']
    omega
   ·refine .inr (.inr ⟨_, _, _, _, h.symm, ?_⟩)
    rw [UInt8.toNat_ofNat']
    omega
 by_cases hv : Utf8.valid (r : Int) = true
 ·refine key r h1 ?_
  simp [Utf8.encode, hv]
 ·refine key Utf8.runeError (by decide) ?_
  simp [Utf8.encode, hv]
set_option maxRecDepth 1000000 in
theorem Zqa (r : Nat) (h1 : 128 ≤ r) (h2 : r ≠ 65533) (hv : Lib.validRune (r : Int) = false) (w : World) :
  Calls Tryz.prog 136 #[.string Xc, .int .i32 r] w fun e w' => e = .returned (.int .i64 (-1)) ∧ Kept nF w w' := by
 have HV := Za (fun w => Any.utf8_ValidRune Tryz.lays119 (r : Int) w)
 rw [hv] at HV
 have e1 : ((r : Int) == 65533) = false := by rw [beq_eq_false_iff_ne]; omega
 go_enter Tryz.func136, Tryz.ntmps136
 go_wp2_with fail
 refine (HV.out _).mono ?_
 rintro e w1 ⟨rfl, rfl⟩
 clear HV
 go_wp2
 go_ret
 exact ⟨rfl, Kept.refl _ _⟩
theorem Zee {R : Ending → World → Prop} {a : Act} {w : World} (hd : a.defers = []) (h : R (.returned (a.tmps.getD 4 undef)) w) : bodyPost Tryz.prog Tryz.f136 R .ret a w :=
 bodyPost_ret (results_tmp rfl _ _ _) hd h
set_option maxRecDepth 1000000 in
theorem Zqb (r : Nat) (h1 : 128 ≤ r) (h2 : r ≠ 65533) (hv : Lib.validRune (r : Int) = true) (b c : UInt8) (hE : Utf8.encode (r : Int) = ⟨#[b, c]⟩) (hc : 128 ≤ c.toNat) (w : World) :
  Calls Tryz.prog 136 #[.string Xc, .int .i32 r] w fun e w' => e = .returned (.int .i64 (-1)) ∧ Kept nF w w' := by
 have HV := Za (fun w => Any.utf8_ValidRune Tryz.lays119 (r : Int) w)
 rw [hv] at HV
 have HI : Hid (∀ w, Calls Tryz.prog 156 #[.string ⟨#[50, 51, 52, 53, 54, 55, 56, 57, 97, 98, 99, 100, 101, 102]⟩, .int .u8 c.toNat] w fun e w' => e = .returned (.int .i64 (-1)) ∧ w' = w) := fun w => by
  have h := Any.strings_IndexByte Tryz.lays137 ⟨#[50, 51, 52, 53, 54, 55, 56, 57, 97, 98, 99, 100, 101, 102]⟩ (c.toNat : Int) w
  have e := Zp7 c hc
  simp only [Int.toNat_natCast] at h
  rw [show (c.toNat.toUInt8) = c by simp] at h
  rw [show (Lib.indexByte (ByteArray.mk #[50, 51, 52, 53, 54, 55, 56, 57, 97, 98, 99, 100, 101, 102]).data.toList c : Int) = -1 from e] at h
  exact h
 have e1 : ((r : Int) == 65533) = false := by rw [beq_eq_false_iff_ne]; omega
 have e2 : ((49 : Int) == (c.toNat : Int)) = false := by rw [beq_eq_false_iff_ne]; omega
 have g1 : (Xc[1]'(by decide)) = (49 : UInt8) := rfl
 have g2 : ((⟨#[b, c]⟩ : ByteArray)[1]'(show 1 < 2 by omega)) = c := rfl
 clear hv hc
 go_enter Tryz.func136, Tryz.ntmps136
 go_wp2_with fail
 refine (HV.out _).mono ?_
 rintro e w1 ⟨rfl, rfl⟩
 clear HV
 go_wp2
 refine wp_scope_straight ?_
 go_wp2
 go_loopw [9] (fun i wr => i = .int .i64 1 ∧ wr = w1) (fun _ _ => 0)
 case atStart => exact ⟨rfl, rfl⟩
 case round =>
  obtain ⟨rfl, rfl⟩ := hrel
  go_wp2
  refine wp_scope_straight ?_
  go_wp2
  go_quiet (fail)
  go_wp2
  go_quiet (first | (go_at_call 156; exact (HI.out _).mono (fun _ _ h => ⟨h.1, _, h.2⟩)))
  go_wp2
  repeat rw [Exit.noGoto_ret]
  refine Zee (R := fun e w' => e = .returned (.int .i64 (-1)) ∧ Kept nF wr w') rfl ?_
  exact ⟨rfl, by first | exact Yf (Kept.refl _ _) _ | exact Yf (Yf (Kept.refl _ _) _) _⟩
set_option maxRecDepth 1000000 in
theorem Zls (r : Nat) (h1 : 128 ≤ r) (h2 : r ≠ 65533) (hv : Lib.validRune (r : Int) = true) (b c d : UInt8) (hE : Utf8.encode (r : Int) = ⟨#[b, c, d]⟩) (hc : 128 ≤ d.toNat) (w : World) :
  Calls Tryz.prog 136 #[.string Xc, .int .i32 r] w fun e w' => e = .returned (.int .i64 (-1)) ∧ Kept nF w w' := by
 have HV := Za (fun w => Any.utf8_ValidRune Tryz.lays119 (r : Int) w)
 rw [hv] at HV
 have HI : Hid (∀ w, Calls Tryz.prog 156 #[.string ⟨#[51, 52, 53, 54, 55, 56, 57, 97, 98, 99, 100, 101, 102]⟩, .int .u8 d.toNat] w fun e w' => e = .returned (.int .i64 (-1)) ∧ w' = w) := fun w => by
  have h := Any.strings_IndexByte Tryz.lays137 ⟨#[51, 52, 53, 54, 55, 56, 57, 97, 98, 99, 100, 101, 102]⟩ (d.toNat : Int) w
  have e := Zp8 d hc
  simp only [Int.toNat_natCast] at h
  rw [show (d.toNat.toUInt8) = d by simp] at h
  rw [show (Lib.indexByte (ByteArray.mk #[51, 52, 53, 54, 55, 56, 57, 97, 98, 99, 100, 101, 102]).data.toList d : Int) = -1 from e] at h
  exact h
 have e1 : ((r : Int) == 65533) = false := by rw [beq_eq_false_iff_ne]; omega
 have e2 : ((50 : Int) == (d.toNat : Int)) = false := by rw [beq_eq_false_iff_ne]; omega
 have g1 : (Xc[2]'(by decide)) = (50 : UInt8) := rfl
 have g2 : ((⟨#[b, c, d]⟩ : ByteArray)[2]'(show 2 < 3 by omega)) = d := rfl
 clear hv hc
 go_enter Tryz.func136, Tryz.ntmps136
 go_wp2_with fail
 refine (HV.out _).mono ?_
 rintro e w1 ⟨rfl, rfl⟩
 clear HV
 go_wp2
 refine wp_scope_straight ?_
 go_wp2
 go_loopw [9] (fun i wr => i = .int .i64 2 ∧ wr = w1) (fun _ _ => 0)
 case atStart => exact ⟨rfl, rfl⟩
 case round =>
  obtain ⟨rfl, rfl⟩ := hrel
  go_wp2
  refine wp_scope_straight ?_
  go_wp2
  go_quiet (fail)
  go_wp2
  go_quiet (first | (go_at_call 156; exact (HI.out _).mono (fun _ _ h => ⟨h.1, _, h.2⟩)))
  go_wp2
  repeat rw [Exit.noGoto_ret]
  refine Zee (R := fun e w' => e = .returned (.int .i64 (-1)) ∧ Kept nF wr w') rfl ?_
  exact ⟨rfl, by first | exact Yf (Kept.refl _ _) _ | exact Yf (Yf (Kept.refl _ _) _) _⟩
set_option maxRecDepth 1000000 in
theorem Znx (r : Nat) (h1 : 128 ≤ r) (h2 : r ≠ 65533) (hv : Lib.validRune (r : Int) = true) (b c d f : UInt8) (hE : Utf8.encode (r : Int) = ⟨#[b, c, d, f]⟩) (hc : 128 ≤ f.toNat) (w : World) :
  Calls Tryz.prog 136 #[.string Xc, .int .i32 r] w fun e w' => e = .returned (.int .i64 (-1)) ∧ Kept nF w w' := by
 have HV := Za (fun w => Any.utf8_ValidRune Tryz.lays119 (r : Int) w)
 rw [hv] at HV
 have HI : Hid (∀ w, Calls Tryz.prog 156 #[.string ⟨#[52, 53, 54, 55, 56, 57, 97, 98, 99, 100, 101, 102]⟩, .int .u8 f.toNat] w fun e w' => e = .returned (.int .i64 (-1)) ∧ w' = w) := fun w => by
  have h := Any.strings_IndexByte Tryz.lays137 ⟨#[52, 53, 54, 55, 56, 57, 97, 98, 99, 100, 101, 102]⟩ (f.toNat : Int) w
  have e := Zp9 f hc
  simp only [Int.toNat_natCast] at h
  rw [show (f.toNat.toUInt8) = f by simp] at h
  rw [show (Lib.indexByte (ByteArray.mk #[52, 53, 54, 55, 56, 57, 97, 98, 99, 100, 101, 102]).data.toList f : Int) = -1 from e] at h
  exact h
 have e1 : ((r : Int) == 65533) = false := by rw [beq_eq_false_iff_ne]; omega
 have e2 : ((51 : Int) == (f.toNat : Int)) = false := by rw [beq_eq_false_iff_ne]; omega
 have g1 : (Xc[3]'(by decide)) = (51 : UInt8) := rfl
 have g2 : ((⟨#[b, c, d, f]⟩ : ByteArray)[3]'(show 3 < 4 by omega)) = f := rfl
 clear hv hc
 go_enter Tryz.func136, Tryz.ntmps136
 go_wp2_with fail
 refine (HV.out _).mono ?_
 rintro e w1 ⟨rfl, rfl⟩
 clear HV
 go_wp2
 refine wp_scope_straight ?_
 go_wp2
 go_loopw [9] (fun i wr => i = .int .i64 3 ∧ wr = w1) (fun _ _ => 0)
 case atStart => exact ⟨rfl, rfl⟩
 case round =>
  obtain ⟨rfl, rfl⟩ := hrel
  go_wp2
  refine wp_scope_straight ?_
  go_wp2
  go_quiet (fail)
  go_wp2
  go_quiet (first | (go_at_call 156; exact (HI.out _).mono (fun _ _ h => ⟨h.1, _, h.2⟩)))
  go_wp2
  repeat rw [Exit.noGoto_ret]
  refine Zee (R := fun e w' => e = .returned (.int .i64 (-1)) ∧ Kept nF wr w') rfl ?_
  exact ⟨rfl, by first | exact Yf (Kept.refl _ _) _ | exact Yf (Yf (Kept.refl _ _) _) _⟩
end Go.Proofs.YtgoabnehdmdikaaGreatDoor
