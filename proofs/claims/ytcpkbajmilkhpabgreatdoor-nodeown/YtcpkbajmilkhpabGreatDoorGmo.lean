/-
  NodeOwn: moved.
-/
import Derived.Test.YtcpkbajmilkhpabGreatDoorGfo
namespace Go.Proofs.YtcpkbajmilkhpabGreatDoor
open Go.ChangeShapes Go.WideShapes Go.ChangeAt Go.RowKit Go.Deep
set_option linter.unusedVariables false
set_option linter.unusedSimpArgs false
set_option maxRecDepth 100000

/-- The entry that With is given. -/
def ownE (k : Int) : EV := ⟨[111, 119, 110], k, []⟩
theorem ownE_arr (k : Int) : entA ⟨#[111, 119, 110]⟩ k [] = (ownE k).cells.toArray := rfl
theorem ownE_fr (k : Int) : (ownE k).fr.length ≤ 32 := by unfold ownE; simp
theorem ownE_nm (k : Int) : ∀ b ∈ (ownE k).nm, 0 ≤ b ∧ b ≤ 255 := by unfold ownE; simp
theorem ownE_len (k : Int) : (ownE k).nm.length = 3 := rfl
theorem ownE_size (k : Int) : (str (ownE k).nm).size ≤ 281474976710656 := by rw [str_size, ownE_len]; omega

theorem wpList_ownE {ops : Array Oper} {o : Oper} {a : Act} {w : World} {Q : Exit → Act → World → Prop} {rest : List Oper} (hw : Region.wanted o (yielded ops a.tmps) = true) (k : Int) (ho : o.op = .build 41 #[(0, .const (.string ⟨#[111, 119, 110]⟩)), (1, .const (.int .i64 k))])
    (h : wpList Tryz.prog ops Q rest (a.put o.dst (.agg (ownE k).cells.toArray)) w) : wpList Tryz.prog ops Q (o :: rest) a w :=
  wpList_two_wanted hw ⟨#[111, 119, 110]⟩ k ho h
theorem without_fr {us : List EV} (h : ∀ y ∈ us, y.fr.length ≤ 32) (s : List Int) : ∀ y ∈ withoutL us s, y.fr.length ≤ 32 := fun y hy => h y (List.mem_filter.1 hy).1
theorem with_fr {us : List EV} (h : ∀ y ∈ us, y.fr.length ≤ 32) {x : EV} (hx : x.fr.length ≤ 32) : ∀ y ∈ withL x false us, y.fr.length ≤ 32 := fun y hy => by
  rcases with_mem false us y hy with rfl | h1
  · exact hx
  · exact h y h1
theorem without_le (us : List EV) (s : List Int) : (withoutL us s).length ≤ us.length := List.length_filter_le _ _

section
variable {us : List EV} {W : World}
theorem enc_own {g n c : Nat} (hn : n = us.length) (ho : ∀ y ∈ us, y.Ok) {B : Nat} (h : W.ownsRow B 41 34 (.slice (some ⟨g, 0, none⟩) n c) n (ents us)) : Calls Tryz.prog 6 #[.slice (some ⟨g, 0, none⟩) n c] W (EncR nameP us W) := by
  subst hn
  exact encode_any nameP nameC _ us W (rowE_own h (fun y hy => (ho y hy).fr.1)) (fun q hq => (h.lt q hq).2) (fun y hy => (ho y hy).fr) nameP_len (fun y hy => (ho y hy).nm) (fun y hy => (ho y hy).k)
theorem encr_own {g n c : Nat} (hn : n = us.length) (ho : ∀ y ∈ us, y.Ok) {B : Nat} (h : W.ownsRow B 41 34 (.slice (some ⟨g, 0, none⟩) n c) n (ents us)) : Calls Tryz.prog 7 #[.slice (some ⟨g, 0, none⟩) n c] W (EncR nameP us W) := by
  subst hn
  have hc : us.length ≤ c ∧ c ≤ 9223372036854775807 := by
    rcases h.2 with ⟨e, _⟩ | ⟨g', cap, cur, e, _, _, h1, h2, _⟩
    · cases e
    · cases e; unfold maxLen at h2; exact ⟨h1, by omega⟩
  exact encode_ref nameP nameRC nameP_nil nameP_len _ c us W (rowE_own h (fun y hy => (ho y hy).fr.1)) hc.1 hc.2 (fun y hy => (ho y hy).fr) (fun y hy => (ho y hy).frb) (fun y hy => ⟨(ho y hy).nm, (ho y hy).nl⟩) (fun y hy => (ho y hy).k)
end

set_option maxHeartbeats 8000000 in
theorem moved_any (lo : Option Addr) (lc : Nat) (ys : List EV) (s : List Int) (w : World) (hl : RowE w (.slice lo ys.length lc) ys) (hyo : ∀ y ∈ ys, y.Ok) (hlo : lo = none → ys.length = 0) (hlen : ys.length ≤ 1024) :
    Calls Tryz.prog 18 #[.slice lo ys.length lc, .string (str s)] w fun e w' => e = .returned (.bool true) ∧ Kept (fun _ => False) w w' := by
  obtain ⟨nl, hnl⟩ : ∃ n, n = ys.length := ⟨_, rfl⟩
  have HNL := hid_of hnl
  rw [← hnl] at hl hlo hlen
  have HL := hid_of hl
  have HYO := hid_of hyo
  have HLO := hid_of hlo
  rw [← hnl]
  clear hl hyo hlo hnl
  by_cases hn0 : nl = 0
  · subst hn0
    go_enter Tryz.func18, Tryz.ntmps18
    go_wp2
    go_ret
    exact ⟨rfl, Kept.refl _ _⟩
  · have hnb : ((nl : Int) == 0) = false := by simp; omega
    have hnp : 0 < nl := by omega
    have hkB : Kept (fun _ => False) w (w.alloc (.cells #[] 41)) := (Kept.refl _ _).alloc _
    obtain ⟨rb, cb, wb, hrb, hob, hkb⟩ := app_ents (w.alloc (.cells #[] 41)) _ w.heap.size [] lo lc ys (own_noneE w w.heap.size (Nat.le_refl _)) (by rw [← HNL.out]; exact HL.out.kept hkB (fun _ _ f => f)) (fun y hy => (HYO.out y hy).fr.1) hkB.size (by rw [← HNL.out]; simp; omega) (by rw [← HNL.out]; exact HLO.out)
    rw [List.nil_append, ← HNL.out] at hrb hob
    have HKB := hid_of (kept_new hkb (fun k e => by simp [Value.ownBlock] at e; omega))
    obtain ⟨g, c, hv⟩ := own_at hob hnp
    obtain ⟨rfl, rfl⟩ : rb = some ⟨g, 0, none⟩ ∧ cb = c := by cases hv; exact ⟨rfl, rfl⟩
    have HOB := hid_of hob
    clear hkB hob hkb hv
    go_enter Tryz.func18, Tryz.ntmps18
    go_wp2_with (at_builtin; refine wp_app2 rfl (.tmp 15) (.tmp 16) 22 22 rfl _ _ rfl rfl _ _ hrb ?_)
    clear hrb
    go_wp2_with fail
    go_loopw [6] (fun t wr => ∃ (k : Nat) (us : List EV), k ≤ 3 ∧ t = .int .i64 k ∧ Hid (nl = us.length) ∧ Hid (∀ y ∈ us, y.Ok) ∧ Hid (Kept (fun _ => False) w wr) ∧ Hid (wr.ownsRow w.heap.size 41 34 (.slice (some ⟨g, 0, none⟩) nl cb) nl (ents us))) (fun t _ => 3 - (intOf t).toNat)
    case atStart => exact ⟨0, ys, by omega, rfl, HNL, HYO, HKB, HOB⟩
    case round =>
      clear HKB HOB
      obtain ⟨k, us, hk, rfl, HUN, HUO, HKR, HOR⟩ := hrel
      by_cases hlt : k < 3
      · have hltI : (k : Int) < 3 := by omega
        have HE1 := hid_of (enc_own HUN.out HUO.out HOR.out)
        go_wp2_with fail
        refine HE1.out.mono ?_
        rintro e w6 he6
        obtain ⟨b1, n1, c1, rfl, hn1, ho6, hk6⟩ := EncR.own HUO.out he6
        have HO6 := hid_of ho6
        have HK6 := hid_of (HKR.out.trans hk6)
        have HM6 := hid_of (hk6.ownsRow HOR.out (fun _ _ f => f))
        have HE2 := hid_of (encr_own HUN.out HUO.out HM6.out)
        obtain ⟨ee, hee⟩ : ∃ ee, ee = checkD nameP us := ⟨_, rfl⟩
        rw [← hee]
        have HEE := hid_of hee
        clear hn1 ho6 hk6 he6 hee HE1 HKR HOR
        go_wp2_with fail
        refine HE2.out.mono ?_
        rintro e w7 he7
        obtain ⟨b2, n2, c2, rfl, hn2, ho7, hk7⟩ := EncR.own HUO.out he7
        have HM7 := hid_of (hk7.ownsRow HM6.out (fun _ _ f => f))
        have HK7 := hid_of (HK6.out.trans hk7)
        have hs1 := conv_str w7 _ _ (isB_own (hk7.ownsRow HO6.out (fun _ _ f => f)))
        have hs2 := conv_str w7 _ _ (isB_own ho7)
        obtain ⟨sa, hsa⟩ : ∃ s, s = str (encX us) := ⟨_, rfl⟩
        rw [← hsa] at hs1 hs2
        rw [← HEE.out]
        have hR7 := rowE_own (by rw [← HUN.out]; exact HM7.out) (fun y hy => (HUO.out y hy).fr.1)
        have hC := check_any nameP nameC _ us w7 hR7 (fun y hy => (HUO.out y hy).fr.1) (fun y hy => (HUO.out y hy).nm)
        rw [← HEE.out] at hC
        have HC := hid_of hC
        clear hn2 ho7 he7 hk7 hsa HE2 HO6 HK6 HM6 hR7 hC
        go_wp2_with fail
        refine HC.out.mono ?_
        rintro e w8 ⟨rfl, hk8⟩
        have HM8 := hid_of (hk8.ownsRow HM7.out (fun _ _ f => f))
        have HK8 := hid_of (HK7.out.trans hk8)
        clear hk8 HC hs1 hs2 HM7 HK7
        by_cases hE : ee = 0
        · subst hE
          obtain ⟨hul, hup, hnm⟩ := good_all HEE.out.symm
          have HUP := hid_of hup
          have HSZ : Hid (∀ y ∈ us, (str y.nm).size ≤ 281474976710656) := fun y hy => by have := hnm y hy; rw [str_size]; omega
          have HFR : Hid (∀ y ∈ us, y.fr.length ≤ 32) := fun y hy => (HUO.out y hy).fr.1
          have HUL := hid_of hul
          have hF := found_any (some ⟨g, 0, none⟩) cb us s w8 (by rw [← HUN.out]; exact rowE_own (by rw [← HUN.out]; exact HM8.out) HFR.out) HFR.out HSZ.out (by omega) hup
          rw [← HUN.out] at hF
          have HF := hid_of hF
          clear hul hup hnm hF
          go_wp2_with fail
          refine HF.out.mono ?_
          rintro e w9 ⟨rfl, hk9⟩
          have HM9 := hid_of (hk9.ownsRow HM8.out (fun _ _ f => f))
          have HK9 := hid_of (HK8.out.trans hk9)
          have HW1 := hid_of (without_now (.slice (some ⟨g, 0, none⟩) nl cb) us s w9 (now_own (by rw [← HUN.out]; exact HM9.out) HFR.out) HFR.out HSZ.out (by have := HUL.out; omega) HUP.out)
          clear hk9 HF HM8 HK8
          go_wp2_with fail
          refine HW1.out.mono ?_
          rintro e w10 ⟨u1, rfl, hu1, hk10⟩
          have HU1 := hid_of hu1
          have HM10 := hid_of (hk10.ownsRow HM9.out (fun _ _ f => f))
          have HK10 := hid_of (HK9.out.trans hk10)
          have hW2 := without_ref (some ⟨g, 0, none⟩) cb us s w10 (by rw [← HUN.out]; exact rowE_own (by rw [← HUN.out]; exact HM10.out) HFR.out) HFR.out (by have := HUL.out; omega)
          rw [← HUN.out] at hW2
          have HW2 := hid_of hW2
          clear hu1 hk10 hW2 HW1 HM9 HK9
          go_wp2_with fail
          refine HW2.out.mono ?_
          rintro e w11 ⟨u2, rfl, hu2, hk11⟩
          have HM11 := hid_of (hk11.ownsRow HM10.out (fun _ _ f => f))
          have HK11 := hid_of (HK10.out.trans hk11)
          have hS1 := same_any u1 u2 _ _ w11 (rowE_own (hk11.ownsRow HU1.out (fun _ _ f => f)) (without_fr HFR.out s)) (rowE_own hu2 (without_fr HFR.out s)) (without_fr HFR.out s) (without_fr HFR.out s) (by have := without_le us s; have := HUL.out; omega)
          rw [sameL_refl] at hS1
          have HS1 := hid_of hS1
          clear hu2 hk11 hS1 HW2 HM10 HK10 HU1
          go_wp2_with fail
          refine HS1.out.mono ?_
          rintro e w12 ⟨rfl, hk12⟩
          have HM12 := hid_of (hk12.ownsRow HM11.out (fun _ _ f => f))
          have HK12 := hid_of (HK11.out.trans hk12)
          have HW3 := hid_of (with_any (.slice (some ⟨g, 0, none⟩) nl cb) us (ownE 1) w12 (now_own (by rw [← HUN.out]; exact HM12.out) HFR.out) HFR.out HSZ.out (by have := HUL.out; omega) HUP.out (ownE_fr 1) (ownE_size 1))
          clear hk12 HS1 HM11 HK11
          go_wp2_with (refine wpList_ownE (by rfl) 1 rfl ?_)
          refine HW3.out.mono ?_
          rintro e w13 ⟨u3, rfl, hu3, hk13⟩
          have HU3 := hid_of hu3
          have HM13 := hid_of (hk13.ownsRow HM12.out (fun _ _ f => f))
          have HK13 := hid_of (HK12.out.trans hk13)
          have hW4 := with_ref (some ⟨g, 0, none⟩) cb us (ownE 1) w13 (by rw [← HUN.out]; exact rowE_own (by rw [← HUN.out]; exact HM13.out) HFR.out) HFR.out (fun y hy => ⟨(HUO.out y hy).nm, by have := HSZ.out y hy; rw [str_size] at this; have := (good_all HEE.out.symm).2.2 y hy; omega⟩) (by have := HUL.out; omega) (ownE_fr 1) (ownE_nm 1) (by rw [ownE_len]; omega)
          rw [← HUN.out] at hW4
          have HW4 := hid_of hW4
          clear hu3 hk13 hW4 HW3 HM12 HK12
          go_wp2_with (refine wpList_ownE (by rfl) 1 rfl ?_)
          refine HW4.out.mono ?_
          rintro e w14 ⟨u4, rfl, hu4, hk14⟩
          have HM14 := hid_of (hk14.ownsRow HM13.out (fun _ _ f => f))
          have HK14 := hid_of (HK13.out.trans hk14)
          have hS2 := same_any u3 u4 _ _ w14 (rowE_own (hk14.ownsRow HU3.out (fun _ _ f => f)) (with_fr HFR.out (ownE_fr 1))) (rowE_own hu4 (with_fr HFR.out (ownE_fr 1))) (with_fr HFR.out (ownE_fr 1)) (with_fr HFR.out (ownE_fr 1)) (by have := with_lenL (x := ownE 1) false us; have := HUL.out; omega)
          rw [sameL_refl] at hS2
          have HS2 := hid_of hS2
          clear hu4 hk14 hS2 HW4 HM13 HK13 HU3
          go_wp2_with fail
          refine HS2.out.mono ?_
          rintro e wT ⟨rfl, hkT⟩
          have HMT := hid_of (hkT.ownsRow HM14.out (fun _ _ f => f))
          have HKT := hid_of (HK14.out.trans hkT)
          clear hkT HS2 HM14 HK14 HUP HSZ HFR HUL HEE
          obtain ⟨y, hy⟩ : ∃ y, us[nl - 1]? = some y := ⟨_, List.getElem?_eq_getElem (by rw [← HUN.out]; omega)⟩
          have hyo := HUO.out y (List.mem_of_getElem? hy)
          obtain ⟨x, hx⟩ : ∃ x, y.dig[k]? = some x := ⟨_, List.getElem?_eq_getElem (by rw [y.dig_len hyo.fr.1]; omega)⟩
          have hxr := dig_byte hyo hx
          have hcx : (ents us)[(nl - 1) * 34 + 2 + k]? = some (.int .u8 x) := by
            rw [Nat.add_assoc, ents_at us (fun z hz => (HUO.out z hz).fr.1) (nl - 1) y hy (2 + k) (by omega), cell_dig, hx]
            rfl
          have c0 := own_cell (own_mono HMT.out (Nat.zero_le _)) (g := g) rfl ((nl - 1) * 34 + 2 + k) _ hcx
          have f0 := HMT.out.frozenAt ((nl - 1) * 34 + 2 + k)
          have hvr := xor_range x 5 hxr.1 (by omega) (by omega) (by omega)
          have hst := (HMT.out.stored ((nl - 1) * 34 + 2 + k) (.int .u8 (bits .xor .u8 x 5))).1
          rw [Nat.add_assoc, ents_set us (nl - 1) y (y.turn k (bits .xor .u8 x 5)) (2 + k) (.int .u8 (bits .xor .u8 x 5)) (fun z hz => (HUO.out z hz).fr.1) hy (by omega) (y.turn_cells k _ hyo.fr.1 (by omega)), ← Nat.add_assoc] at hst
          have HST := hid_of hst
          have htok := EV.turn_ok hyo k (v := bits .xor .u8 x 5) ⟨hvr.1, by omega⟩
          have HUO2 := hid_of (set_ok HUO.out (nl - 1) htok)
          have hgb := (HMT.out.lt g rfl).1
          have HKS := hid_of (HKT.out.setCell (p := ⟨g, (nl - 1) * 34 + 2 + k, none⟩) (.inl hgb) (.int .u8 (bits .xor .u8 x 5)))
          have HLS : Hid (nl = (us.set (nl - 1) (y.turn k (bits .xor .u8 x 5))).length) := by unfold Hid; rw [List.length_set]; exact HUN.out
          have HY2 : Hid ((us.set (nl - 1) (y.turn k (bits .xor .u8 x 5)))[nl - 1]? = some (y.turn k (bits .xor .u8 x 5))) := by unfold Hid; rw [List.getElem?_set_self (by rw [← HUN.out]; omega)]
          have HTOK := hid_of htok
          generalize us.set (nl - 1) (y.turn k (bits .xor .u8 x 5)) = us2 at *
          generalize y.turn k (bits .xor .u8 x 5) = y2 at *
          have hsub : ((nl : Int) - 1).toNat = nl - 1 := by omega
          have hge : (0 : Int) ≤ (nl : Int) - 1 := by omega
          have hsl : (nl : Int) - 1 < (nl : Int) := by omega
          have hk32 : (k : Int) < 32 := by omega
          have hn1I : (1 : Int) ≤ (nl : Int) := by omega
          clear hy hyo hx hxr hcx hvr hst htok HMT HKT HUO HUN
          go_upto_region 16 with fail
          go_region_law (fail)
          all_goals
            generalize hw9 : World.drew _ = w9
            have HST9 : Hid (w9.ownsRow w.heap.size 41 34 (.slice (some ⟨g, 0, none⟩) nl cb) nl (ents us2)) := by rw [← hw9]; exact HST.out
            have HKS9 : Hid (Kept (fun _ => False) w w9) := by rw [← hw9]; exact HKS.out.drew
            clear hw9 HST HKS c0 f0
            by_cases hk1 : k = 1
            · subst hk1
              have hil : (ents us2).length = nl * 34 := HST9.out.1
              obtain ⟨z0, hz0⟩ : ∃ z, (ents us2)[(nl - 1) * 34 + 1]? = some z := ⟨_, List.getElem?_eq_getElem (by rw [hil]; omega)⟩
              have c0 := own_cell (own_mono HST9.out (Nat.zero_le _)) (g := g) rfl ((nl - 1) * 34 + 1) z0 hz0
              have f0 := HST9.out.frozenAt ((nl - 1) * 34 + 1)
              have hst := (HST9.out.stored ((nl - 1) * 34 + 1) (.int .i64 3)).1
              rw [ents_set us2 (nl - 1) y2 (y2.kind 3) 1 (.int .i64 3) (fun z hz => (HUO2.out z hz).fr.1) HY2.out (by omega) (y2.kind_cells 3)] at hst
              have HSK := hid_of hst
              have HUO3 := hid_of (set_ok HUO2.out (nl - 1) (EV.kind_ok HTOK.out (k := 3) (by omega)))
              have HKS3 := hid_of (HKS9.out.setCell (p := ⟨g, (nl - 1) * 34 + 1, none⟩) (.inl hgb) (.int .i64 3))
              have HLS3 : Hid (nl = (us2.set (nl - 1) (y2.kind 3)).length) := by unfold Hid; rw [List.length_set]; exact HLS.out
              clear hil hz0 hst
              go_wp2
              go_roundw
              case rel => exact ⟨2, _, by omega, by go_num, HLS3, HUO3, HKS3, HSK⟩
              case measure => simp [intOf]
            · have hkb : ((k : Int) == 1) = false := by simp; omega
              go_wp2
              go_roundw
              case rel => exact ⟨k + 1, _, by omega, by go_num, HLS, HUO2, HKS9, HST9⟩
              case measure => simp [intOf]; omega
        · have hEb : (ee == 0) = false := by simp; exact hE
          have hEb2 : (ee != 0) = true := by simp; exact hE
          have HMT := HM8
          have HKT := HK8
          clear HM8 HK8 HEE
          generalize w8 = wT at *
          obtain ⟨y, hy⟩ : ∃ y, us[nl - 1]? = some y := ⟨_, List.getElem?_eq_getElem (by rw [← HUN.out]; omega)⟩
          have hyo := HUO.out y (List.mem_of_getElem? hy)
          obtain ⟨x, hx⟩ : ∃ x, y.dig[k]? = some x := ⟨_, List.getElem?_eq_getElem (by rw [y.dig_len hyo.fr.1]; omega)⟩
          have hxr := dig_byte hyo hx
          have hcx : (ents us)[(nl - 1) * 34 + 2 + k]? = some (.int .u8 x) := by
            rw [Nat.add_assoc, ents_at us (fun z hz => (HUO.out z hz).fr.1) (nl - 1) y hy (2 + k) (by omega), cell_dig, hx]
            rfl
          have c0 := own_cell (own_mono HMT.out (Nat.zero_le _)) (g := g) rfl ((nl - 1) * 34 + 2 + k) _ hcx
          have f0 := HMT.out.frozenAt ((nl - 1) * 34 + 2 + k)
          have hvr := xor_range x 5 hxr.1 (by omega) (by omega) (by omega)
          have hst := (HMT.out.stored ((nl - 1) * 34 + 2 + k) (.int .u8 (bits .xor .u8 x 5))).1
          rw [Nat.add_assoc, ents_set us (nl - 1) y (y.turn k (bits .xor .u8 x 5)) (2 + k) (.int .u8 (bits .xor .u8 x 5)) (fun z hz => (HUO.out z hz).fr.1) hy (by omega) (y.turn_cells k _ hyo.fr.1 (by omega)), ← Nat.add_assoc] at hst
          have HST := hid_of hst
          have htok := EV.turn_ok hyo k (v := bits .xor .u8 x 5) ⟨hvr.1, by omega⟩
          have HUO2 := hid_of (set_ok HUO.out (nl - 1) htok)
          have hgb := (HMT.out.lt g rfl).1
          have HKS := hid_of (HKT.out.setCell (p := ⟨g, (nl - 1) * 34 + 2 + k, none⟩) (.inl hgb) (.int .u8 (bits .xor .u8 x 5)))
          have HLS : Hid (nl = (us.set (nl - 1) (y.turn k (bits .xor .u8 x 5))).length) := by unfold Hid; rw [List.length_set]; exact HUN.out
          have HY2 : Hid ((us.set (nl - 1) (y.turn k (bits .xor .u8 x 5)))[nl - 1]? = some (y.turn k (bits .xor .u8 x 5))) := by unfold Hid; rw [List.getElem?_set_self (by rw [← HUN.out]; omega)]
          have HTOK := hid_of htok
          generalize us.set (nl - 1) (y.turn k (bits .xor .u8 x 5)) = us2 at *
          generalize y.turn k (bits .xor .u8 x 5) = y2 at *
          have hsub : ((nl : Int) - 1).toNat = nl - 1 := by omega
          have hge : (0 : Int) ≤ (nl : Int) - 1 := by omega
          have hsl : (nl : Int) - 1 < (nl : Int) := by omega
          have hk32 : (k : Int) < 32 := by omega
          have hn1I : (1 : Int) ≤ (nl : Int) := by omega
          clear hy hyo hx hxr hcx hvr hst htok HMT HKT HUO HUN
          go_upto_region 16 with fail
          go_region_law (fail)
          all_goals
            generalize hw9 : World.drew _ = w9
            have HST9 : Hid (w9.ownsRow w.heap.size 41 34 (.slice (some ⟨g, 0, none⟩) nl cb) nl (ents us2)) := by rw [← hw9]; exact HST.out
            have HKS9 : Hid (Kept (fun _ => False) w w9) := by rw [← hw9]; exact HKS.out.drew
            clear hw9 HST HKS c0 f0
            by_cases hk1 : k = 1
            · subst hk1
              have hil : (ents us2).length = nl * 34 := HST9.out.1
              obtain ⟨z0, hz0⟩ : ∃ z, (ents us2)[(nl - 1) * 34 + 1]? = some z := ⟨_, List.getElem?_eq_getElem (by rw [hil]; omega)⟩
              have c0 := own_cell (own_mono HST9.out (Nat.zero_le _)) (g := g) rfl ((nl - 1) * 34 + 1) z0 hz0
              have f0 := HST9.out.frozenAt ((nl - 1) * 34 + 1)
              have hst := (HST9.out.stored ((nl - 1) * 34 + 1) (.int .i64 3)).1
              rw [ents_set us2 (nl - 1) y2 (y2.kind 3) 1 (.int .i64 3) (fun z hz => (HUO2.out z hz).fr.1) HY2.out (by omega) (y2.kind_cells 3)] at hst
              have HSK := hid_of hst
              have HUO3 := hid_of (set_ok HUO2.out (nl - 1) (EV.kind_ok HTOK.out (k := 3) (by omega)))
              have HKS3 := hid_of (HKS9.out.setCell (p := ⟨g, (nl - 1) * 34 + 1, none⟩) (.inl hgb) (.int .i64 3))
              have HLS3 : Hid (nl = (us2.set (nl - 1) (y2.kind 3)).length) := by unfold Hid; rw [List.length_set]; exact HLS.out
              clear hil hz0 hst
              go_wp2
              go_roundw
              case rel => exact ⟨2, _, by omega, by go_num, HLS3, HUO3, HKS3, HSK⟩
              case measure => simp [intOf]
            · have hkb : ((k : Int) == 1) = false := by simp; omega
              go_wp2
              go_roundw
              case rel => exact ⟨k + 1, _, by omega, by go_num, HLS, HUO2, HKS9, HST9⟩
              case measure => simp [intOf]; omega
      · have hltI : ¬ (k : Int) < 3 := by omega
        go_wp2
        go_ret
        exact ⟨rfl, HKR.out⟩
end Go.Proofs.YtcpkbajmilkhpabGreatDoor
