/-
  MintBook: the walk.
-/
import Derived.Test.YtffabihenhejfabBook0
import Derived.Deep.RegionHeld3
namespace Go.Proofs.Ytffabihenhejfab
open Go.ChangeShapes Go.WideShapes Go.ChangeAt Go.RowKit Go.Deep
set_option linter.unusedVariables false

/-- One Writer: what was put into it. -/
structure Uno (w1 wr : World) (its : List ItV) (i : Nat) (va : Value) : Prop where
  a : WS wr w1.heap.size va (run (its.take i))
  kept : Kept (fun _ => False) w1 wr
  oa : ∀ q, va.ownBlock = some q → w1.heap.size < q
  big : w1.heap.size < wr.heap.size

theorem Uno.put {w1 wr : World} {its : List ItV} {i : Nat} {va : Value} (h : Uno w1 wr its i va) (hg : AllGood w1 its) (hi : i < its.length) :
    Calls Try.prog 8 #[.pointer (some ⟨w1.heap.size, 0, none⟩), .agg #[.int .i64 (its.getD i ItV.default).k, .int .i64 (its.getD i ItV.default).n, (its.getD i ItV.default).bv]] wr fun e w' => e = .returned (.bool true) ∧ ∃ va', Uno w1 w' its (i + 1) va' := by
  obtain ⟨hgd, hib⟩ := hg i hi
  have hst := run_take its i hi
  have hpt := put_any w1.heap.size va _ _ _ _ _ wr h.a hgd.1 hgd.2.1 hgd.2.2.1 hgd.2.2.2.1 (hib.kept h.kept (fun _ _ f => f)) hgd.2.2.2.2.2.2.1 hgd.2.2.2.2.2.2.2 (fun hne q hq => by
    have := hib.lt hne q hq
    exact ⟨by omega, fun e => by have := h.oa q e; omega⟩)
  rw [← hst] at hpt
  have hbig := h.big
  refine hpt.mono ?_
  rintro e w' ⟨rfl, v', h1, h2, h3⟩
  refine ⟨rfl, v', h1, h.kept.step h2 (fun q hq e => ?_), fun q hq => ?_, Nat.lt_of_lt_of_le hbig h2.size⟩
  · rcases e with e | e
    · omega
    · have := h.oa q e; omega
  · rcases h3 q hq with e | e
    · exact h.oa q e
    · omega

theorem Uno.new {w1 wr w' : World} {its : List ItV} {i : Nat} {va : Value} (h : Uno w1 wr its i va) (hk : Kept (fun _ => False) wr w') : Uno w1 w' its i va :=
  ⟨h.a.new hk, h.kept.trans hk, h.oa, Nat.lt_of_lt_of_le h.big hk.size⟩

/-- What holds from the first Done on: the Writer, what was asked for, the items. -/
structure Bk (w6 : World) (a : Nat) (va wantv allv : Value) (B : Nat) (its : List ItV) : Prop where
  ws : WS w6 a va (.ok (encs its))
  want : Own8 w6 wantv (encs its)
  row : w6.ownsRow B 33 3 allv its.length (its.flatMap ItV.cells)
  good : AllGood w6 its
  nil : its = [] → allv = .slice none 0 0

theorem Bk.new {w6 w' : World} {a : Nat} {va wantv allv : Value} {B : Nat} {its : List ItV} (h : Bk w6 a va wantv allv B its) (hk : Kept (fun _ => False) w6 w') : Bk w' a va wantv allv B its :=
  ⟨h.ws.new hk, h.want.kept hk (fun _ _ f => f), hk.ownsRow h.row (fun _ _ f => f), fun i hi => ⟨(h.good i hi).1, (h.good i hi).2.kept hk (fun _ _ f => f)⟩, h.nil⟩

theorem Bk.done {w6 : World} {a : Nat} {va wantv allv : Value} {B : Nat} {its : List ItV} (h : Bk w6 a va wantv allv B its) (wr : World) (hk : Kept (fun _ => False) w6 wr) :
    Calls Try.prog 9 #[.pointer (some ⟨a, 0, none⟩)] wr fun e w' => ∃ v', e = .returned (.tuple #[v', .int .i64 0]) ∧ Own8 w' v' (encs its) ∧ (∀ q, v'.ownBlock = some q → wr.heap.size ≤ q) ∧ Kept (fun _ => False) wr w' := by
  refine (done_s _ _ _ _ (h.new hk).ws).mono ?_
  rintro e w' ⟨v', rfl, ho, hb⟩
  exact ⟨v', rfl, own_zero ho, fun q hq => (ho.lt q hq).1, kept_below hb⟩

theorem Bk.ref {w6 : World} {a : Nat} {va wantv allv : Value} {B : Nat} {its : List ItV} (h : Bk w6 a va wantv allv B its) (wr : World) (hk : Kept (fun _ => False) w6 wr) (hm : its.length ≤ 1000) (hrun : run its = .ok (encs its)) :
    Calls Try.prog 14 #[allv] wr fun e w' => ∃ v', e = .returned (.tuple #[v', .int .i64 0]) ∧ Own8 w' v' (encs its) ∧ (∀ q, v'.ownBlock = some q → wr.heap.size ≤ q) ∧ Kept (fun _ => False) wr w' := by
  have h' := h.new hk
  refine (rdone_row allv its wr (by omega) (own_zero h'.row) (fun i hi => (h'.good i hi).1.ok (h'.good i hi).2)).mono ?_
  rintro e w' ⟨v', rfl, ho, hkd⟩
  rw [hrun] at ho
  refine ⟨v', by rw [hrun]; rfl, own_zero ho, fun q hq => (ho.lt q hq).1, hkd⟩

theorem Bk.same {w6 : World} {a : Nat} {va wantv allv : Value} {B : Nat} {its : List ItV} (h : Bk w6 a va wantv allv B its) (wr : World) (hk : Kept (fun _ => False) w6 wr) (hl : (encs its).length ≤ 4194304) (v : Value) (hv : Own8 wr v (encs its)) :
    Calls Try.prog 15 #[v, wantv] wr fun e w' => e = .returned (.bool true) ∧ ∃ n, w' = wr.drewN n := by
  refine (same_any v wantv _ _ wr hv.isB (h.new hk).want.isB (by unfold maxLen; omega)).mono ?_
  rintro e w' ⟨rfl, hn⟩
  exact ⟨by simp, hn⟩
theorem same_true {wr : World} {v u : Value} {xs : List Int} (hl : xs.length ≤ 4194304) (hv : Own8 wr v xs) (hu : Own8 wr u xs) : Calls Try.prog 15 #[v, u] wr fun e w' => e = .returned (.bool true) ∧ ∃ n, w' = wr.drewN n := by
  refine (same_any v u _ _ wr hv.isB hu.isB (by unfold maxLen; omega)).mono ?_
  rintro e w' ⟨rfl, hn⟩
  exact ⟨by simp, hn⟩

theorem Uno.ref {w1 wr : World} {its : List ItV} {va allv : Value} {B : Nat} (h : Uno w1 wr its its.length va) (hg : AllGood w1 its) (hrow : w1.ownsRow B 33 3 allv its.length (its.flatMap ItV.cells)) (hnil : its = [] → allv = .slice none 0 0) (hm : its.length ≤ 1000) (hrun : run its = .ok (encs its)) :
    Calls Try.prog 14 #[allv] wr fun e w6 => ∃ v', e = .returned (.tuple #[v', .int .i64 0]) ∧ Bk w6 w1.heap.size va v' allv B its ∧ Kept (fun _ => False) w1 w6 ∧ w1.heap.size < w6.heap.size := by
  have hr := h.kept.ownsRow hrow (fun _ _ f => f)
  have hgd : AllGood wr its := fun i hi => ⟨(hg i hi).1, (hg i hi).2.kept h.kept (fun _ _ f => f)⟩
  refine (rdone_row allv its wr (by omega) (own_zero hr) (fun i hi => (hgd i hi).1.ok (hgd i hi).2)).mono ?_
  rintro e w' ⟨v', rfl, ho, hkd⟩
  rw [hrun] at ho
  have hws := h.a
  rw [List.take_of_length_le (Nat.le_refl _), hrun] at hws
  refine ⟨v', by rw [hrun]; rfl, ⟨hws.new hkd, own_zero ho, hkd.ownsRow hr (fun _ _ f => f), fun i hi => ⟨(hgd i hi).1, (hgd i hi).2.kept hkd (fun _ _ f => f)⟩, hnil⟩, h.kept.trans hkd, Nat.lt_of_lt_of_le h.big hkd.size⟩

set_option maxRecDepth 100000 in
set_option maxHeartbeats 4000000 in
theorem book_walk (vl : Value) (W : World) (hl : Arg W vl) :
    Calls Try.prog 4 #[vl] W fun e w' => e = .returned (.bool true) ∧ Below W.heap.size W w' := by
  obtain ⟨i31, hi31, z310, z311, z312⟩ := info_parts Try.info31
  have hr1 := hid_of (rights_any vl 60 2000 W hl (by omega) (by omega))
  clear hl
  go_enter Try.func4, Try.ntmps4
  go_wp2_with fail
  refine hr1.out.mono ?_
  rintro e w1 ⟨v0, its, rfl, hgs, hil, hxl, hk1, hnil⟩
  obtain ⟨ao, c, hv0⟩ := ownsRow_shape hgs.row
  obtain ⟨N, hN⟩ : ∃ N, N = its.length := ⟨_, rfl⟩
  rw [← hN] at hv0 hil
  have HN := hid_of hN
  have HG : Hid (AllGood w1 its) := fun i hi => ⟨(hgs.good i hi).1, (hgs.good i hi).2.kept hk1 (fun _ _ f => f)⟩
  have hfew := encs_few its 2000 (by omega) (fun i hi => (HG.out i hi).1) hxl its.length (Nat.le_refl _)
  rw [List.take_of_length_le (Nat.le_refl _)] at hfew
  have hel : (encs its).length ≤ 120540 := by
    have h2 : its.length * (2000 + 9) ≤ 60 * (2000 + 9) := Nat.mul_le_mul_right _ (by omega)
    omega
  have HRUN := hid_of (run_good its (fun i hi => (HG.out i hi).1) (by omega))
  have HROW := hid_of hgs.row
  have HX := hid_of hxl
  have HK1 := hid_of hk1
  have HNIL := hid_of hnil
  obtain ⟨E, hE⟩ : ∃ E, E = (encs its).length := ⟨_, rfl⟩
  have HE := hid_of hE
  rw [← hE] at hel
  clear hr1 hgs hxl hk1 hnil hN hfew hE
  subst hv0
  go_wp2_with fail
  refine (new_any w1).mono ?_
  rintro e w2 ⟨rfl, rfl⟩
  go_wp2_with fail
  go_loopw [5] (fun i wr => ∃ (k : Nat) (va : Value), k ≤ N ∧ i = .int .i64 k ∧ Uno w1 wr its k va) (fun i _ => N - (intOf i).toNat)
  case atStart => exact ⟨0, _, Nat.zero_le _, rfl, ⟨wr_new_s w1, (Kept.refl _ _).alloc _, fun q hq => (by cases hq), by simp⟩⟩
  case round =>
    obtain ⟨k, va, hk, rfl, hu⟩ := hrel
    by_cases hlt : k < N
    · have hltI : (k : Int) < (N : Int) := by omega
      have hki : k < its.length := by rw [← HN.out]; exact hlt
      obtain ⟨b, hb⟩ : ∃ b, ao = some ⟨b, 0, none⟩ := by
        rcases World.ownsRow.mk' HROW.out with ⟨e, e0⟩ | ⟨g, cap, e⟩
        · omega
        · cases e; exact ⟨g, rfl⟩
      subst hb
      obtain ⟨q0, q1, q2⟩ := Row.items (own_zero (hu.kept.ownsRow HROW.out (fun _ _ f => f))) k hki
      have HPT := hid_of (hu.put HG.out hki)
      obtain ⟨yao, yc, hbv⟩ := (HG.out k hki).2.shape
      generalize its.getD k ItV.default = x at *
      obtain ⟨xk, xn, xbv, xs⟩ := x
      dsimp only at hbv HPT q0 q1 q2
      subst hbv
      clear hu
      go_wp2_with fail
      refine HPT.out.mono ?_
      rintro e w3 ⟨rfl, va', hu'⟩
      have HU := hid_of hu'
      clear HPT hu' q0 q1 q2
      go_wp2
      go_roundw
      case rel => exact ⟨k + 1, _, by omega, by go_num, HU.out⟩
      case measure => simp [intOf]; omega
    · have hkN : k = N := by omega
      subst hkN
      have hkI : ¬ ((k : Int) < (k : Int)) := by omega
      have hrun := HRUN.out its.length (Nat.le_refl _)
      rw [List.take_of_length_le (Nat.le_refl _)] at hrun
      have HRF := hid_of (Uno.ref (by rw [← HN.out]; exact hu) HG.out HROW.out HNIL.out (by rw [← HN.out]; omega) hrun)
      have HR0 := hid_of hrun
      clear hu hrun HRUN
      go_wp2_with fail
      refine HRF.out.mono ?_
      rintro e w6 ⟨wantv, rfl, hbk, hk6, hs6⟩
      obtain ⟨wao, wc, hwv⟩ := hbk.want.shape
      rw [← HE.out] at hwv
      subst hwv
      have HBK := hid_of hbk
      have HK6 := hid_of hk6
      clear hbk hk6 HRF
      go_wp2_with fail
      go_loopw [8, 9] (fun lv t wr => ∃ (k3 : Nat) (ls : List BL), k3 ≤ 3 ∧ t = .int .i64 k3 ∧ Lst w6 wr lv ls (k3 * 61)) (fun _ t _ => 3 - (intOf t).toNat)
      case atStart => exact ⟨0, [], by omega, rfl, Lst.start w6⟩
      case round =>
        obtain ⟨k3, ls, hk3, rfl, hls⟩ := hrel
        by_cases hlt3 : k3 < 3
        · have hlt3I : (k3 : Int) < 3 := by omega
          have HDN := hid_of (HBK.out.done wr hls.kept)
          have HLS := hid_of hls
          have hls0 : ls.length ≤ 183 := by have := hls.many; omega
          have hlb := hls.bls.lt
          have hlsb : ∀ i, i < ls.length → ∀ q, (ls.getD i BL.default).v.ownBlock = some q → q < wr.heap.size := fun i hi => (hls.bls.own i hi).lt
          have HLB := hid_of hlb
          have HLSB := hid_of hlsb
          clear hls hlb hlsb
          go_wp2_with fail
          refine HDN.out.mono ?_
          rintro e w7 ⟨bv, rfl, hbo, hbn, hk7⟩
          obtain ⟨bao, bc, hbv⟩ := hbo.shape
          rw [← HE.out] at hbv
          subst hbv
          have HSM := hid_of (HBK.out.same w7 (HLS.out.kept.trans hk7) (by rw [← HE.out]; omega) _ hbo)
          have HBO := hid_of hbo
          have HBN := hid_of hbn
          have HK7 := hid_of hk7
          clear hbo hbn hk7 HDN
          go_wp2_with fail
          refine HSM.out.mono ?_
          rintro e w8 ⟨rfl, d, hw8⟩
          have hk8 : Kept (fun _ => False) w7 w8 := by rw [hw8]; exact kept_drewN (Kept.refl _ _) d
          have HL8 := hid_of (HLS.out.after (HK7.out.trans hk8))
          have HB8 := hid_of (HBO.out.kept hk8 (fun _ _ f => f))
          have hs8 : wr.heap.size ≤ w8.heap.size := (HK7.out.trans hk8).size
          clear hw8 hk8 HSM
          go_wp2_with (at_builtin; refine wpList_append_old _ rfl (.tmp 64) (.tmp 66) 48 rfl 0 31 i31 (.slice none 0 0) 1 24 Try.underlying48 hi31 z310 z311 z312 rfl (by decide) _ _ _ rfl (HL8.out.bls.row.alloc _) ⟨_, 0, none⟩ 1 1 [.slice bao E bc] rfl rfl (cell_one_new _ _ _) (by intro u hu; simp at hu; subst hu; rfl) (by unfold maxLen; omega) (by omega) (Nat.zero_le _) ?_)
          intro lv' w9 hown' hgrow hat hold
          obtain ⟨hl9, hk9, hat9⟩ := Lst.push (b := ⟨.slice bao E bc, encs its⟩) HL8.out HB8.out (by rw [← HE.out]; omega) (fun q hq => by have := HBN.out q hq; have := HLS.out.kept.size; omega) (fun i hi q hq e => by have := HBN.out q e; have := HLSB.out i hi q hq; omega) (fun q hq e => by have := HBN.out q hq; have := HLB.out q e; omega) hown' hgrow hat
          have HL9 := hid_of hl9
          obtain ⟨ls9, hls9⟩ : ∃ ls9, ls9 = ls ++ [⟨.slice bao E bc, encs its⟩] := ⟨_, rfl⟩
          rw [← hls9] at HL9
          clear hl9 hk9 hat9 hown' hgrow hat hold hls9 HB8 HL8 HBO HBN HK7
          -- the sheet
          have hb9 := HBK.out.new HL9.out.kept
          have hkA : Kept (fun _ => False) w9 (w9.alloc (.cells #[.slice ao k c, .slice none 0 0, .slice none 0 0, .pointer none] 40)) := (Kept.refl _ _).alloc _
          have hshA : Sh (w9.alloc (.cells #[.slice ao k c, .slice none 0 0, .slice none 0 0, .pointer none] 40)) w9.heap.size (.slice ao k c) (.slice none 0 0) (.slice none 0 0) (.pointer none) := heap_alloc_new w9 _
          have hszA : (w9.alloc (.cells #[.slice ao k c, .slice none 0 0, .slice none 0 0, .pointer none] 40)).heap.size = w9.heap.size + 1 := by simp
          have hbA := hb9.new hkA
          have h9s := HL9.out.kept.size
          obtain ⟨g, hg, hir, _⟩ := isR_own (d := w1.heap.size) hb9.want (by omega)
          have hav : Value.ownBlock (.slice ao k c) ≠ some w9.heap.size := fun e => by have := (HBK.out.row.lt _ e).2; omega
          have hrd := read_sheet_own (.slice ao k c) _ w9.heap.size g wao E wc its _ hshA hbA.row HNIL.out (fun i hi => ⟨(hbA.good i hi).1.r, (hbA.good i hi).2.shape⟩) (by rw [← HN.out]; omega) (hir.kept hkA (fun f => f)) (by omega) (by omega) hav
          have HRD := hid_of hrd
          have HKA := hid_of hkA
          have HSZA := hid_of hszA
          have HB9 := hid_of hb9
          clear hrd hkA hszA hshA hbA hir hb9 hav
          go_wp2_with fail
          refine HRD.out.mono ?_
          rintro e w10 ⟨rfl, hk10, tv, lv2, told, hsd, hso, htv⟩
          have h10s := hk10.size
          rw [HSZA.out] at h10s
          have hk910 : Kept (fun _ => False) w9 w10 := HKA.out.step hk10 (fun q hq e => by omega)
          have HB10 := hid_of (HB9.out.new hk910)
          have HL10 := hid_of (HL9.out.after hk910)
          have HSM2 := hid_of (same_done _ w10 w9.heap.size _ (.slice ao k c) tv lv2 its told hsd (by rw [← HN.out]; omega) HNIL.out HB10.out.row HB10.out.good)
          obtain ⟨tao, tc, htvs⟩ : ∃ tao tc, tv = .slice tao k tc := by
            rcases hsd.2 with ⟨e1, e2⟩ | ⟨_, gt, tc, _, _, e1, _⟩
            · exact ⟨none, 0, by rw [e2, HN.out, e1]; rfl⟩
            · exact ⟨_, tc, by rw [HN.out]; exact e1⟩
          subst htvs
          obtain ⟨rp, hsh⟩ := hsd.1
          have c1 := hsh.cells.2.1
          have HSD := hid_of hsd
          have HSO := hid_of hso
          clear hsd hso htv hsh hk10 hk910 HRD HB9 HKA
          go_wp2_with fail
          refine HSM2.out.mono ?_
          rintro e w11 ⟨rfl, d, hw11⟩
          have hk11 : Kept (fun _ => False) w10 w11 := by rw [hw11]; exact kept_drewN (Kept.refl _ _) d
          have HSD11 := hid_of (HSD.out.kept hk11 (fun f => f) (fun _ _ f => f))
          have HSO11 := hid_of (HSO.out.kept hk11)
          have HL11 := hid_of (HL10.out.after hk11)
          have hls9b : ∀ i, i < ls9.length → ∀ q, (ls9.getD i BL.default).v.ownBlock = some q → q < w9.heap.size := fun i hi => (HL9.out.bls.own i hi).lt
          have HT0 := hid_of (Tin.start (told := told) HL11.out hls9b)
          have HLV9 := hid_of HL9.out.bls.lt
          clear hw11 hk11 hls9b HSM2 HSD HSO HL10 HB10 c1
          go_wp2_with fail
          go_loopw [8, 14] (fun lv j wr => ∃ (m : Nat) (ls : List BL), m ≤ k ∧ j = .int .i64 m ∧ Tin w6 w11 wr w9.heap.size lv' lv ls told m (k3 * 61 + 1)) (fun _ j _ => k - (intOf j).toNat)
          case atStart => exact ⟨0, ls9, Nat.zero_le _, rfl, HT0.out⟩
          case round =>
            obtain ⟨m, ls5, hm, rfl, ht⟩ := hrel
            have hlvs : ∀ q, lv'.ownBlock = some q → q ≠ w9.heap.size := fun q hq e => by have := HLV9.out q hq; omega
            obtain ⟨rp, hsh⟩ := (HSD11.out.kept ht.k5 (fun e => hlvs _ e rfl) (fun q hq e => by have := HLV9.out q e; rw [HSZA.out] at hq; omega)).1
            have c1 := hsh.cells.2.1
            by_cases hml : m < k
            · have hmlI : (m : Int) < (k : Int) := by omega
              have hmi : m < its.length := by rw [← HN.out]; exact hml
              obtain ⟨gt, hgt⟩ : ∃ gt, tao = some ⟨gt, 0, none⟩ := by
                rcases HSD11.out.2 with ⟨e1, _⟩ | ⟨_, gt, tc', _, _, e1, _⟩
                · rw [e1] at hmi; simp at hmi
                · cases e1; exact ⟨gt, rfl⟩
              subst hgt
              obtain ⟨e3, ek, ex⟩ : ItemsAt wr gt told ∧ (told.getD m ItV.default).k = (its.getD m ItV.default).k ∧ (3 < (its.getD m ItV.default).k → (told.getD m ItV.default).xs = (its.getD m ItV.default).xs) := by
                rcases (HSD11.out.kept ht.k5 (fun e => hlvs _ e rfl) (fun q hq e => by have := HLV9.out q e; rw [HSZA.out] at hq; omega)).2 with ⟨e1, _⟩ | ⟨_, gt', tc', _, _, e1, _, e3, e4, _, _, _, e8⟩
                · rw [e1] at hmi; simp at hmi
                · cases e1
                  exact ⟨e3, (e8 m hmi).1, (e8 m hmi).2.2.1⟩
              obtain ⟨q0, _, q2⟩ := e3 m (by rw [HSO11.out.len]; exact hmi)
              have hlong : (told.getD m ItV.default).xs.length ≤ 4194304 := by
                by_cases h3 : (its.getD m ItV.default).k ≤ 3
                · rw [HSO11.out.low m hmi h3]; simp
                · rw [ex (by omega)]; have := HX.out m hmi; omega
              obtain ⟨yao, yc, hyb⟩ : ∃ yao yc, (told.getD m ItV.default).bv = .slice yao (told.getD m ItV.default).xs.length yc := by
                rcases HSD11.out.2 with ⟨e1, _⟩ | ⟨_, gt', tc', _, _, e1, _, e3', e4, _, _, _, e8⟩
                · rw [e1] at hmi; simp at hmi
                · exact (e8 m hmi).2.2.2.1.shape
              obtain ⟨tk, htk⟩ : ∃ tk, tk = (told.getD m ItV.default).k := ⟨_, rfl⟩
              rw [← htk] at q0 ek
              obtain ⟨yl, hyl⟩ : ∃ yl, yl = (told.getD m ItV.default).xs.length := ⟨_, rfl⟩
              rw [← hyl] at hyb
              rw [hyb] at q2
              have HYB := hid_of hyb
              have HT := hid_of ht
              have HEK := hid_of ek
              have HLONG := hid_of hlong
              have HMI := hid_of hmi
              clear e3 ek ex hlong htk hyl hyb hsh hmi
              by_cases h5 : tk = 5
              · subst h5
                have HS := hid_of HT.out.skip
                clear ht HT HT0 HSD11 HSO11 HL11
                go_wp2
                go_roundw
                case rel => exact ⟨m + 1, ls5, by omega, by go_num, HS.out⟩
                case measure => simp [intOf]; omega
              · have h5n : (tk == 5) = false := by simp [h5]
                have h5m : (tk != 5) = true := by simp [h5]
                have hls5 : ls5.length ≤ 1000 := by have := ht.lst.many; omega
                clear ht
                go_wp2_with (at_builtin; refine wpList_append_old _ rfl (.tmp 104) (.tmp 113) 48 rfl 0 31 i31 (.slice none 0 0) 1 24 Try.underlying48 hi31 z310 z311 z312 rfl (by decide) _ _ _ rfl (HT.out.lst.bls.row.alloc _) ⟨_, 0, none⟩ 1 1 [.slice yao yl yc] rfl rfl (cell_one_new _ _ _) (by intro u hu; simp at hu; subst hu; rfl) (by unfold maxLen; omega) (by omega) (Nat.zero_le _) ?_)
                intro lv5 w12 hown' hgrow hat hold
                have HP := hid_of (Tin.push HT.out HSO11.out HMI.out (by rw [← HEK.out]; exact h5) HLONG.out (by rw [HSZA.out]; omega) HL9.out.kept.size HLV9.out (by rw [HYB.out]; exact hown') hgrow hat)
                clear hown' hgrow hat hold HT HT0 HSD11 HSO11 HL11
                go_wp2
                go_roundw
                case rel => exact ⟨m + 1, _, by omega, by go_num, HP.out⟩
                case measure => simp [intOf]; omega
            · have hmk : m = k := by omega
              subst hmk
              have hmI : ¬ ((m : Int) < (m : Int)) := by omega
              have HF : Hid (Lst w6 wr u8 ls5 ((k3 + 1) * 61)) := ⟨ht.lst.bls, ht.lst.new, ht.lst.lnew, ht.lst.long, by have := ht.lst.many; omega, ht.lst.kept⟩
              clear ht HT0 HSD11 HSO11 HL11 hsh
              go_wp2
              go_roundw
              case rel => exact ⟨k3 + 1, ls5, by omega, by go_num, HF.out⟩
              case measure => simp [intOf]; omega
        · have hk3' : k3 = 3 := by omega
          subst hk3'
          have HDN := hid_of (HBK.out.done wr hls.kept)
          have HLS := hid_of hls
          have hls0 : ls.length ≤ 183 := by have := hls.many; omega
          have HLSB : Hid (∀ i, i < ls.length → ∀ q, (ls.getD i BL.default).v.ownBlock = some q → q < wr.heap.size) := fun i hi => (hls.bls.own i hi).lt
          clear hls
          go_wp2_with fail
          refine HDN.out.mono ?_
          rintro e w7 ⟨lastv, rfl, hlo, hln, hk7⟩
          obtain ⟨lao, lc, hlv⟩ := hlo.shape
          rw [← HE.out] at hlv
          subst hlv
          have HGR := hid_of (grown_any u8 ls w7 (HLS.out.after hk7).bls (by omega) HLS.out.long)
          have HLO := hid_of hlo
          have HLN := hid_of hln
          have HK7 := hid_of hk7
          clear hlo hln hk7 HDN
          go_wp2_with fail
          refine HGR.out.mono ?_
          rintro e w8 ⟨rfl, hk8⟩
          have hk68 : Kept (fun _ => False) w6 w8 := (HLS.out.kept.trans HK7.out).step hk8 (fun q hq e => by
            obtain ⟨i, hi, e'⟩ := e
            have := HLS.out.new i hi q e'
            omega)
          have hlo8 : Own8 w8 (.slice lao E lc) (encs its) := HLO.out.kept hk8 (fun q hq e => by
            obtain ⟨i, hi, e'⟩ := e
            have := HLN.out q hq
            have := HLSB.out i hi q e'
            omega)
          have HSM := hid_of (HBK.out.same w8 hk68 (by rw [← HE.out]; omega) _ hlo8)
          have HK68 := hid_of hk68
          clear hk8 hk68 hlo8 HGR HLO HLN HK7 HLS HLSB
          go_wp2_with fail
          refine HSM.out.mono ?_
          rintro e w9 ⟨rfl, d, hw9⟩
          have hk69 : Kept (fun _ => False) w6 w9 := by rw [hw9]; exact kept_drewN HK68.out d
          have HRF := hid_of (HBK.out.ref w9 hk69 (by rw [← HN.out]; omega) HR0.out)
          have HK69 := hid_of hk69
          clear hw9 hk69 HSM HK68
          go_wp2_with fail
          refine HRF.out.mono ?_
          rintro e w10 ⟨againv, rfl, hao, han, hk10⟩
          obtain ⟨aao, ac, hav⟩ := hao.shape
          rw [← HE.out] at hav
          subst hav
          have HDN2 := hid_of (HBK.out.done w10 (HK69.out.trans hk10))
          have HAO := hid_of hao
          have HK10 := hid_of hk10
          clear hao han hk10 HRF
          go_wp2_with fail
          refine HDN2.out.mono ?_
          rintro e w11 ⟨bv, rfl, hbo, hbn, hk11⟩
          obtain ⟨bao, bc, hbv⟩ := hbo.shape
          rw [← HE.out] at hbv
          subst hbv
          have hk611 : Kept (fun _ => False) w6 w11 := (HK69.out.trans HK10.out).trans hk11
          have hao11 := HAO.out.kept hk11 (fun _ _ f => f)
          have HSA := hid_of (same_true (by rw [← HE.out]; omega) hbo hao11)
          have HSB := hid_of (fun d => same_true (wr := w11.drewN d) (by rw [← HE.out]; omega) (HBK.out.new (kept_drewN hk611 d)).want (hao11.kept (kept_drewN (Kept.refl (fun _ => False) _) d) (fun _ _ f => f)))
          have HK611 := hid_of hk611
          clear hbo hbn hk11 hao11 hk611 HDN2 HAO HK10 HK69
          go_wp2_with fail
          refine HSA.out.mono ?_
          rintro e w12 ⟨rfl, d, rfl⟩
          go_wp2_with fail
          refine (HSB.out d).mono ?_
          rintro e w13 ⟨rfl, d2, hw13⟩
          have hk613 : Kept (fun _ => False) w6 w13 := by rw [hw13]; exact kept_drewN (kept_drewN HK611.out d) d2
          have hb13 := HBK.out.new hk613
          have HMV := hid_of (moved_any (.slice wao E wc) (.slice ao k c) _ its w13 hb13.want.isB (by rw [← HE.out]; omega) hb13.row HNIL.out hb13.good (by rw [← HN.out]; omega))
          have HK613 := hid_of hk613
          clear hw13 hb13 hk613 HSA HSB HK611
          go_wp2_with fail
          refine HMV.out.mono ?_
          rintro e w14 ⟨rfl, hk14⟩
          have HK14 := hid_of hk14
          clear hk14 HMV
          go_wp2_with fail
          refine (head_any w14).mono ?_
          rintro e w15 ⟨rfl, hb15⟩
          have HKZ : Hid (Below W.heap.size W w15) := ((((HK1.out.trans HK6.out).trans HK613.out).trans HK14.out).trans (kept_below hb15)).below (Nat.le_refl _) (fun _ f => f.elim)
          clear hb15
          go_wp2
          go_ret
          exact ⟨rfl, HKZ.out⟩
end Go.Proofs.Ytffabihenhejfab
