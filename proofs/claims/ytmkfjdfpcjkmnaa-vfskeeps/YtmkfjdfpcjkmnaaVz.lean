/-
  The law of one file: the walk.
-/
import Derived.Test.YtmkfjdfpcjkmnaaVya
import Derived.Deep.MidRow
namespace Go.Proofs.Ytmkfjdfpcjkmnaa
open Go.RowKit
set_option linter.unusedVariables false
set_option linter.unusedSimpArgs false
set_option maxRecDepth 100000

theorem i50 : (Try.prog.info? 50).map (·.size) = some 3 := by kernel_rfl
theorem setRow_new (w : World) (c c' : Array Value) (t : TypeId) {k : Nat} (hk : k = w.heap.size) : (w.alloc (.cells c t)).setRow k c' = w.alloc (.cells c' t) := by
  subst hk
  exact World.setRow_alloc_new w c c' t
theorem Cl.one {c : Cl} {ao : Option Addr} {n m : Nat} (h : c.bv = .slice ao n m) : c.cells.toArray.all (·.oneCell') = true := by
  rw [Cl.cells, h]
  simp [Value.oneCell']
theorem tmod_gt (a : Int) (n : Nat) (h : 0 < n) : -(n : Int) < a.tmod (n : Int) := by
  rcases Int.le_total 0 a with h0 | h0
  · have := Int.tmod_nonneg (n : Int) h0
    omega
  · have h1 : a = -(-a) := by omega
    rw [h1, Int.neg_tmod]
    have := Int.tmod_lt_of_pos (-a) (b := (n : Int)) (by omega)
    omega
def slen : Value → Nat
  | .slice _ n _ => n
  | _ => 0
/-- The second loop. -/
def LB (W : World) (s n j : Nat) (v8 v9 v10 v15 : Value) (wr : World) : Prop :=
  ∃ σ hd xs, hd.length = n ∧ (∀ x ∈ hd, x.1 ≤ 100 * j ∧ (x.2 = 1 ∨ x.2 = 3)) ∧ xs.length ≤ 100 * j ∧ KSt σ xs hd ∧ RI W wr s σ (v4 v8 v9 v10 v15) (lst hd xs)
theorem LA.shape {W w : World} {s i : Nat} {v8 v9 v10 : Value} (h : LA W s i v8 v9 v10 w) : ∃ a8 c8 a9 c9 a10 c10, v8 = .slice a8 i c8 ∧ v9 = .slice a9 i c9 ∧ v10 = .slice a10 i c10 ∧ LB W s i 0 v8 v9 v10 (.slice none 0 0) w := by
  obtain ⟨σ, hd, rfl, hmd, hK, hR⟩ := h
  have h8 : w.ownsRow _ 3 1 v8 (num (rng hd.length)).length _ := hR.r 0 (by omega)
  have h9 : w.ownsRow _ 3 1 v9 (num (hd.map fun x : Nat × Int => (x.1 : Int))).length _ := hR.r 1 (by omega)
  have h10 : w.ownsRow _ 3 1 v10 (num (hd.map fun x : Nat × Int => x.2)).length _ := hR.r 2 (by omega)
  rw [num_len, rng_len] at h8
  rw [num_len, List.length_map] at h9 h10
  obtain ⟨a8, c8, e8⟩ := row_slice h8
  obtain ⟨a9, c9, e9⟩ := row_slice h9
  obtain ⟨a10, c10, e10⟩ := row_slice h10
  exact ⟨a8, c8, a9, c9, a10, c10, e8, e9, e10, σ, hd, [], rfl, fun x hx => ⟨by have := (hmd x hx).1; omega, (hmd x hx).2⟩, by simp, hK, hR⟩
set_option maxHeartbeats 8000000 in
theorem keeps_walk (HR : HighRunes) (W : World) (ao bo : Option Addr) (mc cc : Nat) (ms : List Int) (cs : List Cl) (hm : Nums W ao ms) (hc : Cls W bo cs) (hml : ms.length ≤ maxLen) (hcl : cs.length ≤ maxLen) :
    Calls Try.prog 4 #[.slice ao ms.length mc, .slice bo cs.length cc] W fun e w' => e = .returned (.bool true) ∧ Kept (fun _ => False) W w' := by
  have HKN := hid_of (known_ok HR W)
  have HM := hid_of hm
  have HC := hid_of hc
  have hml' : (ms.length : Int) ≤ 9223372036854775807 := by unfold maxLen at hml; omega
  have hcl' : (cs.length : Int) ≤ 9223372036854775807 := by unfold maxLen at hcl; omega
  clear hm hc hml hcl
  go_enter Try.func4, Try.ntmps4
  go_wp2_with fail
  refine HKN.out.mono ?_
  rintro e w1 ⟨rfl, hk1⟩
  have HN := hid_of (new_nil 100000 5 60 (by omega) (by omega) (by omega) (by omega) (by omega) w1)
  have HK1 := hid_of hk1
  clear hk1 HKN
  go_wp2_with fail
  refine HN.out.mono ?_
  rintro e w2 ⟨s, fm, dm, hm, rfl, hF2, g1, g2, g3, g4, hk2⟩
  have HO := hid_of (open_x HR hF2)
  have hs1 := HK1.out.size
  have hown : ∀ k, FSt.own ⟨100000, 5, 60, 0, 0, 0, fm, dm, hm, [], [], []⟩ s k → W.heap.size ≤ k := by
    rintro k (rfl | rfl | rfl | rfl | hk | hk)
    · omega
    · exact Nat.le_trans hs1 g2
    · exact Nat.le_trans hs1 g3
    · exact Nat.le_trans hs1 g4
    · cases hk
    · cases hk
  have HK2 := hid_of (HK1.out.trans hk2)
  have HW := hid_of hown
  clear hF2 hown hk2 HN g1 g2 g3 g4 hs1 HK1
  go_wp2_with fail
  refine HO.out.mono ?_
  rintro e w3 ⟨rfl, σ, ⟨hx0, hu0, hK0⟩, hF3, hg3, hk3⟩
  have HCL := hid_of (close_ok hF3 ((0 : Nat) : Int) _ hx0 (by rw [hu0]; decide) (by rw [hu0]; decide))
  have hk03 : Kept (fun _ => False) W w3 := HK2.out.step hk3 (fun k hk e => absurd (HW.out k e) (by omega))
  have ho3 : ∀ q, σ.own s q → W.heap.size ≤ q := fun q hq => by
    rcases hg3 q hq with h | h
    · exact HW.out q h
    · exact Nat.le_trans HK2.out.size h
  have HK3 := hid_of hk03
  have HO3 := hid_of ho3
  have HKS := hid_of hK0
  clear hx0 hu0 hK0 hF3 hg3 hk3 hk03 ho3 HO HK2 HW
  go_wp2_with fail
  refine HCL.out.mono ?_
  rintro e w4 ⟨rfl, hF4, hk4⟩
  have HLA : Hid (LA W s 0 (.slice none 0 0) (.slice none 0 0) (.slice none 0 0) w4) := LA.start (HK3.out.step hk4 (fun k hk e => absurd (HO3.out k e) (by omega))) hF4 (fun q hq => HO3.out q ((own_same rfl rfl rfl rfl rfl q).1 hq)) HKS.out
  clear hF4 hk4 HCL HK3 HO3 HKS
  go_upto_region 12 with fail
  go_cut [11] from 48 to 48 (fun v11 wx => v11 = .int .i64 0 ∧ LA W s 0 (.slice none 0 0) (.slice none 0 0) (.slice none 0 0) wx)
  case first =>
    go_wp2_with fail
    go_meet
    exact ⟨rfl, HLA.out⟩
  case rest =>
    obtain ⟨rfl, hla⟩ := hcut
    have HLB := hid_of hla
    clear hla HLA
    rename_i K1 hK1 K2 hK2
    refine hK2 _ _ ?_
    clear hK2 K2
    go_cut [8, 9, 10, 11, 12, 13, 14] from 48 to 83 (fun v8 v9 v10 _ _ _ _ wx => ∃ i : Nat, i ≤ 20 ∧ LA W s i v8 v9 v10 wx)
    case first =>
      go_wp2_with fail
      go_loopw [8, 9, 10, 11, 12, 13, 14] (fun v8 v9 v10 v11 _ _ _ wr => ∃ i : Nat, i ≤ 20 ∧ (i : Int) ≤ (ms.length : Int) ∧ v11 = .int .i64 i ∧ Hid (LA W s i v8 v9 v10 wr)) (fun _ _ _ i _ _ _ _ => 20 - (intOf i).toNat)
      case atStart => exact ⟨0, by omega, by omega, rfl, HLB⟩
      case round =>
        obtain ⟨i, hi, hil, rfl, HL⟩ := hrel
        by_cases hlt : (i : Int) < (ms.length : Int)
        · by_cases h20 : (i : Int) < 20
          · have hx' : i < ms.length := by omega
            obtain ⟨hx0, hx1, g, o, rfl, hcell⟩ := HM.out i _ (List.getElem?_eq_getElem hx')
            obtain ⟨σ, hd, hdl, hmd, hK, hR⟩ := HL.out
            generalize ms[i] = x at hx0 hx1 hcell
            have hcell' := hR.k.cell hcell (fun f => f)
            have hb := bit_one x hx0 hx1
            obtain ⟨dv, hf⟩ := hK.f
            obtain ⟨m, hm, hm13⟩ : ∃ m : Int, m = 1 + 2 * (x % 2) ∧ (m = 1 ∨ m = 3) := ⟨_, rfl, by omega⟩
            have HOP := hid_of (open_there HR hR.f ⟨#[120]⟩ pX clean_x m m ⟨by omega, by omega, by omega⟩ (by rcases hm13 with h | h <;> subst h <;> decide) (fun V hV => mayopen_there HR (hR.f.same hV) pX (by decide) (by rw [hf]; rfl) m) (by rw [hK.uo, hK.q.2.2]; omega) (by rw [hK.uo]; omega) (by rw [hK.uo]; omega) ⟨pX, pX, dv, []⟩ (by rw [hf]; rfl) hf (by omega) i (by omega) (hK.hn i (by omega)) (fun j hj => hK.some j (by omega)))
            have w1 : IntKind.i64.wrap (2 * (x % 2)) = 2 * (x % 2) := by rw [IntKind.wrap_i64]; omega
            have w2 : IntKind.i64.wrap (1 + 2 * (x % 2)) = m := by rw [IntKind.wrap_i64]; omega
            have HRR := hid_of hR
            have HKK := hid_of hK
            have HMD := hid_of hmd
            have HDL := hid_of hdl
            have HM13 := hid_of hm13
            clear hR hK hmd hf hcell hm hm13 hx0 hx1 hdl
            go_wp2_with fail
            refine HOP.out.mono ?_
            rintro e wo ⟨rfl, σ', ⟨σ, rfl, b1, rfl⟩, hF, hgr, hkp⟩
            have hR1 := HRR.out.fsop hkp hF hgr
            obtain ⟨v8', wA, v9', wB, v10', wC, e1, e2, e3, hR2⟩ := hR1.three (by rw [HDL.out]; omega) m
            rw [HDL.out] at e1
            have hLA : Hid (LA W s (i + 1) v8' v9' v10' wC) := by
              refine ⟨_, hd ++ [(0, m)], by rw [List.length_append, List.length_singleton, HDL.out], fun x hx => ?_, ?_, hR2⟩
              · rcases List.mem_append.1 hx with h | h
                · exact HMD.out x h
                · rw [List.mem_singleton] at h
                  subst h
                  exact ⟨rfl, HM13.out⟩
              · have := HKK.out.opened (by rw [HDL.out]; omega) m b1
                rw [HDL.out] at this
                exact this
            clear hF hgr hkp hR1 hR2 HOP HRR HKK HMD HL hb w1 w2
            have E1 := hid_of e1
            have E2 := hid_of e2
            have E3 := hid_of e3
            clear e1 e2 e3
            go_wp2_with (at_builtin; first | refine wp_app rfl (.tmp 73) (.tmp 75) 44 44 rfl _ _ rfl rfl _ _ E1.out ?_ | refine wp_app rfl (.tmp 77) (.tmp 78) 44 44 rfl _ _ rfl rfl _ _ E2.out ?_ | refine wp_app rfl (.tmp 80) (.tmp 82) 44 44 rfl _ _ rfl rfl _ _ E3.out ?_)
            go_roundw
            case rel => exact ⟨i + 1, by omega, by omega, by go_num, hLA⟩
            case measure => simp [intOf]; omega
          · have hx' : decide ((i : Int) < 20) = false := by simp; omega
            clear h20
            go_wp2_with fail
            go_meet
            exact ⟨i, hi, HL.out⟩
        · have hx' : decide ((i : Int) < (ms.length : Int)) = false := by simp; omega
          have hx2 : ¬ i < ms.length := by omega
          have hx3 : decide (i < ms.length) = false := by simp; omega
          go_wp2_with fail
          go_meet
          exact ⟨i, hi, HL.out⟩
    case rest =>
      obtain ⟨n, hn, hla⟩ := hcut
      obtain ⟨a8, c8, a9, c9, a10, c10, rfl, rfl, rfl, hlb⟩ := hla.shape
      have HLC := hid_of hlb
      clear hla hlb HLB
      refine hK1 _ _ ?_
      clear hK1 K1
      go_upto_region 23 with fail
      go_cut [16] from 84 to 84 (fun v16 wx => v16 = .int .i64 0 ∧ LB W s n 0 (.slice a8 n c8) (.slice a9 n c9) (.slice a10 n c10) (.slice none 0 0) wx)
      case first =>
        go_wp2_with fail
        go_meet
        exact ⟨rfl, HLC.out⟩
      case rest =>
        obtain ⟨rfl, hla⟩ := hcut
        have HLD := hid_of hla
        clear hla HLC
        rename_i K1 hK1 K2 hK2
        refine hK2 _ _ ?_
        clear hK2 K2
        go_cut [4, 15, 16, 17, 18, 19, 20, 21] from 84 to 204 (fun _ v15 _ _ _ _ _ _ wx => ∃ j : Nat, j ≤ 60 ∧ LB W s n j (.slice a8 n c8) (.slice a9 n c9) (.slice a10 n c10) v15 wx)
        case first =>
          go_wp2_with fail
          go_loopw [4, 15, 16, 17, 18, 19, 20, 21] (fun _ v15 v16 _ _ _ _ _ wr => ∃ j : Nat, j ≤ 60 ∧ (j : Int) ≤ (cs.length : Int) ∧ v16 = .int .i64 j ∧ Hid (LB W s n j (.slice a8 n c8) (.slice a9 n c9) (.slice a10 n c10) v15 wr)) (fun _ _ i _ _ _ _ _ _ => 60 - (intOf i).toNat)
          case atStart => exact ⟨0, by omega, by omega, rfl, HLD⟩
          case round =>
            obtain ⟨j, hj, hjl, rfl, HL⟩ := hrel
            by_cases hlt : (j : Int) < (cs.length : Int)
            · by_cases h60 : (j : Int) < 60
              · by_cases hn0 : (0 : Int) < (n : Int)
                · have hj' : j < cs.length := by omega
                  obtain ⟨⟨hh0, hh1, bo', bc, hbv, hbc, hbs⟩, g, o, rfl, hr⟩ := HC.out j _ (List.getElem?_eq_getElem hj')
                  generalize cs[j] = c at hh0 hh1 hbv hbc hbs hr
                  obtain ⟨σ, hd, xs, hdl, hmd, hxl, hK, hR⟩ := HL.out
                  have hr' : wr.rangeAt g (o + j * 3) c.cells := fun t u hu => hR.k.cell (hr t u hu) (fun f => f)
                  have hRB : RB W (wr.alloc (.cells c.cells.toArray 50)) s σ (v4 (.slice a8 n c8) (.slice a9 n c9) (.slice a10 n c10) u15) (lst hd xs) wr.heap.size c := ⟨hR.quiet ((Kept.refl _ _).alloc _), alloc_new _ _ rfl, fun e => absurd (hR.f.lt e) (by omega)⟩
                  have hi50 : (Try.prog.info? 50).map (·.size) = some c.cells.length := i50
                  have hi50' : (Try.prog.info? 50).map (·.size) = some c.cells.toArray.size := i50
                  have hone : c.cells.toArray.all (·.oneCell') = true := Cl.one hbv
                  have HR' := hid_of hr'
                  have HRB := hid_of hRB
                  have HST := hid_of (And.intro hdl (And.intro hmd (And.intro hxl hK)))
                  have HCO := hid_of (And.intro hh0 (And.intro hh1 (And.intro hbv (And.intro hbc hbs))))
                  clear hr hr' hRB hdl hmd hxl hK hR HL hh0 hh1 hbv hbc hbs
                  go_upto_region 27 with (first | (refine wpList_load_mid rfl 50 _ rfl g (o + j * 3) rfl c.cells _ HR'.out Try.underlying50 rfl hi50 ?_) | (refine wpList_store_row rfl 50 _ _ rfl wr.heap.size c.cells.toArray rfl rfl 50 _ (alloc_new _ _ rfl) hi50' rfl hone ?_; rw [setRow_new _ _ _ _ rfl]))
                  generalize wr.alloc (Obj.cells c.cells.toArray 50) = wB at *
                  generalize wr.heap.size = q at *
                  have hq0 : wB.cell? ⟨q, 0, none⟩ = some (.int .i64 c.h) := (cell_block _ _ 0 _ _ _ HRB.out.bx).trans rfl
                  have hq1 : wB.cell? ⟨q, 1, none⟩ = some (.slice bo' c.ys.length bc) := (cell_block _ _ 1 _ _ _ HRB.out.bx).trans (by rw [Cl.cells, HCO.out.2.2.1]; rfl)
                  have hq2 : wB.cell? ⟨q, 2, none⟩ = some (.bool c.cut) := (cell_block _ _ 2 _ _ _ HRB.out.bx).trans rfl
                  clear hi50 hi50' hone HR'
                  by_cases hbig : (100 : Int) < (c.ys.length : Int)
                  · have hLB : Hid (LB W s n (j + 1) (.slice a8 n c8) (.slice a9 n c9) (.slice a10 n c10) u15 wB) := ⟨σ, hd, xs, HST.out.1, fun x hx => ⟨by have := (HST.out.2.1 x hx).1; omega, (HST.out.2.1 x hx).2⟩, by have := HST.out.2.2.1; omega, HST.out.2.2.2, HRB.out.toRI⟩
                    clear HRB HST HCO
                    go_wp2_with fail
                    go_roundw
                    case rel => exact ⟨j + 1, by omega, by omega, by go_num, hLB⟩
                    case measure => simp [intOf]; omega
                  · have hbig' : decide ((100 : Int) < (c.ys.length : Int)) = false := by simp; omega
                    go_upto_if 108 with fail
                    go_cut [15, 18, 19] from 107 to 121 (fun v15 _ _ wx => ∃ σ xs, xs.length ≤ 100 * j ∧ KSt σ xs hd ∧ RB W wx s σ (v4 (.slice a8 n c8) (.slice a9 n c9) (.slice a10 n c10) v15) (lst hd xs) q c)
                    case first =>
                      obtain ⟨hdl, hmd, hxl, hK⟩ := HST.out
                      cases hct : c.cut with
                      | true =>
                        obtain ⟨dv, hf⟩ := hK.f
                        have HOP := hid_of (open_cut HR HRB.out.f ⟨#[120]⟩ pX clean_x 6 2 (by decide) (by decide) (fun V hV => mayopen_there HR (HRB.out.f.same hV) pX (by decide) (by rw [hf]; rfl) 6) (by rw [hK.uo, hK.q.2.2]; omega) (by rw [hK.uo]; omega) (by rw [hK.uo]; omega) ⟨pX, pX, dv, xs⟩ (by rw [hf]; rfl) hf rfl (by rw [hK.ub]; omega) (by rw [hK.ub]; omega) n (by omega) (hK.hn n (by omega)) (fun j hj => hK.some j (by omega)))
                        have HKK := hid_of hK
                        have HDL := hid_of hdl
                        clear hK hf hmd hq0 hq1 hdl
                        rw [hct] at hq2
                        go_wp2_with fail
                        refine HOP.out.mono ?_
                        rintro e wo ⟨rfl, σ', ⟨σ, rfl, b, b2, rfl⟩, hF, hgr, hkp⟩
                        have hR1 := HRB.out.fsop hkp hF hgr
                        have hlk : look (withH (cutF σ pX ⟨pX, pX, dv, xs⟩ b2) n pX 2 b).hs (n : Int) = some ⟨pX, 0, 2⟩ := by
                          show look (lays σ.hs (n : Int) ⟨pX, 0, 2⟩ b) (n : Int) = _
                          rw [look_lays, if_pos rfl]
                        have huo : (withH (cutF σ pX ⟨pX, pX, dv, xs⟩ b2) n pX 2 b).uo = (n : Int) + 1 := by
                          show σ.uo + 1 = _
                          rw [HKK.out.uo, HDL.out]
                        have HCL := hid_of (close_ok hF (n : Int) _ hlk (by rw [huo]; omega) (by rw [huo]; omega))
                        have HR1 := hid_of hR1
                        clear hF hgr hkp hR1 hlk huo HOP
                        go_wp2_with fail
                        refine HCL.out.mono ?_
                        rintro e wo2 ⟨rfl, hF2, hk2⟩
                        have hR2 := HR1.out.fsop hk2 hF2 (grows_hs rfl rfl rfl rfl rfl)
                        have hR3 := hR2.push 3 (by omega) (V := v4 (.slice a8 n c8) (.slice a9 n c9) (.slice a10 n c10) (.slice none 0 0)) (L := lst hd []) (Kept.refl _ wo2) (World.ownsRow_nil _ _ _ _) (fun g hg => by cases hg) (fun j hj hji => by
                          match j, hj, hji with
                          | 0, _, _ => rfl
                          | 1, _, _ => rfl
                          | 2, _, _ => rfl
                          | 3, _, h => exact absurd rfl h) (fun j hj hji => by
                          match j, hj, hji with
                          | 0, _, _ => rfl
                          | 1, _, _ => rfl
                          | 2, _, _ => rfl
                          | 3, _, h => exact absurd rfl h)
                        have hK3 := HKK.out.cut dv b b2
                        rw [HDL.out] at hK3
                        have HE := hid_of (And.intro hK3 hR3)
                        clear hF2 hk2 hR2 hR3 hK3 HCL HR1
                        go_wp2_with fail
                        go_meet
                        exact ⟨_, [], by simp, HE.out.1, HE.out.2⟩
                      | false =>
                        rw [hct] at hq2
                        have HKK := hid_of hK
                        clear hK hmd hdl
                        go_wp2_with fail
                        go_meet
                        exact ⟨σ, xs, hxl, HKK.out, HRB.out⟩
                    case rest =>
                      obtain ⟨σ, xs, hxl, hK, hR⟩ := hcut
                      clear hq0 hq1 hq2
                      generalize wc = wD at *
                      have HX := hid_of (And.intro hxl hK)
                      have HRC := hid_of hR
                      have hq0 : wD.cell? ⟨q, 0, none⟩ = some (.int .i64 c.h) := (cell_block _ _ 0 _ _ _ hR.bx).trans rfl
                      have hq1 : wD.cell? ⟨q, 1, none⟩ = some (.slice bo' c.ys.length bc) := (cell_block _ _ 1 _ _ _ hR.bx).trans (by rw [Cl.cells, HCO.out.2.2.1]; rfl)
                      have hnz : (n : Int) ≠ 0 := by omega
                      have hnz' : ((n : Int) == 0) = false := by simp; omega
                      obtain ⟨r, hrr⟩ : ∃ r, r = c.h.tmod (n : Int) := ⟨_, rfl⟩
                      have hr1 : r < (n : Int) := by rw [hrr]; exact Int.tmod_lt_of_pos _ (by omega)
                      have hr0 : -(n : Int) < r := by rw [hrr]; exact tmod_gt c.h n (by omega)
                      have wr1 : IntKind.i64.wrap r = r := by rw [IntKind.wrap_i64]; omega
                      have hrr' := hrr.symm
                      clear hxl hK hR HRB hrr
                      rename_i K2 hK2
                      refine hK2 _ _ ?_
                      clear hK2 K2
                      go_upto_if 128 with fail
                      go_cut [20] from 127 to 132 (fun v20 wx => ∃ a : Nat, a < n ∧ v20 = .int .i64 a ∧ wD = wx)
                      case first =>
                        by_cases hneg : r < 0
                        · have wr2 : IntKind.i64.wrap (r + (n : Int)) = r + (n : Int) := by rw [IntKind.wrap_i64]; omega
                          go_wp2_with fail
                          go_meet
                          exact ⟨(r + (n : Int)).toNat, by omega, by rw [Int.toNat_of_nonneg (by omega)], rfl⟩
                        · have hneg' : decide (r < 0) = false := by simp; omega
                          go_wp2_with fail
                          go_meet
                          exact ⟨r.toNat, by omega, by rw [Int.toNat_of_nonneg (by omega)], rfl⟩
                      case rest =>
                        obtain ⟨a, ha, rfl, rfl⟩ := hcut
                        clear hr1 hr0 wr1 hrr'
                        rename_i K2 hK2
                        refine hK2 _ _ ?_
                        clear hK2 K2
                        obtain ⟨x, hx⟩ : ∃ x, hd[a]? = some x := ⟨_, List.getElem?_eq_getElem (by rw [HST.out.1]; exact ha)⟩
                        have hxm := HST.out.2.1 x (List.mem_of_getElem? hx)
                        have hrh := HRC.out.rowH
                        rw [HST.out.1] at hrh
                        obtain ⟨g8, rfl⟩ := row_at hrh (by omega)
                        have hkd : Kept (fun k => σ.own s k) wD wD.drew := (Kept.refl _ _).drew
                        have hkf : Kept (fun _ => False) wD wD.drew := (Kept.refl _ _).drew
                        have HS : Hid (∀ w', Kept (fun k => σ.own s k) wD w' → w'.cell? ⟨g8, a, none⟩ = some (.int .i64 a) ∧ w'.cell? ⟨q, 1, none⟩ = some (.slice bo' c.ys.length bc)) := fun w' hw' => by
                          refine ⟨?_, hw'.cell hq1 HRC.out.bo⟩
                          rw [(hw'.ownsRow hrh (fun g hg e => HRC.out.na 0 (by omega) g hg e)).cellAt a (by omega)]
                          exact num_at (rng_at ha)
                        have hap : ∀ p, c.ys ≠ [] → bo' = some p → ¬ σ.own s p.block := fun p hp he ho => by
                          have hl' : 0 < (ints c.ys).length := by rw [ints_len]; exact List.length_pos_iff.2 hp
                          obtain ⟨g', o', he', hcell⟩ := HCO.out.2.2.2.2 0 _ (List.getElem?_eq_getElem hl')
                          rw [he] at he'
                          cases he'
                          have h1 := World.block_lt_of_cell? _ _ hcell
                          have h2 := HRC.out.o _ ho
                          simp only at h1 h2
                          omega
                        have HWR := hid_of (write_any (HRC.out.f.same hkf) HX.out.2 a x hx hxm.2 c.ys bo' bc HCO.out.2.2.2.1 (by have := hxm.1; omega) (by have := HX.out.1; omega) (fun j u hu => by
                          obtain ⟨g', o', he, hcell⟩ := HCO.out.2.2.2.2 j u hu
                          exact ⟨g', o', he, hkf.cell (HRC.out.k.cell hcell (fun f => f)) (fun f => f)⟩) hap)
                        have han : (a : Int) < (n : Int) := by omega
                        have HXX := hid_of (And.intro hx hxm)
                        clear hrh hap hx hxm hq0 hq1
                        go_upto_region 36 with fail
                        refine wp_region_held_drew (S := fun w' => Kept (fun k => σ.own s k) wD w') (by kernel_rfl) hkd (fun hHeld => ?_)
                        iterate 7
                          refine tkn (v := ?_) 0 rfl ?_ ?_; rotate_left 1
                          · intro w hSw; obtain ⟨s1, s2⟩ := HS.out w hSw; go_simp; try with_reducible rfl
                          try simp only [Act.put, tdy]
                        refine wpAnyH_ready (rs := [7]) (by kernel_rfl) (by simp) ?_
                        refine AllReadyH.cons rfl (fun K hK => ?_) AllReadyH.nil
                        go_simp
                        refine (HWR.out).mono ?_
                        rintro e wE ⟨rfl, σ2, hK2, hF2, hg2, hk2⟩
                        have hkE : Kept (fun k => σ.own s k) wD wE := hkd.trans hk2
                        have HRE := hid_of (HRC.out.fsop hkE hF2 hg2)
                        have HKE := hid_of hK2
                        clear hK2 hF2 hg2 hk2
                        refine hK.out _ _ hkE (fun hHeld => ?_)
                        clear hK K
                        try simp only [Act.put, tdy]
                        iterate 1
                          refine tkn (v := ?_) 8 rfl ?_ ?_; rotate_left 1
                          · intro w hSw; go_simp; try with_reducible rfl
                          try simp only [Act.put, tdy]
                        refine wpAnyH_done (by kernel_rfl) ?_ _
                        clear hHeld HWR HS hkd hkf hkE
                        have hq1 : wE.cell? ⟨q, 1, none⟩ = some (.slice bo' c.ys.length bc) := (cell_block _ _ 1 _ _ _ HRE.out.bx).trans (by rw [Cl.cells, HCO.out.2.2.1]; rfl)
                        go_upto_if 145 with fail
                        go_cut [15, 21] from 142 to 200 (fun v15 _ wx => RB W wx s σ2 (v4 (.slice (some ⟨g8, 0, none⟩) n c8) (.slice a9 n c9) (.slice a10 n c10) v15) (lst (after xs hd a x c.ys).2 (after xs hd a x c.ys).1) q c)
                        case first =>
                          by_cases hy0 : c.ys = []
                          · have hl0 : decide ((0 : Int) < (c.ys.length : Int)) = false := by rw [hy0]; rfl
                            have hl0' : ¬ 0 < c.ys.length := by rw [hy0]; decide
                            have HE := hid_of HRE.out
                            have HEQ : Hid (after xs hd a x c.ys = (xs, hd)) := by
                              show _ = _
                              rw [after, if_pos hy0]
                            clear hy0
                            go_wp2_with fail
                            go_meet
                            rw [HEQ.out]
                            exact HE.out
                          · have hl1 : (0 : Int) < (c.ys.length : Int) := by have := List.length_pos_iff.2 hy0; omega
                            obtain ⟨a15, c15, rfl⟩ := row_slice HRE.out.toRI.rowW
                            have hrp := own_n HRE.out.toRI.rowP HST.out.1
                            have hrm := own_n HRE.out.toRI.rowM HST.out.1
                            obtain ⟨g9, rfl⟩ := row_at hrp (by omega)
                            obtain ⟨g10, rfl⟩ := row_at hrm (by omega)
                            have hc9 : wE.cell? ⟨g9, a, none⟩ = some (.int .i64 x.1) := (hrp.cellAt a (by omega)).trans (num_at (by rw [List.getElem?_map, HXX.out.1]; rfl))
                            have hf9 : wE.frozen? ⟨g9, a, none⟩ = false := hrp.frozenAt a
                            have hc10 : wE.cell? ⟨g10, a, none⟩ = some (.int .i64 x.2) := (hrm.cellAt a (by omega)).trans (num_at (by rw [List.getElem?_map, HXX.out.1]; rfl))
                            have HY0 := hid_of hy0
                            clear hrp hrm hy0
                            obtain ⟨tg, htg⟩ : ∃ t, t = tgOf x xs.length := ⟨_, rfl⟩
                            have HTG := hid_of htg
                            have HEQ : Hid (after xs hd a x c.ys = (layB xs tg c.ys, hd.set a (tg + c.ys.length, x.2))) := by
                              show _ = _
                              rw [after, if_neg HY0.out, htg]
                            clear htg
                            go_upto_if 150 with fail
                            go_cut [21] from 142 to 155 (fun _ wx => RB W wx s σ2 (v4 (.slice (some ⟨g8, 0, none⟩) n c8) (.slice (some ⟨g9, 0, none⟩) n c9) (.slice (some ⟨g10, 0, none⟩) n c10) (.slice a15 xs.length c15)) (lst (hd.set a (tg, x.2)) xs) q c)
                            case first =>
                              by_cases h3 : x.2 = 3
                              · have h3' : (x.2 == 3) = true := by simp [h3]
                                have HE := hid_of (HRE.out.place HST.out.1 a x HXX.out.1 xs.length)
                                have htg3 : tg = xs.length := by rw [HTG.out, tgOf, if_pos h3]
                                have HT3 := hid_of htg3
                                clear htg3
                                go_wp2_with fail
                                go_meet
                                rw [HT3.out]
                                exact HE.out
                              · have h3' : (x.2 == 3) = false := by simp [h3]
                                have HE := hid_of HRE.out
                                have htg3 : tg = x.1 := by rw [HTG.out, tgOf, if_neg h3]
                                have hset : hd.set a (tg, x.2) = hd := by
                                  rw [htg3]
                                  apply List.ext_getElem?
                                  intro i
                                  rw [List.getElem?_set]
                                  split
                                  · rename_i hi
                                    subst hi
                                    rw [HXX.out.1, if_pos (by rw [HST.out.1]; exact ha)]
                                  · rfl
                                have HSE := hid_of hset
                                clear htg3 hset
                                go_wp2_with fail
                                go_meet
                                rw [HSE.out]
                                exact HE.out
                            case rest =>
                              have HRG := hid_of hcut
                              clear hcut hc9 hf9 hc10 hq1
                              rename_i K2 hK2
                              refine hK2 _ _ ?_
                              clear hK2 K2
                              have htgl : tg ≤ 100 * j := by
                                have := HXX.out.2.1
                                have := HX.out.1
                                rw [HTG.out, tgOf]
                                split <;> omega
                              go_upto_region 41 with fail
                              go_loopw [15] (fun v15 wr => ∃ k a15 c15, xs.length + k ≤ max xs.length (tg + c.ys.length) ∧ v15 = .slice a15 (xs.length + k) c15 ∧ Hid (RB W wr s σ2 (v4 (.slice (some ⟨g8, 0, none⟩) n c8) (.slice (some ⟨g9, 0, none⟩) n c9) (.slice (some ⟨g10, 0, none⟩) n c10) (.slice a15 (xs.length + k) c15)) (lst (hd.set a (tg, x.2)) (xs ++ List.replicate k 0)) q c)) (fun v _ => (tg + c.ys.length) - slen v)
                              case atStart => exact ⟨0, a15, c15, by omega, rfl, by rw [List.replicate_zero, List.append_nil]; exact HRG⟩
                              case round =>
                                obtain ⟨k, a15, c15, hk, rfl, HRK⟩ := hrel
                                have hrp := own_n (m := n) HRK.out.toRI.rowP (by rw [List.length_set]; exact HST.out.1)
                                have HS41 : Hid (∀ w', Kept (fun _ => False) wr w' → w'.cell? ⟨g9, a, none⟩ = some (.int .i64 tg) ∧ w'.cell? ⟨q, 1, none⟩ = some (.slice bo' c.ys.length bc)) := fun w' hw' => by
                                  refine ⟨hw'.cell ((hrp.cellAt a (by omega)).trans (num_at (by rw [List.getElem?_map, List.getElem?_set_self (by rw [HST.out.1]; exact ha)]; rfl))) (fun f => f), hw'.cell ((cell_block _ _ 1 _ _ _ HRK.out.bx).trans (by rw [Cl.cells, HCO.out.2.2.1]; rfl)) (fun f => f)⟩
                                have wt : IntKind.i64.wrap ((tg : Int) + (c.ys.length : Int)) = (tg : Int) + (c.ys.length : Int) := by rw [IntKind.wrap_i64]; omega
                                have hkd : Kept (fun _ => False) wr wr.drew := (Kept.refl _ _).drew
                                clear hrp
                                go_upto_region 41 with fail
                                refine wp_region_held_drew (S := fun w' => Kept (fun _ => False) wr w') (by kernel_rfl) hkd (fun hHeld => ?_)
                                iterate 11
                                  refine tkn (v := ?_) 0 rfl ?_ ?_; rotate_left 1
                                  · intro w hSw; obtain ⟨s1, s2⟩ := HS41.out w hSw; go_simp; try with_reducible rfl
                                  try simp only [Act.put, tdy]
                                refine wpAnyH_done (by kernel_rfl) ?_ _
                                clear hHeld HS41
                                have HRL := hid_of (HRK.out.quiet hkd)
                                clear hkd HRK
                                by_cases hlt : ((xs.length + k : Nat) : Int) < (tg : Int) + (c.ys.length : Int)
                                · obtain ⟨v', w', e1, hR1⟩ := HRL.out.more (by rw [List.length_append, List.length_replicate]; have := HX.out.1; omega) 0
                                  obtain ⟨a16, c16, rfl⟩ := row_slice hR1.toRI.rowW
                                  have hlen : (xs ++ List.replicate k 0 ++ [0]).length = xs.length + (k + 1) := by simp
                                  rw [hlen] at e1 hR1
                                  rw [List.append_assoc, ← List.replicate_succ'] at hR1
                                  have E1 := hid_of e1
                                  have HR1 := hid_of hR1
                                  clear e1 hR1 hlen HRL
                                  go_wp2_with (at_builtin; refine wp_app rfl (.tmp 167) (.tmp 168) 33 33 rfl _ _ rfl rfl _ _ E1.out ?_)
                                  go_roundw
                                  case rel => exact ⟨k + 1, a16, c16, by omega, rfl, HR1⟩
                                  case measure => simp [slen]; omega
                                · have hlf : decide (((xs.length + k : Nat) : Int) < (tg : Int) + (c.ys.length : Int)) = false := by simp; omega
                                  have hkm : xs.length + k = max xs.length (tg + c.ys.length) := by omega
                                  obtain ⟨L, hL⟩ : ∃ L, L = xs.length + k := ⟨_, rfl⟩
                                  have hLt : tg + c.ys.length ≤ L := by omega
                                  have HEN := hid_of (layK_end xs c.ys tg k hkm)
                                  obtain ⟨zs, hzs⟩ : ∃ z, z = xs ++ List.replicate k 0 := ⟨_, rfl⟩
                                  have hzl : zs.length = L := by rw [hzs, List.length_append, List.length_replicate, hL]
                                  rw [← hzs] at HEN
                                  have HRM : Hid (RB W wr.drew s σ2 (v4 (.slice (some ⟨g8, 0, none⟩) n c8) (.slice (some ⟨g9, 0, none⟩) n c9) (.slice (some ⟨g10, 0, none⟩) n c10) (.slice a15 L c15)) (lst (hd.set a (tg, x.2)) zs) q c) := by rw [hzs, hL]; exact HRL
                                  obtain ⟨g15, rfl⟩ := row_at HRM.out.toRI.rowW (by omega)
                                  rw [← hL] at hlf ⊢
                                  have hge1 : ¬ (L : Int) < (tg : Int) + (c.ys.length : Int) := by omega
                                  have hge2 : ¬ (xs.length : Int) + (k : Int) < (tg : Int) + (c.ys.length : Int) := by omega
                                  have hge3 : decide ((xs.length : Int) + (k : Int) < (tg : Int) + (c.ys.length : Int)) = false := by simp; omega
                                  have HKM := hid_of hkm
                                  clear hlt hkm hk HRL hL hzs
                                  go_wp2_with fail
                                  go_loopw [21] (fun v21 wr => ∃ kk : Nat, kk ≤ c.ys.length ∧ v21 = .int .i64 kk ∧ Hid (RB W wr s σ2 (v4 (.slice (some ⟨g8, 0, none⟩) n c8) (.slice (some ⟨g9, 0, none⟩) n c9) (.slice (some ⟨g10, 0, none⟩) n c10) (.slice (some ⟨g15, 0, none⟩) L c15)) (lst (hd.set a (tg, x.2)) (layK zs c.ys tg kk)) q c)) (fun v _ => c.ys.length - (intOf v).toNat)
                                  case atStart => exact ⟨0, by omega, rfl, by rw [layK_zero]; exact HRM⟩
                                  case round =>
                                    obtain ⟨kk, hkk, rfl, HRN⟩ := hrel
                                    have hq1 : wr.cell? ⟨q, 1, none⟩ = some (.slice bo' c.ys.length bc) := (cell_block _ _ 1 _ _ _ HRN.out.bx).trans (by rw [Cl.cells, HCO.out.2.2.1]; rfl)
                                    by_cases hlt : (kk : Int) < (c.ys.length : Int)
                                    · have hk1 : kk < c.ys.length := by omega
                                      obtain ⟨b, hb⟩ : ∃ b, c.ys[kk]? = some b := ⟨_, List.getElem?_eq_getElem hk1⟩
                                      obtain ⟨gB, oB, rfl, hcB⟩ := HCO.out.2.2.2.2 kk (.int .u8 b) (by rw [ints, List.getElem?_map, hb]; rfl)
                                      have hgB : gB < W.heap.size := World.block_lt_of_cell? _ _ hcB
                                      have hcB' := HRN.out.k.cell hcB (fun f => f)
                                      have hLl : (layK zs c.ys tg kk).length = L := by rw [layK_len _ _ _ _ (by omega) (by omega)]; exact hzl
                                      have hrw := own_n HRN.out.toRI.rowW hLl
                                      have hrp := own_n (m := n) HRN.out.toRI.rowP (by rw [List.length_set]; exact HST.out.1)
                                      have hg15 := (hrw.lt g15 rfl).1
                                      have n9 : g9 ≠ g15 := fun e => HRN.out.ne 3 (by omega) 1 (by omega) (by decide) g15 rfl (by rw [← e]; rfl)
                                      have nq : q ≠ g15 := fun e => row_box (by decide) HRN.out.bx hrw (by rw [e]; rfl)
                                      have HS46 : Hid (∀ w', Kept (fun k => k = g15) wr w' → w'.cell? ⟨g9, a, none⟩ = some (.int .i64 tg) ∧ w'.cell? ⟨q, 1, none⟩ = some (.slice (some ⟨gB, oB, none⟩) c.ys.length bc) ∧ w'.cell? ⟨gB, oB + kk, none⟩ = some (.int .u8 b)) := fun w' hw' => by
                                        refine ⟨hw'.cell ((hrp.cellAt a (by omega)).trans (num_at (by rw [List.getElem?_map, List.getElem?_set_self (by rw [HST.out.1]; exact ha)]; rfl))) n9, hw'.cell hq1 nq, hw'.cell hcB' (fun e => ?_)⟩
                                        simp only at e
                                        omega
                                      have hkd : Kept (fun k => k = g15) wr wr.drew := (Kept.refl _ _).drew
                                      have hrd : wr.drew.ownsRow W.heap.size 5 1 (.slice (some ⟨g15, 0, none⟩) L c15) L (ints (layK zs c.ys tg kk)) := (show Kept (fun _ => False) wr wr.drew from (Kept.refl _ _).drew).ownsRow hrw (fun _ _ f => f)
                                      obtain ⟨p, hp⟩ : ∃ p, p = tg + kk := ⟨_, rfl⟩
                                      obtain ⟨u, hu⟩ : ∃ u, wr.drew.cell? ⟨g15, p, none⟩ = some u := ⟨_, (hrd.cellAt p (by omega)).trans (List.getElem?_eq_getElem (by rw [ints_len, hLl]; omega))⟩
                                      have hfz : wr.drew.frozen? ⟨g15, p, none⟩ = false := hrd.frozenAt _
                                      have wt2 : IntKind.i64.wrap ((tg : Int) + (kk : Int)) = (p : Int) := by rw [IntKind.wrap_i64]; omega
                                      have hbd : (p : Int) < (L : Int) := by omega
                                      have HRO : Hid (RB W (wr.drew.setCell ⟨g15, p, none⟩ (.int .u8 b)) s σ2 (v4 (.slice (some ⟨g8, 0, none⟩) n c8) (.slice (some ⟨g9, 0, none⟩) n c9) (.slice (some ⟨g10, 0, none⟩) n c10) (.slice (some ⟨g15, 0, none⟩) L c15)) (lst (hd.set a (tg, x.2)) (layK zs c.ys tg (kk + 1))) q c) := by
                                        have h := (HRN.out.quiet (show Kept (fun _ => False) wr wr.drew from (Kept.refl _ _).drew)).byte hLl p b
                                        rw [hp, layK_step _ _ _ _ _ (by omega) hb, ← hp] at h
                                        exact h
                                      have HKS : Hid (Kept (fun k => k = g15) wr (wr.drew.setCell ⟨g15, p, none⟩ (.int .u8 b))) := hkd.trans (kept_set _ ⟨g15, p, none⟩ _)
                                      clear hp
                                      clear hrw hrp hrd hcB hcB' hb hLl HRN
                                      go_upto_region 46 with fail
                                      refine wp_region_held_drew (S := fun w' => Kept (fun k => k = g15) wr w') (by kernel_rfl) hkd (fun hHeld => ?_)
                                      iterate 13
                                        refine tkn (v := ?_) 0 rfl ?_ ?_; rotate_left 1
                                        · intro w hSw; obtain ⟨s1, s2, s3⟩ := HS46.out w hSw; go_simp; try with_reducible rfl
                                        try simp only [Act.put, tdy]
                                      refine wpAnyH_ready (rs := [13]) (by kernel_rfl) (by simp) ?_
                                      refine AllReadyH.cons rfl (fun K hK => ?_) AllReadyH.nil
                                      go_simp
                                      refine hK.out _ _ HKS.out (fun hHeld => ?_)
                                      clear hK K
                                      try simp only [Act.put, tdy]
                                      refine wpAnyH_done (by kernel_rfl) ?_ _
                                      clear hHeld HS46 hkd hu hfz HKS
                                      go_wp2_with fail
                                      go_roundw
                                      case rel => exact ⟨kk + 1, by omega, by go_num, HRO⟩
                                      case measure => simp [intOf]; omega
                                    · have hlf2 : decide ((kk : Int) < (c.ys.length : Int)) = false := by simp; omega
                                      have hkl : kk = c.ys.length := by omega
                                      have hrp := own_n (m := n) HRN.out.toRI.rowP (by rw [List.length_set]; exact HST.out.1)
                                      have nq : q ≠ g9 := fun e => row_box (by decide) HRN.out.bx hrp (by rw [e]; rfl)
                                      have hfk : Kept (fun _ => False) wr wr.drew := (Kept.refl _ _).drew
                                      have HS47 : Hid (∀ w', Kept (fun k => k = g9) wr w' → w'.cell? ⟨q, 1, none⟩ = some (.slice bo' c.ys.length bc)) := fun w' hw' => hw'.cell hq1 nq
                                      have c9d : wr.drew.cell? ⟨g9, a, none⟩ = some (.int .i64 tg) := hfk.cell ((hrp.cellAt a (by omega)).trans (num_at (by rw [List.getElem?_map, List.getElem?_set_self (by rw [HST.out.1]; exact ha)]; rfl))) (fun f => f)
                                      have f9d : wr.drew.frozen? ⟨g9, a, none⟩ = false := (hfk.ownsRow hrp (fun _ _ f => f)).frozenAt a
                                      have HRZ : Hid (RB W (wr.drew.setCell ⟨g9, a, none⟩ (.int .i64 ((tg : Int) + (c.ys.length : Int)))) s σ2 (v4 (.slice (some ⟨g8, 0, none⟩) n c8) (.slice (some ⟨g9, 0, none⟩) n c9) (.slice (some ⟨g10, 0, none⟩) n c10) (.slice (some ⟨g15, 0, none⟩) L c15)) (lst (after xs hd a x c.ys).2 (after xs hd a x c.ys).1) q c) := by
                                        have h := (HRN.out.quiet hfk).place (by rw [List.length_set]; exact HST.out.1) a (tg, x.2) (List.getElem?_set_self (by rw [HST.out.1]; exact ha)) (tg + c.ys.length)
                                        rw [List.set_set, hkl, HEN.out, show ((tg + c.ys.length : Nat) : Int) = (tg : Int) + (c.ys.length : Int) by omega] at h
                                        rw [HEQ.out]
                                        exact h
                                      have hkd9 : Kept (fun k => k = g9) wr wr.drew := (Kept.refl _ _).drew
                                      have HKS9 : Hid (Kept (fun k => k = g9) wr (wr.drew.setCell ⟨g9, a, none⟩ (.int .i64 ((tg : Int) + (c.ys.length : Int))))) := hkd9.trans (kept_set _ ⟨g9, a, none⟩ _)
                                      clear hrp HRN hkl
                                      go_upto_region 47 with fail
                                      refine wp_region_held_drew (S := fun w' => Kept (fun k => k = g9) wr w') (by kernel_rfl) hkd9 (fun hHeld => ?_)
                                      iterate 5
                                        refine tkn (v := ?_) 0 rfl ?_ ?_; rotate_left 1
                                        · intro w hSw; have s1 := HS47.out w hSw; go_simp; try with_reducible rfl
                                        try simp only [Act.put, tdy]
                                      iterate 3
                                        refine tkn (v := ?_) 6 rfl ?_ ?_; rotate_left 1
                                        · intro w hSw; have s1 := HS47.out w hSw; go_simp; try with_reducible rfl
                                        try simp only [Act.put, tdy]
                                      refine wpAnyH_ready (rs := [5]) (by kernel_rfl) (by simp) ?_
                                      refine AllReadyH.cons rfl (fun K hK => ?_) AllReadyH.nil
                                      go_simp
                                      refine hK.out _ _ hkd9 (fun hHeld => ?_)
                                      clear hK K
                                      try simp only [Act.put, tdy]
                                      iterate 2
                                        refine tkn (v := ?_) 9 rfl ?_ ?_; rotate_left 1
                                        · intro w hSw; have s1 := HS47.out w hSw; go_simp; try with_reducible rfl
                                        try simp only [Act.put, tdy]
                                      refine wpAnyH_ready (rs := [11]) (by kernel_rfl) (by simp) ?_
                                      refine AllReadyH.cons rfl (fun K hK => ?_) AllReadyH.nil
                                      go_simp
                                      refine hK.out _ _ HKS9.out (fun hHeld => ?_)
                                      clear hK K
                                      try simp only [Act.put, tdy]
                                      refine wpAnyH_done (by kernel_rfl) ?_ _
                                      clear hHeld HS47 hkd9 hfk c9d f9d HKS9
                                      go_wp2_with fail
                                      go_meet
                                      exact HRZ.out
                        case rest =>
                          have HRF := hid_of hcut
                          have HAO := hid_of (after_ok (B := 100 * j) HXX.out.1 HST.out.2.1 HX.out.1 (ys := c.ys) (by omega))
                          have HRD := hid_of (reads_ok HR hcut.f HKE.out u15 (by
                            have := hcut.toRI.rowW
                            exact ⟨this.1, this.2.imp id (fun ⟨g, c, cu, h1, _, h⟩ => ⟨g, c, cu, h1, Nat.zero_le _, h⟩)⟩) (hcut.na 3 (by omega)))
                          clear hcut hq1 HRE
                          rename_i K2 hK2
                          refine hK2 _ _ ?_
                          clear hK2 K2
                          go_wp2_with fail
                          refine HRD.out.mono ?_
                          rintro e w5 ⟨rfl, hF5, hk5⟩
                          have hLB : Hid (LB W s n (j + 1) (.slice (some ⟨g8, 0, none⟩) n c8) (.slice a9 n c9) (.slice a10 n c10) u15 w5) := ⟨σ2, _, _, HAO.out.1.trans HST.out.1, fun y hy => ⟨by have := (HAO.out.2.1 y hy).1; omega, (HAO.out.2.1 y hy).2⟩, by have := HAO.out.2.2; omega, HKE.out, HRF.out.toRI.fsop hk5 hF5 (Grows.refl _ _ _)⟩
                          clear hF5 hk5 HRD HRF HAO HKE HST HX HXX HCO
                          go_wp2_with fail
                          go_roundw
                          case rel => exact ⟨j + 1, by omega, by omega, by go_num, hLB⟩
                          case measure => simp [intOf]; omega
                · have hz1 : decide ((0 : Int) < (n : Int)) = false := by simp; omega
                  have hz2 : ¬ 0 < n := by omega
                  have hz3 : decide (0 < n) = false := by simp; omega
                  go_wp2_with fail
                  go_meet
                  exact ⟨j, hj, HL.out⟩
              · have hz1 : decide ((j : Int) < 60) = false := by simp; omega
                go_wp2_with fail
                go_meet
                exact ⟨j, hj, HL.out⟩
            · have hz1 : decide ((j : Int) < (cs.length : Int)) = false := by simp; omega
              have hz2 : ¬ j < cs.length := by omega
              have hz3 : decide (j < cs.length) = false := by simp; omega
              go_wp2_with fail
              go_meet
              exact ⟨j, hj, HL.out⟩
        case rest =>
          obtain ⟨j, hj, σ, hd, xs, hdl, hmd, hxl, hK, hR⟩ := hcut
          refine hK1 _ _ ?_
          clear hK1 K1
          obtain ⟨a15, c15, hv⟩ := row_slice (hR.r 3 (by omega))
          have HRD := hid_of (reads_ok HR hR.f hK u15 (by
            have := hR.r 3 (by omega)
            rw [show (lst hd xs 3).length = xs.length from ints_len xs] at this
            exact ⟨this.1, this.2.imp id (fun ⟨g, c, cu, h1, _, h⟩ => ⟨g, c, cu, h1, Nat.zero_le _, h⟩)⟩) (hR.na 3 (by omega)))
          have HRI := hid_of hR
          clear hR hK hmd HLD
          go_wp2_with fail
          refine HRD.out.mono ?_
          rintro e w5 ⟨rfl, hF5, hk5⟩
          have HEND : Hid (Kept (fun _ => False) W w5) := HRI.out.k.step hk5 (fun k hk e => absurd (HRI.out.o k e) (by omega))
          clear hF5 hk5 HRD HRI
          go_wp2
          exact bodyPost_ret (v := .bool true) (by simp [results, Try.results4, go_sem]) rfl ⟨rfl, HEND.out⟩
end Go.Proofs.Ytmkfjdfpcjkmnaa
