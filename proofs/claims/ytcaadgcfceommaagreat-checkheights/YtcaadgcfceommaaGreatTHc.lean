/-
  THc: Hc.
-/
import Derived.Test.YtcaadgcfceommaaGreatTHb
import Derived.Test.YtcaadgcfceommaaGreatTQc
namespace Go.Proofs.YtcaadgcfceommaaGreat
open Go.RowKit
set_option linter.unusedVariables false
set_option linter.unusedSimpArgs false
set_option maxRecDepth 100000

theorem codeS_all (p : PG) (f : FN) : ∀ (xs : List IN) (j : Nat), (∀ x ∈ xs, strayE p f x = 0) → codeS p f xs j = none
  | [], _, _ => rfl
  | x :: xs, j, h => by rw [codeS, if_pos (h x (by simp))]; exact codeS_all p f xs (j + 1) (fun y hy => h y (by simp [hy]))
theorem fnsS_all (p : PG) : ∀ (fs : List FN) (i : Nat), (∀ f ∈ fs, ∀ x ∈ f.code, strayE p f x = 0) → fnsS p fs i = none
  | [], _, _ => rfl
  | f :: fs, i, h => by
    rw [fnsS, codeS_all p f f.code 0 (h f (by simp))]
    exact fnsS_all p fs (i + 1) (fun g hg => h g (by simp [hg]))
theorem plain_iff (p : PG) : (plainD p).1 = 0 ↔ checkP p = 0 ∧ ((p.fns.head?.map (fun f => f.a)).getD 0 = 0 ∧ (p.fns.head?.map (fun f => f.r)).getD 0 = 1) ∧ ∀ f ∈ p.fns, ∀ x ∈ f.code, strayE p f x = 0 := by
  unfold plainD
  by_cases h1 : checkP p = 0
  · rw [if_neg (by simpa using h1)]
    by_cases h2 : (p.fns.head?.map (fun f => f.a)).getD 0 ≠ 0 ∨ (p.fns.head?.map (fun f => f.r)).getD 0 ≠ 1
    · rw [if_pos h2]
      refine ⟨fun h => (by cases h), fun h => ?_⟩
      rcases h2 with h2 | h2
      · exact absurd h.2.1.1 h2
      · exact absurd h.2.1.2 h2
    · rw [if_neg h2]
      refine ⟨fun h => ⟨h1, ⟨by omega, by omega⟩, fnsS_zero p _ _ h⟩, fun h => ?_⟩
      rw [fnsS_all p p.fns 0 h.2.2]
      rfl
  · rw [if_pos h1]
    exact ⟨fun h => absurd h h1, fun h => absurd h.1 h1⟩
/-- What an instruction of a program that is right asks. -/
theorem stray_may {p : PG} {f : FN} {x : IN} (he : errI x = 0) : strayE p f x = 0 ↔ ((x.op = 14 ∨ x.op = 15 ∨ x.op = 16) → x.a < f.code.length) ∧ ((x.op = 7 ∨ x.op = 8) → x.a < f.l) ∧ (x.op = 17 → x.a < p.fns.length) := by
  have hpos : (x.op = 14 ∨ x.op = 15 ∨ x.op = 16 ∨ x.op = 7 ∨ x.op = 8 ∨ x.op = 17) → 0 ≤ x.a := fun h => by
    have hk : kOf x.op = 2 ∨ kOf x.op = 3 ∨ kOf x.op = 4 := by
      rcases h with h | h | h | h | h | h <;> rw [h] <;> decide
    unfold errI at he
    split at he
    · split at he
      · rename_i hm
        rcases hk with hk | hk | hk <;> rw [hk] at hm <;> simp [mayP] at hm <;> omega
      · cases he
    · cases he
  unfold strayE amg
  constructor
  · intro h
    refine ⟨fun h1 => ?_, fun h1 => ?_, fun h1 => ?_⟩
    · rw [if_pos h1] at h
      split at h
      · rename_i h2; simp at h2; omega
      · cases h
    · rw [if_neg (by omega), if_pos h1] at h
      split at h
      · rename_i h2; simp at h2; omega
      · cases h
    · rw [if_neg (by omega), if_neg (by omega), if_pos h1] at h
      split at h
      · rename_i h2; simp at h2; omega
      · cases h
  · intro ⟨h1, h2, h3⟩
    split
    · rename_i h4
      have := hpos (by omega)
      have := h1 h4
      rw [if_pos (by simp; omega)]
    · split
      · rename_i h4
        have := hpos (by omega)
        have := h2 h4
        rw [if_pos (by simp; omega)]
      · split
        · rename_i h4
          have := hpos (by omega)
          have := h3 h4
          rw [if_pos (by simp; omega)]
        · rfl
set_option maxHeartbeats 16000000 in
theorem shaped_any (v : Value) (p : PG) (w : World) (B : Nat) (h : PgIs w B v p) (hB : B ≤ w.heap.size) (ho : p.Ok) :
    Calls Tryz.prog 23 #[v] w fun e w' => e = .returned (.bool (decide ((plainD p).1 = 0))) ∧ Kept (fun _ => False) w w' := by
  have hpg := h
  obtain ⟨dv, fv, rfl, hd, hdl, hf⟩ := h
  obtain ⟨dao, dc, rfl⟩ := hd.shape
  obtain ⟨fao, fc, rfl⟩ := hf.shape
  obtain ⟨nf, hnf⟩ : ∃ n, n = p.fns.length := ⟨_, rfl⟩
  obtain ⟨nd, hnd⟩ : ∃ n, n = p.data.length := ⟨_, rfl⟩
  obtain ⟨mem, hmem⟩ : ∃ n, n = p.mem := ⟨_, rfl⟩
  rw [← hnf, ← hnd, ← hmem] at hpg ⊢
  rw [← hnf] at hf
  have hkA : Kept (fun _ => False) w (w.alloc (.cells #[.int .i64 mem, .slice dao nd dc, .slice fao nf fc] 25)) := (Kept.refl _ _).alloc _
  have hb := heap_alloc_new w (.cells #[.int .i64 mem, .slice dao nd dc, .slice fao nf fc] 25)
  have HCK := hid_of (rcheck_any _ p (w.alloc (.cells #[.int .i64 mem, .slice dao nd dc, .slice fao nf fc] 25)) B (hpg.kept hkA (fun _ _ f => f)) (Nat.le_trans hB hkA.size) ho)
  obtain ⟨bq, hbq⟩ : ∃ b, b = decide ((plainD p).1 = 0) := ⟨_, rfl⟩
  rw [← hbq]
  have HBQ : Hid (bq = true ↔ checkP p = 0 ∧ ((p.fns.head?.map (fun f => f.a)).getD 0 = 0 ∧ (p.fns.head?.map (fun f => f.r)).getD 0 = 1) ∧ ∀ f ∈ p.fns, ∀ x ∈ f.code, strayE p f x = 0) := by unfold Hid; rw [hbq, decide_eq_true_iff]; exact plain_iff p
  obtain ⟨ck, hck⟩ : ∃ c, c = checkP p := ⟨_, rfl⟩
  rw [← hck] at HCK
  have HCE := hid_of hck
  have HF := hid_of hf
  have HO := hid_of ho
  have HNF := hid_of hnf
  have HK := hid_of hkA
  have HBX := hid_of hb
  have c0 := cell_block _ _ 0 _ _ _ hb
  have c1 := cell_block _ _ 1 _ _ _ hb
  have c2 := cell_block _ _ 2 _ _ _ hb
  clear hb hkA hd hdl hf hnf hnd hmem ho hpg hB hbq hck
  go_enter Tryz.func23, Tryz.ntmps23
  go_upto_region 1 with fail
  generalize w.alloc (.cells #[.int .i64 mem, .slice dao nd dc, .slice fao nf fc] 25) = W at *
  generalize w.heap.size = gb at *
  have HFW : Hid (∀ W', Kept (fun _ => False) W W' → RowF W' B (.slice fao nf fc) p.fns) := fun W' hW' => HF.out.kept (HK.out.trans hW') (fun _ _ f => f)
  go_wp2_with fail
  refine HCK.out.mono ?_
  rintro e w1 ⟨rfl, hk1⟩
  have hb1 := box_kept hk1 HBX.out (fun f => f)
  clear c0 c1 c2 HCK
  have c2 := cell_block _ _ 2 _ _ _ hb1
  have HK1 := hid_of (HK.out.trans hk1)
  have HF1 := hid_of (HFW.out _ hk1)
  clear hb1 hk1 HFW HF
  by_cases hcz : ck = 0
  · have hpok : badP p = false := by
      have h9 := HCE.out
      rw [hcz] at h9
      unfold checkP at h9
      cases hb : badP p with
      | false => rfl
      | true => rw [hb, if_pos rfl] at h9; cases h9
    have hfr : ∀ f ∈ p.fns, errF f = 0 := by
      have h9 := HCE.out
      rw [hcz] at h9
      unfold checkP at h9
      rw [hpok, if_neg (by decide)] at h9
      exact firstF_zero _ h9.symm
    have hnf1 : 1 ≤ nf ∧ nf ≤ 64 := by
      rcases bad_cases p with ⟨_, hb⟩ | ⟨hb, _⟩
      · rw [hpok] at hb; cases hb
      · have := HNF.out; omega
    have HFR : Hid (∀ f ∈ p.fns, (1 ≤ f.code.length ∧ f.code.length ≤ 4096) ∧ ∀ x ∈ f.code, errI x = 0) := fun f hf => by
      have he := hfr f hf
      rcases badF_cases f with ⟨_, h2⟩ | ⟨h1, h2⟩
      · rw [h2] at he; cases he
      · rw [h2] at he
        unfold encE at he
        rw [if_neg (by omega)] at he
        exact ⟨by omega, firstBad_z _ he⟩
    have HC0 : Hid (checkP p = 0) := by unfold Hid; rw [← HCE.out, hcz]
    clear HCE hpok hfr
    subst hcz
    obtain ⟨pg, po, f0, e1, hgB, hfi, hfa⟩ := HF1.out.at (i := 0) (by rw [← HNF.out]; omega)
    subst e1
    obtain ⟨cao, cc, x0, x1, x2, x3, hri, hcl⟩ := fn_read hfa
    have HHD : Hid (p.fns.head? = some f0) := by unfold Hid; rw [List.head?_eq_getElem?]; exact hfi
    obtain ⟨a0, ha0⟩ : ∃ z, z = f0.a := ⟨_, rfl⟩
    obtain ⟨r0, hr0⟩ : ∃ z, z = f0.r := ⟨_, rfl⟩
    rw [← ha0] at x0
    rw [← hr0] at x2
    simp only [Nat.zero_mul, Nat.add_zero] at x0 x1 x2 x3
    have HA0 := hid_of ha0
    have HR0 := hid_of hr0
    have hnfI : (0 : Int) < (nf : Int) := by omega
    clear hri hcl hfa hfi x1 x3 ha0 hr0 hgB
    by_cases haz : a0 = 0
    · by_cases hrz : r0 = 1
      · have HST : Hid ((p.fns.head?.map (fun f => f.a)).getD 0 = 0 ∧ (p.fns.head?.map (fun f => f.r)).getD 0 = 1) := by
          unfold Hid
          rw [HHD.out]
          exact ⟨by show f0.a = 0; rw [← HA0.out]; exact haz, by show f0.r = 1; rw [← HR0.out]; exact hrz⟩
        clear HA0 HR0 HHD
        subst haz
        subst hrz
        go_wp2_with fail
        clear x0 x2
        go_loop [3] (fun iv => ∃ k : Nat, k ≤ nf ∧ iv = .int .i64 (k : Int) ∧ Hid (∀ f ∈ p.fns.take k, ∀ x ∈ f.code, strayE p f x = 0)) (fun iv => nf - (intOf iv).toNat)
        case atStart => exact ⟨0, by omega, rfl, fun f hf => by simp at hf⟩
        case round =>
          obtain ⟨k, hk, rfl, HDN⟩ := hrel
          by_cases hlt : k < nf
          · have hltI : (k : Int) < (nf : Int) := by omega
            have hkp : k < p.fns.length := by rw [← HNF.out]; exact hlt
            obtain ⟨f, hfk⟩ : ∃ f, p.fns[k]? = some f := ⟨_, List.getElem?_eq_getElem hkp⟩
            have hfm := List.mem_of_getElem? hfk
            obtain ⟨hn1, her⟩ := HFR.out f hfm
            obtain ⟨pg', po', cg, co, cc', e9, y0, y1, y2, y3, hri, _, _⟩ := row_instr HF1.out hfk (List.getElem?_eq_getElem (show 0 < f.code.length by omega))
            cases e9
            obtain ⟨nc, hnc⟩ : ∃ z, z = f.code.length := ⟨_, rfl⟩
            obtain ⟨fl, hfl⟩ : ∃ z, z = f.l := ⟨_, rfl⟩
            rw [← hnc] at y3 hn1
            rw [← hfl] at y1
            have HRI := hid_of hri
            have HER := hid_of her
            have HNC := hid_of hnc
            have HFL := hid_of hfl
            have HFM := hid_of hfm
            have HFK := hid_of hfk
            clear hri her hnc hfl hfm hfk y0 y2 hkp
            have hncI : (nc : Int) ≤ 4096 := by omega
            go_wp2_with fail
            go_loop [5] (fun jv => ∃ j : Nat, j ≤ nc ∧ jv = .int .i64 (j : Int) ∧ Hid (∀ x ∈ f.code.take j, strayE p f x = 0)) (fun jv => nc - (intOf jv).toNat)
            case atStart => exact ⟨0, by omega, rfl, fun x hx => by simp at hx⟩
            case round =>
              obtain ⟨j, hj, rfl, HDJ⟩ := hrel
              by_cases hltj : j < nc
              · have hltjI : (j : Int) < (nc : Int) := by omega
                have hjp : j < f.code.length := by rw [← HNC.out]; exact hltj
                obtain ⟨x, hxj⟩ : ∃ x, f.code[j]? = some x := ⟨_, List.getElem?_eq_getElem hjp⟩
                obtain ⟨z0, z1⟩ := rowI_cell HRI.out hxj
                have hxm := List.mem_of_getElem? hxj
                have hst := stray_may (p := p) (f := f) (HER.out x hxm)
                rw [← HNC.out, ← HFL.out, ← HNF.out] at hst
                obtain ⟨xo, hxo⟩ : ∃ z, z = x.op := ⟨_, rfl⟩
                obtain ⟨xa, hxa⟩ : ∃ z, z = x.a := ⟨_, rfl⟩
                rw [← hxo, ← hxa] at hst
                rw [← hxo] at z0
                rw [← hxa] at z1
                have HNO : Hid (strayE p f x ≠ 0 → bq = false) := fun hne => by
                  cases hbb : bq with
                  | false => rfl
                  | true => exact absurd ((HBQ.out.1 hbb).2.2 f HFM.out x hxm) hne
                have HYES : Hid (strayE p f x = 0 → ∀ y ∈ f.code.take (j + 1), strayE p f y = 0) := fun h0 y hy => by
                  rw [List.take_add_one, hxj] at hy
                  rcases List.mem_append.1 hy with hy | hy
                  · exact HDJ.out y hy
                  · simp at hy; rw [hy]; exact h0
                clear hxo hxa hxj hxm
                by_cases h14 : xo = 14
                · subst h14
                  have hst2 : strayE p f x = 0 ↔ xa < (nc : Int) := by rw [hst]; exact ⟨fun h => h.1 (by decide), fun h => ⟨fun _ => h, fun e => absurd e (by decide), fun e => absurd e (by decide)⟩⟩
                  clear hst
                  by_cases hlim : xa < (nc : Int)
                  · have hge : ¬ ((nc : Int) ≤ xa) := by omega
                    have HD2 := hid_of (HYES.out (hst2.2 hlim))
                    clear HYES HNO hst2 HDJ
                    go_wp2
                    go_round
                    case rel => exact ⟨j + 1, by omega, by go_num, HD2⟩
                    case measure => simp [intOf]; omega
                  · have hge : (nc : Int) ≤ xa := by omega
                    have HFA : Hid (bq = false) := HNO.out (fun h => hlim (hst2.1 h))
                    clear HYES HNO hst2 HDJ
                    go_wp2
                    go_ret
                    exact ⟨by rw [HFA.out]; rfl, HK1.out⟩
                · have b14 : (xo == 14) = false := by simpa using h14
                  by_cases h15 : xo = 15
                  · subst h15
                    have hst2 : strayE p f x = 0 ↔ xa < (nc : Int) := by rw [hst]; exact ⟨fun h => h.1 (by decide), fun h => ⟨fun _ => h, fun e => absurd e (by decide), fun e => absurd e (by decide)⟩⟩
                    clear hst
                    by_cases hlim : xa < (nc : Int)
                    · have hge : ¬ ((nc : Int) ≤ xa) := by omega
                      have HD2 := hid_of (HYES.out (hst2.2 hlim))
                      clear HYES HNO hst2 HDJ
                      go_wp2
                      go_round
                      case rel => exact ⟨j + 1, by omega, by go_num, HD2⟩
                      case measure => simp [intOf]; omega
                    · have hge : (nc : Int) ≤ xa := by omega
                      have HFA : Hid (bq = false) := HNO.out (fun h => hlim (hst2.1 h))
                      clear HYES HNO hst2 HDJ
                      go_wp2
                      go_ret
                      exact ⟨by rw [HFA.out]; rfl, HK1.out⟩
                  · have b15 : (xo == 15) = false := by simpa using h15
                    by_cases h16 : xo = 16
                    · subst h16
                      have hst2 : strayE p f x = 0 ↔ xa < (nc : Int) := by rw [hst]; exact ⟨fun h => h.1 (by decide), fun h => ⟨fun _ => h, fun e => absurd e (by decide), fun e => absurd e (by decide)⟩⟩
                      clear hst
                      by_cases hlim : xa < (nc : Int)
                      · have hge : ¬ ((nc : Int) ≤ xa) := by omega
                        have HD2 := hid_of (HYES.out (hst2.2 hlim))
                        clear HYES HNO hst2 HDJ
                        go_wp2
                        go_round
                        case rel => exact ⟨j + 1, by omega, by go_num, HD2⟩
                        case measure => simp [intOf]; omega
                      · have hge : (nc : Int) ≤ xa := by omega
                        have HFA : Hid (bq = false) := HNO.out (fun h => hlim (hst2.1 h))
                        clear HYES HNO hst2 HDJ
                        go_wp2
                        go_ret
                        exact ⟨by rw [HFA.out]; rfl, HK1.out⟩
                    · have b16 : (xo == 16) = false := by simpa using h16
                      by_cases h7 : xo = 7
                      · subst h7
                        have hst2 : strayE p f x = 0 ↔ xa < fl := by rw [hst]; exact ⟨fun h => h.2.1 (by decide), fun h => ⟨fun e => absurd e (by decide), fun _ => h, fun e => absurd e (by decide)⟩⟩
                        clear hst
                        by_cases hlim : xa < fl
                        · have hge : ¬ (fl ≤ xa) := by omega
                          have HD2 := hid_of (HYES.out (hst2.2 hlim))
                          clear HYES HNO hst2 HDJ
                          go_wp2
                          go_round
                          case rel => exact ⟨j + 1, by omega, by go_num, HD2⟩
                          case measure => simp [intOf]; omega
                        · have hge : fl ≤ xa := by omega
                          have HFA : Hid (bq = false) := HNO.out (fun h => hlim (hst2.1 h))
                          clear HYES HNO hst2 HDJ
                          go_wp2
                          go_ret
                          exact ⟨by rw [HFA.out]; rfl, HK1.out⟩
                      · have b7 : (xo == 7) = false := by simpa using h7
                        by_cases h8 : xo = 8
                        · subst h8
                          have hst2 : strayE p f x = 0 ↔ xa < fl := by rw [hst]; exact ⟨fun h => h.2.1 (by decide), fun h => ⟨fun e => absurd e (by decide), fun _ => h, fun e => absurd e (by decide)⟩⟩
                          clear hst
                          by_cases hlim : xa < fl
                          · have hge : ¬ (fl ≤ xa) := by omega
                            have HD2 := hid_of (HYES.out (hst2.2 hlim))
                            clear HYES HNO hst2 HDJ
                            go_wp2
                            go_round
                            case rel => exact ⟨j + 1, by omega, by go_num, HD2⟩
                            case measure => simp [intOf]; omega
                          · have hge : fl ≤ xa := by omega
                            have HFA : Hid (bq = false) := HNO.out (fun h => hlim (hst2.1 h))
                            clear HYES HNO hst2 HDJ
                            go_wp2
                            go_ret
                            exact ⟨by rw [HFA.out]; rfl, HK1.out⟩
                        · have b8 : (xo == 8) = false := by simpa using h8
                          by_cases h17 : xo = 17
                          · subst h17
                            have hst2 : strayE p f x = 0 ↔ xa < (nf : Int) := by rw [hst]; exact ⟨fun h => h.2.2 (by decide), fun h => ⟨fun e => absurd e (by decide), fun e => absurd e (by decide), fun _ => h⟩⟩
                            clear hst
                            by_cases hlim : xa < (nf : Int)
                            · have hge : ¬ ((nf : Int) ≤ xa) := by omega
                              have HD2 := hid_of (HYES.out (hst2.2 hlim))
                              clear HYES HNO hst2 HDJ
                              go_wp2
                              go_round
                              case rel => exact ⟨j + 1, by omega, by go_num, HD2⟩
                              case measure => simp [intOf]; omega
                            · have hge : (nf : Int) ≤ xa := by omega
                              have HFA : Hid (bq = false) := HNO.out (fun h => hlim (hst2.1 h))
                              clear HYES HNO hst2 HDJ
                              go_wp2
                              go_ret
                              exact ⟨by rw [HFA.out]; rfl, HK1.out⟩
                          · have b17 : (xo == 17) = false := by simpa using h17
                            have hst0 : strayE p f x = 0 := hst.2 ⟨fun e => by omega, fun e => by omega, fun e => by omega⟩
                            have HD2 := hid_of (HYES.out hst0)
                            clear HYES HNO hst hst0 HDJ
                            go_wp2
                            go_round
                            case rel => exact ⟨j + 1, by omega, by go_num, HD2⟩
                            case measure => simp [intOf]; omega
              · have hltjI : ¬ ((j : Int) < (nc : Int)) := by omega
                have HDN2 : Hid (∀ f ∈ p.fns.take (k + 1), ∀ x ∈ f.code, strayE p f x = 0) := fun g hg y hy => by
                  rw [List.take_add_one, HFK.out] at hg
                  rcases List.mem_append.1 hg with hg | hg
                  · exact HDN.out g hg y hy
                  · simp at hg
                    subst hg
                    refine HDJ.out y ?_
                    rw [List.take_of_length_le (by have := HNC.out; omega)]
                    exact hy
                clear HDJ
                go_wp2
                go_round
                case rel => exact ⟨k + 1, by omega, by go_num, HDN2⟩
                case measure => simp [intOf]; omega
          · have hltI : ¬ ((k : Int) < (nf : Int)) := by omega
            have HTR : Hid (bq = true) := HBQ.out.2 ⟨HC0.out, HST.out, fun f hf => HDN.out f (by rw [List.take_of_length_le (by have := HNF.out; omega)]; exact hf)⟩
            clear HDN
            go_wp2
            go_ret
            exact ⟨by rw [HTR.out]; rfl, HK1.out⟩
      · have hrb : (r0 != 1) = true := by simpa using hrz
        have HFA : Hid (bq = false) := by
          unfold Hid
          cases hbb : bq with
          | false => rfl
          | true =>
            have h9 := (HBQ.out.1 hbb).2.1.2
            rw [HHD.out] at h9
            exact absurd (show r0 = 1 by rw [HR0.out]; exact h9) hrz
        clear HA0 HR0
        subst haz
        go_wp2
        go_ret
        exact ⟨by rw [HFA.out]; rfl, HK1.out⟩
    · have hab : (a0 != 0) = true := by simpa using haz
      have HFA : Hid (bq = false) := by
        unfold Hid
        cases hbb : bq with
        | false => rfl
        | true =>
          have h9 := (HBQ.out.1 hbb).2.1.1
          rw [HHD.out] at h9
          exact absurd (show a0 = 0 by rw [HA0.out]; exact h9) haz
      go_wp2
      go_ret
      exact ⟨by rw [HFA.out]; rfl, HK1.out⟩
  · have hcb : (ck != 0) = true := by simpa using hcz
    have HFA : Hid (bq = false) := by
      unfold Hid
      cases hbb : bq with
      | false => rfl
      | true => exact absurd (by rw [HCE.out]; exact (HBQ.out.1 hbb).1) hcz
    go_wp2
    go_ret
    exact ⟨by rw [HFA.out]; rfl, HK1.out⟩
end Go.Proofs.YtcaadgcfceommaaGreat
