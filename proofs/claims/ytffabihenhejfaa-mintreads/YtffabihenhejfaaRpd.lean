/-
  The reference's read by contract.
-/
import Derived.Test.YtffabihenhejfaaRps
import Derived.Deep.QuietTactic
import Derived.BigQuiet
import Derived.Deep.DeepCutAuto
namespace Go.Proofs.Ytffabihenhejfaa
open Go.RowKit Go.Deep
set_option linter.unusedVariables false
set_option linter.unusedSimpArgs false

theorem Try.info88 : (Try.prog.info? 88).map (fun i => (i.zero, i.size, i.bytes)) = some (some (.pointer none), 1, 8) := by kernel_rfl
theorem Try.info3i : (Try.prog.info? 3).map (fun i => (i.zero, i.size, i.bytes)) = some (some (.int .i64 0), 1, 8) := by kernel_rfl

set_option maxRecDepth 100000 in
set_option maxHeartbeats 4000000 in
theorem pread_ok (W : World) (calls : List CV) (sb : Nat) (callsV : Value) (hcalls : CallsOk W callsV calls) (hcap : ∀ i, i < calls.length → SrcOk W (calls.getD i CV.default).bv (calls.getD i CV.default).xs) (fuel : Nat) (ih : ∀ f, f < fuel → ReadC W calls sb callsV f) : ReadC W calls sb callsV fuel := by
  intro w κ N v xs rb rV tV eV told s hsc hlive hsrc hN0 hN1 h20 hfu hml
  obtain ⟨i88, hi88, z880, z881, z882⟩ := info_parts Try.info88
  obtain ⟨i3, hi3, z30, z31, z32⟩ := info_parts Try.info3i
  obtain ⟨vao, vc, hvv⟩ := hsrc.1.shape
  have HBOX := hid_of (hsc.box hlive hsrc hml)
  have hml4 : s.many ≤ 400 := by have := hsc.p4; omega
  obtain ⟨⟨cao, ccap, hcv, hcs⟩, hcok⟩ := hcalls
  subst hcv
  have HCS := hid_of hcs
  have HCOK := hid_of hcok
  have HCAP := hid_of hcap
  have HIH := hid_of ih
  have hp4 : s.pos ≤ 400 := hsc.p4
  obtain ⟨xl, hxl⟩ : ∃ xl, xl = xs.length := ⟨_, rfl⟩
  rw [← hxl] at hvv
  subst hvv
  clear hsc hlive hsrc hcs hcok hcap ih hxl
  go_enter Try.func17, Try.ntmps17
  go_upto_region 2 with fail
  generalize hwb : w.alloc (.cells #[.slice vao xl vc, .int .i64 0, .int .i64 0] 90) = wb at *
  obtain ⟨hro, d2, hsb, hts, hfin⟩ := HBOX.out
  have HRO := hid_of hro
  have HTS := hid_of hts
  have HFIN := hid_of hfin
  clear HBOX hro hts hfin hwb
  go_wp2_with (at_builtin; refine wpList_append_own_at _ rfl (.tmp 22) (.tmp 24) 48 rfl 0 88 i88 (.pointer none) 1 8 Try.underlying48 hi88 z880 z881 z882 rfl (by decide) rV rb.length (rb.map ptrV) rfl (by exact HRO.out.alloc _) ⟨wb.heap.size, 0, none⟩ 1 1 [ptrV w.heap.size] rfl rfl (by exact cell_one_new wb (ptrV w.heap.size) 88) (by intro u hu; simp at hu; subst hu; rfl) (by unfold maxLen; omega) (by omega) (Nat.zero_le _) ?_)
  intro rV' w5 hown hgrow hnil hat
  have hk5 := kept_app (w3 := wb) hgrow ((Kept.refl _ wb).alloc _)
  obtain ⟨⟨u5, k1⟩, k2⟩ := HTS.out w5 hk5
  have hat' := hat_of1 hat
  have HF2 := hid_of (HFIN.out rV' w5 _ hown hk5 hat' rfl)
  obtain ⟨gR, cR, hrV⟩ : ∃ gR cR, rV' = .slice (some ⟨gR, 0, none⟩) (rb.length + 1) cR := by
    rcases World.ownsRow.mk' hown with ⟨_, h0⟩ | ⟨g', cap, e⟩
    · simp at h0
    · exact ⟨g', cap, e⟩
  subst hrV
  clear hown hgrow hnil hat hat' hk5 HTS HFIN HRO
  go_upto_region 3 with fail
  generalize w5.setCell ⟨sb, 2, none⟩ (.slice (some ⟨gR, 0, none⟩) (rb.length + 1) cR) = w6 at *
  obtain ⟨y1, y2, y3, y4, y5⟩ := HF2.out
  have HL := hid_of y5
  have HY4 := hid_of y4
  have hw1 : IntKind.i64.wrap ((s.many : Int) + 1) = (s.many : Int) + 1 := by simp [IntKind.wrap, IntKind.bits, IntKind.signed]; omega
  clear HF2 y5 y4 k1 k2 d2
  go_upto_region 4 with fail
  generalize w6.setCell ⟨sb, 5, none⟩ (.int .i64 ((s.many : Int) + 1)) = w8 at *
  have y6 := HY4.out
  have hsb8 : sb < w8.heap.size := HL.out.cells.2.2.2.1
  clear HY4 y1 y2 y3
  go_wp2
  go_loopw [10] (fun i wr => ∃ k : Nat, i = .int .i64 k ∧ RunIP W calls κ w sb (.slice cao calls.length ccap) (rb ++ [w.heap.size]) fuel N { s with rs := s.rs ++ [xs], many := s.many + 1 } k wr) (fun i _ => 401 - (intOf i).toNat)
  case atStart => exact ⟨0, rfl, fuel, { s with rs := s.rs ++ [xs], many := s.many + 1 }, by rw [Int.natCast_zero, Int.sub_zero], hfu, Nat.le_refl _, Nat.zero_le _, HL.out⟩
  case round =>
    obtain ⟨k, rfl, f, t, hpl, hft, hff, hkt, hlv⟩ := hrel
    obtain ⟨c0, c1, cf, hsbr, hp4r, hrs, hbase⟩ := hlv.cells
    have HLR := hid_of hlv
    have HPL := hid_of hpl
    have HBS := hid_of hbase
    clear hlv hpl hbase HL y6
    by_cases ha : (k : Int) < N
    · by_cases hb : t.pos < calls.length
      · by_cases hc : t.pos < 400
        · have hbI : ((t.pos : Nat) : Int) < ((calls.length : Nat) : Int) := by omega
          have hcI : ((t.pos : Nat) : Int) < 400 := by omega
          go_wp2_with fail
          go_quiet (fail)
          have HKQ := hid_of (kept_drewN (Kept.refl (fun _ => False) wr) nq)
          generalize hwq : wr.drewN nq = wq at *
          clear hwq
          obtain ⟨c, hcd⟩ : ∃ c, c = calls.getD t.pos CV.default := ⟨_, rfl⟩
          obtain ⟨cb, o, hcao, q0, q1, q2, q3⟩ := HCS.out t.pos hb
          obtain ⟨⟨m1, m2⟩, ⟨m3, m4⟩, ⟨m5, m6⟩, hcib, hcbo⟩ := HCOK.out t.pos hb
          have hcap := HCAP.out t.pos hb
          rw [← hcd] at q0 q1 q2 q3 m1 m2 m3 m4 m5 m6 hcib hcbo hcap
          obtain ⟨bao, bcap, hbv⟩ := hcib.shape
          have hkWq := HBS.out.trans HKQ.out
          rw [hbv] at q3 hcap
          subst hcao
          have p0 := hkWq.cell q0 (fun f => f)
          have p1 := hkWq.cell q1 (fun f => f)
          have p2 := hkWq.cell q2 (fun f => f)
          have p3 := hkWq.cell q3 (fun f => f)
          have c0q := HKQ.out.cell c0 (fun f => f)
          have c1q := HKQ.out.cell c1 (fun f => f)
          have hsbq : sb < wq.heap.size := Nat.lt_of_lt_of_le hsbr HKQ.out.size
          have HLQ := hid_of (HLR.out.new HKQ.out)
          have HCD := hid_of hcd
          have HBV := hid_of hbv
          have HSRC := hid_of hcap
          obtain ⟨ck, hck⟩ : ∃ ck, ck = c.k := ⟨_, rfl⟩
          obtain ⟨cn, hcn⟩ : ∃ cn, cn = c.n := ⟨_, rfl⟩
          obtain ⟨co, hco⟩ : ∃ co, co = c.o := ⟨_, rfl⟩
          obtain ⟨bl, hbl⟩ : ∃ bl, bl = c.xs.length := ⟨_, rfl⟩
          rw [← hck] at p0 m1 m2
          rw [← hcn] at p1 m3 m4
          rw [← hco] at p2 m5 m6
          rw [← hbl] at p3
          have HN : Hid (ck = c.k ∧ cn = c.n ∧ co = c.o ∧ bl = c.xs.length) := ⟨hck, hcn, hco, hbl⟩
          clear q0 q1 q2 q3 hkWq hcd hbv hcib hcbo hcap c0 c1 cf HCS HCOK HCAP HBS HLR HKQ hsbr hck hcn hco hbl
          go_wp2_with fail
          go_region_held3 (fun w' => w'.cell? ⟨sb, 0, none⟩ = some (.slice (some ⟨cb, o, none⟩) calls.length ccap) ∧ w'.cell? ⟨sb, 1, none⟩ = some (.int .i64 ((t.pos : Nat) : Int)) ∧ w'.cell? ⟨cb, o + t.pos * 4, none⟩ = some (.int .i64 ck) ∧ w'.cell? ⟨cb, o + t.pos * 4 + 1, none⟩ = some (.int .i64 cn) ∧ w'.cell? ⟨cb, o + t.pos * 4 + 2, none⟩ = some (.int .i64 co) ∧ w'.cell? ⟨cb, o + t.pos * 4 + 3, none⟩ = some (.slice bao bl bcap)) (first | exact ⟨c0q, c1q, p0, p1, p2, p3⟩ | assumption | go_keep) (first | fail)
          have hkB : Kept (fun _ => False) wq (wq.alloc (.cells #[.int .i64 ck, .int .i64 cn, .int .i64 co, .slice bao bl bcap] 85)).drew := ((Kept.refl _ _).alloc _).drew
          have hbx : (wq.alloc (.cells #[.int .i64 ck, .int .i64 cn, .int .i64 co, .slice bao bl bcap] 85)).drew.heap[wq.heap.size]? = some (.cells #[.int .i64 ck, .int .i64 cn, .int .i64 co, .slice bao bl bcap] 85 (0, 0)) := heap_alloc_new wq _
          generalize hwB : (wq.alloc (.cells #[.int .i64 ck, .int .i64 cn, .int .i64 co, .slice bao bl bcap] 85)).drew = wB at *
          have hlB := HLQ.out.new hkB
          obtain ⟨_, c1B, cfB, hsbB, _⟩ := hlB.cells
          have hnx := hlB.next hc
          rw [show ((t.pos + 1 : Nat) : Int) = (t.pos : Int) + 1 from by omega] at hnx
          have hbn := ((kept_set wB sb 1 (.int .i64 ((t.pos : Int) + 1))).block wq.heap.size (Array.getElem?_eq_some_iff.1 hbx).1 (by omega)).trans hbx
          have HNX := hid_of hnx
          have HBN := hid_of hbn
          have hw2 : IntKind.i64.wrap ((t.pos : Int) + 1) = (t.pos : Int) + 1 := by simp [IntKind.wrap, IntKind.bits, IntKind.signed]; omega
          clear hbx hkB hwB HLQ hlB hnx hbn p0 p1 p2 p3 c0q c1q
          go_upto_region 10 with fail
          generalize wB.setCell ⟨sb, 1, none⟩ (.int .i64 ((t.pos : Int) + 1)) = wN at *
          have b0 : wN.cell? ⟨wq.heap.size, 0, none⟩ = some (.int .i64 ck) := by rw [cell_block _ _ _ _ _ _ HBN.out]; rfl
          have b1 : wN.cell? ⟨wq.heap.size, 1, none⟩ = some (.int .i64 cn) := by rw [cell_block _ _ _ _ _ _ HBN.out]; rfl
          have b2 : wN.cell? ⟨wq.heap.size, 2, none⟩ = some (.int .i64 co) := by rw [cell_block _ _ _ _ _ _ HBN.out]; rfl
          have b3 : wN.cell? ⟨wq.heap.size, 3, none⟩ = some (.slice bao bl bcap) := by rw [cell_block _ _ _ _ _ _ HBN.out]; rfl
          have hbl : wq.heap.size < wN.heap.size := (Array.getElem?_eq_some_iff.1 HBN.out).1
          obtain ⟨f', rfl⟩ : ∃ f', f = f' + 1 := ⟨f - 1, by omega⟩
          have HCND : Hid (0 < N - k ∧ t.pos < calls.length ∧ t.pos < 400) := ⟨by omega, hb, hc⟩
          clear c1B cfB hsbB HBN
          go_upto_if 83 with fail
          go_cut [12, 13] (fun v12 v13 wx => NextP W calls κ w sb (.slice (some ⟨cb, o, none⟩) calls.length ccap) (rb ++ [w.heap.size]) fuel N { s with rs := s.rs ++ [xs], many := s.many + 1 } k wx)
          case first =>
            by_cases h10 : ck = 10
            · subst h10
              by_cases h20' : rb.length + 1 < 20
              · have h20I : (rb.length : Int) + 1 < 20 := by omega
                have hrt0 : t.rets.length < t.pos + 1 := by
                  obtain ⟨_, _, _, _, _, _, _, _, _, _, hr, _⟩ := HNX.out
                  exact hr
                have hin := HNX.out.inner (calls := calls) (fuel := f') (HIH.out f' (by omega)) HSRC.out m3 m4 (by simp; omega) (by dsimp only; omega)
                rw [← HN.out.2.2.2] at hin
                have HINN := hid_of hin
                clear hin
                go_wp2_with fail
                refine HINN.out.mono ?_
                rintro e wI ⟨r', ⟨t', hp, rfl, hx⟩ | ⟨t', x, hp, rfl, hx⟩ | ⟨t', j, flt, hp, hj, rfl, hx⟩⟩
                · obtain ⟨x, hxx⟩ : ∃ x, x = tailOf (t'.rs.getD (rb ++ [w.heap.size]).length []).length 0 := ⟨_, rfl⟩
                  rw [← hxx]
                  have HXX := hid_of hxx
                  clear hxx
                  have hrtl : t'.rets.length < t'.pos := by
                    have h1 := play_rets calls f' cn { t with pos := t.pos + 1, rs := t.rs ++ [c.xs], many := t.many + 1 }
                    rw [hp] at h1
                    dsimp only at h1
                    omega
                  obtain ⟨eV1, d1, d2, d3, hrow, hp4', hts, hpost⟩ := hx.told (x := x) hrtl
                  have HROW := hid_of hrow
                  have HTS := hid_of hts
                  have HPOST := hid_of hpost
                  have hrt4 : t'.rets.length ≤ 400 := by omega
                  have HP := hid_of hp
                  clear hrow hts hpost hx hp HINN HNX b0 b1 b2 b3
                  go_wp2_with (at_builtin; refine wpList_append_own_at _ rfl (.tmp 100) (.tmp 102) 49 rfl 0 3 i3 (.int .i64 0) 1 8 Try.underlying49 hi3 z30 z31 z32 rfl (by decide) eV1 t'.rets.length (t'.rets.map (Value.int .i64)) rfl (by exact HROW.out.alloc _) ⟨wI.heap.size, 0, none⟩ 1 1 [.int .i64 x] rfl rfl (by intro j u hj; simpa using cell_one_new wI _ 3 j u hj) (by intro u hu; simp at hu; subst hu; rfl) (by unfold maxLen; omega) (by omega) (Nat.zero_le _) ?_)
                  intro eV' w9 hown' hgrow hnil hat
                  have hk9 := kept_app (w3 := wI) hgrow ((Kept.refl _ wI).alloc _)
                  obtain ⟨⟨u9, k1⟩, k2⟩ := HTS.out w9 hk9
                  have HT9 := hid_of (HPOST.out eV' w9 hown' hk9 (hat_of1 hat))
                  obtain ⟨tao, tcap, rfl⟩ := ownsRow_shape hown'
                  clear hown' hgrow hnil hat hk9 HROW HTS HPOST
                  go_upto_region 15 with fail
                  generalize w9.setCell ⟨sb, 4, none⟩ (.slice tao (t'.rets.length + 1) tcap) = wT at *
                  obtain ⟨gR2, n2, rc2, y1, y2, y3, y3b, y4⟩ := HT9.out.cut
                  have HREL : Hid (NextP W calls κ w sb (.slice (some ⟨cb, o, none⟩) calls.length ccap) (rb ++ [w.heap.size]) fuel N { s with rs := s.rs ++ [xs], many := s.many + 1 } k (wT.setCell ⟨sb, 2, none⟩ (.slice (some ⟨gR2, 0, none⟩) (rb ++ [w.heap.size]).length rc2))) := RunIP.inn HPL.out HCND.out hft hff hkt (by rw [← HCD.out]; exact HN.out.1.symm) hrs (by simp; omega) (.inl ⟨by rw [← HCD.out, ← HN.out.2.1]; exact HP.out, HXX.out⟩) y4
                  rw [List.length_append, List.length_singleton] at y2 HREL
                  clear y4 HT9 HP k1 k2 d1 d2
                  go_wp2_with fail
                  go_meet
                  exact HREL.out
                · skip
                  have hrtl : t'.rets.length < t'.pos := by
                    have h1 := play_rets calls f' cn { t with pos := t.pos + 1, rs := t.rs ++ [c.xs], many := t.many + 1 }
                    rw [hp] at h1
                    dsimp only at h1
                    omega
                  obtain ⟨eV1, d1, d2, d3, hrow, hp4', hts, hpost⟩ := hx.told (x := x) hrtl
                  have HROW := hid_of hrow
                  have HTS := hid_of hts
                  have HPOST := hid_of hpost
                  have hrt4 : t'.rets.length ≤ 400 := by omega
                  have HP := hid_of hp
                  clear hrow hts hpost hx hp HINN HNX b0 b1 b2 b3
                  go_wp2_with (at_builtin; refine wpList_append_own_at _ rfl (.tmp 100) (.tmp 102) 49 rfl 0 3 i3 (.int .i64 0) 1 8 Try.underlying49 hi3 z30 z31 z32 rfl (by decide) eV1 t'.rets.length (t'.rets.map (Value.int .i64)) rfl (by exact HROW.out.alloc _) ⟨wI.heap.size, 0, none⟩ 1 1 [.int .i64 x] rfl rfl (by intro j u hj; simpa using cell_one_new wI _ 3 j u hj) (by intro u hu; simp at hu; subst hu; rfl) (by unfold maxLen; omega) (by omega) (Nat.zero_le _) ?_)
                  intro eV' w9 hown' hgrow hnil hat
                  have hk9 := kept_app (w3 := wI) hgrow ((Kept.refl _ wI).alloc _)
                  obtain ⟨⟨u9, k1⟩, k2⟩ := HTS.out w9 hk9
                  have HT9 := hid_of (HPOST.out eV' w9 hown' hk9 (hat_of1 hat))
                  obtain ⟨tao, tcap, rfl⟩ := ownsRow_shape hown'
                  clear hown' hgrow hnil hat hk9 HROW HTS HPOST
                  go_upto_region 15 with fail
                  generalize w9.setCell ⟨sb, 4, none⟩ (.slice tao (t'.rets.length + 1) tcap) = wT at *
                  obtain ⟨gR2, n2, rc2, y1, y2, y3, y3b, y4⟩ := HT9.out.cutIn
                  have HREL : Hid (NextP W calls κ w sb (.slice (some ⟨cb, o, none⟩) calls.length ccap) (rb ++ [w.heap.size]) fuel N { s with rs := s.rs ++ [xs], many := s.many + 1 } k (wT.setCell ⟨sb, 2, none⟩ (.slice (some ⟨gR2, 0, none⟩) (rb ++ [w.heap.size]).length rc2))) := RunIP.inn HPL.out HCND.out hft hff hkt (by rw [← HCD.out]; exact HN.out.1.symm) hrs (by simp; omega) (.inr (by rw [← HCD.out, ← HN.out.2.1]; exact HP.out)) y4
                  rw [List.length_append, List.length_singleton] at y2 HREL
                  clear y4 HT9 HP k1 k2 d1 d2
                  go_wp2_with fail
                  go_meet
                  exact HREL.out
                · obtain ⟨gR2, n2, rc2, y1, y2, y3, y3b, y4⟩ := hx.cutOut hj
                  have HREL : Hid (NextP W calls κ w sb (.slice (some ⟨cb, o, none⟩) calls.length ccap) (rb ++ [w.heap.size]) fuel N { s with rs := s.rs ++ [xs], many := s.many + 1 } k (wI.setCell ⟨sb, 2, none⟩ (.slice (some ⟨gR2, 0, none⟩) (rb ++ [w.heap.size]).length rc2))) := .inr ⟨t', j, flt, HPL.out.trans (play_pass HCND.out (by rw [← HCD.out]; exact HN.out.1.symm) (by rw [hrs]; simp; omega) (by rw [hrs]; omega) (by rw [← HCD.out, ← HN.out.2.1]; exact hp)), y4⟩
                  rw [List.length_append, List.length_singleton] at y2 HREL
                  clear hp hx y4 HINN HNX b0 b1 b2 b3
                  go_wp2_with fail
                  go_meet
                  exact HREL.out
              · have h20I : ¬ ((rb.length : Int) + 1 < 20) := by omega
                have HREL : Hid (NextP W calls κ w sb (.slice (some ⟨cb, o, none⟩) calls.length ccap) (rb ++ [w.heap.size]) fuel N { s with rs := s.rs ++ [xs], many := s.many + 1 } k wN) := RunIP.deep HPL.out HCND.out hft hff hkt (by rw [← HCD.out]; exact HN.out.1.symm) (by rw [hrs, List.length_append, List.length_singleton]; exact h20') HNX.out.lv
                have h19 : (rb.length : Int) + 1 = 20 := by omega
                rw [h19]
                have H19 := hid_of h19
                clear HNX b1 b2 b3 HIH HPL HCND HSRC h20I h20' h20 h19
                go_wp2
                rw [← H19.out]
                go_meet
                exact HREL.out
            · have h10b : (ck == 10) = false := by simpa using h10
              have hin := HNX.out.call (c := c) (by simp) (by simp; omega) HBV.out (by rw [← HN.out.2.1]; exact m3) (by rw [← HN.out.2.1]; exact m4) (by rw [← HN.out.2.2.1]; exact m5) (by rw [← HN.out.2.2.1]; exact m6)
              rw [← HN.out.1, ← HN.out.2.1, ← HN.out.2.2.1, ← HN.out.2.2.2, show (((rb ++ [w.heap.size]).length : Nat) : Int) = (rb.length : Int) + 1 from by simp] at hin
              have HINN := hid_of hin
              clear hin
              go_wp2_with fail
              refine HINN.out.mono ?_
              rintro e wI ⟨rfl, ⟨t', hp, hx⟩ | ⟨j, flt, hp, hx⟩⟩
              · have HREL : Hid (NextP W calls κ w sb (.slice (some ⟨cb, o, none⟩) calls.length ccap) (rb ++ [w.heap.size]) fuel N { s with rs := s.rs ++ [xs], many := s.many + 1 } k wI) := RunIP.call HPL.out HCND.out hft hff hkt (by rw [← HCD.out, ← HN.out.1]; exact h10) (by rw [← HCD.out]; exact hp) hx
                clear hp hx HINN HNX b0 b1 b2 b3
                go_wp2_with fail
                go_meet
                exact HREL.out
              · have HREL : Hid (NextP W calls κ w sb (.slice (some ⟨cb, o, none⟩) calls.length ccap) (rb ++ [w.heap.size]) fuel N { s with rs := s.rs ++ [xs], many := s.many + 1 } k wI) := .inr ⟨_, j, flt, HPL.out.trans (play_fault HCND.out (by rw [← HCD.out, ← HN.out.1]; exact h10) (by rw [← HCD.out]; exact hp)), hx⟩
                clear hp hx HINN HNX b0 b1 b2 b3
                go_wp2_with fail
                go_meet
                exact HREL.out
          case rest =>
            rename World => wx
            have hwD : IntKind.i64.wrap (rb.length : Int) = (rb.length : Int) := by simp [IntKind.wrap, IntKind.bits, IntKind.signed]; omega
            rcases hcut with hnext | ⟨t2, j, flt, hpl2, htv⟩
            · obtain ⟨gR2, rc2, y1, y2, y3, y4⟩ := (show LvP W κ w sb (.slice (some ⟨cb, o, none⟩) calls.length ccap) (rb ++ [w.heap.size]) hnext.choose_spec.choose wx from hnext.choose_spec.choose_spec.2.2.2.2).looks (by simp)
              have yr := y4 rb.length (by simp)
              rw [getD_last] at yr
              obtain ⟨_, yr2, yr3⟩ := yr
              have HLK : Hid (∀ i, i < rb.length → ∃ b, wx.cell? ⟨gR2, i, none⟩ = some (.pointer (some ⟨b, 0, none⟩)) ∧ wx.cell? ⟨b, 2, none⟩ = some (.int .i64 0) ∧ b < wx.heap.size) := fun i hi => ⟨_, y4 i (by simp; omega)⟩
              rw [List.length_append, List.length_singleton] at y1
              have HNEXT := hid_of hnext
              clear hnext y4
              go_upto_region 17 with fail
              go_wp2_with fail
              go_loopw [14] (fun kv w9 => ∃ i : Nat, kv = .int .i64 i ∧ i ≤ rb.length ∧ w9 = wx) (fun kv _ => rb.length + 1 - (intOf kv).toNat)
              case atStart => exact ⟨0, rfl, Nat.zero_le _, rfl⟩
              case round =>
                obtain ⟨i, rfl, hi, hwx⟩ := hrel
                subst hwx
                by_cases hil : i < rb.length
                · obtain ⟨b, j1, j2, j3⟩ := HLK.out i hil
                  have hiI : (i : Int) < (rb.length : Int) := by omega
                  have hiI2 : (i : Int) < (rb.length : Int) + 1 := by omega
                  go_wp2
                  go_roundw
                  case rel => exact ⟨i + 1, by go_num, by omega, trivial⟩
                  case measure => simp [intOf]; omega
                · have hiI : ¬ ((i : Int) < (rb.length : Int)) := by omega
                  go_wp2
                  go_roundw
                  case rel => exact ⟨k + 1, by go_num, HNEXT.out⟩
                  case measure => simp [intOf]; omega
            · obtain ⟨gR2, rc2, y1, y2, y3, y4, y5, y6, y7, hf0, hjD⟩ := htv.looks
              have hfb : (flt == 0) = false := by simpa using hf0
              have hfb2 : (flt != 0) = true := by simpa using hf0
              have HLK : Hid (∀ i, i < j → ∃ b, wx.cell? ⟨gR2, i, none⟩ = some (.pointer (some ⟨b, 0, none⟩)) ∧ wx.cell? ⟨b, 2, none⟩ = some (.int .i64 0) ∧ b < wx.heap.size) := fun i hi => ⟨_, y4 i hi⟩
              have HPL2 := hid_of hpl2
              have HTV := hid_of htv
              obtain ⟨bj, hbj⟩ : ∃ bj, bj = (rb ++ [w.heap.size]).getD j 0 := ⟨_, rfl⟩
              rw [← hbj] at y5 y6 y7
              rw [List.length_append, List.length_singleton] at y1 hjD
              by_cases hjl : j < rb.length
              · have HPO : Hid (ReadPost W calls κ w sb (.slice (some ⟨cb, o, none⟩) calls.length ccap) rb fuel N { s with rs := s.rs ++ [xs], many := s.many + 1 } (.returned (.tuple #[.int .i64 0, .bool false])) wx) := ⟨w.heap.size, .inr (.inr ⟨t2, j, flt, HPL2.out, hjl, rfl, HTV.out⟩)⟩
                clear htv hpl2 y4 hbj HTV HPL2
                go_upto_region 17 with fail
                go_wp2_with fail
                go_loopw [14] (fun kv w9 => ∃ i : Nat, kv = .int .i64 i ∧ i ≤ j ∧ w9 = wx) (fun kv _ => j + 1 - (intOf kv).toNat)
                case atStart => exact ⟨0, rfl, Nat.zero_le _, rfl⟩
                case round =>
                  obtain ⟨i, rfl, hi, hwx⟩ := hrel
                  subst hwx
                  have hiI : (i : Int) < (rb.length : Int) := by omega
                  have hiI2 : (i : Int) < (rb.length : Int) + 1 := by omega
                  by_cases hil : i < j
                  · obtain ⟨b, j1, j2, j3⟩ := HLK.out i hil
                    go_wp2
                    go_roundw
                    case rel => exact ⟨i + 1, by go_num, by omega, trivial⟩
                    case measure => simp [intOf]; omega
                  · have hij : i = j := by omega
                    subst hij
                    go_wp2
                    go_ret2
                    exact HPO.out
              · have hjr : j = rb.length := by omega
                subst hjr
                have hbr : bj = w.heap.size := by rw [hbj, getD_last]
                subst hbr
                have HPO : Hid (ReadPost W calls κ w sb (.slice (some ⟨cb, o, none⟩) calls.length ccap) rb fuel N { s with rs := s.rs ++ [xs], many := s.many + 1 } (.returned (.tuple #[.int .i64 flt, .bool true])) wx) := ⟨w.heap.size, .inr (.inl ⟨t2, flt, HPL2.out, rfl, HTV.out⟩)⟩
                clear htv hpl2 y4 hbj HTV HPL2
                go_upto_region 17 with fail
                go_wp2_with fail
                go_loopw [14] (fun kv w9 => ∃ i : Nat, kv = .int .i64 i ∧ i ≤ rb.length ∧ w9 = wx) (fun kv _ => rb.length + 1 - (intOf kv).toNat)
                case atStart => exact ⟨0, rfl, Nat.zero_le _, rfl⟩
                case round =>
                  obtain ⟨i, rfl, hi, hwx⟩ := hrel
                  subst hwx
                  by_cases hil : i < rb.length
                  · obtain ⟨b, j1, j2, j3⟩ := HLK.out i hil
                    have hiI : (i : Int) < (rb.length : Int) := by omega
                    have hiI2 : (i : Int) < (rb.length : Int) + 1 := by omega
                    go_wp2
                    go_roundw
                    case rel => exact ⟨i + 1, by go_num, by omega, trivial⟩
                    case measure => simp [intOf]; omega
                  · have hiI : ¬ ((i : Int) < (rb.length : Int)) := by omega
                    go_wp2
                    go_ret2
                    exact HPO.out
        · have hcI : ¬ (((t.pos : Nat) : Int) < 400) := by omega
          have hbI : ((t.pos : Nat) : Int) < ((calls.length : Nat) : Int) := by omega
          have hcd : decide (((t.pos : Nat) : Int) < 400) = false := by simpa using hcI
          go_wp2_with fail
          go_quiet (fail)
          have hst := play_stop calls f (N - k) t (fun h => by omega)
          have HLQ := hid_of (HLR.out.new (kept_drewN (Kept.refl (fun _ => False) wr) nq))
          generalize wr.drewN nq = wq at *
          obtain ⟨ao, n0, c0', p0, hrr, hpn, hn, hlen⟩ := HLQ.out.own
          have HLF := hid_of (left_ref w.heap.size ao n0 c0' p0 0 wq hrr hpn hn)
          have HPO : Hid (∀ d x, x = tailOf (n0 - p0) 0 → ReadPost W calls κ w sb (.slice cao calls.length ccap) rb fuel N { s with rs := s.rs ++ [xs], many := s.many + 1 } (.returned (.tuple #[.int .i64 x, .bool true])) (wq.drewN d)) := fun d x hx => ⟨w.heap.size, .inl ⟨t, HPL.out.trans hst, by rw [hx, hlen], HLQ.out.new (kept_drewN (Kept.refl _ _) d)⟩⟩
          clear hst hrr hlen HLQ HLR HPL c0 c1 cf
          go_wp2_with fail
          refine HLF.out.mono ?_
          rintro e w2 ⟨rfl, d, rfl⟩
          by_cases hpos : (0 : Int) < (n0 : Int) - p0
          · go_wp2
            go_ret2
            exact HPO.out d 13 (by unfold tailOf; rw [if_pos (by omega)])
          · go_wp2
            go_ret2
            exact HPO.out d 0 (by unfold tailOf; rw [if_neg (by omega)])
      · have hbI : ¬ (((t.pos : Nat) : Int) < ((calls.length : Nat) : Int)) := by omega
        have hbd : decide (((t.pos : Nat) : Int) < ((calls.length : Nat) : Int)) = false := by simpa using hbI
        go_wp2_with fail
        go_quiet (fail)
        have hst := play_stop calls f (N - k) t (fun h => by omega)
        have HLQ := hid_of (HLR.out.new (kept_drewN (Kept.refl (fun _ => False) wr) nq))
        generalize wr.drewN nq = wq at *
        obtain ⟨ao, n0, c0', p0, hrr, hpn, hn, hlen⟩ := HLQ.out.own
        have HLF := hid_of (left_ref w.heap.size ao n0 c0' p0 0 wq hrr hpn hn)
        have HPO : Hid (∀ d x, x = tailOf (n0 - p0) 0 → ReadPost W calls κ w sb (.slice cao calls.length ccap) rb fuel N { s with rs := s.rs ++ [xs], many := s.many + 1 } (.returned (.tuple #[.int .i64 x, .bool true])) (wq.drewN d)) := fun d x hx => ⟨w.heap.size, .inl ⟨t, HPL.out.trans hst, by rw [hx, hlen], HLQ.out.new (kept_drewN (Kept.refl _ _) d)⟩⟩
        clear hst hrr hlen HLQ HLR HPL c0 c1 cf
        go_wp2_with fail
        refine HLF.out.mono ?_
        rintro e w2 ⟨rfl, d, rfl⟩
        by_cases hpos : (0 : Int) < (n0 : Int) - p0
        · go_wp2
          go_ret2
          exact HPO.out d 13 (by unfold tailOf; rw [if_pos (by omega)])
        · go_wp2
          go_ret2
          exact HPO.out d 0 (by unfold tailOf; rw [if_neg (by omega)])
    · have had : decide ((k : Int) < N) = false := by simpa using ha
      go_wp2_with fail
      go_quiet (fail)
      have hst := play_stop calls f (N - k) t (fun h => by omega)
      have HLQ := hid_of (HLR.out.new (kept_drewN (Kept.refl (fun _ => False) wr) nq))
      generalize wr.drewN nq = wq at *
      obtain ⟨ao, n0, c0', p0, hrr, hpn, hn, hlen⟩ := HLQ.out.own
      have HLF := hid_of (left_ref w.heap.size ao n0 c0' p0 0 wq hrr hpn hn)
      have HPO : Hid (∀ d x, x = tailOf (n0 - p0) 0 → ReadPost W calls κ w sb (.slice cao calls.length ccap) rb fuel N { s with rs := s.rs ++ [xs], many := s.many + 1 } (.returned (.tuple #[.int .i64 x, .bool true])) (wq.drewN d)) := fun d x hx => ⟨w.heap.size, .inl ⟨t, HPL.out.trans hst, by rw [hx, hlen], HLQ.out.new (kept_drewN (Kept.refl _ _) d)⟩⟩
      clear hst hrr hlen HLQ HLR HPL c0 c1 cf
      go_wp2_with fail
      refine HLF.out.mono ?_
      rintro e w2 ⟨rfl, d, rfl⟩
      by_cases hpos : (0 : Int) < (n0 : Int) - p0
      · go_wp2
        go_ret2
        exact HPO.out d 13 (by unfold tailOf; rw [if_pos (by omega)])
      · go_wp2
        go_ret2
        exact HPO.out d 0 (by unfold tailOf; rw [if_neg (by omega)])
end Go.Proofs.Ytffabihenhejfaa
