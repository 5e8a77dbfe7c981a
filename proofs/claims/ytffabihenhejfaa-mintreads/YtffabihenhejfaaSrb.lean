/-
  Srb: Srun2, Srun3.
-/
import Derived.Test.YtffabihenhejfaaSra
import Derived.Deep.QuietTactic
import Derived.BigQuiet
namespace Go.Proofs.Ytffabihenhejfaa
open Go.RowKit Go.Deep
set_option linter.unusedVariables false
set_option linter.unusedSimpArgs false

theorem Try.info56 : (Try.prog.info? 56).map (fun i => (i.zero, i.size, i.bytes)) = some (some (.pointer none), 1, 8) := by kernel_rfl

set_option maxRecDepth 100000 in
set_option maxHeartbeats 4000000 in
theorem run_ok (W : World) (calls : List CV) (sb : Nat) (callsV : Value) (hcalls : CallsOk W callsV calls) (fuel : Nat) (ih : ∀ f, f < fuel → RunC W calls sb callsV f) : RunC W calls sb callsV fuel := by
  intro w κ xb r g N v bs rb kb gs rV kV tV eV told s hsc hlive hxb hκx hκr hrl hrk hrd hκg hgl hir hbo hN0 hN1 h20 hfu hkl
  obtain ⟨i56, hi56, z560, z561, z562⟩ := info_parts Try.info56
  have x0 : w.cell? ⟨xb, 0, none⟩ = some (.pointer (some ⟨sb, 0, none⟩)) := by rw [cell_block _ _ _ _ _ _ hxb]; rfl
  have x1 : w.cell? ⟨xb, 1, none⟩ = some (.int .i64 N) := by rw [cell_block _ _ _ _ _ _ hxb]; rfl
  have d2 := hsc.rep.cells.2.2.1
  have hsb := hsc.rep.lt
  have hkb4 : kb.length ≤ 400 := by have := hsc.p4; omega
  have HRR := hid_of hsc.rep.rrow
  have HLV : Hid (∀ (rV' kV' : Value) (w5 w6 w7 : World), w5.ownsRow 0 56 1 rV' (rb.length + 1) (rb.map ptrV ++ [ptrV r]) → Kept (fun q => rV.ownBlock = some q) w w5 → (rV'.ownBlock = rV.ownBlock ∨ ∀ q, rV'.ownBlock = some q → w.heap.size ≤ q) → w6 = w5.setCell ⟨sb, 2, none⟩ rV' → w7.ownsRow 0 56 1 kV' (kb.length + 1) (kb.map ptrV ++ [ptrV r]) → Kept (fun q => kV.ownBlock = some q) w6 w7 → (kV'.ownBlock = kV.ownBlock ∨ ∀ q, kV'.ownBlock = some q → w6.heap.size ≤ q) →
      Lv W κ w sb callsV (rb ++ [r]) (gs ++ [g]) { s with rs := s.rs ++ [bs], many := s.many + 1 } (w7.setCell ⟨sb, 3, none⟩ kV') ∧ (w7.setCell ⟨sb, 3, none⟩ kV').cell? ⟨sb, 2, none⟩ = some rV') := fun rV' kV' w5 w6 w7 a1 a2 a3 a4 b1 b2 b3 => ⟨hsc.push (lv := []) hlive ⟨hκr, hrl⟩ hrk hrd ⟨hκg, hgl⟩ hir hbo hkl a1 a2 a3 a4 b1 b2 b3, by
    obtain ⟨f, _⟩ := hsc.rep.push2 ⟨hκr, hrl⟩ hrk a1 a2 a3 a4 b1 b2 b3
    exact f.cells.2.2.1⟩
  have HHALF : Hid (∀ (rV' : Value) (w5 w6 : World), w5.ownsRow 0 56 1 rV' (rb.length + 1) (rb.map ptrV ++ [ptrV r]) → Kept (fun q => rV.ownBlock = some q) w w5 → (rV'.ownBlock = rV.ownBlock ∨ ∀ q, rV'.ownBlock = some q → w.heap.size ≤ q) → w6 = w5.setCell ⟨sb, 2, none⟩ rV' → w6.cell? ⟨sb, 3, none⟩ = some kV ∧ sb < w6.heap.size ∧ w6.ownsRow 0 56 1 kV kb.length (kb.map ptrV)) := fun rV' w5 w6 a1 a2 a3 a4 => by
    obtain ⟨f1, _, f3, _⟩ := hsc.rep.half a1 a2 a3
    rw [← a4] at f1 f3
    exact ⟨by rw [cell_block _ _ _ _ _ _ f1]; rfl, (Array.getElem?_eq_some_iff.1 f1).1, f3⟩
  have HT2 : Hid (∀ w5 : World, Kept (fun q => rV.ownBlock = some q) w w5 → (∃ u, w5.cell? ⟨sb, 2, none⟩ = some u) ∧ w5.frozen? ⟨sb, 2, none⟩ = false) := fun w5 hk => by
    have h5 := (hk.block sb hsc.rep.lt (fun e => by have := hsc.rep.c2 sb e; rw [hsc.rep.c1] at this; omega)).trans hsc.rep.blk
    exact ⟨⟨_, by rw [cell_block _ _ _ _ _ _ h5]; rfl⟩, frozen_block _ _ _ _ _ h5⟩
  have HT3 : Hid (∀ w6 w7 : World, (∃ c7 : Array Value, w6.heap[sb]? = some (.cells c7 38 (0, 0)) ∧ c7.size = 7) → Kept (fun q => kV.ownBlock = some q) w6 w7 → (∃ u, w7.cell? ⟨sb, 3, none⟩ = some u) ∧ w7.frozen? ⟨sb, 3, none⟩ = false) := fun w6 w7 ⟨c7, h6, hz⟩ hk => by
    have h5 := (hk.block sb (Array.getElem?_eq_some_iff.1 h6).1 (fun e => by have := hsc.rep.c3 sb e; rw [hsc.rep.c1] at this; omega)).trans h6
    exact ⟨⟨c7[3], by rw [cell_block _ _ _ _ _ _ h5, Array.getElem?_eq_getElem]⟩, frozen_block _ _ _ _ _ h5⟩
  have HBLK : Hid (∀ (rV' : Value) (w5 w6 : World), w5.ownsRow 0 56 1 rV' (rb.length + 1) (rb.map ptrV ++ [ptrV r]) → Kept (fun q => rV.ownBlock = some q) w w5 → (rV'.ownBlock = rV.ownBlock ∨ ∀ q, rV'.ownBlock = some q → w.heap.size ≤ q) → w6 = w5.setCell ⟨sb, 2, none⟩ rV' → ∃ c7 : Array Value, w6.heap[sb]? = some (.cells c7 38 (0, 0)) ∧ c7.size = 7) := fun rV' w5 w6 a1 a2 a3 a4 => by
    obtain ⟨f1, _⟩ := hsc.rep.half a1 a2 a3
    rw [← a4] at f1
    exact ⟨_, f1, rfl⟩
  obtain ⟨⟨cao, ccap, hcv, hcs⟩, hcok⟩ := hcalls
  subst hcv
  have HCS := hid_of hcs
  have HCOK := hid_of hcok
  have HIH := hid_of ih
  have hX : Hid (∀ wr, Kept (fun q => 1 ≤ κ q ∧ κ q ≤ 6) w wr → wr.cell? ⟨xb, 1, none⟩ = some (.int .i64 N)) := fun wr hk => hk.cell x1 (fun e => by have := e.1; rw [hκx] at this; omega)
  have hp4 : s.pos ≤ 400 := hsc.p4
  clear hsc hlive hxb hrd hir hbo hcs hcok ih
  go_enter Try.func15, Try.ntmps15
  go_wp2_with (at_builtin; refine wpList_append_own_at _ rfl (.tmp 16) (.tmp 18) 34 rfl 0 56 i56 (.pointer none) 1 8 Try.underlying34 hi56 z560 z561 z562 rfl (by decide) rV rb.length (rb.map ptrV) rfl (by exact HRR.out.alloc _) ⟨w.heap.size, 0, none⟩ 1 1 [ptrV r] rfl rfl (by exact cell_one_new w (ptrV r) 56) (by intro u hu; simp at hu; subst hu; rfl) (by unfold maxLen; omega) (by omega) (Nat.zero_le _) ?_)
  intro rV' w5 hown hgrow hnil hat
  have hk5 := kept_app (w3 := w) hgrow ((Kept.refl _ w).alloc _)
  obtain ⟨⟨u5, k1⟩, k2⟩ := HT2.out w5 hk5
  have hat' := hat_of1 hat
  have HALF := hid_of (HHALF.out rV' w5 _ hown hk5 hat' rfl)
  have HBK := hid_of (HBLK.out rV' w5 _ hown hk5 hat' rfl)
  have HLV2 := hid_of (fun kV' w7 => HLV.out rV' kV' w5 _ w7 hown hk5 hat' rfl)
  have HSH : Hid (∃ gR cR, rV' = .slice (some ⟨gR, 0, none⟩) (rb.length + 1) cR) := by
    rcases World.ownsRow.mk' hown with ⟨_, h0⟩ | ⟨g', cap, e⟩
    · simp at h0
    · exact ⟨g', cap, e⟩
  obtain ⟨gR, cR, hrV⟩ := HSH.out
  subst hrV
  clear hown hgrow hnil hat hat' HHALF HBLK HLV HT2 HRR HSH
  go_upto_region 2 with fail
  generalize hw6 : w5.setCell ⟨sb, 2, none⟩ (.slice (some ⟨gR, 0, none⟩) (rb.length + 1) cR) = w6 at *
  obtain ⟨y3, hsb6, hkr⟩ := HALF.out
  have HKR := hid_of hkr
  clear hkr HALF k1 k2
  go_wp2_with (at_builtin; refine wpList_append_own_at _ rfl (.tmp 26) (.tmp 28) 34 rfl 0 56 i56 (.pointer none) 1 8 Try.underlying34 hi56 z560 z561 z562 rfl (by decide) kV kb.length (kb.map ptrV) rfl (by exact HKR.out.alloc _) ⟨w6.heap.size, 0, none⟩ 1 1 [ptrV r] rfl rfl (by exact cell_one_new w6 (ptrV r) 56) (by intro u hu; simp at hu; subst hu; rfl) (by unfold maxLen; omega) (by omega) (Nat.zero_le _) ?_)
  intro kV' w7 hown hgrow hnil hat
  have hk7 := kept_app (w3 := w6) hgrow ((Kept.refl _ w6).alloc _)
  obtain ⟨⟨u7, k1⟩, k2⟩ := HT3.out w6 w7 HBK.out hk7
  have HLV := hid_of (HLV2.out kV' w7 hown hk7 (hat_of1 hat))
  obtain ⟨tao, tcap, rfl⟩ := ownsRow_shape hown
  clear hown hgrow hnil hat hk7 HLV2 HT3 HBK HKR
  go_upto_region 3 with fail
  generalize hw8 : w7.setCell ⟨sb, 3, none⟩ (.slice tao (kb.length + 1) tcap) = w8 at *
  obtain ⟨hlv, e2⟩ := HLV.out
  have HL := hid_of hlv
  clear hlv HLV k1 k2 x0 d2 y3 hw8 hw6
  go_wp2
  go_loopw [6] (fun i wr => ∃ k : Nat, i = .int .i64 k ∧ RunI W calls κ w sb (.slice cao calls.length ccap) (rb ++ [r]) (gs ++ [g]) fuel N { s with rs := s.rs ++ [bs], many := s.many + 1 } k wr) (fun i _ => 401 - (intOf i).toNat)
  case atStart => exact ⟨0, rfl, fuel, { s with rs := s.rs ++ [bs], many := s.many + 1 }, by rw [Int.natCast_zero, Int.sub_zero], hfu, Nat.le_refl _, Nat.zero_le _, HL.out⟩
  case round =>
    obtain ⟨k, rfl, f, t, hpl, hft, hff, hkt, hlv⟩ := hrel
    obtain ⟨c0, c1, cf, hsbr, hp4r, hrs, hbase, hkw⟩ := hlv.cells
    have x1r := hX.out wr hkw
    have HLR := hid_of hlv
    have HPL := hid_of hpl
    have HBS := hid_of hbase
    clear hlv hpl hbase hkw HL e2
    by_cases ha : (k : Int) < N
    · by_cases hb : t.pos < calls.length
      · by_cases hc : t.pos < 400
        · have hbI : ((t.pos : Nat) : Int) < ((calls.length : Nat) : Int) := by omega
          have hcI : ((t.pos : Nat) : Int) < 400 := by omega
          go_wp2_with fail
          go_quiet (fail)
          have HKQ := hid_of (kept_drewN (Kept.refl (fun _ => False) wr) nq)
          generalize hwq : wr.drewN nq = wq at *
          clear hwq
          obtain ⟨c, hcd⟩ : ∃ c, c = calls.getD t.pos CV.default := ⟨_, rfl⟩
          obtain ⟨cb, o, hcao, q0, q1, q2, q3⟩ := HCS.out t.pos hb
          obtain ⟨⟨m1, m2⟩, ⟨m3, m4⟩, ⟨m5, m6⟩, hcib, hcbo⟩ := HCOK.out t.pos hb
          rw [← hcd] at q0 q1 q2 q3 m1 m2 m3 m4 m5 m6 hcib hcbo
          obtain ⟨bao, bcap, hbv⟩ := hcib.shape
          have hkWq := HBS.out.trans HKQ.out
          rw [hbv] at q3
          subst hcao
          have p0 := hkWq.cell q0 (fun f => f)
          have p1 := hkWq.cell q1 (fun f => f)
          have p2 := hkWq.cell q2 (fun f => f)
          have p3 := hkWq.cell q3 (fun f => f)
          have c0q := HKQ.out.cell c0 (fun f => f)
          have c1q := HKQ.out.cell c1 (fun f => f)
          have hsbq : sb < wq.heap.size := Nat.lt_of_lt_of_le hsbr HKQ.out.size
          have HLQ := hid_of (HLR.out.new HKQ.out)
          have HCD := hid_of hcd
          have HBV := hid_of hbv
          have HCIB := hid_of hcib
          have HCBO := hid_of hcbo
          obtain ⟨ck, hck⟩ : ∃ ck, ck = c.k := ⟨_, rfl⟩
          obtain ⟨cn, hcn⟩ : ∃ cn, cn = c.n := ⟨_, rfl⟩
          obtain ⟨co, hco⟩ : ∃ co, co = c.o := ⟨_, rfl⟩
          obtain ⟨xl, hxl⟩ : ∃ xl, xl = c.xs.length := ⟨_, rfl⟩
          rw [← hck] at p0 m1 m2
          rw [← hcn] at p1 m3 m4
          rw [← hco] at p2 m5 m6
          rw [← hxl] at p3
          have HN : Hid (ck = c.k ∧ cn = c.n ∧ co = c.o ∧ xl = c.xs.length) := ⟨hck, hcn, hco, hxl⟩
          clear q0 q1 q2 q3 hkWq hcd hbv hcib hcbo c0 c1 cf x1r HCS HCOK HBS HLR HKQ hsbr hck hcn hco hxl
          go_wp2_with fail
          go_region_held3 (fun w' => w'.cell? ⟨sb, 0, none⟩ = some (.slice (some ⟨cb, o, none⟩) calls.length ccap) ∧ w'.cell? ⟨sb, 1, none⟩ = some (.int .i64 ((t.pos : Nat) : Int)) ∧ w'.cell? ⟨cb, o + t.pos * 4, none⟩ = some (.int .i64 ck) ∧ w'.cell? ⟨cb, o + t.pos * 4 + 1, none⟩ = some (.int .i64 cn) ∧ w'.cell? ⟨cb, o + t.pos * 4 + 2, none⟩ = some (.int .i64 co) ∧ w'.cell? ⟨cb, o + t.pos * 4 + 3, none⟩ = some (.slice bao xl bcap)) (first | exact ⟨c0q, c1q, p0, p1, p2, p3⟩ | assumption | go_keep) (first | fail)
          have hkB : Kept (fun _ => False) wq (wq.alloc (.cells #[.int .i64 ck, .int .i64 cn, .int .i64 co, .slice bao xl bcap] 85)).drew := ((Kept.refl _ _).alloc _).drew
          have hbx : (wq.alloc (.cells #[.int .i64 ck, .int .i64 cn, .int .i64 co, .slice bao xl bcap] 85)).drew.heap[wq.heap.size]? = some (.cells #[.int .i64 ck, .int .i64 cn, .int .i64 co, .slice bao xl bcap] 85 (0, 0)) := heap_alloc_new wq _
          generalize hwB : (wq.alloc (.cells #[.int .i64 ck, .int .i64 cn, .int .i64 co, .slice bao xl bcap] 85)).drew = wB at *
          have hlB := HLQ.out.new hkB
          obtain ⟨_, c1B, cfB, hsbB, _⟩ := hlB.cells
          have hnx := hlB.next hc
          rw [show ((t.pos + 1 : Nat) : Int) = (t.pos : Int) + 1 from by omega] at hnx
          have hbn := ((kept_set wB sb 1 (.int .i64 ((t.pos : Int) + 1))).block wq.heap.size (Array.getElem?_eq_some_iff.1 hbx).1 (by omega)).trans hbx
          have HNX := hid_of hnx
          have HBN := hid_of hbn
          have hw1 : IntKind.i64.wrap ((t.pos : Int) + 1) = (t.pos : Int) + 1 := by simp [IntKind.wrap, IntKind.bits, IntKind.signed]; omega
          clear hbx hkB hwB HLQ hlB hnx hbn p0 p1 p2 p3 c0q c1q
          go_upto_region 9 with fail
          generalize wB.setCell ⟨sb, 1, none⟩ (.int .i64 ((t.pos : Int) + 1)) = wN at *
          have b0 : wN.cell? ⟨wq.heap.size, 0, none⟩ = some (.int .i64 ck) := by rw [cell_block _ _ _ _ _ _ HBN.out]; rfl
          have b1 : wN.cell? ⟨wq.heap.size, 1, none⟩ = some (.int .i64 cn) := by rw [cell_block _ _ _ _ _ _ HBN.out]; rfl
          have b2 : wN.cell? ⟨wq.heap.size, 2, none⟩ = some (.int .i64 co) := by rw [cell_block _ _ _ _ _ _ HBN.out]; rfl
          have b3 : wN.cell? ⟨wq.heap.size, 3, none⟩ = some (.slice bao xl bcap) := by rw [cell_block _ _ _ _ _ _ HBN.out]; rfl
          have hbl : wq.heap.size < wN.heap.size := (Array.getElem?_eq_some_iff.1 HBN.out).1
          obtain ⟨f', rfl⟩ : ∃ f', f = f' + 1 := ⟨f - 1, by omega⟩
          have HCND : Hid (0 < N - k ∧ t.pos < calls.length ∧ t.pos < 400) := ⟨by omega, hb, hc⟩
          clear c1B cfB hsbB HBN
          by_cases h10 : ck = 10
          · subst h10
            by_cases h20' : rb.length + 1 < 20
            · have h20I : (rb.length : Int) + 1 < 20 := by omega
              have hin := HNX.out.inner (calls := calls) (fuel := f') (c := c) (HIH.out f' (by omega)) (by rw [HBV.out]) HCIB.out HCBO.out (by rw [← HN.out.2.1]; exact m3) (by rw [← HN.out.2.1]; exact m4) (by simp; omega) (by dsimp only; omega)
              rw [← HN.out.1, ← HN.out.2.1, ← HN.out.2.2.1, ← HN.out.2.2.2] at hin
              have HINN := hid_of hin
              clear hin
              go_wp2_with fail
              refine HINN.out.mono ?_
              rintro e wI (⟨t', x, hp, rfl, hx⟩ | ⟨t', j, flt, older, hp, hj, hpn, rfl, hx⟩)
              · obtain ⟨gR2, n2, rc2, y1, y2, y3, y4⟩ := hx.cut
                have HREL := hid_of (RunI.inn HPL.out HCND.out hft hff hkt (by rw [← HCD.out]; exact HN.out.1.symm) hrs (by simp; omega) (by rw [← HCD.out, ← HN.out.2.1]; exact hp) y4)
                rw [List.length_append, List.length_singleton] at y2 HREL
                clear hp hx y4 HINN HNX b0 b1 b2 b3
                go_wp2
                go_roundw
                case rel => exact ⟨k + 1, by go_num, HREL.out⟩
                case measure => simp [intOf]; omega
              · exact ⟨rfl, .inr ⟨t', j, flt, older, HPL.out.trans (play_pass HCND.out (by rw [← HCD.out]; exact HN.out.1.symm) (by rw [hrs]; simp; omega) (by rw [hrs]; omega) (by rw [← HCD.out, ← HN.out.2.1]; exact hp)), hj, hpn, rfl, hx⟩⟩
            · have h20I : ¬ ((rb.length : Int) + 1 < 20) := by omega
              have HREL := hid_of (RunI.deep HPL.out HCND.out hft hff hkt (by rw [← HCD.out]; exact HN.out.1.symm) (by rw [hrs]; simp; omega) HNX.out.lv)
              go_wp2
              go_roundw
              case rel => exact ⟨k + 1, by go_num, HREL.out⟩
              case measure => simp [intOf]; omega
          · have h10b : (ck == 10) = false := by simpa using h10
            have hin := HNX.out.call (c := c) (by simp) (by simp; omega) HBV.out (by rw [← HN.out.2.1]; exact m3) (by rw [← HN.out.2.1]; exact m4) (by rw [← HN.out.2.2.1]; exact m5) (by rw [← HN.out.2.2.1]; exact m6)
            rw [← HN.out.1, ← HN.out.2.1, ← HN.out.2.2.1, ← HN.out.2.2.2, show (((rb ++ [r]).length : Nat) : Int) = (rb.length : Int) + 1 from by simp] at hin
            have HINN := hid_of hin
            clear hin
            go_wp2_with fail
            refine HINN.out.mono ?_
            rintro e wI (⟨t', hp, rfl, hx⟩ | ⟨j, flt, hp, hj, rfl, hx⟩)
            · have HREL := hid_of (RunI.call HPL.out HCND.out hft hff hkt (by rw [← HCD.out, ← HN.out.1]; exact h10) (by rw [← HCD.out]; exact hp) hx)
              clear hp hx HINN HNX b0 b1 b2 b3
              go_wp2
              go_roundw
              case rel => exact ⟨k + 1, by go_num, HREL.out⟩
              case measure => simp [intOf]; omega
            · exact ⟨rfl, .inr ⟨_, j, flt, [], HPL.out.trans (play_fault HCND.out (by rw [← HCD.out, ← HN.out.1]; exact h10) (by rw [← HCD.out]; exact hp)), hj, plain_nil, rfl, hx⟩⟩
        · have hcI : ¬ (((t.pos : Nat) : Int) < 400) := by omega
          have hbI : ((t.pos : Nat) : Int) < ((calls.length : Nat) : Int) := by omega
          have hcd : decide (((t.pos : Nat) : Int) < 400) = false := by simpa using hcI
          skip
          go_wp2_with fail
          go_quiet (fail)
          have hst := play_stop calls f (N - k) t (fun h => by omega)
          have HEND : Hid (∀ nq, RunPost W calls κ w sb (.slice cao calls.length ccap) (rb ++ [r]) (gs ++ [g]) fuel N { s with rs := s.rs ++ [bs], many := s.many + 1 } (.returned (.tuple #[])) (wr.drewN nq)) := fun nq => .inl ⟨t, HPL.out.trans hst, rfl, HLR.out.new (kept_drewN (Kept.refl _ _) nq)⟩
          clear hst
          go_wp2
          go_end0
          exact HEND.out _
      · have hbI : ¬ (((t.pos : Nat) : Int) < ((calls.length : Nat) : Int)) := by omega
        have hbd : decide (((t.pos : Nat) : Int) < ((calls.length : Nat) : Int)) = false := by simpa using hbI
        skip
        go_wp2_with fail
        go_quiet (fail)
        have hst := play_stop calls f (N - k) t (fun h => by omega)
        have HEND : Hid (∀ nq, RunPost W calls κ w sb (.slice cao calls.length ccap) (rb ++ [r]) (gs ++ [g]) fuel N { s with rs := s.rs ++ [bs], many := s.many + 1 } (.returned (.tuple #[])) (wr.drewN nq)) := fun nq => .inl ⟨t, HPL.out.trans hst, rfl, HLR.out.new (kept_drewN (Kept.refl _ _) nq)⟩
        clear hst
        go_wp2
        go_end0
        exact HEND.out _
    · have had : decide ((k : Int) < N) = false := by simpa using ha
      skip
      go_wp2_with fail
      go_quiet (fail)
      have hst := play_stop calls f (N - k) t (fun h => by omega)
      have HEND : Hid (∀ nq, RunPost W calls κ w sb (.slice cao calls.length ccap) (rb ++ [r]) (gs ++ [g]) fuel N { s with rs := s.rs ++ [bs], many := s.many + 1 } (.returned (.tuple #[])) (wr.drewN nq)) := fun nq => .inl ⟨t, HPL.out.trans hst, rfl, HLR.out.new (kept_drewN (Kept.refl _ _) nq)⟩
      clear hst
      go_wp2
      go_end0
      exact HEND.out _
end Go.Proofs.Ytffabihenhejfaa

namespace Go.Proofs.Ytffabihenhejfaa
open Go.RowKit

theorem run_all (W : World) (calls : List CV) (sb : Nat) (callsV : Value) (hcalls : CallsOk W callsV calls) (fuel : Nat) : RunC W calls sb callsV fuel := by
  induction fuel using Nat.strongRecOn with
  | ind f ih => exact run_ok W calls sb callsV hcalls f ih
end Go.Proofs.Ytffabihenhejfaa
