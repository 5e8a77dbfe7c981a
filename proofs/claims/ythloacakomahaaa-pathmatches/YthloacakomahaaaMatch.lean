/-
  path.IsClean and path.Match by contract.
-/
import Derived.Test.YthloacakomahaaaGoesw
namespace Go.Proofs.Ythloacakomahaaa
open Go.RowKit Go.Shelf
attribute [local go_sem] Oper.semAt_some
set_option linter.unusedVariables false
set_option linter.unusedSimpArgs false

/-- A path in its one form. -/
def isClean (l : List UInt8) : Bool := (cleanOf l).2 == 0 && (cleanOf l).1 == l

set_option maxRecDepth 100000 in
set_option maxHeartbeats 1000000 in
theorem isclean_any {P : List UInt8 → Prop} (HN : ∀ x, P x → ∀ W, Calls Try.prog 12 #[.string ⟨x.toArray⟩] W fun e W' => e = .returned (.bool (isName x)) ∧ Kept (fun _ => False) W W')
    (s : ByteArray) (hP : ∀ x ∈ partsOf s.data.toList, P x) (w : World) :
    Calls Try.prog 14 #[.string s] w fun e w' => e = .returned (.bool (isClean s.data.toList)) ∧ Kept (fun _ => False) w w' := by
  have HC := hid_of (clean_any HN s hP)
  have hi : isClean s.data.toList = ((cleanOf s.data.toList).2 == 0 && (cleanOf s.data.toList).1 == s.toList) := by rw [isClean, ByteArray.toList_eq]
  rw [hi]
  clear hi
  generalize (cleanOf s.data.toList).1 = c1 at *
  generalize (cleanOf s.data.toList).2 = c2 at *
  cases h : c2 == 0
  · go_enter Try.func14, Try.ntmps14
    go_wp2_with fail
    refine (HC.out _).mono ?_
    rintro e w1 ⟨rfl, hk⟩
    have HK := hid_of hk
    clear hk HC
    go_wp2
    go_ret
    exact ⟨rfl, HK.out⟩
  · go_enter Try.func14, Try.ntmps14
    go_wp2_with fail
    refine (HC.out _).mono ?_
    rintro e w1 ⟨rfl, hk⟩
    have HK := hid_of hk
    clear hk HC
    go_wp2
    go_ret
    exact ⟨rfl, HK.out⟩

/-- A part that may not stand in a pattern. -/
def badPart (x : List UInt8) : Bool := x.isEmpty || (x != [42, 42] && Lib.contains x [42, 42])
def matchOf (l m : List UInt8) : Bool × Int :=
  if 4096 < l.length ∨ 4096 < m.length then (false, 2) else if (partsOf l).any badPart = true then (false, 34) else if isClean m = false then (false, 31) else (matchParts (partsOf l) (partsOf m), 0)

theorem split_le : ∀ (l x : List UInt8), x ∈ splitB l → x.length ≤ l.length
  | [], x, h => by
    simp only [splitB, List.mem_singleton] at h
    rw [h]
    simp
  | c :: l, x, h => by
    obtain ⟨p, ps, e⟩ := splitB_some l
    by_cases hc : c = 47
    · rw [(splitB_cons c l).1 hc] at h
      rcases List.mem_cons.1 h with h | h
      · rw [h]; simp
      · have := split_le l x h
        simp only [List.length_cons]
        omega
    · rw [(splitB_cons c l).2 hc _ _ e] at h
      rcases List.mem_cons.1 h with h | h
      · have := split_le l p (by rw [e]; simp)
        rw [h]
        simp only [List.length_cons]
        omega
      · have := split_le l x (by rw [e]; exact List.mem_cons_of_mem _ h)
        simp only [List.length_cons]
        omega
theorem parts_le (l x : List UInt8) (h : x ∈ partsOf l) : x.length ≤ l.length := by
  rw [partsOf] at h
  split at h
  · cases h
  · exact split_le l x h

theorem undef_not (b : Bool) (h : some undef = some (Value.bool b)) (h' : b = true) : False := by cases h

theorem words_full (s : ByteArray) (hs : s.size ≤ 4096) (w : World) :
    Calls Try.prog 41 #[.string s] w fun e w' => ∃ v ps, e = .returned v ∧ ps.map (·.1) = partsOf s.data.toList ∧ w'.ownsRow w.heap.size 60 2 v ps.length (wordCells ps) ∧ HasWords w' w.heap.size ps ∧ Kept (fun _ => False) w w' :=
  words_any (P := fun x => x.length < 1099511627776) (fun _ h => h) s hs (fun x hx => by
    have := parts_le _ x hx
    have hl : s.data.toList.length = s.size := by simp
    omega) w

set_option maxRecDepth 100000 in
set_option maxHeartbeats 2000000 in
theorem match_any {P P' : List UInt8 → Prop} (w : World) (HC : ∀ x, P x → x ≠ [42, 42] → ∀ W, Below w.heap.size w W → Calls Try.prog 39 #[.string ⟨x.toArray⟩, .string ⟨#[42, 42]⟩] W fun e W' => e = .returned (.bool (Lib.contains x [42, 42])) ∧ Kept (fun _ => False) W W')
    (HN : ∀ x, P' x → ∀ W, Calls Try.prog 12 #[.string ⟨x.toArray⟩] W fun e W' => e = .returned (.bool (isName x)) ∧ Kept (fun _ => False) W W')
    (s t : ByteArray) (hP : ∀ x ∈ partsOf s.data.toList, P x) (hP' : ∀ x ∈ partsOf t.data.toList, P' x) :
    Calls Try.prog 28 #[.string s, .string t] w fun e w' => e = .returned (.tuple #[.bool (matchOf s.data.toList t.data.toList).1, .int .i64 (matchOf s.data.toList t.data.toList).2]) ∧ Kept (fun _ => False) w w' := by
  have hl : s.data.toList.length = s.size := by simp
  have hm : t.data.toList.length = t.size := by simp
  obtain ⟨c, hcd⟩ : ∃ c, c = matchOf s.data.toList t.data.toList := ⟨_, rfl⟩
  rw [← hcd]
  have HCD := hid_of hcd
  have HI := hid_of (isclean_any HN t hP')
  clear hcd
  refine (callsIn_wide (n := 3)).1 ?_
  refine callsIn_of_wp_marks Try.func28 rfl trivial ?_ rfl
  simp only [Try.ntmps28, List.size_toArray, List.length_cons, List.length_nil, Nat.reduceAdd, Nat.reduceSub, Array.replicate_succ, Array.replicate_zero, List.push_toArray, List.append_toArray, List.nil_append, List.cons_append]
  by_cases h : 4096 < s.size
  · have HE : Hid (c = (false, 2)) := by
      show _ = _
      rw [HCD.out, matchOf, hl, hm, if_pos (.inl h)]
    gi_wp2
    refine ⟨.tuple #[.bool false, .int .i64 2], ?_, by rw [HE.out], ((Kept.refl _ w).alloc _).alloc _⟩
    simp [results, Try.f28, go_sem]
  by_cases h' : 4096 < t.size
  · have HE : Hid (c = (false, 2)) := by
      show _ = _
      rw [HCD.out, matchOf, hl, hm, if_pos (.inr h')]
    gi_wp2
    refine ⟨.tuple #[.bool false, .int .i64 2], ?_, by rw [HE.out], ((Kept.refl _ w).alloc _).alloc _⟩
    simp [results, Try.f28, go_sem]
  have hcd : c = if (partsOf s.data.toList).any badPart = true then (false, 34) else if isClean t.data.toList = false then (false, 31) else (matchParts (partsOf s.data.toList) (partsOf t.data.toList), 0) := by
    rw [HCD.out, matchOf, hl, hm, if_neg (by omega)]
  have HCD := hid_of hcd
  have HA := hid_of (names_any s)
  have HL := hid_of hl
  have HM := hid_of hm
  clear hcd
  gi_wp2_with fail
  refine ⟨trivial, (callsIn_wide.2 (HA.out _)).mono ?_⟩
  rintro e w1 ⟨rfl, rfl⟩
  clear HA hl hm
  gi_wp2
  have b0 := ((Boxed.new w 4 (.bool false)).alloc (.cells #[.int .i64 0] 23)).alloc (.cells #[.string s] 9)
  have b1 := (Boxed.new (w.alloc (.cells #[.bool false] 4)) 23 (.int .i64 0)).alloc (.cells #[.string s] 9)
  have b2 := Boxed.new ((w.alloc (.cells #[.bool false] 4)).alloc (.cells #[.int .i64 0] 23)) 9 (.string s)
  simp only [World.size_alloc] at b1 b2
  have hB0 := (((Below.refl w.heap.size w).alloc (Nat.le_refl _) (.cells #[.bool false] 4)).alloc (by simp) (.cells #[.int .i64 0] 23)).alloc (by simp; omega) (.cells #[.string s] 9)
  obtain ⟨W0, hW0⟩ : ∃ W0, (((w.alloc (.cells #[.bool false] 4)).alloc (.cells #[.int .i64 0] 23)).alloc (.cells #[.string s] 9)) = W0 := ⟨_, rfl⟩
  have hsz : W0.heap.size = w.heap.size + 3 := by rw [← hW0]; simp
  rw [hW0] at b0 b1 b2 hB0 ⊢
  clear hW0
  refine wpIn_rangeFunc_ownG rfl (by omega) (gf := 47) (lb := #[.pointer (some ⟨w.heap.size + 1 + 1, 0, none⟩)]) rfl trivial (enters_of Try.func47 (by kernel_rfl) rfl)
    (names_stops 2 (by omega) (w.heap.size + 1 + 1) s (by omega) hP W0 (by omega) b2.cell) (fun _ _ => trivial) (fun _ _ _ _ _ _ _ _ => trivial) (Below.refl _ _) (fun _ => rfl)
    (fun pre W => ((vals pre).any badPart = false ∧ Boxed W w.heap.size 4 (.bool false) ∧ Boxed W (w.heap.size + 1) 23 (.int .i64 0)) ∧ Below w.heap.size w W)
    (fun c pre W => (c = .ret ∧ (vals pre).any badPart = true ∧ Boxed W w.heap.size 4 (.bool false) ∧ Boxed W (w.heap.size + 1) 23 (.int .i64 34)) ∧ Below w.heap.size w W)
    ?hI ?hIx ?h0
    (fun x => { tmps := #[.string s, .string t, undef, undef, .pointer (some ⟨w.heap.size, 0, none⟩), .pointer (some ⟨w.heap.size + 1, 0, none⟩), x.v, .string s, .int .i64 s.size, .bool (decide (4096 < (s.size : Int))), .bool (decide (4096 < (s.size : Int))), .string t, .int .i64 t.size, .bool (decide (4096 < (t.size : Int))), .bool (decide (4096 < (s.size : Int)) || decide (4096 < (t.size : Int))), .string s, .func (.func 47) #[] #[.pointer (some ⟨w.heap.size + 1 + 1, 0, none⟩)], x.v, undef, undef, undef, undef, undef, undef, undef, undef, undef, undef, undef, undef, undef, undef, undef, undef, undef, undef], defers := [] }) ?assign ?body ?done ?stop
  case hI =>
    rintro pre A C rw ⟨⟨hf, hb0, hb1⟩, hB⟩ hg hr
    exact ⟨⟨hf, box_stay hb0 hg hr, box_stay hb1 hg hr⟩, hB.grown hg hB.size (fun k e => by have := (hr k e).1; omega)⟩
  case hIx =>
    rintro c pre A C rw ⟨⟨rfl, hf, hb0, hb1⟩, hB⟩ hg hr
    exact ⟨⟨rfl, hf, box_stay hb0 hg hr, box_stay hb1 hg hr⟩, hB.grown hg hB.size (fun k e => by have := (hr k e).1; omega)⟩
  case h0 => exact ⟨⟨rfl, b0, b1⟩, hB0⟩
  case assign =>
    intro l x W K hK
    gi_wp2
    exact hK
  case body =>
    rintro l pre x W ⟨⟨hf, hb0, hb1⟩, hB⟩ hlt
    have HF : Hid ((vals (pre ++ [x])).any badPart = badPart x.1) := by
      show _ = _
      rw [show vals (pre ++ [x]) = vals pre ++ [x.1] by simp [vals], List.any_append, hf]
      simp
    have HB := hid_of hB
    have H0 := hid_of hb0
    have H1 := hid_of hb1
    have hc0 := hb0.cell
    have hz0 := hb0.frozen
    have hc1 := hb1.cell
    have hz1 := hb1.frozen
    have HX := hid_of (fun h => HC x.1 x.2 h W hB)
    have HC' := hid_of HC
    have HN' := hid_of HN
    obtain ⟨x, hx⟩ := x
    clear hB hb0 hb1 hf HC HN
    dsimp only at HF HX
    by_cases c1 : x = []
    · subst c1
      gi_wp2
      all_goals first | (exfalso; exact undef_not _ (by assumption) (by assumption)) | skip
      all_goals (refine ⟨trivial, ?_⟩)
      all_goals gi_wp2
      all_goals exact ⟨((KeepsOthers.setCell _ _ _).trans (KeepsOthers.setCell _ _ _)).from _, ⟨rfl, HF.out, box_far (Boxed.set _ H0.out) (by omega) _, Boxed.set _ (box_far H1.out (by omega) _)⟩, (HB.out.setCell (p := ⟨w.heap.size, 0, none⟩) (Nat.le_refl _) _).setCell (p := ⟨w.heap.size + 1, 0, none⟩) (by simp) _⟩
    by_cases c2 : x = [42, 42]
    · subst c2
      gi_wp2
      all_goals (refine ⟨trivial, ?_⟩)
      all_goals gi_wp2
      all_goals exact ⟨KeepsFrom.refl _ _, trivial, ⟨HF.out, H0.out, H1.out⟩, HB.out⟩
    have e1 : x.isEmpty = false := by
      cases x with
      | nil => exact absurd rfl c1
      | cons a b => rfl
    have e2 : (x == [42, 42]) = false := by simpa using c2
    have HF2 : Hid (badPart x = Lib.contains x [42, 42]) := by
      show _ = _
      rw [badPart, e1, bne, e2]
      rfl
    have HY := hid_of (HX.out c2)
    clear HX
    cases hcon : Lib.contains x [42, 42] with
    | true =>
      rw [hcon] at HY HF2
      gi_wp2_with fail
      refine ⟨trivial, CallsIn.inRound l ((callsIn_wide.2 HY.out).mono ?_)⟩
      rintro e W1 ⟨rfl, hk⟩
      have G0 := hid_of (box_keep H0.out hk)
      have G1 := hid_of (box_keep H1.out hk)
      have GO := hid_of hk.others
      have GB := hid_of (HB.out.trans (hk.below (B := w.heap.size) HB.out.size (fun _ h => h.elim)))
      have gc0 := G0.out.cell
      have gz0 := G0.out.frozen
      have gc1 := G1.out.cell
      have gz1 := G1.out.frozen
      clear hk HY
      gi_wp2
      exact ⟨(GO.out.trans ((KeepsOthers.setCell _ _ _).trans (KeepsOthers.setCell _ _ _))).from _, ⟨rfl, HF.out.trans HF2.out, box_far (Boxed.set _ G0.out) (by omega) _, Boxed.set _ (box_far G1.out (by omega) _)⟩, (GB.out.setCell (p := ⟨w.heap.size, 0, none⟩) (Nat.le_refl _) _).setCell (p := ⟨w.heap.size + 1, 0, none⟩) (by simp) _⟩
    | false =>
      rw [hcon] at HY HF2
      gi_wp2_with fail
      refine ⟨trivial, CallsIn.inRound l ((callsIn_wide.2 HY.out).mono ?_)⟩
      rintro e W1 ⟨rfl, hk⟩
      have G0 := hid_of (box_keep H0.out hk)
      have G1 := hid_of (box_keep H1.out hk)
      have GO := hid_of hk.others
      have GB := hid_of (HB.out.trans (hk.below (B := w.heap.size) HB.out.size (fun _ h => h.elim)))
      clear hk HY
      gi_wp2
      exact ⟨GO.out.from _, trivial, ⟨HF.out.trans HF2.out, G0.out, G1.out⟩, GB.out⟩
  case done =>
    rintro D ys W hD hS ⟨⟨hf, hb0, hb1⟩, hB⟩ hK
    rw [hS] at hf
    have hcd := HCD.out
    rw [hf] at hcd
    simp only [Bool.false_eq_true, if_false] at hcd
    have HB := hid_of hB
    have HK := hid_of hK
    have H0 := hid_of hb0
    have H1 := hid_of hb1
    have HC' := hid_of HC
    have HN' := hid_of HN
    clear hB hK hb0 hb1 hf hS HC HN
    cases hcl : isClean t.data.toList with
    | false =>
      rw [hcl] at HI hcd
      have HE := hid_of hcd
      clear hcd
      gi_wp2_with fail
      refine ⟨trivial, (callsIn_wide.2 (HI.out _)).mono ?_⟩
      rintro e W1 ⟨rfl, hk1⟩
      have G0 := hid_of (box_keep H0.out hk1)
      have G1 := hid_of (box_keep H1.out hk1)
      have GB := hid_of (HB.out.trans (hk1.below (B := w.heap.size) HB.out.size (fun _ h => h.elim)))
      have GK := hid_of (hk1.others.same D _ HK.out rfl)
      have hc0 := G0.out.cell
      have hz0 := G0.out.frozen
      have hc1 := G1.out.cell
      have hz1 := G1.out.frozen
      clear hk1 HI
      gi_wp2
      have hk := ((KeepsOthers.setCell W1 ⟨w.heap.size, 0, none⟩ (.bool false)).trans (KeepsOthers.setCell _ ⟨w.heap.size + 1, 0, none⟩ (.int .i64 31))).same D _ GK.out rfl
      refine ⟨by simp, .inl ⟨_, _, rfl, run_takeDeferred hk, ?_⟩⟩
      have g0 := (box_put (box_far (Boxed.set (.bool false) G0.out) (show w.heap.size ≠ w.heap.size + 1 by omega) (.int .i64 31)) hk).cell
      have g1 := (box_put (Boxed.set (.int .i64 31) (box_far G1.out (show w.heap.size + 1 ≠ w.heap.size by omega) (.bool false))) hk).cell
      refine ⟨.tuple #[.bool false, .int .i64 31], ?_, by rw [HE.out]; rfl, kept_below (((GB.out.setCell (p := ⟨w.heap.size, 0, none⟩) (Nat.le_refl _) _).setCell (p := ⟨w.heap.size + 1, 0, none⟩) (by simp) _).trans (belowK_b (w := w) (Nat.le_refl _) _ D _ _ (by omega) hk rfl rfl))⟩
      simp [results, Try.f28, go_sem, g0, g1]
    | true =>
      rw [hcl] at HI hcd
      have HE := hid_of hcd
      clear hcd
      gi_wp2_with fail
      refine ⟨trivial, (callsIn_wide.2 (HI.out _)).mono ?_⟩
      rintro e W1 ⟨rfl, hk1⟩
      have GB := hid_of (HB.out.trans (hk1.below (B := w.heap.size) HB.out.size (fun _ h => h.elim)))
      have K1 := hid_of hk1
      clear hk1 HI
      gi_wp2_with fail
      refine ⟨trivial, (callsIn_wide.2 (words_full s (by omega) _)).mono ?_⟩
      rintro e W2 ⟨v1, ps, rfl, hps, ho1, hw1, hk2⟩
      have K2 := hid_of hk2
      have O1 := hid_of (And.intro hps (And.intro ho1 hw1))
      clear hk2 hps ho1 hw1
      gi_wp2_with fail
      refine ⟨trivial, (callsIn_wide.2 (words_full t (by omega) _)).mono ?_⟩
      rintro e W3 ⟨v2, qs, rfl, hqs, ho2, hw2, hk3⟩
      have K3 := hid_of hk3
      have hg := goesw_any ps qs v1 v2 W1.heap.size W3 (hk3.ownsRow O1.out.2.1 (fun g _ h => h)) (own_base ho2 K2.out.size) (fun p hp => hk3.ownsRow (O1.out.2.2 p hp) (fun g _ h => h)) (fun p hp => own_base (hw2 p hp) K2.out.size) ?l1 ?l2 ?l3 ?l4
      case l1 =>
        have h1 := congrArg List.length O1.out.1
        have h2 := parts_len s.data.toList
        rw [List.length_map] at h1
        rw [HL.out] at h2
        omega
      case l2 =>
        have h1 := congrArg List.length hqs
        have h2 := parts_len t.data.toList
        rw [List.length_map] at h1
        rw [HM.out] at h2
        omega
      case l3 =>
        intro p hp
        have h1 := parts_le s.data.toList p.1 (by rw [← O1.out.1]; exact List.mem_map_of_mem hp)
        rw [HL.out] at h1
        omega
      case l4 =>
        intro p hp
        have h1 := parts_le t.data.toList p.1 (by rw [← hqs]; exact List.mem_map_of_mem hp)
        rw [HM.out] at h1
        omega
      rw [O1.out.1, hqs] at hg
      have HG := hid_of hg
      clear hk3 hqs ho2 hw2 hg
      gi_wp2_with fail
      refine ⟨trivial, (callsIn_wide.2 HG.out).mono ?_⟩
      rintro e W4 ⟨rfl, hk4⟩
      have KK := hid_of (((K1.out.trans K2.out).trans K3.out).trans hk4)
      have G0 := hid_of (box_keep H0.out KK.out)
      have G1 := hid_of (box_keep H1.out KK.out)
      have GC := hid_of (HB.out.trans (KK.out.below (B := w.heap.size) HB.out.size (fun _ h => h.elim)))
      have GK := hid_of (KK.out.others.same D _ HK.out rfl)
      have hc0 := G0.out.cell
      have hz0 := G0.out.frozen
      have hc1 := G1.out.cell
      have hz1 := G1.out.frozen
      clear hk4 HG
      generalize matchParts (partsOf s.data.toList) (partsOf t.data.toList) = r at *
      gi_wp2
      have hk := ((KeepsOthers.setCell W4 ⟨w.heap.size, 0, none⟩ (.bool r)).trans (KeepsOthers.setCell _ ⟨w.heap.size + 1, 0, none⟩ (.int .i64 0))).same D _ GK.out rfl
      refine ⟨by simp, .inl ⟨_, _, rfl, run_takeDeferred hk, ?_⟩⟩
      have g0 := (box_put (box_far (Boxed.set (.bool r) G0.out) (show w.heap.size ≠ w.heap.size + 1 by omega) (.int .i64 0)) hk).cell
      have g1 := (box_put (Boxed.set (.int .i64 0) (box_far G1.out (show w.heap.size + 1 ≠ w.heap.size by omega) (.bool r))) hk).cell
      refine ⟨.tuple #[.bool r, .int .i64 0], ?_, by rw [HE.out]; rfl, kept_below (((GC.out.setCell (p := ⟨w.heap.size, 0, none⟩) (Nat.le_refl _) _).setCell (p := ⟨w.heap.size + 1, 0, none⟩) (by simp) _).trans (belowK_b (w := w) (Nat.le_refl _) _ D _ _ (by omega) hk rfl rfl))⟩
      simp [results, Try.f28, go_sem, g0, g1]
  case stop =>
    rintro D c' pre W hD hS ⟨⟨rfl, hf, hb0, hb1⟩, hB⟩ hK
    have hcd := HCD.out
    have hbad : (partsOf s.data.toList).any badPart = true := by
      obtain ⟨zs, hz⟩ := hS
      rw [← hz, List.any_append, hf]
      rfl
    rw [if_pos hbad] at hcd
    have HE := hid_of hcd
    have HC' := hid_of HC
    have HN' := hid_of HN
    clear hcd HC HN
    gi_wp2
    refine ⟨by simp, .inl ⟨_, _, rfl, run_takeDeferred hK, ?_⟩⟩
    have g0 := (box_put hb0 hK).cell
    have g1 := (box_put hb1 hK).cell
    refine ⟨.tuple #[.bool false, .int .i64 34], ?_, by rw [HE.out], kept_below (hB.trans (belowK_b (w := w) (Nat.le_refl _) W D _ _ (by omega) hK rfl rfl))⟩
    simp [results, Try.f28, go_sem, g0, g1]
end Go.Proofs.Ythloacakomahaaa
