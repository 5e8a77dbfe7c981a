/-
  PathWalks: the walk.
-/
import Derived.Test.YthloacakomahaabRf
import Derived.Test.YthloacakomahaabKnown
import Derived.Laws.EntriesVeiled
namespace Go.Proofs.Ythloacakomahaab
open Go.RowKit Go.Shelf
attribute [local go_sem] Oper.semAt_some
set_option linter.unusedVariables false
set_option linter.unusedSimpArgs false

theorem depth_split : ∀ l : List UInt8, (splitB l).length = l.count 47 + 1
  | [] => rfl
  | c :: l => by
    have ih := depth_split l
    obtain ⟨p, ps, e⟩ := splitB_some l
    by_cases hc : c = 47
    · rw [(splitB_cons c l).1 hc, hc, List.length_cons, ih, List.count_cons_self]
    · rw [(splitB_cons c l).2 hc _ _ e, List.count_cons_of_ne (fun h => hc h), ← ih, e]
      rfl
theorem depth_parts (l : List UInt8) : depthOf l = ((partsOf l).length : Int) := by
  rw [depthOf, partsOf]
  split
  · rfl
  · rw [depth_split]
    omega

theorem not_front {P : List UInt8 → Prop} {A : List (List UInt8)} {pre : List (Txt P)} {x : Txt P} {y : List UInt8} (ey : A[pre.length]? = some y) (hxy : ¬ x.1 = y) : ¬ vals (pre ++ [x]) <+: A := fun hpf => by
  obtain ⟨zs, hz⟩ := hpf
  rw [show vals (pre ++ [x]) = vals pre ++ [x.1] by simp [vals], List.append_assoc] at hz
  have hlen : (vals pre).length = pre.length := by simp [vals]
  rw [← hz, List.getElem?_append_right (by omega), hlen, Nat.sub_self] at ey
  simp at ey
  exact hxy ey
theorem next_front {P : List UInt8 → Prop} {A : List (List UInt8)} {pre : List (Txt P)} {x : Txt P} (ey : A[pre.length]? = some x.1) (hp : vals pre = A.take pre.length) (hp2 : pre.length ≤ A.length) : vals (pre ++ [x]) = A.take (pre ++ [x]).length ∧ (pre ++ [x]).length ≤ A.length := by
  have h1 := (List.getElem?_eq_some_iff.1 ey).1
  refine ⟨?_, by simp; omega⟩
  rw [show vals (pre ++ [x]) = vals pre ++ [x.1] by simp [vals], hp, List.length_append, List.length_singleton, List.take_add_one, ey]
  rfl

set_option maxRecDepth 100000 in
set_option maxHeartbeats 4000000 in
theorem walks_walk (s : ByteArray) (st : Int) (hs : s.size ≤ 9223372036854775807) (w : World) :
    Calls Try.prog 4 #[.string s, .int .i64 st] w fun e w' => e = .returned (.bool true) ∧ Kept (fun _ => False) w w' := by
  have HK := hid_of known_any
  refine (callsIn_wide (n := 8)).1 ?_
  refine callsIn_of_wp_marks Try.func4 rfl trivial ?_ rfl
  simp only [Try.ntmps4, List.size_toArray, List.length_cons, List.length_nil, Nat.reduceAdd, Nat.reduceSub, Array.replicate_succ, Array.replicate_zero, List.push_toArray, List.append_toArray, List.nil_append, List.cons_append]
  by_cases h1 : 16777216 < s.size
  · gi_wp2_with fail
    refine ⟨trivial, (callsIn_wide.2 (HK.out _)).mono ?_⟩
    rintro e w1 ⟨rfl, hk⟩
    have b1 := box_keep (Boxed.new (w.alloc (.cells #[.int .i64 st] 3)) 4 (.bool false)) hk
    simp only [World.size_alloc] at b1
    have K1 := hid_of ((((Kept.refl (fun _ => False) w).alloc (.cells #[.int .i64 st] 3)).alloc (.cells #[.bool false] 4)).trans hk)
    have hc := b1.cell
    have hz := b1.frozen
    clear hk HK
    gi_wp2
    refine ⟨.bool true, ?_, rfl, K1.out.setCell (p := ⟨w.heap.size + 1, 0, none⟩) (.inl (by simp)) _⟩
    have g1 := (Boxed.set (.bool true) b1).cell
    simp [results, Try.f4, go_sem, g1]
  have HL := hid_of (lists_any s (by omega))
  have HN := hid_of (names_any s)
  have HD := hid_of (depth_any s (by omega))
  rw [depth_parts] at HD
  have hpl : (partsOf s.data.toList).length ≤ 16777217 := by
    have h2 := parts_len s.data.toList
    have h3 : s.data.toList.length = s.size := by simp
    omega
  obtain ⟨A, hA⟩ : ∃ A, A = partsOf s.data.toList := ⟨_, rfl⟩
  rw [← hA] at HL HD hpl
  have HA := hid_of hA
  clear hA
  have hq : ∀ (w : World) (a : Addr), (binOp .eql 34 (.func (.func 21) #[] #[.pointer (some a)]) Value.nilFunc).run Try.prog w = .ok (.bool false) w := fun w a => rfl
  gi_wp2_with fail
  refine ⟨trivial, (callsIn_wide.2 (HK.out _)).mono ?_⟩
  rintro e w1 ⟨rfl, hk⟩
  have b0 := box_keep ((Boxed.new w 3 (.int .i64 st)).alloc (.cells #[.bool false] 4)) hk
  have b1 := box_keep (Boxed.new (w.alloc (.cells #[.int .i64 st] 3)) 4 (.bool false)) hk
  simp only [World.size_alloc] at b1
  have K1 := hid_of ((((Kept.refl (fun _ => False) w).alloc (.cells #[.int .i64 st] 3)).alloc (.cells #[.bool false] 4)).trans hk)
  have B0 := hid_of b0
  have B1 := hid_of b1
  clear hk HK b0 b1
  gi_wp2_with fail
  refine ⟨trivial, (callsIn_wide.2 (HL.out _)).mono ?_⟩
  rintro e w2 ⟨v1, rfl, ho, hk⟩
  have C0 := hid_of (box_keep B0.out hk)
  have C1 := hid_of (box_keep B1.out hk)
  have K2 := hid_of (K1.out.trans hk)
  have O1 := hid_of ho
  have hs2 : w.heap.size + 2 ≤ w2.heap.size := by
    have := C1.out.lt
    omega
  obtain ⟨a1, c1, rfl, hz1, hz2, hz3⟩ := own_slice ho
  clear hz1 hz2 hz3 hk ho HL B0 B1 K1
  gi_wp2_with fail
  refine ⟨trivial, (callsIn_wide.2 (HN.out _)).mono ?_⟩
  rintro e w3 ⟨rfl, rfl⟩
  clear HN
  gi_wp2
  have D0 := ((C0.out.alloc (.cells #[.slice a1 A.length c1] 28)).alloc (.cells #[.string s] 9)).alloc (.cells #[.func (.func 21) #[] #[.pointer (some ⟨w2.heap.size + 1, 0, none⟩)]] 34)
  have D1 := ((C1.out.alloc (.cells #[.slice a1 A.length c1] 28)).alloc (.cells #[.string s] 9)).alloc (.cells #[.func (.func 21) #[] #[.pointer (some ⟨w2.heap.size + 1, 0, none⟩)]] 34)
  have D2 := ((Boxed.new w2 28 (.slice a1 A.length c1)).alloc (.cells #[.string s] 9)).alloc (.cells #[.func (.func 21) #[] #[.pointer (some ⟨w2.heap.size + 1, 0, none⟩)]] 34)
  have D3 := (Boxed.new (w2.alloc (.cells #[.slice a1 A.length c1] 28)) 9 (.string s)).alloc (.cells #[.func (.func 21) #[] #[.pointer (some ⟨w2.heap.size + 1, 0, none⟩)]] 34)
  have D4 := Boxed.new ((w2.alloc (.cells #[.slice a1 A.length c1] 28)).alloc (.cells #[.string s] 9)) 34 (.func (.func 21) #[] #[.pointer (some ⟨w2.heap.size + 1, 0, none⟩)])
  simp only [World.size_alloc] at D3 D4
  have D5 := ((O1.out.alloc (.cells #[.slice a1 A.length c1] 28)).alloc (.cells #[.string s] 9)).alloc (.cells #[.func (.func 21) #[] #[.pointer (some ⟨w2.heap.size + 1, 0, none⟩)]] 34)
  have D6 := ((K2.out.alloc (.cells #[.slice a1 A.length c1] 28)).alloc (.cells #[.string s] 9)).alloc (.cells #[.func (.func 21) #[] #[.pointer (some ⟨w2.heap.size + 1, 0, none⟩)]] 34)
  obtain ⟨W4, hW4⟩ : ∃ W4, ((w2.alloc (.cells #[.slice a1 A.length c1] 28)).alloc (.cells #[.string s] 9)).alloc (.cells #[.func (.func 21) #[] #[.pointer (some ⟨w2.heap.size + 1, 0, none⟩)]] 34) = W4 := ⟨_, rfl⟩
  have hs4 : W4.heap.size = w2.heap.size + 3 := by rw [← hW4]; simp
  rw [hW4] at D0 D1 D2 D3 D4 D5 D6 ⊢
  have cl := D2.cell
  have cs := D4.cell
  clear hW4 C0 C1 O1 K2
  have E0 := hid_of D0
  have E1 := hid_of D1
  have E2 := hid_of D2
  have E3 := hid_of D3
  have E4 := hid_of D4
  have E5 := hid_of D5
  have E6 := hid_of D6
  clear D0 D1 D2 D3 D4 D5 D6
  generalize w2.heap.size = N2 at *
  refine wpIn_region_quiet_lit rfl (by kernel_rfl) (by kernel_rfl) ?_
  repeat (gi_big_quiet_step (fail))
  refine BigFrame.wpQuietIn_want (fun _ _ _ _ => trivial) (by rfl) (fun K hK => ?_)
  gi_big_quiet_op
  apply Exists.intro
  refine ⟨fun _ => ?_, ?_⟩
  · refine (callsIn_wide.2 (HD.out _)).mono (fun _ _ h => ⟨h.1, _, h.2⟩)
  refine hK _ ?_
  clear hK K
  repeat (gi_big_quiet_step (fail))
  refine wpQuietIn_nil ?_
  rintro _ ⟨nq, rfl⟩
  gi_wp2
  refine wpIn_loop_rounds 3 ?_
  rw [roundsIn_succ]
  have F4 := (E4.out.alloc (.cells #[.int .i64 0] 3))
  have HW5 : Hid (Base w N2 (N2 + 1) (N2 + 1 + 1) (N2 + 3) (N2 + 3 + 1) w1.heap.size st 0 s (.slice a1 A.length c1) (.func (.func 21) #[] #[.pointer (some ⟨N2 + 1, 0, none⟩)]) A none 0 (((W4.drewN nq).alloc (.cells #[.int .i64 0] 3)).alloc (.cells #[.int .i64 0] 3))) := by
    have k1 : Kept (fun _ => False) W4 ((W4.drewN nq).alloc (.cells #[.int .i64 0] 3)) := (kept_drewN (Kept.refl _ W4) nq).alloc _
    have k2 := k1.alloc (.cells #[.int .i64 0] 3)
    refine ⟨box_keep E0.out k2, ⟨false, box_keep E1.out k2⟩, box_keep E2.out k2, box_keep E3.out k2, box_keep E4.out k2, ?_, ?_, k2.ownsRow E5.out (fun _ _ h => h), (E6.out.trans k2).below (Nat.le_refl _) (fun _ h => h.elim), fun D hD => by cases hD⟩
    · have := (Boxed.new (W4.drewN nq) 3 (.int .i64 0)).alloc (.cells #[.int .i64 0] 3)
      rwa [show (W4.drewN nq).heap.size = N2 + 3 from hs4] at this
    · have := Boxed.new ((W4.drewN nq).alloc (.cells #[.int .i64 0] 3)) 3 (.int .i64 0)
      rwa [World.size_alloc, show (W4.drewN nq).heap.size = N2 + 3 from hs4] at this
  have cs5 := HW5.out.seq.cell
  clear F4
  gi_wp2
  have HB1 := hid_of HW5.out
  obtain ⟨W5, hW5⟩ : ∃ W5, (((W4.drewN nq).alloc (.cells #[.int .i64 0] 3)).alloc (.cells #[.int .i64 0] 3)) = W5 := ⟨_, rfl⟩
  have HS5 : Hid (W5.heap.size = N2 + 5) := by
    show _ = _
    rw [← hW5]
    simp [hs4]
  rw [hW5] at HB1 ⊢
  clear HW5 cs5 hW5
  have HG1 : ∀ D, (none : Option Nat) = some D → D < W5.heap.size := fun D h => by cases h
  refine rangeH rfl (by omega) (gf := 21) (lb := #[.pointer (some ⟨N2 + 1, 0, none⟩)]) rfl trivial (enters_of Try.func21 (by kernel_rfl) rfl)
    (names_stops (P := fun _ => True) 7 (by omega) (N2 + 1) s (by omega) (fun _ _ => trivial) W5 HB1.out.pth.lt HB1.out.pth.cell) (Below.refl _ _) (fun _ => rfl)
    (fun pre W => (vals pre = A.take pre.length ∧ pre.length ≤ A.length) ∧ Base w N2 (N2 + 1) (N2 + 1 + 1) (N2 + 3) (N2 + 3 + 1) w1.heap.size st 0 s (.slice a1 A.length c1) (.func (.func 21) #[] #[.pointer (some ⟨N2 + 1, 0, none⟩)]) A none pre.length W)
    (fun c pre W => (c = .ret ∧ ¬ vals pre <+: A) ∨ (c = .exit 2 ∧ (0 : Int) = 0 ∧ ∃ nv, Base w N2 (N2 + 1) (N2 + 1 + 1) (N2 + 3) (N2 + 3 + 1) w1.heap.size st 0 s (.slice a1 A.length c1) (.func (.func 21) #[] #[.pointer (some ⟨N2 + 1, 0, none⟩)]) A none nv W))
    ?hI1 ?hIx1 ?h01 10 (fun x => x.v) ?assign1 ?body1 ?done1 ?stop1
  case hI1 =>
    rintro pre X Y rw ⟨hp, hb⟩ hg hr
    exact ⟨hp, hb.stay (B := W5.heap.size) HB1.out.below.size HG1 hg hr⟩
  case hIx1 =>
    rintro c pre X Y rw hb hg hr
    rcases hb with hb | ⟨hc, ht, nv, hb⟩
    · exact .inl hb
    · exact .inr ⟨hc, ht, nv, hb.stay (B := W5.heap.size) HB1.out.below.size HG1 hg hr⟩
  case h01 => exact ⟨⟨rfl, by simp⟩, HB1.out⟩
  case assign1 =>
    intro l x W K hK
    gi_wp2
    simp at hK
    exact hK
  case body1 =>
    rintro l pre x W hl ⟨r, hr⟩ ⟨⟨hp1, hp2⟩, hB⟩ hlt
    generalize hQ : ownPostG _ _ _ _ _ _ = Q
    have HQ := hid_of hQ
    clear hQ
    rw [← HA.out] at hlt
    obtain ⟨y, ey⟩ : ∃ y, A[pre.length]? = some y := ⟨_, List.getElem?_eq_getElem hlt⟩
    obtain ⟨a', c', hv, hz1, hz2, hx⟩ := own_slice hB.row
    cases hv
    obtain ⟨g1, rfl, hz3, hz4, hg1⟩ := hx pre.length _ (texts_get _ _ _ ey)
    have HBW := hid_of hB
    have q0 := hB.lst.cell
    have q1 := hB.cnt.cell
    have q2 := hB.cnt.frozen
    have q3 := hB.seq.cell
    clear hx hB hz1 hz2 hz3 hz4
    by_cases hxy : x.1 = y
    case neg =>
      have hne : (x.1 == y) = false := by simpa using hxy
      obtain ⟨rb, hrb⟩ := HBW.out.res
      have q4 := hrb.cell
      have q5 := hrb.frozen
      have HNP : Hid (¬ vals (pre ++ [x]) <+: A) := not_front ey hxy
      gi_wp2
      rw [← HQ.out]
      exact ⟨(KeepsOthers.setCell _ _ _).from _, .inl ⟨rfl, HNP.out⟩⟩
    have hne : (x.1 == y) = true := by simpa using hxy
    have HP := hid_of (And.intro ey (And.intro hp1 hp2))
    have HR := hid_of hr
    have h63 : ((pre.length : Int) + 1) < 9223372036854775808 := by omega
    have HXY := hid_of hxy
    have hgt : ¬ A.length ≤ pre.length := by omega
    clear ey hp1 hp2 hr hxy
    have HV : Hid (Base w N2 (N2 + 1) (N2 + 1 + 1) (N2 + 3) (N2 + 3 + 1) w1.heap.size st 0 s (.slice (some ⟨g1, 0, none⟩) A.length c1) (.func (.func 21) #[] #[.pointer (some ⟨N2 + 1, 0, none⟩)]) A none (↑pre.length + 1) ((W.setCell ⟨(N2 + 3 + 1), 0, none⟩ (.int .i64 (↑pre.length + 1))).alloc (.cells #[.int .i64 0] 3))) := HBW.out.count _ (by omega) (by omega) (by omega) (by omega) (by omega) (by omega) (by omega) |>.alloc _
    have cV := HV.out.seq.cell
    gi_wp2
    have HKV : Hid (KeepsFrom W5.heap.size W ((W.setCell ⟨(N2 + 3 + 1), 0, none⟩ (.int .i64 (↑pre.length + 1))).alloc (.cells #[.int .i64 0] 3))) := ((KeepsOthers.setCell _ _ _).trans (KeepsOthers.alloc _ _)).from _
    have HSV : Hid (((W.setCell ⟨(N2 + 3 + 1), 0, none⟩ (.int .i64 (↑pre.length + 1))).alloc (.cells #[.int .i64 0] 3)).heap.size = W.heap.size + 1) := by
      show _ = _
      simp
    have HMV : Hid (Boxed ((W.setCell ⟨(N2 + 3 + 1), 0, none⟩ (.int .i64 (↑pre.length + 1))).alloc (.cells #[.int .i64 0] 3)) W.heap.size 3 (.int .i64 0)) := by
      have := Boxed.new (W.setCell ⟨(N2 + 3 + 1), 0, none⟩ (.int .i64 (↑pre.length + 1))) 3 (.int .i64 0)
      rwa [World.size_setCell] at this
    have HRV : Hid (((W.setCell ⟨(N2 + 3 + 1), 0, none⟩ (.int .i64 (↑pre.length + 1))).alloc (.cells #[.int .i64 0] 3)).heap[l]? = some (.loop r)) := ((KeepsOthers.setCell _ _ _).trans (KeepsOthers.alloc _ _)).same l _ HR.out rfl
    obtain ⟨V, hV⟩ : ∃ V, ((W.setCell ⟨(N2 + 3 + 1), 0, none⟩ (.int .i64 (↑pre.length + 1))).alloc (.cells #[.int .i64 0] 3)) = V := ⟨_, rfl⟩
    rw [hV] at HV HKV HSV HMV HRV ⊢
    have HGV : Hid (∀ D, (none : Option Nat) = some D → D < V.heap.size) := fun D hD => by
      have := HG1 D hD
      have := HSV.out
      have := Nat.lt_of_le_of_lt hl (Array.getElem?_eq_some_iff.1 HR.out).1
      omega
    clear cV hV
    have hw1 := HBW.out.stop.lt
    have hw2 := HBW.out.res.choose_spec.lt
    have hw3 := HBW.out.lst.lt
    have hw4 := HBW.out.pth.lt
    have hw5 := HBW.out.seq.lt
    have hw6 := HBW.out.turn.lt
    have hw7 := HBW.out.cnt.lt
    have hne1 : ¬ w.heap.size = W.heap.size := by omega
    have HW := hid_of (And.intro hw1 (And.intro hw2 (And.intro hw3 (And.intro hw4 (And.intro hw5 (And.intro hw6 hw7))))))
    clear hw1 hw2 hw3 hw4 hw5 hw6 hw7
    refine rangeN (l₀ := l) (r₀ := r) rfl HRV.out (by omega) (gf := 21) (lb := #[.pointer (some ⟨N2 + 1, 0, none⟩)]) rfl trivial (enters_of Try.func21 (by kernel_rfl) rfl)
      ((names_stops (P := fun _ => True) 5 (by omega) (N2 + 1) s (by omega) (fun _ _ => trivial) V HV.out.pth.lt HV.out.pth.cell).inRound l) (Below.refl _ _) (fun _ => rfl)
      (fun pre2 X => (vals pre2 = A.take pre2.length ∧ pre2.length ≤ A.length) ∧ Boxed X W.heap.size 3 (.int .i64 pre2.length) ∧ Base w N2 (N2 + 1) (N2 + 1 + 1) (N2 + 3) (N2 + 3 + 1) w1.heap.size st 0 s (.slice (some ⟨g1, 0, none⟩) A.length c1) (.func (.func 21) #[] #[.pointer (some ⟨N2 + 1, 0, none⟩)]) A none (↑pre.length + 1) X ∧ KeepsFrom W5.heap.size V X)
      (fun c pre2 X => (c = .ret ∧ ¬ vals pre2 <+: A) ∨ (c = .exit 4 ∧ Base w N2 (N2 + 1) (N2 + 1 + 1) (N2 + 3) (N2 + 3 + 1) w1.heap.size st 0 s (.slice (some ⟨g1, 0, none⟩) A.length c1) (.func (.func 21) #[] #[.pointer (some ⟨N2 + 1, 0, none⟩)]) A none (↑pre.length + 1) X ∧ KeepsFrom W5.heap.size V X))
      ?hI1i ?hIx1i ?h01i 12 (fun x => x.v) ?assign1i ?body1i ?done1i ?stop1i
    case hI1i =>
      rintro pre2 X Y rw ⟨hp, hM, hb, hk⟩ hg hr
      exact ⟨hp, box_stay hM hg hr, hb.stay (B := V.heap.size) HV.out.below.size HGV.out hg hr, ownFrom_keepsFrom (Nat.le_refl _) pre2 X Y rw hk hg hr⟩
    case hIx1i =>
      rintro c pre2 X Y rw hb hg hr
      rcases hb with hb | ⟨hc, hb, hk⟩
      · exact .inl hb
      · exact .inr ⟨hc, hb.stay (B := V.heap.size) HV.out.below.size HGV.out hg hr, ownFrom_keepsFrom (Nat.le_refl _) pre2 X Y rw hk hg hr⟩
    case h01i => exact ⟨⟨rfl, by simp⟩, HMV.out, HV.out, KeepsFrom.refl _ _⟩
    case assign1i =>
      intro l x W K hK
      gi_wp2
      simp at hK
      exact hK
    case body1i =>
      rintro l2 pre2 x2 X hl2 ⟨r2, hr2⟩ ⟨⟨hp1, hp2⟩, hM, hB, hKF⟩ hlt2
      generalize hQ2 : ownPostG _ _ _ _ _ _ = Q2
      have HQ2 := hid_of hQ2
      clear hQ2 hr2 hl2
      rw [← HA.out] at hlt2
      obtain ⟨y2, ey2⟩ : ∃ y, A[pre2.length]? = some y := ⟨_, List.getElem?_eq_getElem hlt2⟩
      obtain ⟨a', c', hv, hz1, hz2, hx⟩ := own_slice hB.row
      cases hv
      obtain ⟨g2, hge, hz3, hz4, hg2⟩ := hx pre2.length _ (texts_get _ _ _ ey2)
      have e2 : g2 = g1 := by
        cases hge
        rfl
      rw [e2] at hg2
      have HBX := hid_of hB
      have HMX := hid_of hM
      have HKX := hid_of hKF
      have s0 := hB.lst.cell
      have s1 := hM.cell
      have s2 := hM.frozen
      have s3 := hB.stop.cell
      clear hx hB hz1 hz2 hz3 hz4 hge e2 hM hKF q0 q1 q2 q3 hg1
      have hgt2 : ¬ A.length ≤ pre2.length := by omega
      by_cases hxy : x2.1 = y2
      case neg =>
        have hne2 : (x2.1 == y2) = false := by simpa using hxy
        obtain ⟨rb, hrb⟩ := HBX.out.res
        have q4 := hrb.cell
        have q5 := hrb.frozen
        have HNP : Hid (¬ vals (pre2 ++ [x2]) <+: A) := not_front ey2 hxy
        gi_wp2
        rw [← HQ2.out]
        exact ⟨(KeepsOthers.setCell _ _ _).from _, .inl ⟨rfl, HNP.out⟩⟩
      have hne2 : (x2.1 == y2) = true := by simpa using hxy
      have HP2 : Hid (vals (pre2 ++ [x2]) = A.take (pre2 ++ [x2]).length ∧ (pre2 ++ [x2]).length ≤ A.length) := next_front (by rw [hxy]; exact ey2) hp1 hp2
      have h632 : ((pre2.length : Int) + 1) < 9223372036854775808 := by omega
      have HX : Hid (Base w N2 (N2 + 1) (N2 + 1 + 1) (N2 + 3) (N2 + 3 + 1) w1.heap.size st 0 s (.slice (some ⟨g1, 0, none⟩) A.length c1) (.func (.func 21) #[] #[.pointer (some ⟨N2 + 1, 0, none⟩)]) A none (↑pre.length + 1) (X.setCell ⟨W.heap.size, 0, none⟩ (.int .i64 (↑pre2.length + 1)))) := by
        obtain ⟨w1', w2', w3', w4', w5', w6', w7'⟩ := HW.out
        exact HBX.out.far HMX.out (by decide) (by omega) (by omega) (by omega) (by omega) (by omega) (by omega) (by omega) (by omega)
      have HMM : Hid (Boxed (X.setCell ⟨W.heap.size, 0, none⟩ (.int .i64 (↑pre2.length + 1))) W.heap.size 3 (.int .i64 ((pre2 ++ [x2]).length : Nat))) := by
        have := Boxed.set (.int .i64 (↑pre2.length + 1)) HMX.out
        exact hid_of (by simpa using this)
      have HKY : Hid (KeepsFrom W5.heap.size V (X.setCell ⟨W.heap.size, 0, none⟩ (.int .i64 (↑pre2.length + 1)))) := HKX.out.trans ((KeepsOthers.setCell _ _ _).from _)
      clear ey2 hp1 hp2 hxy
      by_cases hst : st < (pre2.length : Int) + 1
      · gi_wp2
        rw [← HQ2.out]
        exact ⟨(KeepsOthers.setCell _ _ _).from _, .inr ⟨rfl, HX.out, HKY.out⟩⟩
      · gi_wp2
        rw [← HQ2.out]
        exact ⟨(KeepsOthers.setCell _ _ _).from _, trivial, HP2.out, HMM.out, HX.out, HKY.out⟩
    case' done1i => rintro xs X hS ⟨hp, hM, hB, hKF⟩
    case' stop1i =>
      rintro c pre2 X hSp (⟨rfl, hn⟩ | ⟨rfl, hB, hKF⟩)
      · rw [← HA.out] at hSp
        exact absurd hSp hn
    all_goals
      have HBX := hid_of hB
      have HKX : Hid (KeepsFrom W5.heap.size W X) := HKV.out.trans hKF
      have s0 := hB.turn.cell
      have s1 := hB.cnt.cell
      have s2 := hB.stop.cell
      have HP2 : Hid (vals (pre ++ [x]) = A.take (pre ++ [x]).length ∧ (pre ++ [x]).length ≤ A.length) := next_front (by rw [HXY.out]; exact HP.out.1) HP.out.2.1 HP.out.2.2
      have HX2 : Hid (Base w N2 (N2 + 1) (N2 + 1 + 1) (N2 + 3) (N2 + 3 + 1) w1.heap.size st 0 s (.slice (some ⟨g1, 0, none⟩) A.length c1) (.func (.func 21) #[] #[.pointer (some ⟨N2 + 1, 0, none⟩)]) A none ((pre ++ [x]).length : Nat) X) := by
        have := HBX.out
        rw [List.length_append, List.length_singleton]
        exact_mod_cast this
      clear hB hKF q0 q1 q2 q3 hg1 HV HKV HSV HMV HRV HGV
      by_cases hst : st < (pre.length : Int) + 1
      · gi_wp2
        rw [← HQ.out]
        exact ⟨HKX.out, .inr ⟨rfl, by simp, _, HBX.out⟩⟩
      · gi_wp2
        rw [← HQ.out]
        exact ⟨HKX.out, trivial, HP2.out, HX2.out⟩
  case done1 =>
    rintro DD xs Z hD hS ⟨hp, hB⟩ hdf
    obtain ⟨nv, hB⟩ : ∃ nv : Int, Base w N2 (N2 + 1) (N2 + 1 + 1) (N2 + 3) (N2 + 3 + 1) w1.heap.size st 0 s (.slice a1 A.length c1) (.func (.func 21) #[] #[.pointer (some ⟨N2 + 1, 0, none⟩)]) A none nv Z := ⟨_, hB⟩
    clear hp hS
    have HB := hid_of hB
    have s0 := hB.turn.cell
    have s1 := hB.cnt.cell
    have HDF := hid_of hdf
    have hz5 : N2 + 5 ≤ Z.heap.size ∧ DD < Z.heap.size := by
      have h1 := (Array.getElem?_eq_some_iff.1 hdf).1
      have h2 := HS5.out
      omega
    clear hB hdf
    gi_wp2
    rw [roundsIn_succ]
    have HW6 : Hid (Base w N2 (N2 + 1) (N2 + 1 + 1) Z.heap.size (Z.heap.size + 1) w1.heap.size st 1 s (.slice a1 A.length c1) (.func (.func 21) #[] #[.pointer (some ⟨N2 + 1, 0, none⟩)]) A (some DD) 0 ((Z.alloc (.cells #[.int .i64 1] 3)).alloc (.cells #[.int .i64 0] 3))) := by
      have k2 : Kept (fun _ => False) Z ((Z.alloc (.cells #[.int .i64 1] 3)).alloc (.cells #[.int .i64 0] 3)) := ((Kept.refl _ Z).alloc _).alloc _
      refine ⟨box_keep HB.out.stop k2, HB.out.res.imp (fun b hb => box_keep hb k2), box_keep HB.out.lst k2, box_keep HB.out.pth k2, box_keep HB.out.seq k2, ?_, ?_, k2.ownsRow HB.out.row (fun _ _ h => h), (HB.out.below.trans (k2.below (B := w.heap.size) HB.out.below.size (fun _ h => h.elim))), fun D hD => ?_⟩
      · exact (Boxed.new Z 3 (.int .i64 1)).alloc _
      · have := Boxed.new (Z.alloc (.cells #[.int .i64 1] 3)) 3 (.int .i64 0)
        rwa [World.size_alloc] at this
      · cases hD
        exact (k2.block DD hz5.2 (fun e => e)).trans HDF.out
    have cs6 := HW6.out.seq.cell
    clear s0 s1
    gi_wp2
    have HB2 := hid_of HW6.out
    obtain ⟨W6, hW6⟩ : ∃ W6, ((Z.alloc (.cells #[.int .i64 1] 3)).alloc (.cells #[.int .i64 0] 3)) = W6 := ⟨_, rfl⟩
    have HS6 : Hid (W6.heap.size = Z.heap.size + 2) := by
      show _ = _
      rw [← hW6]
      simp
    rw [hW6] at HB2 ⊢
    clear HW6 cs6 hW6
    have HG2 : ∀ D, some DD = some D → D < W6.heap.size := fun D h => by
      cases h
      have := HS6.out
      omega
    refine rangeH rfl (by omega) (gf := 21) (lb := #[.pointer (some ⟨N2 + 1, 0, none⟩)]) rfl trivial (enters_of Try.func21 (by kernel_rfl) rfl)
      (names_stops (P := fun _ => True) 7 (by omega) (N2 + 1) s (by omega) (fun _ _ => trivial) W6 HB2.out.pth.lt HB2.out.pth.cell) (Below.refl _ _) (fun _ => rfl)
      (fun pre W => (vals pre = A.take pre.length ∧ pre.length ≤ A.length) ∧ Base w N2 (N2 + 1) (N2 + 1 + 1) Z.heap.size (Z.heap.size + 1) w1.heap.size st 1 s (.slice a1 A.length c1) (.func (.func 21) #[] #[.pointer (some ⟨N2 + 1, 0, none⟩)]) A (some DD) pre.length W)
      (fun c pre W => (c = .ret ∧ ¬ vals pre <+: A) ∨ (c = .exit 2 ∧ (1 : Int) = 0 ∧ ∃ nv, Base w N2 (N2 + 1) (N2 + 1 + 1) Z.heap.size (Z.heap.size + 1) w1.heap.size st 1 s (.slice a1 A.length c1) (.func (.func 21) #[] #[.pointer (some ⟨N2 + 1, 0, none⟩)]) A (some DD) nv W))
      ?hI2 ?hIx2 ?h02 10 (fun x => x.v) ?assign2 ?body2 ?done2 ?stop2
    case hI2 =>
      rintro pre X Y rw ⟨hp, hb⟩ hg hr
      exact ⟨hp, hb.stay (B := W6.heap.size) HB2.out.below.size HG2 hg hr⟩
    case hIx2 =>
      rintro c pre X Y rw hb hg hr
      rcases hb with hb | ⟨hc, ht, nv, hb⟩
      · exact .inl hb
      · exact .inr ⟨hc, ht, nv, hb.stay (B := W6.heap.size) HB2.out.below.size HG2 hg hr⟩
    case h02 => exact ⟨⟨rfl, by simp⟩, HB2.out⟩
    case assign2 =>
      intro l x W K hK
      gi_wp2
      simp at hK
      exact hK
    case body2 =>
      rintro l pre x W hl ⟨r, hr⟩ ⟨⟨hp1, hp2⟩, hB⟩ hlt
      generalize hQ : ownPostG _ _ _ _ _ _ = Q
      have HQ := hid_of hQ
      clear hQ
      rw [← HA.out] at hlt
      obtain ⟨y, ey⟩ : ∃ y, A[pre.length]? = some y := ⟨_, List.getElem?_eq_getElem hlt⟩
      obtain ⟨a', c', hv, hz1, hz2, hx⟩ := own_slice hB.row
      cases hv
      obtain ⟨g1, rfl, hz3, hz4, hg1⟩ := hx pre.length _ (texts_get _ _ _ ey)
      have HBW := hid_of hB
      have q0 := hB.lst.cell
      have q1 := hB.cnt.cell
      have q2 := hB.cnt.frozen
      have q3 := hB.seq.cell
      clear hx hB hz1 hz2 hz3 hz4
      by_cases hxy : x.1 = y
      case neg =>
        have hne : (x.1 == y) = false := by simpa using hxy
        obtain ⟨rb, hrb⟩ := HBW.out.res
        have q4 := hrb.cell
        have q5 := hrb.frozen
        have HNP : Hid (¬ vals (pre ++ [x]) <+: A) := not_front ey hxy
        gi_wp2
        rw [← HQ.out]
        exact ⟨(KeepsOthers.setCell _ _ _).from _, .inl ⟨rfl, HNP.out⟩⟩
      have hne : (x.1 == y) = true := by simpa using hxy
      have HP := hid_of (And.intro ey (And.intro hp1 hp2))
      have HR := hid_of hr
      have h63 : ((pre.length : Int) + 1) < 9223372036854775808 := by omega
      have HXY := hid_of hxy
      have hgt : ¬ A.length ≤ pre.length := by omega
      clear ey hp1 hp2 hr hxy
      have HV : Hid (Base w N2 (N2 + 1) (N2 + 1 + 1) Z.heap.size (Z.heap.size + 1) w1.heap.size st 1 s (.slice (some ⟨g1, 0, none⟩) A.length c1) (.func (.func 21) #[] #[.pointer (some ⟨N2 + 1, 0, none⟩)]) A (some DD) (↑pre.length + 1) ((W.setCell ⟨(Z.heap.size + 1), 0, none⟩ (.int .i64 (↑pre.length + 1))).alloc (.cells #[.int .i64 0] 3))) := HBW.out.count _ (by omega) (by omega) (by omega) (by omega) (by omega) (by omega) (by omega) |>.alloc _
      have cV := HV.out.seq.cell
      gi_wp2
      have HKV : Hid (KeepsFrom W6.heap.size W ((W.setCell ⟨(Z.heap.size + 1), 0, none⟩ (.int .i64 (↑pre.length + 1))).alloc (.cells #[.int .i64 0] 3))) := ((KeepsOthers.setCell _ _ _).trans (KeepsOthers.alloc _ _)).from _
      have HSV : Hid (((W.setCell ⟨(Z.heap.size + 1), 0, none⟩ (.int .i64 (↑pre.length + 1))).alloc (.cells #[.int .i64 0] 3)).heap.size = W.heap.size + 1) := by
        show _ = _
        simp
      have HMV : Hid (Boxed ((W.setCell ⟨(Z.heap.size + 1), 0, none⟩ (.int .i64 (↑pre.length + 1))).alloc (.cells #[.int .i64 0] 3)) W.heap.size 3 (.int .i64 0)) := by
        have := Boxed.new (W.setCell ⟨(Z.heap.size + 1), 0, none⟩ (.int .i64 (↑pre.length + 1))) 3 (.int .i64 0)
        rwa [World.size_setCell] at this
      have HRV : Hid (((W.setCell ⟨(Z.heap.size + 1), 0, none⟩ (.int .i64 (↑pre.length + 1))).alloc (.cells #[.int .i64 0] 3)).heap[l]? = some (.loop r)) := ((KeepsOthers.setCell _ _ _).trans (KeepsOthers.alloc _ _)).same l _ HR.out rfl
      obtain ⟨V, hV⟩ : ∃ V, ((W.setCell ⟨(Z.heap.size + 1), 0, none⟩ (.int .i64 (↑pre.length + 1))).alloc (.cells #[.int .i64 0] 3)) = V := ⟨_, rfl⟩
      rw [hV] at HV HKV HSV HMV HRV ⊢
      have HGV : Hid (∀ D, ((some DD) : Option Nat) = some D → D < V.heap.size) := fun D hD => by
        have := HG2 D hD
        have := HSV.out
        have := Nat.lt_of_le_of_lt hl (Array.getElem?_eq_some_iff.1 HR.out).1
        omega
      clear cV hV
      have hw1 := HBW.out.stop.lt
      have hw2 := HBW.out.res.choose_spec.lt
      have hw3 := HBW.out.lst.lt
      have hw4 := HBW.out.pth.lt
      have hw5 := HBW.out.seq.lt
      have hw6 := HBW.out.turn.lt
      have hw7 := HBW.out.cnt.lt
      have hne1 : ¬ w.heap.size = W.heap.size := by omega
      have HW := hid_of (And.intro hw1 (And.intro hw2 (And.intro hw3 (And.intro hw4 (And.intro hw5 (And.intro hw6 hw7))))))
      clear hw1 hw2 hw3 hw4 hw5 hw6 hw7
      refine rangeN (l₀ := l) (r₀ := r) rfl HRV.out (by omega) (gf := 21) (lb := #[.pointer (some ⟨N2 + 1, 0, none⟩)]) rfl trivial (enters_of Try.func21 (by kernel_rfl) rfl)
        ((names_stops (P := fun _ => True) 5 (by omega) (N2 + 1) s (by omega) (fun _ _ => trivial) V HV.out.pth.lt HV.out.pth.cell).inRound l) (Below.refl _ _) (fun _ => rfl)
        (fun pre2 X => (vals pre2 = A.take pre2.length ∧ pre2.length ≤ A.length) ∧ Boxed X W.heap.size 3 (.int .i64 pre2.length) ∧ Base w N2 (N2 + 1) (N2 + 1 + 1) Z.heap.size (Z.heap.size + 1) w1.heap.size st 1 s (.slice (some ⟨g1, 0, none⟩) A.length c1) (.func (.func 21) #[] #[.pointer (some ⟨N2 + 1, 0, none⟩)]) A (some DD) (↑pre.length + 1) X ∧ KeepsFrom W6.heap.size V X)
        (fun c pre2 X => (c = .ret ∧ ¬ vals pre2 <+: A) ∨ (c = .exit 4 ∧ Base w N2 (N2 + 1) (N2 + 1 + 1) Z.heap.size (Z.heap.size + 1) w1.heap.size st 1 s (.slice (some ⟨g1, 0, none⟩) A.length c1) (.func (.func 21) #[] #[.pointer (some ⟨N2 + 1, 0, none⟩)]) A (some DD) (↑pre.length + 1) X ∧ KeepsFrom W6.heap.size V X))
        ?hI2i ?hIx2i ?h02i 12 (fun x => x.v) ?assign2i ?body2i ?done2i ?stop2i
      case hI2i =>
        rintro pre2 X Y rw ⟨hp, hM, hb, hk⟩ hg hr
        exact ⟨hp, box_stay hM hg hr, hb.stay (B := V.heap.size) HV.out.below.size HGV.out hg hr, ownFrom_keepsFrom (Nat.le_refl _) pre2 X Y rw hk hg hr⟩
      case hIx2i =>
        rintro c pre2 X Y rw hb hg hr
        rcases hb with hb | ⟨hc, hb, hk⟩
        · exact .inl hb
        · exact .inr ⟨hc, hb.stay (B := V.heap.size) HV.out.below.size HGV.out hg hr, ownFrom_keepsFrom (Nat.le_refl _) pre2 X Y rw hk hg hr⟩
      case h02i => exact ⟨⟨rfl, by simp⟩, HMV.out, HV.out, KeepsFrom.refl _ _⟩
      case assign2i =>
        intro l x W K hK
        gi_wp2
        simp at hK
        exact hK
      case body2i =>
        rintro l2 pre2 x2 X hl2 ⟨r2, hr2⟩ ⟨⟨hp1, hp2⟩, hM, hB, hKF⟩ hlt2
        generalize hQ2 : ownPostG _ _ _ _ _ _ = Q2
        have HQ2 := hid_of hQ2
        clear hQ2 hr2 hl2
        rw [← HA.out] at hlt2
        obtain ⟨y2, ey2⟩ : ∃ y, A[pre2.length]? = some y := ⟨_, List.getElem?_eq_getElem hlt2⟩
        obtain ⟨a', c', hv, hz1, hz2, hx⟩ := own_slice hB.row
        cases hv
        obtain ⟨g2, hge, hz3, hz4, hg2⟩ := hx pre2.length _ (texts_get _ _ _ ey2)
        have e2 : g2 = g1 := by
          cases hge
          rfl
        rw [e2] at hg2
        have HBX := hid_of hB
        have HMX := hid_of hM
        have HKX := hid_of hKF
        have s0 := hB.lst.cell
        have s1 := hM.cell
        have s2 := hM.frozen
        have s3 := hB.stop.cell
        clear hx hB hz1 hz2 hz3 hz4 hge e2 hM hKF q0 q1 q2 q3 hg1
        have hgt2 : ¬ A.length ≤ pre2.length := by omega
        by_cases hxy : x2.1 = y2
        case neg =>
          have hne2 : (x2.1 == y2) = false := by simpa using hxy
          obtain ⟨rb, hrb⟩ := HBX.out.res
          have q4 := hrb.cell
          have q5 := hrb.frozen
          have HNP : Hid (¬ vals (pre2 ++ [x2]) <+: A) := not_front ey2 hxy
          gi_wp2
          rw [← HQ2.out]
          exact ⟨(KeepsOthers.setCell _ _ _).from _, .inl ⟨rfl, HNP.out⟩⟩
        have hne2 : (x2.1 == y2) = true := by simpa using hxy
        have HP2 : Hid (vals (pre2 ++ [x2]) = A.take (pre2 ++ [x2]).length ∧ (pre2 ++ [x2]).length ≤ A.length) := next_front (by rw [hxy]; exact ey2) hp1 hp2
        have h632 : ((pre2.length : Int) + 1) < 9223372036854775808 := by omega
        have HX : Hid (Base w N2 (N2 + 1) (N2 + 1 + 1) Z.heap.size (Z.heap.size + 1) w1.heap.size st 1 s (.slice (some ⟨g1, 0, none⟩) A.length c1) (.func (.func 21) #[] #[.pointer (some ⟨N2 + 1, 0, none⟩)]) A (some DD) (↑pre.length + 1) (X.setCell ⟨W.heap.size, 0, none⟩ (.int .i64 (↑pre2.length + 1)))) := by
          obtain ⟨w1', w2', w3', w4', w5', w6', w7'⟩ := HW.out
          exact HBX.out.far HMX.out (by decide) (by omega) (by omega) (by omega) (by omega) (by omega) (by omega) (by omega) (by omega)
        have HMM : Hid (Boxed (X.setCell ⟨W.heap.size, 0, none⟩ (.int .i64 (↑pre2.length + 1))) W.heap.size 3 (.int .i64 ((pre2 ++ [x2]).length : Nat))) := by
          have := Boxed.set (.int .i64 (↑pre2.length + 1)) HMX.out
          exact hid_of (by simpa using this)
        have HKY : Hid (KeepsFrom W6.heap.size V (X.setCell ⟨W.heap.size, 0, none⟩ (.int .i64 (↑pre2.length + 1)))) := HKX.out.trans ((KeepsOthers.setCell _ _ _).from _)
        clear ey2 hp1 hp2 hxy
        by_cases hst : st < (pre2.length : Int) + 1
        · gi_wp2
          rw [← HQ2.out]
          exact ⟨(KeepsOthers.setCell _ _ _).from _, .inr ⟨rfl, HX.out, HKY.out⟩⟩
        · gi_wp2
          rw [← HQ2.out]
          exact ⟨(KeepsOthers.setCell _ _ _).from _, trivial, HP2.out, HMM.out, HX.out, HKY.out⟩
      case' done2i => rintro xs X hS ⟨hp, hM, hB, hKF⟩
      case' stop2i =>
        rintro c pre2 X hSp (⟨rfl, hn⟩ | ⟨rfl, hB, hKF⟩)
        · rw [← HA.out] at hSp
          exact absurd hSp hn
      all_goals
        have HBX := hid_of hB
        have HKX : Hid (KeepsFrom W6.heap.size W X) := HKV.out.trans hKF
        have s0 := hB.turn.cell
        have s1 := hB.cnt.cell
        have s2 := hB.stop.cell
        have HP2 : Hid (vals (pre ++ [x]) = A.take (pre ++ [x]).length ∧ (pre ++ [x]).length ≤ A.length) := next_front (by rw [HXY.out]; exact HP.out.1) HP.out.2.1 HP.out.2.2
        have HX2 : Hid (Base w N2 (N2 + 1) (N2 + 1 + 1) Z.heap.size (Z.heap.size + 1) w1.heap.size st 1 s (.slice (some ⟨g1, 0, none⟩) A.length c1) (.func (.func 21) #[] #[.pointer (some ⟨N2 + 1, 0, none⟩)]) A (some DD) ((pre ++ [x]).length : Nat) X) := by
          have := HBX.out
          rw [List.length_append, List.length_singleton]
          exact_mod_cast this
        clear hB hKF q0 q1 q2 q3 hg1 HV HKV HSV HMV HRV HGV
        · gi_wp2
          rw [← HQ.out]
          exact ⟨HKX.out, trivial, HP2.out, HX2.out⟩
    case stop2 =>
      rintro DD2 c pre Z2 hD2 hSp (⟨rfl, hn⟩ | ⟨rfl, h10, nv, hB⟩) hdf2
      · rw [← HA.out] at hSp
        exact absurd hSp hn
      · simp at h10
    rintro DD2 xs Z2 hD2 hS ⟨hp, hB⟩ hdf2
    have hxl : xs.length = A.length := by
      rw [← HA.out] at hS
      rw [← hS]
      simp [vals]
    rw [hxl] at hB
    have HBZ := hid_of hB
    have u0 := hB.turn.cell
    have u1 := hB.cnt.cell
    have u2 := hB.lst.cell
    obtain ⟨rb, hrb⟩ := hB.res
    have HRB := hid_of hrb
    have HDF2 := hid_of hdf2
    clear hB hp hS hxl hdf2 hrb
    gi_wp2
    rw [roundsIn_succ]
    have u3 := (HRB.out.alloc (.cells #[.int .i64 2] 3)).frozen
    have u4 := (HRB.out.alloc (.cells #[.int .i64 2] 3)).cell
    have HY := hid_of ((HBZ.out.alloc (.cells #[.int .i64 2] 3)).answer true (by omega) (by omega) (by omega) (by omega) (by omega))
    have f5 := HS5.out
    have f6 := HS6.out
    have HF : Hid (w.heap.size ≤ DD ∧ w.heap.size ≤ DD2 ∧ DD ≠ DD2) := ⟨by omega, by omega, by omega⟩
    clear f5 f6
    gi_wp2
    have k2 := ((KeepsOthers.alloc Z2 (.cells #[.int .i64 2] 3)).trans (KeepsOthers.setCell _ ⟨w.heap.size + 1, 0, none⟩ (.bool true))).same DD2 _ HDF2.out rfl
    have k1 := (World.putObj_heap_other (o := .deferred none) HF.out.2.2).trans (HY.out.gone DD rfl)
    refine ⟨by simp, .inl ⟨_, _, rfl, run_takeDeferred k2, ?_⟩⟩
    refine ⟨by simp, .inl ⟨_, _, rfl, run_takeDeferred k1, ?_⟩⟩
    have g1 := (box_put (box_put (Boxed.set (.bool true) (HRB.out.alloc (.cells #[.int .i64 2] 3))) k2) k1).cell
    refine ⟨.bool true, ?_, rfl, kept_below ((HY.out.below.trans (belowK_b (w := w) (Nat.le_refl _) _ DD2 _ _ HF.out.2.1 k2 rfl rfl)).trans (belowK_b (w := w) (Nat.le_refl _) _ DD _ _ HF.out.1 k1 rfl rfl))⟩
    simp [results, Try.f4, go_sem, g1]
  case stop1 =>
    rintro DD c pre Z hD hSp (⟨rfl, hn⟩ | ⟨rfl, h00, nv, hB⟩) hdf
    · rw [← HA.out] at hSp
      exact absurd hSp hn
    clear hSp h00
    have HB := hid_of hB
    have s0 := hB.turn.cell
    have s1 := hB.cnt.cell
    have HDF := hid_of hdf
    have hz5 : N2 + 5 ≤ Z.heap.size ∧ DD < Z.heap.size := by
      have h1 := (Array.getElem?_eq_some_iff.1 hdf).1
      have h2 := HS5.out
      omega
    clear hB hdf
    gi_wp2
    rw [roundsIn_succ]
    have HW6 : Hid (Base w N2 (N2 + 1) (N2 + 1 + 1) Z.heap.size (Z.heap.size + 1) w1.heap.size st 1 s (.slice a1 A.length c1) (.func (.func 21) #[] #[.pointer (some ⟨N2 + 1, 0, none⟩)]) A (some DD) 0 ((Z.alloc (.cells #[.int .i64 1] 3)).alloc (.cells #[.int .i64 0] 3))) := by
      have k2 : Kept (fun _ => False) Z ((Z.alloc (.cells #[.int .i64 1] 3)).alloc (.cells #[.int .i64 0] 3)) := ((Kept.refl _ Z).alloc _).alloc _
      refine ⟨box_keep HB.out.stop k2, HB.out.res.imp (fun b hb => box_keep hb k2), box_keep HB.out.lst k2, box_keep HB.out.pth k2, box_keep HB.out.seq k2, ?_, ?_, k2.ownsRow HB.out.row (fun _ _ h => h), (HB.out.below.trans (k2.below (B := w.heap.size) HB.out.below.size (fun _ h => h.elim))), fun D hD => ?_⟩
      · exact (Boxed.new Z 3 (.int .i64 1)).alloc _
      · have := Boxed.new (Z.alloc (.cells #[.int .i64 1] 3)) 3 (.int .i64 0)
        rwa [World.size_alloc] at this
      · cases hD
        exact (k2.block DD hz5.2 (fun e => e)).trans HDF.out
    have cs6 := HW6.out.seq.cell
    clear s0 s1
    gi_wp2
    have HB3 := hid_of HW6.out
    obtain ⟨W6, hW6⟩ : ∃ W6, ((Z.alloc (.cells #[.int .i64 1] 3)).alloc (.cells #[.int .i64 0] 3)) = W6 := ⟨_, rfl⟩
    have HS6 : Hid (W6.heap.size = Z.heap.size + 2) := by
      show _ = _
      rw [← hW6]
      simp
    rw [hW6] at HB3 ⊢
    clear HW6 cs6 hW6
    have HG3 : ∀ D, some DD = some D → D < W6.heap.size := fun D h => by
      cases h
      have := HS6.out
      omega
    refine rangeH rfl (by omega) (gf := 21) (lb := #[.pointer (some ⟨N2 + 1, 0, none⟩)]) rfl trivial (enters_of Try.func21 (by kernel_rfl) rfl)
      (names_stops (P := fun _ => True) 7 (by omega) (N2 + 1) s (by omega) (fun _ _ => trivial) W6 HB3.out.pth.lt HB3.out.pth.cell) (Below.refl _ _) (fun _ => rfl)
      (fun pre W => (vals pre = A.take pre.length ∧ pre.length ≤ A.length) ∧ Base w N2 (N2 + 1) (N2 + 1 + 1) Z.heap.size (Z.heap.size + 1) w1.heap.size st 1 s (.slice a1 A.length c1) (.func (.func 21) #[] #[.pointer (some ⟨N2 + 1, 0, none⟩)]) A (some DD) pre.length W)
      (fun c pre W => (c = .ret ∧ ¬ vals pre <+: A) ∨ (c = .exit 2 ∧ (1 : Int) = 0 ∧ ∃ nv, Base w N2 (N2 + 1) (N2 + 1 + 1) Z.heap.size (Z.heap.size + 1) w1.heap.size st 1 s (.slice a1 A.length c1) (.func (.func 21) #[] #[.pointer (some ⟨N2 + 1, 0, none⟩)]) A (some DD) nv W))
      ?hI3 ?hIx3 ?h03 10 (fun x => x.v) ?assign3 ?body3 ?done3 ?stop3
    case hI3 =>
      rintro pre X Y rw ⟨hp, hb⟩ hg hr
      exact ⟨hp, hb.stay (B := W6.heap.size) HB3.out.below.size HG3 hg hr⟩
    case hIx3 =>
      rintro c pre X Y rw hb hg hr
      rcases hb with hb | ⟨hc, ht, nv, hb⟩
      · exact .inl hb
      · exact .inr ⟨hc, ht, nv, hb.stay (B := W6.heap.size) HB3.out.below.size HG3 hg hr⟩
    case h03 => exact ⟨⟨rfl, by simp⟩, HB3.out⟩
    case assign3 =>
      intro l x W K hK
      gi_wp2
      simp at hK
      exact hK
    case body3 =>
      rintro l pre x W hl ⟨r, hr⟩ ⟨⟨hp1, hp2⟩, hB⟩ hlt
      generalize hQ : ownPostG _ _ _ _ _ _ = Q
      have HQ := hid_of hQ
      clear hQ
      rw [← HA.out] at hlt
      obtain ⟨y, ey⟩ : ∃ y, A[pre.length]? = some y := ⟨_, List.getElem?_eq_getElem hlt⟩
      obtain ⟨a', c', hv, hz1, hz2, hx⟩ := own_slice hB.row
      cases hv
      obtain ⟨g1, rfl, hz3, hz4, hg1⟩ := hx pre.length _ (texts_get _ _ _ ey)
      have HBW := hid_of hB
      have q0 := hB.lst.cell
      have q1 := hB.cnt.cell
      have q2 := hB.cnt.frozen
      have q3 := hB.seq.cell
      clear hx hB hz1 hz2 hz3 hz4
      by_cases hxy : x.1 = y
      case neg =>
        have hne : (x.1 == y) = false := by simpa using hxy
        obtain ⟨rb, hrb⟩ := HBW.out.res
        have q4 := hrb.cell
        have q5 := hrb.frozen
        have HNP : Hid (¬ vals (pre ++ [x]) <+: A) := not_front ey hxy
        gi_wp2
        rw [← HQ.out]
        exact ⟨(KeepsOthers.setCell _ _ _).from _, .inl ⟨rfl, HNP.out⟩⟩
      have hne : (x.1 == y) = true := by simpa using hxy
      have HP := hid_of (And.intro ey (And.intro hp1 hp2))
      have HR := hid_of hr
      have h63 : ((pre.length : Int) + 1) < 9223372036854775808 := by omega
      have HXY := hid_of hxy
      have hgt : ¬ A.length ≤ pre.length := by omega
      clear ey hp1 hp2 hr hxy
      have HV : Hid (Base w N2 (N2 + 1) (N2 + 1 + 1) Z.heap.size (Z.heap.size + 1) w1.heap.size st 1 s (.slice (some ⟨g1, 0, none⟩) A.length c1) (.func (.func 21) #[] #[.pointer (some ⟨N2 + 1, 0, none⟩)]) A (some DD) (↑pre.length + 1) ((W.setCell ⟨(Z.heap.size + 1), 0, none⟩ (.int .i64 (↑pre.length + 1))).alloc (.cells #[.int .i64 0] 3))) := HBW.out.count _ (by omega) (by omega) (by omega) (by omega) (by omega) (by omega) (by omega) |>.alloc _
      have cV := HV.out.seq.cell
      gi_wp2
      have HKV : Hid (KeepsFrom W6.heap.size W ((W.setCell ⟨(Z.heap.size + 1), 0, none⟩ (.int .i64 (↑pre.length + 1))).alloc (.cells #[.int .i64 0] 3))) := ((KeepsOthers.setCell _ _ _).trans (KeepsOthers.alloc _ _)).from _
      have HSV : Hid (((W.setCell ⟨(Z.heap.size + 1), 0, none⟩ (.int .i64 (↑pre.length + 1))).alloc (.cells #[.int .i64 0] 3)).heap.size = W.heap.size + 1) := by
        show _ = _
        simp
      have HMV : Hid (Boxed ((W.setCell ⟨(Z.heap.size + 1), 0, none⟩ (.int .i64 (↑pre.length + 1))).alloc (.cells #[.int .i64 0] 3)) W.heap.size 3 (.int .i64 0)) := by
        have := Boxed.new (W.setCell ⟨(Z.heap.size + 1), 0, none⟩ (.int .i64 (↑pre.length + 1))) 3 (.int .i64 0)
        rwa [World.size_setCell] at this
      have HRV : Hid (((W.setCell ⟨(Z.heap.size + 1), 0, none⟩ (.int .i64 (↑pre.length + 1))).alloc (.cells #[.int .i64 0] 3)).heap[l]? = some (.loop r)) := ((KeepsOthers.setCell _ _ _).trans (KeepsOthers.alloc _ _)).same l _ HR.out rfl
      obtain ⟨V, hV⟩ : ∃ V, ((W.setCell ⟨(Z.heap.size + 1), 0, none⟩ (.int .i64 (↑pre.length + 1))).alloc (.cells #[.int .i64 0] 3)) = V := ⟨_, rfl⟩
      rw [hV] at HV HKV HSV HMV HRV ⊢
      have HGV : Hid (∀ D, ((some DD) : Option Nat) = some D → D < V.heap.size) := fun D hD => by
        have := HG3 D hD
        have := HSV.out
        have := Nat.lt_of_le_of_lt hl (Array.getElem?_eq_some_iff.1 HR.out).1
        omega
      clear cV hV
      have hw1 := HBW.out.stop.lt
      have hw2 := HBW.out.res.choose_spec.lt
      have hw3 := HBW.out.lst.lt
      have hw4 := HBW.out.pth.lt
      have hw5 := HBW.out.seq.lt
      have hw6 := HBW.out.turn.lt
      have hw7 := HBW.out.cnt.lt
      have hne1 : ¬ w.heap.size = W.heap.size := by omega
      have HW := hid_of (And.intro hw1 (And.intro hw2 (And.intro hw3 (And.intro hw4 (And.intro hw5 (And.intro hw6 hw7))))))
      clear hw1 hw2 hw3 hw4 hw5 hw6 hw7
      refine rangeN (l₀ := l) (r₀ := r) rfl HRV.out (by omega) (gf := 21) (lb := #[.pointer (some ⟨N2 + 1, 0, none⟩)]) rfl trivial (enters_of Try.func21 (by kernel_rfl) rfl)
        ((names_stops (P := fun _ => True) 5 (by omega) (N2 + 1) s (by omega) (fun _ _ => trivial) V HV.out.pth.lt HV.out.pth.cell).inRound l) (Below.refl _ _) (fun _ => rfl)
        (fun pre2 X => (vals pre2 = A.take pre2.length ∧ pre2.length ≤ A.length) ∧ Boxed X W.heap.size 3 (.int .i64 pre2.length) ∧ Base w N2 (N2 + 1) (N2 + 1 + 1) Z.heap.size (Z.heap.size + 1) w1.heap.size st 1 s (.slice (some ⟨g1, 0, none⟩) A.length c1) (.func (.func 21) #[] #[.pointer (some ⟨N2 + 1, 0, none⟩)]) A (some DD) (↑pre.length + 1) X ∧ KeepsFrom W6.heap.size V X)
        (fun c pre2 X => (c = .ret ∧ ¬ vals pre2 <+: A) ∨ (c = .exit 4 ∧ Base w N2 (N2 + 1) (N2 + 1 + 1) Z.heap.size (Z.heap.size + 1) w1.heap.size st 1 s (.slice (some ⟨g1, 0, none⟩) A.length c1) (.func (.func 21) #[] #[.pointer (some ⟨N2 + 1, 0, none⟩)]) A (some DD) (↑pre.length + 1) X ∧ KeepsFrom W6.heap.size V X))
        ?hI3i ?hIx3i ?h03i 12 (fun x => x.v) ?assign3i ?body3i ?done3i ?stop3i
      case hI3i =>
        rintro pre2 X Y rw ⟨hp, hM, hb, hk⟩ hg hr
        exact ⟨hp, box_stay hM hg hr, hb.stay (B := V.heap.size) HV.out.below.size HGV.out hg hr, ownFrom_keepsFrom (Nat.le_refl _) pre2 X Y rw hk hg hr⟩
      case hIx3i =>
        rintro c pre2 X Y rw hb hg hr
        rcases hb with hb | ⟨hc, hb, hk⟩
        · exact .inl hb
        · exact .inr ⟨hc, hb.stay (B := V.heap.size) HV.out.below.size HGV.out hg hr, ownFrom_keepsFrom (Nat.le_refl _) pre2 X Y rw hk hg hr⟩
      case h03i => exact ⟨⟨rfl, by simp⟩, HMV.out, HV.out, KeepsFrom.refl _ _⟩
      case assign3i =>
        intro l x W K hK
        gi_wp2
        simp at hK
        exact hK
      case body3i =>
        rintro l2 pre2 x2 X hl2 ⟨r2, hr2⟩ ⟨⟨hp1, hp2⟩, hM, hB, hKF⟩ hlt2
        generalize hQ2 : ownPostG _ _ _ _ _ _ = Q2
        have HQ2 := hid_of hQ2
        clear hQ2 hr2 hl2
        rw [← HA.out] at hlt2
        obtain ⟨y2, ey2⟩ : ∃ y, A[pre2.length]? = some y := ⟨_, List.getElem?_eq_getElem hlt2⟩
        obtain ⟨a', c', hv, hz1, hz2, hx⟩ := own_slice hB.row
        cases hv
        obtain ⟨g2, hge, hz3, hz4, hg2⟩ := hx pre2.length _ (texts_get _ _ _ ey2)
        have e2 : g2 = g1 := by
          cases hge
          rfl
        rw [e2] at hg2
        have HBX := hid_of hB
        have HMX := hid_of hM
        have HKX := hid_of hKF
        have s0 := hB.lst.cell
        have s1 := hM.cell
        have s2 := hM.frozen
        have s3 := hB.stop.cell
        clear hx hB hz1 hz2 hz3 hz4 hge e2 hM hKF q0 q1 q2 q3 hg1
        have hgt2 : ¬ A.length ≤ pre2.length := by omega
        by_cases hxy : x2.1 = y2
        case neg =>
          have hne2 : (x2.1 == y2) = false := by simpa using hxy
          obtain ⟨rb, hrb⟩ := HBX.out.res
          have q4 := hrb.cell
          have q5 := hrb.frozen
          have HNP : Hid (¬ vals (pre2 ++ [x2]) <+: A) := not_front ey2 hxy
          gi_wp2
          rw [← HQ2.out]
          exact ⟨(KeepsOthers.setCell _ _ _).from _, .inl ⟨rfl, HNP.out⟩⟩
        have hne2 : (x2.1 == y2) = true := by simpa using hxy
        have HP2 : Hid (vals (pre2 ++ [x2]) = A.take (pre2 ++ [x2]).length ∧ (pre2 ++ [x2]).length ≤ A.length) := next_front (by rw [hxy]; exact ey2) hp1 hp2
        have h632 : ((pre2.length : Int) + 1) < 9223372036854775808 := by omega
        have HX : Hid (Base w N2 (N2 + 1) (N2 + 1 + 1) Z.heap.size (Z.heap.size + 1) w1.heap.size st 1 s (.slice (some ⟨g1, 0, none⟩) A.length c1) (.func (.func 21) #[] #[.pointer (some ⟨N2 + 1, 0, none⟩)]) A (some DD) (↑pre.length + 1) (X.setCell ⟨W.heap.size, 0, none⟩ (.int .i64 (↑pre2.length + 1)))) := by
          obtain ⟨w1', w2', w3', w4', w5', w6', w7'⟩ := HW.out
          exact HBX.out.far HMX.out (by decide) (by omega) (by omega) (by omega) (by omega) (by omega) (by omega) (by omega) (by omega)
        have HMM : Hid (Boxed (X.setCell ⟨W.heap.size, 0, none⟩ (.int .i64 (↑pre2.length + 1))) W.heap.size 3 (.int .i64 ((pre2 ++ [x2]).length : Nat))) := by
          have := Boxed.set (.int .i64 (↑pre2.length + 1)) HMX.out
          exact hid_of (by simpa using this)
        have HKY : Hid (KeepsFrom W6.heap.size V (X.setCell ⟨W.heap.size, 0, none⟩ (.int .i64 (↑pre2.length + 1)))) := HKX.out.trans ((KeepsOthers.setCell _ _ _).from _)
        clear ey2 hp1 hp2 hxy
        by_cases hst : st < (pre2.length : Int) + 1
        · gi_wp2
          rw [← HQ2.out]
          exact ⟨(KeepsOthers.setCell _ _ _).from _, .inr ⟨rfl, HX.out, HKY.out⟩⟩
        · gi_wp2
          rw [← HQ2.out]
          exact ⟨(KeepsOthers.setCell _ _ _).from _, trivial, HP2.out, HMM.out, HX.out, HKY.out⟩
      case' done3i => rintro xs X hS ⟨hp, hM, hB, hKF⟩
      case' stop3i =>
        rintro c pre2 X hSp (⟨rfl, hn⟩ | ⟨rfl, hB, hKF⟩)
        · rw [← HA.out] at hSp
          exact absurd hSp hn
      all_goals
        have HBX := hid_of hB
        have HKX : Hid (KeepsFrom W6.heap.size W X) := HKV.out.trans hKF
        have s0 := hB.turn.cell
        have s1 := hB.cnt.cell
        have s2 := hB.stop.cell
        have HP2 : Hid (vals (pre ++ [x]) = A.take (pre ++ [x]).length ∧ (pre ++ [x]).length ≤ A.length) := next_front (by rw [HXY.out]; exact HP.out.1) HP.out.2.1 HP.out.2.2
        have HX2 : Hid (Base w N2 (N2 + 1) (N2 + 1 + 1) Z.heap.size (Z.heap.size + 1) w1.heap.size st 1 s (.slice (some ⟨g1, 0, none⟩) A.length c1) (.func (.func 21) #[] #[.pointer (some ⟨N2 + 1, 0, none⟩)]) A (some DD) ((pre ++ [x]).length : Nat) X) := by
          have := HBX.out
          rw [List.length_append, List.length_singleton]
          exact_mod_cast this
        clear hB hKF q0 q1 q2 q3 hg1 HV HKV HSV HMV HRV HGV
        · gi_wp2
          rw [← HQ.out]
          exact ⟨HKX.out, trivial, HP2.out, HX2.out⟩
    case stop3 =>
      rintro DD2 c pre Z2 hD2 hSp (⟨rfl, hn⟩ | ⟨rfl, h10, nv, hB⟩) hdf2
      · rw [← HA.out] at hSp
        exact absurd hSp hn
      · simp at h10
    rintro DD2 xs Z2 hD2 hS ⟨hp, hB⟩ hdf2
    have hxl : xs.length = A.length := by
      rw [← HA.out] at hS
      rw [← hS]
      simp [vals]
    rw [hxl] at hB
    have HBZ := hid_of hB
    have u0 := hB.turn.cell
    have u1 := hB.cnt.cell
    have u2 := hB.lst.cell
    obtain ⟨rb, hrb⟩ := hB.res
    have HRB := hid_of hrb
    have HDF2 := hid_of hdf2
    clear hB hp hS hxl hdf2 hrb
    gi_wp2
    rw [roundsIn_succ]
    have u3 := (HRB.out.alloc (.cells #[.int .i64 2] 3)).frozen
    have u4 := (HRB.out.alloc (.cells #[.int .i64 2] 3)).cell
    have HY := hid_of ((HBZ.out.alloc (.cells #[.int .i64 2] 3)).answer true (by omega) (by omega) (by omega) (by omega) (by omega))
    have f5 := HS5.out
    have f6 := HS6.out
    have HF : Hid (w.heap.size ≤ DD ∧ w.heap.size ≤ DD2 ∧ DD ≠ DD2) := ⟨by omega, by omega, by omega⟩
    clear f5 f6
    gi_wp2
    have k2 := ((KeepsOthers.alloc Z2 (.cells #[.int .i64 2] 3)).trans (KeepsOthers.setCell _ ⟨w.heap.size + 1, 0, none⟩ (.bool true))).same DD2 _ HDF2.out rfl
    have k1 := (World.putObj_heap_other (o := .deferred none) HF.out.2.2).trans (HY.out.gone DD rfl)
    refine ⟨by simp, .inl ⟨_, _, rfl, run_takeDeferred k2, ?_⟩⟩
    refine ⟨by simp, .inl ⟨_, _, rfl, run_takeDeferred k1, ?_⟩⟩
    have g1 := (box_put (box_put (Boxed.set (.bool true) (HRB.out.alloc (.cells #[.int .i64 2] 3))) k2) k1).cell
    refine ⟨.bool true, ?_, rfl, kept_below ((HY.out.below.trans (belowK_b (w := w) (Nat.le_refl _) _ DD2 _ _ HF.out.2.1 k2 rfl rfl)).trans (belowK_b (w := w) (Nat.le_refl _) _ DD _ _ HF.out.1 k1 rfl rfl))⟩
    simp [results, Try.f4, go_sem, g1]
end Go.Proofs.Ythloacakomahaab
