/-
  path.goesThrough at words, by contract; what a part takes.
-/
import Derived.Test.YthloacakomahaaaGoes
import Derived.Test.YthloacakomahaaaWords
namespace Go.Proofs.Ythloacakomahaaa
open Go.RowKit
set_option linter.unusedVariables false
set_option linter.unusedSimpArgs false

theorem runG_total (lo : Nat → Bool) (ta : Nat → Nat → Bool) (M R : Nat) : ∀ (n m k a f : Nat), a ≤ m → m ≤ M → k ≤ R → f ≤ R → leftG M R m a f < n → ∃ c, runG lo ta M R n m k a f = some c
  | 0, _, _, _, _, _, _, _, _, h => by omega
  | n + 1, m, k, a, f, h1, h2, h3, h4, h5 => by
    rw [runG]
    by_cases c1 : ¬ m < M ∧ ¬ k < R
    · exact ⟨true, by rw [if_pos c1]⟩
    rw [if_neg c1]
    by_cases c2 : m < M ∧ lo m = true
    · rw [if_pos c2]
      exact runG_total lo ta M R n (m + 1) k (m + 1) k (by omega) (by omega) h3 h3 (by have := left_loose (R := R) (k := k) (f := f) c2.1 h1; omega)
    rw [if_neg c2]
    by_cases c3 : m < M ∧ k < R ∧ ta m k = true
    · rw [if_pos c3]
      exact runG_total lo ta M R n (m + 1) (k + 1) a f (by omega) (by omega) (by omega) h4 (by have := left_takes (R := R) (a := a) (f := f) c3.1; omega)
    rw [if_neg c3]
    by_cases c4 : f < R
    · rw [if_pos c4]
      exact runG_total lo ta M R n a (f + 1) a (f + 1) (by omega) (by omega) (by omega) (by omega) (by have := left_again (m := m) c4 (show a ≤ M by omega); omega)
    · exact ⟨false, by rw [if_neg c4]⟩

/-- Whether the search comes to the end. -/
def goesG (lo : Nat → Bool) (ta : Nat → Nat → Bool) (M R : Nat) : Bool := (runG lo ta M R (leftG M R 0 0 R + 1) 0 0 0 R).getD false
theorem runs_goes {lo : Nat → Bool} {ta : Nat → Nat → Bool} {M R : Nat} {b : Bool} (h : Runs lo ta M R 0 0 0 R b) : b = goesG lo ta M R := by
  obtain ⟨c, hc⟩ := runG_total lo ta M R (leftG M R 0 0 R + 1) 0 0 0 R (Nat.le_refl _) (Nat.zero_le _) (Nat.zero_le _) (Nat.le_refl _) (by omega)
  rw [goesG, hc]
  exact runs_fun h _ _ hc

/-- Whether a name is of a part of a pattern. -/
def partTakes (x y : List UInt8) : Bool := goesG (loS (piecesOf x)) (taS (piecesOf x) (piecesOf y)) (piecesOf x).length (piecesOf y).length
def loW (ws : List (List UInt8)) (i : Nat) : Bool := ws.getD i [] == [42, 42]
def taW (ws vs : List (List UInt8)) (i k : Nat) : Bool := partTakes (ws.getD i []) (vs.getD k [])
def matchParts (ws vs : List (List UInt8)) : Bool := goesG (loW ws) (taW ws vs) ws.length vs.length

theorem goes_any2 (ms rs : List (List UInt8)) (v1 v2 : Value) (B1 B2 : Nat) (w : World) (ho1 : w.ownsRow B1 9 1 v1 ms.length (texts ms)) (ho2 : w.ownsRow B2 9 1 v2 rs.length (texts rs)) (hml : ms.length ≤ 1099511627776) (hmm : rs.length ≤ 1099511627776) :
    Calls Try.prog 60 #[v1, v2, .func (.func 61) #[] #[], .func (.func 62) #[] #[]] w fun e w' => e = .returned (.bool (goesG (loS ms) (taS ms rs) ms.length rs.length)) ∧ Kept (fun _ => False) w w' :=
  (goes_any ms rs v1 v2 B1 B2 w ho1 ho2 hml hmm).mono (fun e w' ⟨b, he, hr, hk⟩ => ⟨by rw [he, runs_goes hr], hk⟩)

theorem isany_any (x : List UInt8) (a : Option Addr) (n c : Nat) (w : World) :
    Calls Try.prog 42 #[.agg #[.string ⟨x.toArray⟩, .slice a n c]] w fun e w' => e = .returned (.bool (x == [42, 42])) ∧ Kept (fun _ => False) w w' := by
  go_enter Try.func42, Try.ntmps42
  go_wp2
  go_ret
  exact ⟨rfl, (Kept.refl _ w).alloc _⟩

theorem pieces_len (x : List UInt8) : (piecesOf x).length ≤ x.length + 1 := by
  have : ∀ (n : Nat) (x : List UInt8), (piecesF n x).length ≤ x.length + 1 := by
    intro n
    induction n with
    | zero => intro x; simp [piecesF]
    | succ n ih =>
      intro x
      rw [piecesF]
      have hw := wid_pos x
      split
      · simp
      · have := ih (x.drop (wid x))
        rw [List.length_drop] at this
        simp only [List.length_cons]
        omega
  exact this _ x

set_option maxRecDepth 100000 in
set_option maxHeartbeats 2000000 in
theorem takesw_any (x y : List UInt8) (hx : x.length ≤ 1048576) (hy : y.length ≤ 1048576) (a1 a2 : Option Addr) (n1 n2 c1 c2 : Nat) (B : Nat) (w : World) (h1 : w.ownsRow B 9 1 (.slice a1 n1 c1) n1 (texts (piecesOf x))) (h2 : w.ownsRow B 9 1 (.slice a2 n2 c2) n2 (texts (piecesOf y))) :
    Calls Try.prog 43 #[.agg #[.string ⟨x.toArray⟩, .slice a1 n1 c1], .agg #[.string ⟨y.toArray⟩, .slice a2 n2 c2]] w fun e w' => e = .returned (.bool (partTakes x y)) ∧ Kept (fun _ => False) w w' := by
  have e1 : (piecesOf x).length = n1 := by
    have := own_len h1
    rwa [texts, List.length_map] at this
  have e2 : (piecesOf y).length = n2 := by
    have := own_len h2
    rwa [texts, List.length_map] at this
  have l1 := pieces_len x
  have l2 := pieces_len y
  have k1 := ((Kept.refl (fun _ => False) w).alloc (.cells #[.string ⟨x.toArray⟩, .slice a1 n1 c1] 60)).alloc (.cells #[.string ⟨y.toArray⟩, .slice a2 n2 c2] 60)
  have HC := hid_of (goes_any2 (piecesOf x) (piecesOf y) (.slice a1 n1 c1) (.slice a2 n2 c2) B B _ (by rw [e1]; exact k1.ownsRow h1 (fun g _ h => h)) (by rw [e2]; exact k1.ownsRow h2 (fun g _ h => h)) (by omega) (by omega))
  have K1 := hid_of k1
  clear k1 h1 h2 l1 l2 e1 e2
  have hp : partTakes x y = goesG (loS (piecesOf x)) (taS (piecesOf x) (piecesOf y)) (piecesOf x).length (piecesOf y).length := rfl
  rw [← hp] at HC
  clear hp
  generalize partTakes x y = b at *
  go_enter Try.func43, Try.ntmps43
  go_wp2_with fail
  refine HC.out.mono ?_
  rintro e w1 ⟨rfl, hk⟩
  have HK := hid_of (K1.out.trans hk)
  clear hk HC
  go_wp2
  go_ret
  exact ⟨rfl, HK.out⟩

/-- The cells of a row of words. -/
theorem words_get : ∀ (ps : List (List UInt8 × Value)) (i : Nat) (p : List UInt8 × Value), ps[i]? = some p → (wordCells ps)[i * 2]? = some (.string ⟨p.1.toArray⟩) ∧ (wordCells ps)[i * 2 + 1]? = some p.2
  | [], i, p, h => by simp at h
  | q :: ps, 0, p, h => by
    cases h
    exact ⟨rfl, rfl⟩
  | q :: ps, i + 1, p, h => by
    have := words_get ps i p (by simpa using h)
    rw [wordCells, show (i + 1) * 2 = i * 2 + 2 by omega]
    exact this
theorem own_slice2 {w : World} {B : Nat} {v : Value} {n : Nat} {xs : List Value} (h : w.ownsRow B 60 2 v n xs) : ∃ a cap, v = .slice a n cap ∧ ∀ j u, xs[j]? = some u → ∃ g, a = some ⟨g, 0, none⟩ ∧ w.cell? ⟨g, j, none⟩ = some u := by
  rcases h.2 with ⟨rfl, rfl⟩ | ⟨g, cap, cur, rfl, hb, hg, h1, h2, h3, h4⟩
  · refine ⟨none, 0, rfl, fun j u hj => ?_⟩
    have := h.1
    rw [Nat.zero_mul, List.length_eq_zero_iff] at this
    rw [this] at hj
    simp at hj
  · refine ⟨some ⟨g, 0, none⟩, cap, rfl, fun j u hj => ⟨g, rfl, ?_⟩⟩
    have := h.cells (g := g) rfl j u hj
    rwa [Addr.add_mid, Nat.zero_add] at this

theorem body_endw {R : Ending → World → Prop} {a : Act} {w : World} (hd : a.defers = []) (h : R (.returned (a.tmps.getD 8 undef)) w) : bodyPost Try.prog Try.f40 R .ret a w :=
  bodyPost_ret (results_tmp rfl _ _ _) hd h

set_option maxRecDepth 100000 in
set_option maxHeartbeats 4000000 in
theorem goesw_any (ps qs : List (List UInt8 × Value)) (v1 v2 : Value) (B : Nat) (w : World) (ho1 : w.ownsRow B 60 2 v1 ps.length (wordCells ps)) (ho2 : w.ownsRow B 60 2 v2 qs.length (wordCells qs)) (hw1 : HasWords w B ps) (hw2 : HasWords w B qs) (hml : ps.length ≤ 1099511627776) (hmm : qs.length ≤ 1099511627776)
    (hb1 : ∀ p ∈ ps, p.1.length ≤ 1048576) (hb2 : ∀ p ∈ qs, p.1.length ≤ 1048576) :
    Calls Try.prog 40 #[v1, v2, .func (.func 42) #[] #[], .func (.func 43) #[] #[]] w fun e w' => e = .returned (.bool (matchParts (ps.map (·.1)) (qs.map (·.1)))) ∧ Kept (fun _ => False) w w' := by
  have hps : (ps.map (·.1)).length = ps.length := List.length_map _
  have hqs : (qs.map (·.1)).length = qs.length := List.length_map _
  suffices h : Calls Try.prog 40 #[v1, v2, .func (.func 42) #[] #[], .func (.func 43) #[] #[]] w fun e w' => ∃ b, e = .returned (.bool b) ∧ Runs (loW (ps.map (·.1))) (taW (ps.map (·.1)) (qs.map (·.1))) ps.length qs.length 0 0 0 qs.length b ∧ Kept (fun _ => False) w w' from
    h.mono (fun e w' ⟨b, he, hr, hk⟩ => ⟨by rw [he, runs_goes hr, matchParts, hps, hqs], hk⟩)
  obtain ⟨s1, c1, rfl, hx1⟩ := own_slice2 ho1
  obtain ⟨s2, c2, rfl, hx2⟩ := own_slice2 ho2
  have HX1 := hid_of hx1
  have HX2 := hid_of hx2
  have HW1 := hid_of hw1
  have HW2 := hid_of hw2
  have HB1 := hid_of hb1
  have HB2 := hid_of hb2
  clear ho1 ho2 hx1 hx2 hw1 hw2 hb1 hb2 hps hqs
  obtain ⟨lo, hlo⟩ : ∃ lo, lo = loW (ps.map (·.1)) := ⟨_, rfl⟩
  obtain ⟨ta, hta⟩ : ∃ ta, ta = taW (ps.map (·.1)) (qs.map (·.1)) := ⟨_, rfl⟩
  have HLO : Hid (∀ i p, ps[i]? = some p → lo i = (p.1 == [42, 42])) := fun i p h => by
    rw [hlo, loW, List.getD, List.getElem?_map, h]
    rfl
  have HTA : Hid (∀ i k p q, ps[i]? = some p → qs[k]? = some q → ta i k = partTakes p.1 q.1) := fun i k p q h h' => by
    rw [hta, taW, List.getD, List.getD, List.getElem?_map, List.getElem?_map, h, h']
    rfl
  rw [← hlo, ← hta]
  clear hlo hta
  go_enter Try.func40, Try.ntmps40
  go_wp2
  refine wp_scope_straight ?_
  go_wp2
  refine wp_label ?_
  go_wp2
  go_loopw [9, 10, 11, 12] (fun m k a f wr => ∃ (m' k' a' f' : Nat), m = .int .i64 m' ∧ k = .int .i64 k' ∧ a = .int .i64 a' ∧ f = .int .i64 f' ∧ Kept (fun _ => False) w wr ∧ m' ≤ ps.length ∧ k' ≤ qs.length ∧ a' ≤ m' ∧ f' ≤ qs.length ∧ ∀ b, Runs lo ta ps.length qs.length m' k' a' f' b → Runs lo ta ps.length qs.length 0 0 0 qs.length b) (fun m _ a f _ => leftG ps.length qs.length (intOf m).toNat (intOf a).toNat (intOf f).toNat)
  case atStart => exact ⟨0, 0, 0, qs.length, rfl, rfl, rfl, rfl, Kept.refl _ _, by omega, by omega, by omega, by omega, fun _ h => h⟩
  case round =>
    obtain ⟨m, k, a, f, rfl, rfl, rfl, rfl, hkept, hm, hk, ha, hf, hrun⟩ := hrel
    have HU := hid_of hrun
    have HK := hid_of hkept
    clear hrun hkept
    have hz1 : (0 : Int) ≤ (m : Int) := by omega
    have hz2 : (0 : Int) ≤ (k : Int) := by omega
    by_cases h1 : m < ps.length
    · obtain ⟨p, hp⟩ : ∃ p, ps[m]? = some p := ⟨ps[m], List.getElem?_eq_getElem h1⟩
      obtain ⟨g1, rfl, hg1⟩ := HX1.out _ _ (words_get ps m p hp).1
      obtain ⟨g1', e1', hg1'⟩ := HX1.out _ _ (words_get ps m p hp).2
      cases e1'
      have HL := hid_of (HLO.out m p hp)
      have hpo := HW1.out p (List.mem_of_getElem? hp)
      have hpb := HB1.out p (List.mem_of_getElem? hp)
      have HPP := hid_of hp
      obtain ⟨x, pv⟩ := p
      obtain ⟨pa, pc, hpv, _, _, _⟩ := own_slice hpo
      dsimp only at hpv hpo hpb HL hg1 hg1'
      subst hpv
      have hd1 := HK.out.cell hg1 (fun h => h)
      have hd1' := HK.out.cell hg1' (fun h => h)
      have HPO := hid_of hpo
      have HG1 := hid_of hg1
      have HG1' := hid_of hg1'
      clear hg1 hg1' hpo hp
      generalize (piecesOf x).length = pn at *
      have HP := hid_of (isany_any x pa pn pc)
      cases hlo : x == [42, 42]
      · rw [hlo] at HL HP
        by_cases h2 : k < qs.length
        · obtain ⟨q, hq⟩ : ∃ q, qs[k]? = some q := ⟨qs[k], List.getElem?_eq_getElem h2⟩
          obtain ⟨g2, rfl, hg2⟩ := HX2.out _ _ (words_get qs k q hq).1
          obtain ⟨g2', e2', hg2'⟩ := HX2.out _ _ (words_get qs k q hq).2
          cases e2'
          have HT := hid_of (HTA.out m k _ q HPP.out hq)
          have hqo := HW2.out q (List.mem_of_getElem? hq)
          have hqb := HB2.out q (List.mem_of_getElem? hq)
          obtain ⟨y, qv⟩ := q
          obtain ⟨qa, qc, hqv, _, _, _⟩ := own_slice hqo
          dsimp only at hqv hqo hqb HT hg2 hg2'
          subst hqv
          have HQO := hid_of hqo
          have HG2 := hid_of hg2
          have HG2' := hid_of hg2'
          clear hg2 hg2' hqo hq
          generalize (piecesOf y).length = qn at *
          have HQ : Hid (∀ W, Kept (fun _ => False) w W → Calls Try.prog 43 #[.agg #[.string ⟨x.toArray⟩, .slice pa pn pc], .agg #[.string ⟨y.toArray⟩, .slice qa qn qc]] W fun e w' => e = .returned (.bool (partTakes x y)) ∧ Kept (fun _ => False) W w') := fun W hk => takesw_any x y hpb hqb pa qa pn qn pc qc B W (hk.ownsRow HPO.out (fun g _ h => h)) (hk.ownsRow HQO.out (fun g _ h => h))
          cases htv : partTakes x y
          · rw [htv] at HT HQ
            by_cases h3 : f < qs.length
            · go_wp2_with fail
              refine (HP.out _).mono ?_
              rintro e w1 ⟨rfl, hk1⟩
              have HK1 := hid_of (HK.out.trans hk1)
              clear hd1 hd1' hk1 HP
              have s1 := HK1.out.cell HG1.out (fun h => h)
              have s1' := HK1.out.cell HG1'.out (fun h => h)
              have s2 := HK1.out.cell HG2.out (fun h => h)
              have s2' := HK1.out.cell HG2'.out (fun h => h)
              go_wp2_with fail
              go_region_held3 (fun w' => w'.cell? ⟨g1, m * 2, none⟩ = some (.string ⟨x.toArray⟩) ∧ w'.cell? ⟨g1, m * 2 + 1, none⟩ = some (.slice pa pn pc) ∧ w'.cell? ⟨g2, k * 2, none⟩ = some (.string ⟨y.toArray⟩) ∧ w'.cell? ⟨g2, k * 2 + 1, none⟩ = some (.slice qa qn qc)) (first | exact ⟨s1, s1', s2, s2'⟩ | assumption | exact ⟨H5.out.cell HG1.out (fun h => h), H5.out.cell HG1'.out (fun h => h), H5.out.cell HG2.out (fun h => h), H5.out.cell HG2'.out (fun h => h)⟩)
                (first | (go_at_call 43; refine (HQ.out _ HK1.out.drew).mono ?_; rintro e w5 ⟨rfl, hk5⟩; have H5 := hid_of (HK1.out.drew.trans hk5); clear hk5))
              go_wp2
              refine ⟨⟨a, f + 1, a, f + 1, rfl, by go_num, rfl, by go_num, H5.out, by omega, by omega, by omega, by omega, fun b h => HU.out b (.again m k a f b (.inl h1) (fun _ => HL.out) (fun _ _ => HT.out) h3 h)⟩, ?_⟩
              have e1 : (intOf (.int .i64 ((f : Int) + 1))).toNat = f + 1 := by simp [intOf]
              rw [e1]
              exact left_again h3 (Nat.le_trans ha hm)
            · go_wp2_with fail
              refine (HP.out _).mono ?_
              rintro e w1 ⟨rfl, hk1⟩
              have HK1 := hid_of (HK.out.trans hk1)
              clear hd1 hd1' hk1 HP
              have s1 := HK1.out.cell HG1.out (fun h => h)
              have s1' := HK1.out.cell HG1'.out (fun h => h)
              have s2 := HK1.out.cell HG2.out (fun h => h)
              have s2' := HK1.out.cell HG2'.out (fun h => h)
              go_wp2_with fail
              go_region_held3 (fun w' => w'.cell? ⟨g1, m * 2, none⟩ = some (.string ⟨x.toArray⟩) ∧ w'.cell? ⟨g1, m * 2 + 1, none⟩ = some (.slice pa pn pc) ∧ w'.cell? ⟨g2, k * 2, none⟩ = some (.string ⟨y.toArray⟩) ∧ w'.cell? ⟨g2, k * 2 + 1, none⟩ = some (.slice qa qn qc)) (first | exact ⟨s1, s1', s2, s2'⟩ | assumption | exact ⟨H5.out.cell HG1.out (fun h => h), H5.out.cell HG1'.out (fun h => h), H5.out.cell HG2.out (fun h => h), H5.out.cell HG2'.out (fun h => h)⟩)
                (first | (go_at_call 43; refine (HQ.out _ HK1.out.drew).mono ?_; rintro e w5 ⟨rfl, hk5⟩; have H5 := hid_of (HK1.out.drew.trans hk5); clear hk5))
              go_wp2
              rw [Exit.noGoto_ret]
              refine body_endw (R := fun e w' => ∃ b, e = Ending.returned (Value.bool b) ∧ Runs lo ta ps.length qs.length 0 0 0 qs.length b ∧ Kept (fun x => False) w w') rfl ?_
              exact ⟨false, by first | rfl | (refine congrArg Ending.returned ?_; simp; omega), HU.out false (.fail m k a f (.inl h1) (fun _ => HL.out) (fun _ _ => HT.out) h3), H5.out⟩
          · rw [htv] at HT HQ
            go_wp2_with fail
            refine (HP.out _).mono ?_
            rintro e w1 ⟨rfl, hk1⟩
            have HK1 := hid_of (HK.out.trans hk1)
            clear hd1 hd1' hk1 HP
            have s1 := HK1.out.cell HG1.out (fun h => h)
            have s1' := HK1.out.cell HG1'.out (fun h => h)
            have s2 := HK1.out.cell HG2.out (fun h => h)
            have s2' := HK1.out.cell HG2'.out (fun h => h)
            go_wp2_with fail
            go_region_held3 (fun w' => w'.cell? ⟨g1, m * 2, none⟩ = some (.string ⟨x.toArray⟩) ∧ w'.cell? ⟨g1, m * 2 + 1, none⟩ = some (.slice pa pn pc) ∧ w'.cell? ⟨g2, k * 2, none⟩ = some (.string ⟨y.toArray⟩) ∧ w'.cell? ⟨g2, k * 2 + 1, none⟩ = some (.slice qa qn qc)) (first | exact ⟨s1, s1', s2, s2'⟩ | assumption | exact ⟨H5.out.cell HG1.out (fun h => h), H5.out.cell HG1'.out (fun h => h), H5.out.cell HG2.out (fun h => h), H5.out.cell HG2'.out (fun h => h)⟩)
              (first | (go_at_call 43; refine (HQ.out _ HK1.out.drew).mono ?_; rintro e w5 ⟨rfl, hk5⟩; have H5 := hid_of (HK1.out.drew.trans hk5); clear hk5))
            go_wp2
            refine ⟨⟨m + 1, k + 1, a, f, by go_num, by go_num, rfl, rfl, H5.out, by omega, by omega, by omega, by omega, fun b h => HU.out b (.takes m k a f b h1 h2 HL.out HT.out h)⟩, ?_⟩
            have e1 : (intOf (.int .i64 ((m : Int) + 1))).toNat = m + 1 := by simp [intOf]
            rw [e1]
            exact left_takes h1
        · by_cases h3 : f < qs.length
          · go_wp2_with fail
            refine (HP.out _).mono ?_
            rintro e w1 ⟨rfl, hk1⟩
            have HK1 := hid_of (HK.out.trans hk1)
            clear hd1 hd1' hk1 HP
            go_wp2_with fail
            go_quiet (fail)
            go_wp2
            refine ⟨⟨a, f + 1, a, f + 1, rfl, by go_num, rfl, by go_num, kept_drewN HK1.out _, by omega, by omega, by omega, by omega, fun b h => HU.out b (.again m k a f b (.inl h1) (fun _ => HL.out) (fun _ h => absurd h h2) h3 h)⟩, ?_⟩
            have e1 : (intOf (.int .i64 ((f : Int) + 1))).toNat = f + 1 := by simp [intOf]
            rw [e1]
            exact left_again h3 (Nat.le_trans ha hm)
          · go_wp2_with fail
            refine (HP.out _).mono ?_
            rintro e w1 ⟨rfl, hk1⟩
            have HK1 := hid_of (HK.out.trans hk1)
            clear hd1 hd1' hk1 HP
            go_wp2_with fail
            go_quiet (fail)
            go_wp2
            rw [Exit.noGoto_ret]
            refine body_endw (R := fun e w' => ∃ b, e = Ending.returned (Value.bool b) ∧ Runs lo ta ps.length qs.length 0 0 0 qs.length b ∧ Kept (fun x => False) w w') rfl ?_
            exact ⟨false, by first | rfl | (refine congrArg Ending.returned ?_; simp; omega), HU.out false (.fail m k a f (.inl h1) (fun _ => HL.out) (fun _ h => absurd h h2) h3), kept_drewN HK1.out _⟩
      · rw [hlo] at HL HP
        go_wp2_with fail
        refine (HP.out _).mono ?_
        rintro e w1 ⟨rfl, hk1⟩
        have HK1 := hid_of (HK.out.trans hk1)
        clear hd1 hd1' hk1 HP
        go_wp2
        refine ⟨⟨m + 1, k, m + 1, k, by go_num, rfl, by go_num, rfl, HK1.out, by omega, by omega, by omega, by omega, fun b h => HU.out b (.loose m k a f b h1 HL.out h)⟩, ?_⟩
        have e1 : (intOf (.int .i64 ((m : Int) + 1))).toNat = m + 1 := by simp [intOf]
        rw [e1]
        exact left_loose h1 ha
    · by_cases h2 : k < qs.length
      · by_cases h3 : f < qs.length
        · go_wp2
          go_quiet (fail)
          go_wp2
          refine ⟨⟨a, f + 1, a, f + 1, rfl, by go_num, rfl, by go_num, kept_drewN HK.out _, by omega, by omega, by omega, by omega, fun b h => HU.out b (.again m k a f b (.inr h2) (fun h => absurd h h1) (fun h _ => absurd h h1) h3 h)⟩, ?_⟩
          have e1 : (intOf (.int .i64 ((f : Int) + 1))).toNat = f + 1 := by simp [intOf]
          rw [e1]
          exact left_again h3 (Nat.le_trans ha hm)
        · go_wp2
          go_quiet (fail)
          go_wp2
          rw [Exit.noGoto_ret]
          refine body_endw (R := fun e w' => ∃ b, e = Ending.returned (Value.bool b) ∧ Runs lo ta ps.length qs.length 0 0 0 qs.length b ∧ Kept (fun x => False) w w') rfl ?_
          exact ⟨false, by first | rfl | (refine congrArg Ending.returned ?_; simp; omega), HU.out false (.fail m k a f (.inr h2) (fun h => absurd h h1) (fun h _ => absurd h h1) h3), kept_drewN HK.out _⟩
      · have e1 : m = ps.length := by omega
        have e2 : k = qs.length := by omega
        have e3 : ((m : Int) == (ps.length : Int)) = true := by rw [e1]; simp
        have e4 : ((k : Int) == (qs.length : Int)) = true := by rw [e2]; simp
        go_wp2
        rw [Exit.noGoto_ret]
        refine body_endw (R := fun e w' => ∃ b, e = Ending.returned (Value.bool b) ∧ Runs lo ta ps.length qs.length 0 0 0 qs.length b ∧ Kept (fun x => False) w w') rfl ?_
        exact ⟨true, by first | rfl | (refine congrArg Ending.returned ?_; simp; omega), HU.out true (.stop m k a f h1 h2), HK.out⟩
end Go.Proofs.Ythloacakomahaaa
