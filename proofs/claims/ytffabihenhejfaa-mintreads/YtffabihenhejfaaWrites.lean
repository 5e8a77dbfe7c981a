/-
  done (the statements' own) by contract; MintWrites: the walk.
-/
import Derived.Test.YtffabihenhejfaaRdone
namespace Go.Proofs.Ytffabihenhejfaa
open Go.RowKit
set_option linter.unusedVariables false

set_option maxRecDepth 100000 in
set_option maxHeartbeats 1000000 in
theorem rdone_nil (w : World) : Calls Try.prog 35 #[.slice none 0 0] w fun e w' => e = .returned (.tuple #[.slice none 0 0, .int .i64 0]) ∧ w' = w := by
  go_enter Try.func35, Try.ntmps35
  go_wp2
  go_loop [4, 5] (fun v i => v = .slice none 0 0 ∧ i = .int .i64 0) (fun _ _ => 0)
  case atStart => exact ⟨rfl, rfl⟩
  case round =>
    obtain ⟨rfl, rfl⟩ := hrel
    go_wp2
    go_ret2
    exact ⟨rfl, rfl⟩

theorem cell_three_new (w : World) (x y z : Value) (t : TypeId) : ∀ j u, [x, y, z][j]? = some u → (w.alloc (.cells #[x, y, z] t)).cell? ((⟨w.heap.size, 0, none⟩ : Addr).add j) = some u := by
  intro j u hj
  rw [Addr.add_lit, cell_block _ _ _ _ _ _ (heap_alloc_new w _), Nat.zero_add]
  simpa using hj

/-- The row of items that were put. -/
def Row (w : World) (v : Value) (its : List ItV) : Prop := w.ownsRow 0 27 3 v its.length (its.flatMap ItV.cells)

theorem flat_at (its : List ItV) (i j : Nat) (hi : i < its.length) (hj : j < 3) : (its.flatMap ItV.cells)[i * 3 + j]? = (its.getD i ItV.default).cells[j]? := by
  induction its generalizing i with
  | nil => simp at hi
  | cons x its ih =>
    have hc : x.cells.length = 3 := rfl
    rw [List.flatMap_cons]
    cases i with
    | zero =>
      rw [List.getElem?_append_left (by rw [hc]; omega)]
      simp
    | succ i =>
      rw [List.getElem?_append_right (by rw [hc]; omega), hc, show (i + 1) * 3 + j - 3 = i * 3 + j by omega, ih i (by simpa using hi)]
      simp

theorem Row.items {w : World} {g n cap : Nat} {its : List ItV} (h : Row w (.slice (some ⟨g, 0, none⟩) n cap) its) : ItemsAt w g its := by
  intro i hi
  have key : ∀ j, j < 3 → w.cell? ⟨g, i * 3 + j, none⟩ = (its.getD i ItV.default).cells[j]? := by
    intro j hj
    have h1 := flat_at its i j hi hj
    have hc : (its.getD i ItV.default).cells.length = 3 := rfl
    rw [List.getElem?_eq_getElem (show j < (its.getD i ItV.default).cells.length by rw [hc]; exact hj)] at h1 ⊢
    have h2 := World.ownsRow.cells h (g := g) rfl _ _ h1
    rw [Addr.add_lit, Nat.zero_add] at h2
    exact h2
  exact ⟨key 0 (by omega), key 1 (by omega), key 2 (by omega)⟩

theorem row_len (its : List ItV) : (its.flatMap ItV.cells).length = its.length * 3 := by
  induction its with
  | nil => rfl
  | cons x its ih => rw [List.flatMap_cons, List.length_append, ih, List.length_cons]; show 3 + _ = _; omega

theorem World.ownsRow.mk' {w : World} {base : Nat} {e : TypeId} {size : Nat} {v : Value} {n : Nat} {xs : List Value} (h : w.ownsRow base e size v n xs) : (v = .slice none 0 0 ∧ n = 0) ∨ ∃ g cap, v = .slice (some ⟨g, 0, none⟩) n cap := by
  rcases h.2 with h | ⟨g, cap, _, e, _⟩
  · exact .inl h
  · exact .inr ⟨g, cap, e⟩

/-- The document's Done, over a row of items (or none yet). -/
theorem rdone_row (v : Value) (its : List ItV) (w : World) (hm : its.length ≤ 1000000) (hr : Row w v its) (hok : ∀ i, i < its.length → ItOk w (its.getD i ItV.default)) :
    Calls Try.prog 35 #[v] w fun e w' => ∃ v', e = .returned (.tuple #[v', .int .i64 (run its).err]) ∧ w'.ownsRow w.heap.size 5 1 v' (run its).bytes.length ((run its).bytes.map (Value.int .u8)) ∧ Kept (fun _ => False) w w' := by
  have hr0 := hr
  rcases World.ownsRow.mk' hr0 with ⟨rfl, hn⟩ | ⟨g, cap, rfl⟩
  · obtain rfl : its = [] := List.length_eq_zero_iff.1 hn
    refine (rdone_nil w).mono ?_
    rintro e w' ⟨rfl, rfl⟩
    exact ⟨_, rfl, World.ownsRow_nil _ _ _ _, Kept.refl _ _⟩
  · exact rdone_any g cap its its.length w rfl hm (Row.items hr) hok

set_option maxRecDepth 100000 in
set_option maxHeartbeats 1000000 in
theorem done_law (a : Nat) (v nv : Value) (its : List ItV) (w : World) (hw : WS w a v (run its)) (hm : its.length ≤ 1000000) (hr : Row w nv its) (hok : ∀ i, i < its.length → ItOk w (its.getD i ItV.default)) :
    Calls Try.prog 10 #[.pointer (some ⟨a, 0, none⟩), nv] w fun e w' => e = .returned (.bool true) ∧ Kept (fun _ => False) w w' := by
  have hd := hid_of (done_s a v _ w hw)
  have HR := hid_of hr
  have HOK := hid_of hok
  clear hw hr hok
  go_enter Try.func10, Try.ntmps10
  go_wp2_with fail
  refine hd.out.mono ?_
  rintro e w1 ⟨v1, rfl, ho1, hb1⟩
  have hk1 : Kept (fun _ => False) w w1 := (kept_of_below hb1).mono (fun k hk h => absurd hk (by omega))
  have hrd := hid_of (rdone_row nv its w1 hm (hk1.ownsRow HR.out (fun _ _ f => f)) (fun i hi => by
    obtain ⟨q1, q2, q3, q4, q5, q6, q7⟩ := HOK.out i hi
    exact ⟨q1, q2, q3, q4, q5.kept hk1 (fun _ _ f => f), q6, q7⟩))
  have HO1 := hid_of ho1
  have HK1 := hid_of hk1
  clear hd ho1 hb1 hk1 HR HOK
  go_wp2_with fail
  refine hrd.out.mono ?_
  rintro e w2 ⟨v2, rfl, ho2, hk2⟩
  have hs := same_any v1 v2 (run its).bytes (run its).bytes w2 (isB_own (hk2.ownsRow HO1.out (fun _ _ f => f))) (isB_own ho2) (by
    have hc : (run its).bytes.length ≤ 4194304 := by
      cases hrr : run its with
      | ok l => exact run_ok_len its l hrr
      | error e => exact Nat.zero_le _
    unfold maxLen; omega)
  rw [decide_eq_true (rfl : (run its).bytes = (run its).bytes)] at hs
  have HS := hid_of hs
  have HK2 := hid_of (HK1.out.trans hk2)
  have heq : ((run its).err == (run its).err) = true := by simp
  generalize (run its).err = er at *
  clear hrd ho2 hk2 HO1 HK1 hs
  go_wp2_with fail
  refine HS.out.mono ?_
  rintro e w3 ⟨rfl, n, rfl⟩
  clear HS
  go_wp2
  go_ret
  exact ⟨by first | rfl | simp, kept_drewN HK2.out n⟩

/-- An item as it was handed in. -/
def ArgOk (w : World) (x : ItV) : Prop :=
  -9223372036854775808 ≤ x.k ∧ x.k ≤ 9223372036854775807 ∧ -9223372036854775808 ≤ x.n ∧ x.n ≤ 9223372036854775807 ∧ IsB w x.bv x.xs ∧ (∀ y ∈ x.xs, 0 ≤ y ∧ y ≤ 255) ∧ x.xs.length ≤ maxLen

/-- The items of the argument, each at its three cells. -/
def ArgItems (w : World) (b o : Nat) (its : List ItV) : Prop :=
  ∀ i, i < its.length → w.cell? ⟨b, o + i * 3, none⟩ = some (.int .i64 (its.getD i ItV.default).k) ∧ w.cell? ⟨b, o + i * 3 + 1, none⟩ = some (.int .i64 (its.getD i ItV.default).n) ∧ w.cell? ⟨b, o + i * 3 + 2, none⟩ = some (its.getD i ItV.default).bv

/-- The Writer and the items that were put, while more are put. -/
structure Inv (W wr : World) (a : Nat) (its : List ItV) (v nv : Value) : Prop where
  ws : WS wr a v (run its)
  row : Row wr nv its
  ok : ∀ i, i < its.length → ItOk W (its.getD i ItV.default)
  below : Below W.heap.size W wr
  ha : W.heap.size ≤ a
  hv : ∀ g, v.ownBlock = some g → W.heap.size ≤ g
  hnv : ∀ g, nv.ownBlock = some g → W.heap.size ≤ g ∧ g ≠ a ∧ v.ownBlock ≠ some g

theorem IsB.below {W wr : World} {v : Value} {xs : List Int} (h : IsB W v xs) (hb : Below W.heap.size W wr) : IsB wr v xs :=
  h.kept2 (kept_of_below hb) (fun hne g hg h' => by have := h.lt hne g hg; omega)

theorem Inv.items {W wr : World} {a : Nat} {its : List ItV} {v nv : Value} (h : Inv W wr a its v nv) : ∀ i, i < its.length → ItOk wr (its.getD i ItV.default) := fun i hi => by
  obtain ⟨q1, q2, q3, q4, q5, q6, q7⟩ := h.ok i hi
  exact ⟨q1, q2, q3, q4, q5.below h.below, q6, q7⟩

/-- New memory changes nothing. -/
theorem Inv.new {W wr w' : World} {a : Nat} {its : List ItV} {v nv : Value} (h : Inv W wr a its v nv) (hk : Kept (fun _ => False) wr w') : Inv W w' a its v nv :=
  ⟨h.ws.new hk, hk.ownsRow h.row (fun _ _ f => f), h.ok, h.below.trans (hk.below h.below.size (fun _ f => f.elim)), h.ha, h.hv, h.hnv⟩

theorem Inv.done {W wr : World} {a : Nat} {its : List ItV} {v nv : Value} (h : Inv W wr a its v nv) (hm : its.length ≤ 1000000) :
    Calls Try.prog 10 #[.pointer (some ⟨a, 0, none⟩), nv] wr fun e w' => e = .returned (.bool true) ∧ Kept (fun _ => False) wr w' := done_law a v nv its wr h.ws hm h.row h.items

theorem Inv.row4 {W w3 w4 : World} {a : Nat} {its : List ItV} {v nv : Value} (h : Inv W w3 a its v nv) (hk : Kept (fun k => k = a ∨ v.ownBlock = some k) w3 w4) : Row w4 nv its :=
  hk.ownsRow h.row (fun g hg h' => by
    obtain ⟨_, h1, h2⟩ := h.hnv g hg
    rcases h' with h' | h'
    · exact h1 h'
    · exact h2 h')

theorem Inv.push {W w3 w4 w6 : World} {a : Nat} {its : List ItV} {v v' nv nv' : Value} {x : ItV} {o : Obj} (h : Inv W w3 a its v nv) (hp : WS w4 a v' ((run its).item x.k x.n x.xs)) (hk : Kept (fun k => k = a ∨ v.ownBlock = some k) w3 w4)
    (hfr : ∀ g, v'.ownBlock = some g → v.ownBlock = some g ∨ w3.heap.size ≤ g) (hown' : w6.ownsRow 0 27 3 nv' (its.length + 1) (its.flatMap ItV.cells ++ x.cells)) (hgrow : (w4.alloc o).grownBy w6 nv.ownBlock)
    (hat : nv'.ownBlock = nv.ownBlock ∨ nv'.ownBlock = some (w4.alloc o).heap.size) (hx : ItOk W x) : Inv W w6 a (its ++ [x]) v' nv' := by
  have hws := h.ws.size
  have hs34 := hk.size
  have ha := h.ha
  have hbs := h.below.size
  have hnlt : ∀ g, nv.ownBlock = some g → g < w3.heap.size := fun g hg => (World.ownsRow.lt h.row g hg).2
  have hk46 : Kept (fun k => nv.ownBlock = some k) w4 w6 := ((Kept.refl _ w4).alloc o).grown hgrow (fun k e => .inr e)
  have hnv' : ∀ g, nv.ownBlock = some g → v'.ownBlock ≠ some g := by
    intro g hg e
    rcases hfr g e with e' | e'
    · exact (h.hnv g hg).2.2 e'
    · have := hnlt g hg; omega
  refine ⟨?_, ?_, ?_, ?_, h.ha, ?_, ?_⟩
  · rw [run_snoc]
    exact hp.kept hk46 (fun e => (h.hnv a e).2.1 rfl) (fun g hg e => hnv' g e hg)
  · show w6.ownsRow 0 27 3 nv' (its ++ [x]).length ((its ++ [x]).flatMap ItV.cells)
    rw [List.length_append, List.flatMap_append]
    simpa using hown'
  · intro i hi
    rw [List.length_append] at hi
    by_cases e : i < its.length
    · rw [List.getD, List.getElem?_append_left e]
      exact h.ok i e
    · obtain rfl : i = its.length := by simp at hi; omega
      simpa [List.getD] using hx
  · refine (h.below.trans (hk.below h.below.size (fun k e => ?_))).trans (hk46.below (by omega) (fun k e => (h.hnv k e).1))
    rcases e with e | e
    · omega
    · exact h.hv k e
  · intro g hg
    rcases hfr g hg with e | e
    · exact h.hv g e
    · omega
  · intro g hg
    rcases hat with e | e
    · rw [e] at hg
      exact ⟨(h.hnv g hg).1, (h.hnv g hg).2.1, hnv' g hg⟩
    · rw [e] at hg
      have hg' := Option.some.inj hg
      simp at hg'
      refine ⟨by omega, by omega, fun e' => ?_⟩
      have := (hp.lt g e').1
      omega

theorem Try.info27 : (Try.prog.info? 27).map (fun i => (i.zero, i.size, i.bytes)) = some (some (.agg #[.int .i64 0, .int .i64 0, .slice none 0 0]), 3, 40) := by kernel_rfl

set_option maxRecDepth 100000 in
set_option maxHeartbeats 4000000 in
theorem writes_walk (b o c : Nat) (arg : List ItV) (N : Nat) (W : World) (hN : arg.length = N) (hm : N ≤ maxLen) (hit : ArgItems W b o arg) (hok : ∀ i, i < N → ArgOk W (arg.getD i ItV.default)) (hb : 0 < N → b < W.heap.size) :
    Calls Try.prog 3 #[.slice (some ⟨b, o, none⟩) N c] W fun e w' => e = .returned (.bool true) ∧ Below W.heap.size W w' := by
  obtain ⟨i0, hi, hz0, hz1, hz2⟩ := info_parts Try.info27
  unfold maxLen at hm
  have HN := hid_of hN
  have HIT := hid_of hit
  have HOK := hid_of hok
  have HBS := hid_of hb
  clear hN hit hok hb
  have hI0 : Inv W (W.alloc (.cells #[.slice none 0 0, .int .i64 0] 78)) W.heap.size [] (.slice none 0 0) (.slice none 0 0) :=
    ⟨wr_new_s W, World.ownsRow_nil _ _ _ _, fun i hi => absurd hi (by simp), (Below.refl _ W).alloc (Nat.le_refl _) _, Nat.le_refl _, fun g hg => (by cases hg), fun g hg => (by cases hg)⟩
  have HI0 := hid_of hI0
  clear hI0
  go_enter Try.func3, Try.ntmps3
  go_wp2_with fail
  refine (new_any W).mono ?_
  rintro e w1 ⟨rfl, rfl⟩
  go_wp2
  go_loopw [4, 5] (fun nv i wr => ∃ (k : Nat) (its : List ItV) (v : Value), k ≤ N ∧ k ≤ 400 ∧ its.length ≤ k ∧ i = .int .i64 k ∧ Inv W wr W.heap.size its v nv) (fun _ i _ => 400 - (intOf i).toNat)
  case atStart => exact ⟨0, [], .slice none 0 0, Nat.zero_le _, by omega, by simp, rfl, HI0.out⟩
  case round =>
    obtain ⟨k, its, v, hkN, hk4, hil, rfl, hinv⟩ := hrel
    by_cases hlt : k < N ∧ k < 400
    · obtain ⟨hlt, hlt4⟩ := hlt
      have hltI : (k : Int) < (N : Int) := by omega
      have hltI4 : (k : Int) < 400 := by omega
      obtain ⟨q0, q1, q2⟩ := HIT.out k (by rw [HN.out]; exact hlt)
      obtain ⟨o1, o2, o3, o4, o5, o6, o7⟩ := HOK.out k hlt
      generalize arg.getD k ItV.default = x at *
      obtain ⟨xk, xn, bv, xs⟩ := x
      dsimp only at q0 q1 q2 o1 o2 o3 o4 o5 o6 o7
      have hbs := HBS.out (by omega)
      have r0 := (hinv.below.cell (p := ⟨b, o + k * 3, none⟩) hbs).trans q0
      have r1 := (hinv.below.cell (p := ⟨b, o + k * 3 + 1, none⟩) hbs).trans q1
      have r2 := (hinv.below.cell (p := ⟨b, o + k * 3 + 2, none⟩) hbs).trans q2
      obtain ⟨ao, bc, rfl⟩ := o5.shape
      have HINV := hid_of hinv
      have H5 := hid_of o5
      have H6 := hid_of o6
      clear q0 q1 q2 o5 o6 HIT HOK hinv HI0
      have hrl : its.length ≤ 1000000 := by omega
      have o7' := o7
      unfold maxLen at o7'
      have hIX : Inv W (wr.alloc (.cells #[.int .i64 xk, .int .i64 xn, .slice ao xs.length bc] 27)) W.heap.size its v u4 := HINV.out.new ((Kept.refl _ _).alloc _)
      have HIX := hid_of hIX
      have hbox := heap_alloc_new wr (.cells #[.int .i64 xk, .int .i64 xn, .slice ao xs.length bc] 27)
      have HBOX := hid_of hbox
      clear hIX hbox
      have bx : ∀ w' : World, w'.heap[wr.heap.size]? = some (.cells #[.int .i64 xk, .int .i64 xn, .slice ao xs.length bc] 27 (0, 0)) → w'.cell? ⟨wr.heap.size, 0, none⟩ = some (.int .i64 xk) ∧ w'.cell? ⟨wr.heap.size, 1, none⟩ = some (.int .i64 xn) ∧ w'.cell? ⟨wr.heap.size, 2, none⟩ = some (.slice ao xs.length bc) := by
        intro w' h
        exact ⟨by rw [cell_block _ _ _ _ _ _ h]; rfl, by rw [cell_block _ _ _ _ _ _ h]; rfl, by rw [cell_block _ _ _ _ _ _ h]; rfl⟩
      have BX := hid_of bx
      clear bx
      by_cases hk7 : xk = 7
      · subst hk7
        have hdn := hid_of (HIX.out.done hrl)
        go_wp2_with fail
        refine hdn.out.mono ?_
        rintro e w2 ⟨rfl, hk2⟩
        have HI2 := hid_of (HIX.out.new hk2)
        obtain ⟨b0, b1, b2⟩ := BX.out w2 ((hk2.block _ (by simp) (fun f => f)).trans HBOX.out)
        have hisx := is_any 7 xn ao xs.length bc w2 o7
        rw [show isOk 7 xs.length = false from decide_eq_false (by omega)] at hisx
        have HIS := hid_of hisx
        clear hdn hk2 hisx HBOX HIX BX r0 r1 r2
        go_wp2_with fail
        refine HIS.out.mono ?_
        rintro e w3 ⟨rfl, rfl⟩
        have HI3 := hid_of (HI2.out.new ((Kept.refl _ w2).alloc (.cells #[.int .i64 7, .int .i64 xn, .slice ao xs.length bc] 27)))
        clear HIS HI2
        go_wp2
        go_roundw
        case rel => exact ⟨k + 1, its, v, by omega, by omega, by omega, by go_num, HI3.out⟩
        case measure => simp [intOf]; omega
      · have hk7b : (xk == 7) = false := by simp [hk7]
        clear hk7
        have hisx := is_any xk xn ao xs.length bc (wr.alloc (.cells #[.int .i64 xk, .int .i64 xn, .slice ao xs.length bc] 27)) o7
        have HI3 := hid_of (HIX.out.new ((Kept.refl _ _).alloc (.cells #[.int .i64 xk, .int .i64 xn, .slice ao xs.length bc] 27)))
        cases hio : isOk xk xs.length with
        | false =>
          rw [hio] at hisx
          have HIS := hid_of hisx
          clear hisx hio HBOX HIX BX
          go_wp2_with fail
          refine HIS.out.mono ?_
          rintro e w3 ⟨rfl, rfl⟩
          clear HIS r0 r1 r2
          go_wp2
          go_roundw
          case rel => exact ⟨k + 1, its, v, by omega, by omega, by omega, by go_num, HI3.out⟩
          case measure => simp [intOf]; omega
        | true =>
          rw [hio] at hisx
          have HIS := hid_of hisx
          have ho := of_decide_eq_true hio
          obtain ⟨p1, p2, p3⟩ := ho
          have hpt := put_any W.heap.size v (run its) xk xn (.slice ao xs.length bc) xs _ HI3.out.ws p1 p2 o3 (by omega) (H5.out.below HI3.out.below) H6.out p3 (fun hne g hg => by
            have := H5.out.lt hne g hg
            exact ⟨by omega, fun e => by have := HI3.out.hv g e; omega⟩)
          have HPT := hid_of hpt
          obtain ⟨b0, b1, b2⟩ := BX.out _ ((((Kept.refl (fun _ => False) _).alloc (.cells #[.int .i64 xk, .int .i64 xn, .slice ao xs.length bc] 27)).block _ (by simp) (fun f => f)).trans HBOX.out)
          have HB3 := hid_of ((((Kept.refl (fun _ => False) _).alloc (.cells #[.int .i64 xk, .int .i64 xn, .slice ao xs.length bc] 27)).block _ (by simp) (fun f => f)).trans HBOX.out)
          have hok : ItOk W ⟨xk, xn, .slice ao xs.length bc, xs⟩ := ⟨p1, p2, o3, by simp only; omega, H5.out, H6.out, p3⟩
          have HOKX := hid_of hok
          have hws0 := HINV.out.ws.size
          have hvl := fun g hg => (HINV.out.ws.lt g hg).1
          have HVL := hid_of hvl
          clear hisx hio HBOX HIX hpt hok hvl
          go_wp2_with fail
          refine HIS.out.mono ?_
          rintro e w3 ⟨rfl, rfl⟩
          clear HIS
          go_wp2_with fail
          refine HPT.out.mono ?_
          rintro e w4 ⟨rfl, v', hw4, hk4', hf4⟩
          obtain ⟨d0, d1, d2⟩ := BX.out w4 ((hk4'.block _ (by simp; omega) (by intro h; rcases h with h | h; omega; have := HVL.out _ h; omega)).trans HB3.out)
          have HROW := hid_of (HI3.out.row4 hk4')
          have HW4 := hid_of hw4
          have HK4 := hid_of hk4'
          have HF4 := hid_of hf4
          clear HPT hw4 hk4' hf4 b0 b1 b2 r0 r1 r2 BX HB3 H5 H6
          go_wp2_with (at_builtin; refine wpList_append_own_at _ rfl (.tmp 40) (.tmp 42) 22 rfl 0 27 i0 (.agg #[.int .i64 0, .int .i64 0, .slice none 0 0]) 3 40 Try.underlying22 hi hz0 hz1 hz2 rfl (by decide) _ _ _ rfl (HROW.out.alloc _) ⟨w4.heap.size, 0, none⟩ 1 1 [.int .i64 xk, .int .i64 xn, .slice ao xs.length bc] rfl rfl (cell_three_new _ _ _ _ _) (by intro u hu; simp at hu; rcases hu with rfl | rfl | rfl <;> rfl) (by unfold maxLen; omega) (by omega) (Nat.zero_le _) ?_)
          intro nv' w6 hown' hgrow hnil hat
          have R := hid_of (HI3.out.push (x := ⟨xk, xn, .slice ao xs.length bc, xs⟩) HW4.out HK4.out HF4.out hown' hgrow (by simpa using hat) HOKX.out)
          clear hown' hgrow hnil hat HROW HW4 HK4 HF4 HOKX HI3 HINV HVL d0 d1 d2
          go_wp2
          go_roundw
          case rel => exact ⟨k + 1, its ++ [⟨xk, xn, .slice ao xs.length bc, xs⟩], v', by omega, by omega, by rw [List.length_append]; simp; omega, by go_num, R.out⟩
          case measure => simp [intOf]; omega
    · have hrl : its.length ≤ 1000000 := by omega
      have hd1 := hid_of (hinv.done hrl)
      have HINV := hid_of hinv
      have key : (¬ (k : Int) < (N : Int)) ∨ ((k : Int) < (N : Int) ∧ decide ((k : Int) < 400) = false) := by simp; omega
      clear hinv HIT HOK HI0
      rcases key with hl1 | ⟨hl1, hl2⟩
      all_goals
        go_wp2_with fail
        refine hd1.out.mono ?_
        rintro e w2 ⟨rfl, hk2⟩
        have hd2 := hid_of ((HINV.out.new hk2).done hrl)
        have HB2 := hid_of (HINV.out.new hk2).below
        clear hd1 hk2
        go_wp2_with fail
        refine hd2.out.mono ?_
        rintro e w3 ⟨rfl, hk3⟩
        have HB3 := hid_of (HB2.out.trans (hk3.below HB2.out.size (fun _ f => f.elim)))
        clear hd2 hk3
        go_wp2
        go_ret
        exact ⟨by first | rfl | simp, HB3.out⟩
end Go.Proofs.Ytffabihenhejfaa
