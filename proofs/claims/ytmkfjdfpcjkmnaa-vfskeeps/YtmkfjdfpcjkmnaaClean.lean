/-
  path.Clean by contract.
-/
import Derived.Test.YtmkfjdfpcjkmnaaNames
import Derived.Test.YtmkfjdfpcjkmnaaRless
import Derived.Test.YtmkfjdfpcjkmnaaRname
import Derived.Shelf.Strings.OnBuilder
namespace Go.Proofs
open Go.Shelf
shelf_lay Lays.n156 Nm 156 at Try as Try.lays156
theorem Try.extra156 : Builder.Extra Try.prog Try.lays156_ren where
  sizeBuilder := by kernel_rfl
  liesBuilder := by kernel_rfl
  t5 := Try.underlying5
  a5 := Try.isAgg5
  z5 := Try.sizeOf5
  v5 := Try.zeroValue5
  infoByte := by kernel_rfl
  cellsByte := by kernel_rfl
  sizeByte := by kernel_rfl
  neB5 := by decide
end Go.Proofs
namespace Go.Proofs.Ytmkfjdfpcjkmnaa
open Go.RowKit Go.Shelf
attribute [local go_sem] Oper.semAt_some
set_option linter.unusedVariables false
set_option linter.unusedSimpArgs false

/-- One part more. -/
def stepC (row : List (List UInt8)) (x : List UInt8) : Except Int (List (List UInt8)) :=
  if x = [] ∨ x = [46] then .ok row else if x = [46, 46] then (if row = [] then .error 32 else .ok row.dropLast) else if isName x = true then .ok (row ++ [x]) else .error 31
def foldC : List (List UInt8) → List (List UInt8) → Except Int (List (List UInt8))
  | row, [] => .ok row
  | row, x :: xs => match stepC row x with
    | .ok r => foldC r xs
    | .error e => .error e
def joinP (row : List (List UInt8)) : List UInt8 := Lib.join row [47]
/-- What Clean tells. -/
def cleanOf (l : List UInt8) : List UInt8 × Int :=
  if 4096 < l.length then ([], 2) else match foldC [] (partsOf l) with
    | .error e => ([], e)
    | .ok row => if 32 < row.length then ([], 33) else (joinP row, 0)

theorem foldC_more : ∀ (xs ys row : List (List UInt8)), foldC row (xs ++ ys) = (match foldC row xs with | .ok r => foldC r ys | .error e => .error e)
  | [], ys, row => rfl
  | x :: xs, ys, row => by
    rw [List.cons_append, foldC, foldC]
    cases stepC row x with
    | error e => rfl
    | ok r => exact foldC_more xs ys r
theorem foldC_one (xs : List (List UInt8)) (x : List UInt8) (row r : List (List UInt8)) (h : foldC row xs = .ok r) : foldC row (xs ++ [x]) = stepC r x := by
  rw [foldC_more, h]
  show foldC r [x] = _
  rw [foldC]
  cases stepC r x with
  | error e => rfl
  | ok r => rfl
theorem foldC_front {xs ys row : List (List UInt8)} {e : Int} (h : foldC row xs = .error e) (hp : xs <+: ys) : foldC row ys = .error e := by
  obtain ⟨zs, rfl⟩ := hp
  rw [foldC_more, h]

theorem foldC_len : ∀ (xs row r : List (List UInt8)), foldC row xs = .ok r → r.length ≤ row.length + xs.length
  | [], row, r, h => by cases h; simp
  | x :: xs, row, r, h => by
    rw [foldC] at h
    cases hs : stepC row x with
    | error e => rw [hs] at h; cases h
    | ok q =>
      rw [hs] at h
      have h1 := foldC_len xs q r h
      have h2 : q.length ≤ row.length + 1 := by
        rw [stepC] at hs
        split at hs
        · cases hs; omega
        · split at hs
          · split at hs
            · cases hs
            · cases hs; rw [List.length_dropLast]; omega
          · split at hs
            · cases hs; simp
            · cases hs
      simp; omega

/-- A row of one's own, its last left off. -/
theorem own_less {w : World} {B : Nat} {v : Value} {n : Nat} {xs : List (List UInt8)} (h : w.ownsRow B 9 1 v (n + 1) (texts xs)) : ∃ g cap, v = .slice (some ⟨g, 0, none⟩) (n + 1) cap ∧ n + 1 ≤ cap ∧ w.ownsRow B 9 1 (.slice (some ⟨g, 0, none⟩) n cap) n (texts xs.dropLast) := by
  rcases h.2 with ⟨_, h0⟩ | ⟨g, cap, cur, rfl, hb, hg, h1, h2, h3, h4⟩
  · omega
  · have hl : xs.length = n + 1 := by have := h.1; rw [texts, List.length_map] at this; omega
    refine ⟨g, cap, rfl, h1, ?_, .inr ⟨g, cap, cur, rfl, hb, hg, by omega, h2, h3, ?_⟩⟩
    · rw [texts, List.length_map, List.length_dropLast]; omega
    · rw [texts, List.map_dropLast]
      show _ = (texts xs).dropLast
      rw [← h4, List.dropLast_eq_take, List.take_take, List.length_take]
      congr 1
      have : cur.toList.length = cap * 1 := by rw [Array.length_toList, h3]
      omega

theorem foldC_names : ∀ (xs row r : List (List UInt8)), foldC row xs = .ok r → (∀ y ∈ row, isName y = true) → ∀ y ∈ r, isName y = true
  | [], row, r, h, hr => by cases h; exact hr
  | x :: xs, row, r, h, hr => by
    rw [foldC] at h
    cases hs : stepC row x with
    | error e => rw [hs] at h; cases h
    | ok q =>
      rw [hs] at h
      refine foldC_names xs q r h ?_
      rw [stepC] at hs
      split at hs
      · cases hs; exact hr
      · split at hs
        · split at hs
          · cases hs
          · cases hs; exact fun y hy => hr y ((List.dropLast_sublist _).subset hy)
        · split at hs
          · rename_i hx
            cases hs
            intro y hy
            rcases List.mem_append.1 hy with h1 | h1
            · exact hr y h1
            · rw [List.mem_singleton.1 h1]; exact hx
          · cases hs

theorem joinTail_len : ∀ (r : List (List UInt8)), (∀ y ∈ r, y.length ≤ 64) → (Lib.joinTail [47] r).length ≤ r.length * 65
  | [], _ => by simp [Lib.joinTail]
  | x :: r, h => by
    have h1 := joinTail_len r (fun y hy => h y (List.mem_cons_of_mem _ hy))
    have h2 := h x (List.mem_cons_self)
    rw [Lib.joinTail] at h1 ⊢
    rw [List.map_cons, List.flatten_cons, List.length_append, List.length_append, List.length_cons (a := x), Nat.add_mul]
    simp only [List.length_cons, List.length_nil]
    omega
theorem joinP_len (row : List (List UInt8)) (h : ∀ y ∈ row, isName y = true) : (joinP row).length ≤ row.length * 65 := by
  have h64 : ∀ y ∈ row, y.length ≤ 64 := fun y hy => by
    have := h y hy
    simp only [isName, Bool.and_eq_true, decide_eq_true_eq] at this
    omega
  cases row with
  | nil => rw [joinP, Lib.join_nil]; simp
  | cons x r =>
    rw [joinP, Lib.join_cons, List.length_append, List.length_cons, Nat.add_mul]
    have h1 := joinTail_len r (fun y hy => h64 y (List.mem_cons_of_mem _ hy))
    have h2 := h64 x (List.mem_cons_self)
    omega

theorem join_any (row : List (List UInt8)) (v : Value) (B : Nat) (W : World) (ho : W.ownsRow B 9 1 v row.length (texts row)) (hn : row.length ≤ 32) (hN : ∀ y ∈ row, isName y = true) :
    Calls Try.prog 66 #[v, .string ⟨#[47]⟩] W fun e W' => e = .returned (.string ⟨(joinP row).toArray⟩) ∧ Kept (fun _ => False) W W' := by
  have hl := joinP_len row hN
  obtain ⟨a, cap, rfl, hc, hm, hx⟩ := own_slice ho
  cases hr : row with
  | nil => exact (Any.strings_Join_none Try.lays156 Try.extra156 a cap ⟨#[47]⟩ W).mono (fun e w' h => ⟨h.1, by rw [h.2]; exact Kept.refl _ _⟩)
  | cons y ys =>
    rw [← hr]
    obtain ⟨g, rfl, _, hg, _⟩ := hx 0 (.string ⟨y.toArray⟩) (by rw [hr]; rfl)
    have hj : joinP row = Lib.join ((row.map (fun x => (⟨x.toArray⟩ : ByteArray))).map (·.data.toList)) (⟨#[47]⟩ : ByteArray).data.toList := by
      rw [joinP, List.map_map]
      exact congrArg (fun z => Lib.join z [47]) (List.map_id _).symm
    have hJ := Any.strings_Join Try.lays156 Try.extra156 g 0 cap (row.map (fun x => (⟨x.toArray⟩ : ByteArray))) ⟨#[47]⟩ W (fun j x hj => by
      rw [List.getElem?_map] at hj
      cases h : row[j]? with
      | none => rw [h] at hj; simp at hj
      | some z =>
        rw [h] at hj
        obtain ⟨g', e, _, _, h2⟩ := hx j _ (texts_get _ _ _ h)
        cases e
        cases hj
        rw [Nat.zero_add]
        exact h2) hg (by rw [List.length_map]; omega) (by rw [List.length_map]; exact hc) (by rw [← hj]; omega)
    rw [List.length_map] at hJ
    rw [← hj] at hJ
    exact hJ.mono (fun e w' h => ⟨h.1, kept_below h.2⟩)

theorem Kept.others {w w' : World} (h : Kept (fun _ => False) w w') : KeepsOthers w w' := ⟨h.size, fun k o hk _ => (h.block k (Array.getElem?_eq_some_iff.1 hk).1 (fun e => e)).trans hk⟩

theorem parts_len (l : List UInt8) : (partsOf l).length ≤ l.length + 1 := by
  rw [partsOf]
  split
  · simp
  · have : ∀ l : List UInt8, (splitB l).length ≤ l.length + 1 := by
      intro l
      induction l with
      | nil => simp [splitB]
      | cons c l ih =>
        obtain ⟨p, ps, e⟩ := splitB_some l
        by_cases hc : c = 47
        · rw [(splitB_cons c l).1 hc]
          simp only [List.length_cons]
          omega
        · rw [(splitB_cons c l).2 hc _ _ e]
          rw [e] at ih
          simp only [List.length_cons] at ih ⊢
          omega
    exact this l
theorem own_ge {w : World} {B : Nat} {e : TypeId} {size : Nat} {v : Value} {n : Nat} {xs : List Value} (h : w.ownsRow B e size v n xs) {k : Nat} (hk : k < B) : some k ≠ v.ownBlock := by
  intro e
  have := (h.lt k e.symm).1
  omega
/-- Behind an append onto the row that a box holds: all that is wanted. -/
theorem box_appended {W w1 : World} {n₀ B : Nat} {e t : TypeId} {size : Nat} {v v' : Value} {k m : Nat} {xs ys : List Value} {tmp : Obj} (hv : Boxed W B t v) (hrow : W.ownsRow n₀ e size v k xs) (hn₀ : n₀ ≤ W.heap.size) (hB : B < n₀)
    (hown' : w1.ownsRow n₀ e size v' m ys) (hgrow : (W.alloc tmp).grownBy w1 v.ownBlock) :
    Boxed w1 B t v ∧ Boxed (w1.setCell ⟨B, 0, none⟩ v') B t v' ∧ (w1.setCell ⟨B, 0, none⟩ v').ownsRow n₀ e size v' m ys ∧ KeepsOthers W (w1.setCell ⟨B, 0, none⟩ v') ∧ Kept (fun k => n₀ ≤ k ∨ k = B) W (w1.setCell ⟨B, 0, none⟩ v') := by
  have hv1 : Boxed w1 B t v := (hv.alloc tmp).kept hgrow (own_ge hrow hB)
  refine ⟨hv1, hv1.set v', hown'.kept (grownBy_setCell' w1 B v') (.inr (own_ge hown' hB).symm), ?_, ?_⟩
  · refine ((KeepsOthers.alloc W tmp).trans (KeepsOthers.of_grownBy hgrow fun j o ej hj => ?_)).trans (KeepsOthers.setCell _ _ _)
    rcases (hrow.alloc tmp).2 with ⟨rfl, _⟩ | ⟨g, cap, cur, rfl, _, hgb, _⟩
    · simp [Value.ownBlock] at ej
    · obtain rfl : g = j := by simpa [Value.ownBlock] using ej
      rw [hgb] at hj; cases hj; rfl
  · exact (((Kept.refl _ W).alloc tmp).grown hgrow (fun k hk => .inr (.inl (hrow.lt k hk).1))).setCell (p := ⟨B, 0, none⟩) (.inr (.inr rfl)) _
theorem box_kept {S : Nat → Prop} {W W' : World} {b : Nat} {t : TypeId} {v : Value} (h : Boxed W b t v) (k : Kept S W W') (hs : ¬ S b) : Boxed W' b t v := (k.block b h.lt hs).trans h
theorem box_keep {W W' : World} {b : Nat} {t : TypeId} {v : Value} (h : Boxed W b t v) (k : Kept (fun _ => False) W W') : Boxed W' b t v := (k.block b h.lt (fun e => e)).trans h
theorem box_stay {B : Nat} {A C : World} {rw : Option Nat} {b : Nat} {t : TypeId} {v : Value} (hv : Boxed A b t v) (hg : A.grownBy C rw) (hr : ∀ r, rw = some r → B ≤ r ∧ ∃ o : Obj, A.heap[r]? = some o ∧ o.isCells = false) : Boxed C b t v :=
  hv.kept hg (fun e => by
    obtain ⟨_, o, ho, hc⟩ := hr b e.symm
    rw [show A.heap[b]? = _ from hv] at ho
    cases ho
    cases hc)
theorem owns_stay {B : Nat} {A C : World} {rw : Option Nat} {base : Nat} {e : TypeId} {size : Nat} {v : Value} {n : Nat} {xs : List Value} (h : A.ownsRow base e size v n xs) (hg : A.grownBy C rw) (hr : ∀ r, rw = some r → B ≤ r ∧ ∃ o : Obj, A.heap[r]? = some o ∧ o.isCells = false) : C.ownsRow base e size v n xs := by
  refine h.kept hg ?_
  rcases h.2 with ⟨rfl, _⟩ | ⟨g, cap, cur, rfl, _, hgb, _⟩
  · exact .inl rfl
  · refine .inr fun e' => ?_
    obtain ⟨_, o, ho, hc⟩ := hr g (by simpa [Value.ownBlock] using e'.symm)
    rw [hgb] at ho
    cases ho
    cases hc
theorem box_far {W : World} {b b' : Nat} {t : TypeId} {v : Value} (h : Boxed W b t v) (hn : b ≠ b') (u : Value) : Boxed (W.setCell ⟨b', 0, none⟩ u) b t v := h.kept (grownBy_setCell' W b' u) (by simpa using hn)

theorem box_put {W : World} {b D : Nat} {t : TypeId} {v : Value} (h : Boxed W b t v) (hK : W.heap[D]? = some (.deferred (some []))) : Boxed (W.putObj D (.deferred none)) b t v :=
  h.kept (grownBy_putObj' _ D (.deferred none)) (fun e => by
    cases e
    rw [show W.heap[b]? = _ from h] at hK
    cases hK)

set_option maxRecDepth 100000 in
set_option maxHeartbeats 2000000 in
theorem clean_any {P : List UInt8 → Prop} (HN : ∀ x, P x → ∀ W, Calls Try.prog 65 #[.string ⟨x.toArray⟩] W fun e W' => e = .returned (.bool (isName x)) ∧ Kept (fun _ => False) W W')
    (s : ByteArray) (hP : ∀ x ∈ partsOf s.data.toList, P x) (w : World) :
    Calls Try.prog 38 #[.string s] w fun e w' => e = .returned (.tuple #[.string ⟨(cleanOf s.data.toList).1.toArray⟩, .int .i64 (cleanOf s.data.toList).2]) ∧ Kept (fun _ => False) w w' := by
  have hl : s.data.toList.length = s.size := by simp
  obtain ⟨c, hcd⟩ : ∃ c, c = cleanOf s.data.toList := ⟨_, rfl⟩
  rw [← hcd]
  have HC := hid_of hcd
  clear hcd
  refine (callsIn_wide (n := 3)).1 ?_
  refine callsIn_of_wp_marks Try.func38 rfl trivial ?_ rfl
  simp only [Try.ntmps38, List.size_toArray, List.length_cons, List.length_nil, Nat.reduceAdd, Nat.reduceSub, Array.replicate_succ, Array.replicate_zero, List.push_toArray, List.append_toArray, List.nil_append, List.cons_append]
  by_cases h : 4096 < s.size
  · have HE : Hid (c = ([], 2)) := by
      show _ = _
      rw [HC.out, cleanOf, hl, if_pos h]
    gi_wp2
    refine ⟨.tuple #[.string ⟨#[]⟩, .int .i64 2], ?_, by rw [HE.out], ((Kept.refl _ w).alloc _).alloc _⟩
    simp [results, Try.f38, go_sem]
  · have hcd : c = match foldC [] (partsOf s.data.toList) with
        | .error e => ([], e)
        | .ok row => if 32 < row.length then ([], 33) else (joinP row, 0) := by rw [HC.out, cleanOf, hl, if_neg h]
    have HC := hid_of hcd
    clear hcd
    have HA := hid_of (names_any s)
    have HL := hid_of hl
    gi_wp2_with fail
    refine ⟨trivial, (callsIn_wide.2 (HA.out _)).mono ?_⟩
    rintro e w1 ⟨rfl, rfl⟩
    clear HA hl
    gi_wp2
    have b0 := (((Boxed.new w 9 (.string ⟨#[]⟩)).alloc (.cells #[.int .i64 0] 28)).alloc (.cells #[.slice none 0 0] 61)).alloc (.cells #[.string s] 9)
    have b1 := ((Boxed.new (w.alloc (.cells #[.string ⟨#[]⟩] 9)) 28 (.int .i64 0)).alloc (.cells #[.slice none 0 0] 61)).alloc (.cells #[.string s] 9)
    have b2 := (Boxed.new ((w.alloc (.cells #[.string ⟨#[]⟩] 9)).alloc (.cells #[.int .i64 0] 28)) 61 (.slice none 0 0)).alloc (.cells #[.string s] 9)
    have b3 := Boxed.new (((w.alloc (.cells #[.string ⟨#[]⟩] 9)).alloc (.cells #[.int .i64 0] 28)).alloc (.cells #[.slice none 0 0] 61)) 9 (.string s)
    simp only [World.size_alloc] at b1 b2 b3
    have hB0 := ((((Below.refl w.heap.size w).alloc (Nat.le_refl _) (.cells #[.string ⟨#[]⟩] 9)).alloc (by simp) (.cells #[.int .i64 0] 28)).alloc (by simp; omega) (.cells #[.slice none 0 0] 61)).alloc (by simp; omega) (.cells #[.string s] 9)
    obtain ⟨W0, hW0⟩ : ∃ W0, ((((w.alloc (.cells #[.string ⟨#[]⟩] 9)).alloc (.cells #[.int .i64 0] 28)).alloc (.cells #[.slice none 0 0] 61)).alloc (.cells #[.string s] 9)) = W0 := ⟨_, rfl⟩
    have hsz : W0.heap.size = w.heap.size + 4 := by rw [← hW0]; simp
    rw [hW0] at b0 b1 b2 b3 hB0 ⊢
    clear hW0
    refine wpIn_rangeFunc_ownG rfl (by omega) (gf := 79) (lb := #[.pointer (some ⟨w.heap.size + 1 + 1 + 1, 0, none⟩)]) rfl trivial (enters_of Try.func79 (by kernel_rfl) rfl)
      (names_stops 2 (by omega) (w.heap.size + 1 + 1 + 1) s (by omega) hP W0 (by omega) b3.cell) (fun _ _ => trivial) (fun _ _ _ _ _ _ _ _ => trivial) (Below.refl _ _) (fun _ => rfl)
      (fun pre W => (w.heap.size + 4 ≤ W.heap.size ∧ (∃ row v, foldC [] (vals pre) = .ok row ∧ Boxed W (w.heap.size + 1 + 1) 61 v ∧ W.ownsRow (w.heap.size + 4) 9 1 v row.length (texts row)) ∧ Boxed W w.heap.size 9 (.string ⟨#[]⟩) ∧ Boxed W (w.heap.size + 1) 28 (.int .i64 0)) ∧ Below w.heap.size w W)
      (fun c pre W => (∃ e, c = .ret ∧ foldC [] (vals pre) = .error e ∧ Boxed W w.heap.size 9 (.string ⟨#[]⟩) ∧ Boxed W (w.heap.size + 1) 28 (.int .i64 e)) ∧ Below w.heap.size w W)
      ?hI ?hIx ?h0
      (fun x => { tmps := #[.string s, undef, .pointer (some ⟨w.heap.size, 0, none⟩), .pointer (some ⟨w.heap.size + 1, 0, none⟩), .pointer (some ⟨w.heap.size + 1 + 1, 0, none⟩), x.v, .string s, .int .i64 s.size, .bool (decide (4096 < (s.size : Int))), .string s, .func (.func 79) #[] #[.pointer (some ⟨w.heap.size + 1 + 1 + 1, 0, none⟩)], x.v, undef, undef, undef, undef, undef, undef, undef, undef, undef, undef, undef, undef, undef, undef, undef, undef, undef, undef, undef, undef, undef, undef, undef, undef, undef, undef, undef, undef, undef, undef], defers := [] }) ?assign ?body ?done ?stop
    case hI =>
      rintro pre A C rw ⟨⟨hbs, ⟨row, v, hf, hv, hrow⟩, hb0, hb1⟩, hB⟩ hg hr
      exact ⟨⟨Nat.le_trans hbs hg.size, ⟨row, v, hf, box_stay hv hg hr, owns_stay hrow hg hr⟩, box_stay hb0 hg hr, box_stay hb1 hg hr⟩, hB.grown hg hB.size (fun k e => by have := (hr k e).1; omega)⟩
    case hIx =>
      rintro c pre A C rw ⟨⟨e, rfl, hf, hb0, hb1⟩, hB⟩ hg hr
      exact ⟨⟨e, rfl, hf, box_stay hb0 hg hr, box_stay hb1 hg hr⟩, hB.grown hg hB.size (fun k e => by have := (hr k e).1; omega)⟩
    case h0 => exact ⟨⟨by omega, ⟨[], _, rfl, b2, World.ownsRow_nil _ _ _ _⟩, b0, b1⟩, hB0⟩
    case assign =>
      intro l x W K hK
      gi_wp2
      exact hK
    case body =>
      rintro l pre x W ⟨⟨hbs, ⟨row, v, hf, hv, hrow⟩, hb0, hb1⟩, hB⟩ hlt
      have HF : Hid (foldC [] (vals (pre ++ [x])) = stepC row x.1) := by
        show _ = _
        rw [show vals (pre ++ [x]) = vals pre ++ [x.1] by simp [vals]]
        exact foldC_one (vals pre) x.1 [] row hf
      have HB := hid_of hB
      have H0 := hid_of hb0
      have H1 := hid_of hb1
      have H2 := hid_of hv
      have HR := hid_of hrow
      have HS0 := hid_of hbs
      have hln : row.length < 8192 := by
        have h1 := foldC_len (vals pre) [] row hf
        have h2 : (vals pre).length = pre.length := by simp [vals]
        have h3 := parts_len s.data.toList
        rw [HL.out] at h3
        simp only [List.length_nil] at h1
        omega
      have hc2 := hv.cell
      have hz2 := hv.frozen
      have hc0 := hb0.cell
      have hz0 := hb0.frozen
      have hc1 := hb1.cell
      have hz1 := hb1.frozen
      have HX := hid_of (HN x.1 x.2)
      have HN' := hid_of HN
      obtain ⟨x, hx⟩ := x
      clear hrow hB hb0 hb1 hv HN
      dsimp only at HF HX
      obtain ⟨i0, hi, hy0, hy1, hy2⟩ := info_parts info9
      by_cases c1 : x = [] ∨ x = [46]
      · have HE : Hid (foldC [] (vals (pre ++ [⟨x, hx⟩])) = .ok row) := by
          show _ = _
          rw [HF.out, stepC, if_pos c1]
        rcases c1 with rfl | rfl
        · gi_wp2
          exact ⟨KeepsFrom.refl _ _, trivial, ⟨HS0.out, ⟨row, v, HE.out, H2.out, HR.out⟩, H0.out, H1.out⟩, HB.out⟩
        · gi_wp2
          exact ⟨KeepsFrom.refl _ _, trivial, ⟨HS0.out, ⟨row, v, HE.out, H2.out, HR.out⟩, H0.out, H1.out⟩, HB.out⟩
      · by_cases c2 : x = [46, 46]
        · cases hrow : row with
          | nil =>
            have HE : Hid (foldC [] (vals (pre ++ [⟨x, hx⟩])) = .error 32) := by
              show _ = _
              rw [HF.out, stepC, if_neg c1, if_pos c2, if_pos hrow]
            have h3 := HR.out
            rw [hrow] at h3
            obtain ⟨a, cap, rfl, _, _, _⟩ := own_slice h3
            subst c2
            clear h3
            gi_wp2
            exact ⟨((KeepsOthers.setCell _ _ _).trans (KeepsOthers.setCell _ _ _)).from _, ⟨32, rfl, HE.out, box_far (Boxed.set _ H0.out) (by omega) _, Boxed.set _ (box_far H1.out (by omega) _)⟩, (HB.out.setCell (p := ⟨w.heap.size, 0, none⟩) (Nat.le_refl _) _).setCell (p := ⟨w.heap.size + 1, 0, none⟩) (by simp) _⟩
          | cons y ys =>
            have HE : Hid (foldC [] (vals (pre ++ [⟨x, hx⟩])) = .ok row.dropLast) := by
              show _ = _
              rw [HF.out, stepC, if_neg c1, if_pos c2, if_neg (by rw [hrow]; simp)]
            have h3 := HR.out
            have hl1 : row.length = ys.length + 1 := by rw [hrow]; rfl
            rw [hl1] at h3 hln
            obtain ⟨g, cap, rfl, hcap, hless⟩ := own_less h3
            have HS := hid_of hless
            have HL1 := hid_of hl1
            subst c2
            clear h3 hless hrow hl1
            gi_wp2
            have hgb : w.heap.size + 4 ≤ g := by
              rcases HS.out.2 with ⟨h, _⟩ | ⟨g', _, _, h, hb, _⟩
              · cases h
              · cases h; exact hb
            refine ⟨(KeepsOthers.setCell _ _ _).from _, trivial, ⟨by simpa using HS0.out, ⟨row.dropLast, _, HE.out, Boxed.set _ H2.out, ?_⟩, box_far H0.out (by omega) _, box_far H1.out (by omega) _⟩, HB.out.setCell (p := ⟨w.heap.size + 1 + 1, 0, none⟩) (by simp; omega) _⟩
            have hd : row.dropLast.length = ys.length := by rw [List.length_dropLast, HL1.out]; omega
            rw [hd]
            exact (kept_set W ⟨w.heap.size + 1 + 1, 0, none⟩ _).ownsRow HS.out (fun g' e h => by
              have : g = g' := by simpa [Value.ownBlock] using e
              have h' : g' = w.heap.size + 1 + 1 := h
              omega)
        · have e1 : x.isEmpty = false := by
            cases x with
            | nil => exact absurd (.inl rfl) c1
            | cons a b => rfl
          have e2 : (x == [46]) = false := by simpa using fun h => c1 (.inr h)
          have e3 : (x == [46, 46]) = false := by simpa using c2
          cases hnm : isName x with
          | false =>
            have HE : Hid (foldC [] (vals (pre ++ [⟨x, hx⟩])) = .error 31) := by
              show _ = _
              rw [HF.out, stepC, if_neg c1, if_neg c2, hnm]
              rfl
            rw [hnm] at HX
            gi_wp2_with fail
            refine ⟨trivial, CallsIn.inRound l ((callsIn_wide.2 (HX.out _)).mono ?_)⟩
            rintro e W1 ⟨rfl, hk⟩
            have G0 := hid_of (box_keep H0.out hk)
            have G1 := hid_of (box_keep H1.out hk)
            have GO := hid_of hk.others
            have GB := hid_of (HB.out.trans (hk.below (B := w.heap.size) HB.out.size (fun _ h => h.elim)))
            have gc0 := G0.out.cell
            have gz0 := G0.out.frozen
            have gc1 := G1.out.cell
            have gz1 := G1.out.frozen
            clear hk HX
            gi_wp2
            exact ⟨(GO.out.trans ((KeepsOthers.setCell _ _ _).trans (KeepsOthers.setCell _ _ _))).from _, ⟨31, rfl, HE.out, box_far (Boxed.set _ G0.out) (by omega) _, Boxed.set _ (box_far G1.out (by omega) _)⟩, (GB.out.setCell (p := ⟨w.heap.size, 0, none⟩) (Nat.le_refl _) _).setCell (p := ⟨w.heap.size + 1, 0, none⟩) (by simp) _⟩
          | true =>
            have HE : Hid (foldC [] (vals (pre ++ [⟨x, hx⟩])) = .ok (row ++ [x])) := by
              show _ = _
              rw [HF.out, stepC, if_neg c1, if_neg c2, hnm]
              rfl
            rw [hnm] at HX
            gi_wp2_with fail
            refine ⟨trivial, CallsIn.inRound l ((callsIn_wide.2 (HX.out _)).mono ?_)⟩
            rintro e W1 ⟨rfl, hk⟩
            have G0 := hid_of (box_keep H0.out hk)
            have G1 := hid_of (box_keep H1.out hk)
            have g2 := box_keep H2.out hk
            have G2 := hid_of g2
            have GO := hid_of hk.others
            have GB := hid_of (HB.out.trans (hk.below (B := w.heap.size) HB.out.size (fun _ h => h.elim)))
            have GR := hid_of (hk.ownsRow HR.out (fun g _ h => h))
            have GS := hid_of (Nat.le_trans HS0.out hk.size)
            have gc2 := g2.cell
            have gz2 := g2.frozen
            clear hk HX g2
            gi_wp2_with (gi_at_builtin; refine wpListIn_append_own _ rfl _ _ 61 rfl (w.heap.size + 4) 9 i0 (.string ⟨#[]⟩) 1 16 Try.underlying61 hi hy0 hy1 hy2 rfl (by decide) _ _ _ rfl (GR.out.alloc _) ⟨W1.heap.size, 0, none⟩ 1 1 [.string ⟨x.toArray⟩] rfl rfl (cell_one_new _ _ _) (by simp [Value.oneCell']) (by unfold maxLen; omega) (by omega) (by have := GS.out; simp; omega) ?_; intro v' w1 hown' hgrow _; obtain ⟨g', cap', rfl⟩ := ownsRow_succ hown'; obtain ⟨hv1, hv2, hr2, hk2, hb2⟩ := box_appended G2.out GR.out GS.out (by omega) hown' hgrow; have hc9 := hv1.cell; have hf9 := hv1.frozen)
            refine ⟨(GO.out.trans hk2).from _, trivial, ⟨Nat.le_trans GS.out hb2.size, ⟨row ++ [x], _, HE.out, hv2, ?_⟩, box_kept G0.out hb2 (by omega), box_kept G1.out hb2 (by omega)⟩, GB.out.trans (hb2.below GB.out.size (fun k h => by omega))⟩
            rw [List.length_append, texts, List.map_append]
            exact hr2
    case done =>
      rintro D ys W hD hS ⟨⟨hbs, ⟨row, v, hf, hv, hrow⟩, hb0, hb1⟩, hB⟩ hK
      rw [hS] at hf
      have hcd := HC.out
      rw [hf] at hcd
      dsimp only at hcd
      have hnm := foldC_names _ _ _ hf (fun y h => by cases h)
      have hln : row.length < 8192 := by
        have h1 := foldC_len _ [] row hf
        have h3 := parts_len s.data.toList
        rw [HL.out] at h3
        simp only [List.length_nil] at h1
        omega
      obtain ⟨a, cap, rfl, _, _, _⟩ := own_slice hrow
      have HJ := hid_of (fun h => join_any row _ _ W hrow h hnm)
      have HB := hid_of hB
      have HK := hid_of hK
      have H0 := hid_of hb0
      have H1 := hid_of hb1
      have hc2 := hv.cell
      clear hnm hrow hB hK hb0 hb1 hf hS
      by_cases h32 : 32 < row.length
      · rw [if_pos h32] at hcd
        have HE := hid_of hcd
        clear hcd
        have hc0 := H0.out.cell
        have hz0 := H0.out.frozen
        have hc1 := H1.out.cell
        have hz1 := H1.out.frozen
        gi_wp2
        have hk := ((KeepsOthers.setCell W ⟨w.heap.size, 0, none⟩ (.string ⟨#[]⟩)).trans (KeepsOthers.setCell _ ⟨w.heap.size + 1, 0, none⟩ (.int .i64 33))).same D _ HK.out rfl
        refine ⟨by simp, .inl ⟨_, _, rfl, run_takeDeferred hk, ?_⟩⟩
        have g0 := (box_put (box_far (Boxed.set (.string ⟨#[]⟩) H0.out) (show w.heap.size ≠ w.heap.size + 1 by omega) (.int .i64 33)) hk).cell
        have g1 := (box_put (Boxed.set (.int .i64 33) (box_far H1.out (show w.heap.size + 1 ≠ w.heap.size by omega) (.string ⟨#[]⟩))) hk).cell
        refine ⟨.tuple #[.string ⟨#[]⟩, .int .i64 33], ?_, by rw [HE.out], kept_below (((HB.out.setCell (p := ⟨w.heap.size, 0, none⟩) (Nat.le_refl _) _).setCell (p := ⟨w.heap.size + 1, 0, none⟩) (by simp) _).trans (belowK_b (w := w) (Nat.le_refl _) _ D _ _ (by omega) hk rfl rfl))⟩
        simp [results, Try.f38, go_sem, g0, g1]
      · rw [if_neg h32] at hcd
        have HE := hid_of hcd
        clear hcd
        gi_wp2_with fail
        refine ⟨trivial, (callsIn_wide.2 (HJ.out (by omega))).mono ?_⟩
        rintro e W1 ⟨rfl, hk1⟩
        have G0 := hid_of (box_keep H0.out hk1)
        have G1 := hid_of (box_keep H1.out hk1)
        have GB := hid_of (HB.out.trans (hk1.below (B := w.heap.size) HB.out.size (fun _ h => h.elim)))
        have GK := hid_of (hk1.others.same D _ HK.out rfl)
        have hc0 := G0.out.cell
        have hz0 := G0.out.frozen
        have hc1 := G1.out.cell
        have hz1 := G1.out.frozen
        clear hk1 HJ
        generalize joinP row = jr at *
        gi_wp2
        have hk := ((KeepsOthers.setCell W1 ⟨w.heap.size, 0, none⟩ (.string ⟨jr.toArray⟩)).trans (KeepsOthers.setCell _ ⟨w.heap.size + 1, 0, none⟩ (.int .i64 0))).same D _ GK.out rfl
        refine ⟨by simp, .inl ⟨_, _, rfl, run_takeDeferred hk, ?_⟩⟩
        have g0 := (box_put (box_far (Boxed.set (.string ⟨jr.toArray⟩) G0.out) (show w.heap.size ≠ w.heap.size + 1 by omega) (.int .i64 0)) hk).cell
        have g1 := (box_put (Boxed.set (.int .i64 0) (box_far G1.out (show w.heap.size + 1 ≠ w.heap.size by omega) (.string ⟨jr.toArray⟩))) hk).cell
        refine ⟨.tuple #[.string ⟨jr.toArray⟩, .int .i64 0], ?_, by rw [HE.out], kept_below (((GB.out.setCell (p := ⟨w.heap.size, 0, none⟩) (Nat.le_refl _) _).setCell (p := ⟨w.heap.size + 1, 0, none⟩) (by simp) _).trans (belowK_b (w := w) (Nat.le_refl _) _ D _ _ (by omega) hk rfl rfl))⟩
        simp [results, Try.f38, go_sem, g0, g1]
    case stop =>
      rintro D c pre W hD hS ⟨⟨e, rfl, hf, hb0, hb1⟩, hB⟩ hK
      have hcd := HC.out
      rw [foldC_front hf hS] at hcd
      dsimp only at hcd
      have HE := hid_of hcd
      clear hcd
      gi_wp2
      refine ⟨by simp, .inl ⟨_, _, rfl, run_takeDeferred hK, ?_⟩⟩
      have g0 := (hb0.kept (grownBy_putObj' _ D (.deferred none)) (fun e => by cases e; rw [show W.heap[w.heap.size]? = _ from hb0] at hK; cases hK)).cell
      have g1 := (hb1.kept (grownBy_putObj' _ D (.deferred none)) (fun e => by cases e; rw [show W.heap[w.heap.size + 1]? = _ from hb1] at hK; cases hK)).cell
      refine ⟨.tuple #[.string ⟨#[]⟩, .int .i64 e], ?_, by rw [HE.out], kept_below (hB.trans (belowK_b (w := w) (Nat.le_refl _) W D _ _ (by omega) hK rfl rfl))⟩
      simp [results, Try.f38, go_sem, g0, g1]
end Go.Proofs.Ytmkfjdfpcjkmnaa
