/-
  Paths in their one form, and what Split tells of them.
-/
import Derived.Test.YtmkfjdfpcjkmnaaClean
import Derived.Test.YtmkfjdfpcjkmnaaAnyc
import Derived.Lib.LastIndexByte
import Derived.Shelf.Strings.LastIndex
import Derived.Lib.SmallJoins
namespace Go.Proofs
open Go.Shelf
shelf_lay Lays.n149 Nm 149 at Try as Try.lays149
end Go.Proofs
namespace Go.Proofs.Ytmkfjdfpcjkmnaa
open Go.RowKit
attribute [local go_sem] Oper.semAt_some
set_option linter.unusedVariables false
set_option linter.unusedSimpArgs false

/-- A path in its one form. -/
def isClean (l : List UInt8) : Bool := (cleanOf l).2 == 0 && (cleanOf l).1 == l

set_option maxRecDepth 100000 in
set_option maxHeartbeats 1000000 in
theorem isclean_any {P : List UInt8 → Prop} (HN : ∀ x, P x → ∀ W, Calls Try.prog 65 #[.string ⟨x.toArray⟩] W fun e W' => e = .returned (.bool (isName x)) ∧ Kept (fun _ => False) W W')
    (s : ByteArray) (hP : ∀ x ∈ partsOf s.data.toList, P x) (w : World) :
    Calls Try.prog 75 #[.string s] w fun e w' => e = .returned (.bool (isClean s.data.toList)) ∧ Kept (fun _ => False) w w' := by
  have HC := hid_of (clean_any HN s hP)
  have hi : isClean s.data.toList = ((cleanOf s.data.toList).2 == 0 && (cleanOf s.data.toList).1 == s.toList) := by rw [isClean, ByteArray.toList_eq]
  rw [hi]
  clear hi
  generalize (cleanOf s.data.toList).1 = c1 at *
  generalize (cleanOf s.data.toList).2 = c2 at *
  cases h : c2 == 0
  · go_enter Try.func75, Try.ntmps75
    go_wp2_with fail
    refine (HC.out _).mono ?_
    rintro e w1 ⟨rfl, hk⟩
    have HK := hid_of hk
    clear hk HC
    go_wp2
    go_ret
    exact ⟨rfl, HK.out⟩
  · go_enter Try.func75, Try.ntmps75
    go_wp2_with fail
    refine (HC.out _).mono ?_
    rintro e w1 ⟨rfl, hk⟩
    have HK := hid_of hk
    clear hk HC
    go_wp2
    go_ret
    exact ⟨rfl, HK.out⟩


theorem name_ok {x : List UInt8} (h : isName x = true) : 1 ≤ x.length ∧ x.length ≤ 64 ∧ x ≠ [46] ∧ x ≠ [46, 46] ∧ x.all okByte = true := by
  simp only [isName, Bool.and_eq_true, decide_eq_true_eq, bne_iff_ne, ne_eq] at h
  exact ⟨h.1.1.1.1, h.1.1.1.2, h.1.1.2, h.1.2, h.2⟩
theorem name_noslash {x : List UInt8} (h : isName x = true) : x.all (· != 47) = true := by
  rw [List.all_eq_true]
  intro b hb
  have := List.all_eq_true.1 (name_ok h).2.2.2.2 b hb
  simp only [okByte, Bool.and_eq_true] at this
  exact this.2

theorem join_cons2 (x y : List UInt8) (r : List (List UInt8)) : joinP (x :: y :: r) = x ++ 47 :: joinP (y :: r) := by
  rw [joinP, joinP, Lib.join_cons, Lib.join_cons, Lib.joinTail, Lib.joinTail, List.map_cons, List.flatten_cons]
  simp

/-- The path of a text's parts is the text. -/
theorem join_split : ∀ l : List UInt8, joinP (splitB l) = l
  | [] => by rw [splitB, joinP, Lib.join_one]
  | c :: l => by
    have ih := join_split l
    obtain ⟨p, ps, e⟩ := splitB_some l
    by_cases hc : c = 47
    · rw [(splitB_cons c l).1 hc, e, join_cons2, ← e, ih, hc]
      rfl
    · rw [(splitB_cons c l).2 hc _ _ e]
      rw [e] at ih
      cases ps with
      | nil =>
        rw [joinP, Lib.join_one] at ih ⊢
        rw [ih]
      | cons q qs =>
        rw [join_cons2] at ih ⊢
        rw [List.cons_append, ih]
theorem join_parts (l : List UInt8) : joinP (partsOf l) = l := by
  rw [partsOf]
  split
  · rename_i h
    rw [h]
    rfl
  · exact join_split l

/-- The parts of a path of names are the names. -/
theorem split_join : ∀ (x : List UInt8) (r : List (List UInt8)), (∀ y ∈ x :: r, isName y = true) → splitB (joinP (x :: r)) = x :: r
  | x, [], h => by
    rw [joinP, Lib.join_one]
    exact split_end x (name_noslash (h x (List.mem_cons_self)))
  | x, y :: r, h => by
    rw [join_cons2, split_mid _ x (name_noslash (h x (List.mem_cons_self))), split_join y r (fun z hz => h z (List.mem_cons_of_mem _ hz))]
theorem parts_join (row : List (List UInt8)) (h : ∀ y ∈ row, isName y = true) : partsOf (joinP row) = row := by
  cases row with
  | nil => rfl
  | cons x r =>
    have hs := split_join x r h
    rw [partsOf, if_neg, hs]
    intro e
    rw [e] at hs
    have h1 := (name_ok (h x (List.mem_cons_self))).1
    rw [splitB, List.cons.injEq] at hs
    rw [← hs.1] at h1
    simp at h1

theorem fold_names : ∀ (xs row : List (List UInt8)), (∀ y ∈ xs, isName y = true) → foldC row xs = .ok (row ++ xs)
  | [], row, _ => by rw [List.append_nil]; rfl
  | x :: xs, row, h => by
    have hx := h x (List.mem_cons_self)
    have ho := name_ok hx
    have e : stepC row x = .ok (row ++ [x]) := by
      rw [stepC, if_neg, if_neg ho.2.2.2.1, if_pos hx]
      intro hh
      rcases hh with rfl | hh
      · simp at ho
      · exact ho.2.2.1 hh
    rw [foldC, e]
    show foldC (row ++ [x]) xs = _
    rw [fold_names xs (row ++ [x]) (fun y hy => h y (List.mem_cons_of_mem _ hy)), List.append_assoc]
    rfl

theorem isClean_iff (l : List UInt8) : isClean l = ((partsOf l).all isName && decide ((partsOf l).length ≤ 32)) := by
  rw [Bool.eq_iff_iff, Bool.and_eq_true, decide_eq_true_eq, List.all_eq_true, isClean, Bool.and_eq_true, beq_iff_eq, beq_iff_eq]
  constructor
  · rintro ⟨h2, h1⟩
    rw [cleanOf] at h1 h2
    split at h2
    · simp at h2
    rename_i hl
    rw [if_neg hl] at h1
    split at h2
    · rename_i e he
      rw [he] at h1
      dsimp only at h1 h2
      subst h2
      subst h1
      rw [partsOf, if_pos rfl] at he
      cases he
    · rename_i row he
      rw [he] at h1
      dsimp only at h1 h2
      split at h2
      · simp at h2
      rename_i h32
      rw [if_neg h32] at h1
      have hn := foldC_names _ _ _ he (fun y h => by cases h)
      have hp := parts_join row hn
      dsimp only at h1
      rw [h1] at hp
      rw [hp]
      exact ⟨hn, by omega⟩
  · rintro ⟨hn, h32⟩
    have hlen : l.length ≤ 4096 := by
      have h1 := joinP_len (partsOf l) hn
      rw [join_parts] at h1
      omega
    have hc : cleanOf l = (l, 0) := by
      rw [cleanOf, if_neg (by omega), fold_names _ _ hn, List.nil_append]
      show (if 32 < (partsOf l).length then ([], 33) else (joinP (partsOf l), 0)) = _
      rw [if_neg (by omega), join_parts]
    rw [hc]
    exact ⟨rfl, rfl⟩
theorem clean_full (HR : HighRunes) (s : ByteArray) (w : World) :
    Calls Try.prog 38 #[.string s] w fun e w' => e = .returned (.tuple #[.string ⟨(cleanOf s.data.toList).1.toArray⟩, .int .i64 (cleanOf s.data.toList).2]) ∧ Kept (fun _ => False) w w' :=
  clean_any (P := fun _ => True) (fun x _ W => isname_full HR x W) s (fun _ _ => trivial) w
theorem isclean_full (HR : HighRunes) (s : ByteArray) (w : World) :
    Calls Try.prog 75 #[.string s] w fun e w' => e = .returned (.bool (isClean s.data.toList)) ∧ Kept (fun _ => False) w w' :=
  isclean_any (P := fun _ => True) (fun x _ W => isname_full HR x W) s (fun _ _ => trivial) w


theorem split_noslash : ∀ (l x : List UInt8), x ∈ splitB l → x.all (· != 47) = true
  | [], x, h => by
    simp only [splitB, List.mem_singleton] at h
    rw [h]
    rfl
  | c :: l, x, h => by
    obtain ⟨p, ps, e⟩ := splitB_some l
    by_cases hc : c = 47
    · rw [(splitB_cons c l).1 hc] at h
      rcases List.mem_cons.1 h with h | h
      · rw [h]; rfl
      · exact split_noslash l x h
    · rw [(splitB_cons c l).2 hc _ _ e] at h
      rcases List.mem_cons.1 h with h | h
      · have := split_noslash l p (by rw [e]; simp)
        rw [h, List.all_cons, this, Bool.and_true]
        simpa using hc
      · exact split_noslash l x (by rw [e]; exact List.mem_cons_of_mem _ h)

/-- The last part, and what is ahead of it. -/
theorem join_more (row : List (List UInt8)) (x : List UInt8) : joinP (row ++ [x]) = if row = [] then x else joinP row ++ 47 :: x := by
  cases row with
  | nil => rw [if_pos rfl, List.nil_append, joinP, Lib.join_one]
  | cons y r =>
    rw [if_neg (by simp), List.cons_append, joinP, joinP, Lib.join_cons, Lib.join_cons, Lib.joinTail, Lib.joinTail, List.map_append, List.flatten_append]
    simp
theorem last_part (l : List UInt8) (h : l ≠ []) : ∃ init x, partsOf l = init ++ [x] ∧ x.all (· != 47) = true ∧ l = if init = [] then x else joinP init ++ 47 :: x := by
  have hp : partsOf l = splitB l := by rw [partsOf, if_neg h]
  obtain ⟨p, ps, e⟩ := splitB_some l
  have hne : splitB l ≠ [] := by rw [e]; simp
  refine ⟨(splitB l).dropLast, (splitB l).getLast hne, by rw [hp]; exact (List.dropLast_concat_getLast hne).symm, split_noslash l _ (List.getLast_mem hne), ?_⟩
  rw [← join_more, List.dropLast_concat_getLast, join_split]

theorem data_get (s : ByteArray) (j : Nat) (b : UInt8) (h : s.data.toList[j]? = some b) : s.data[j]! = b := by
  obtain ⟨hlt, hb⟩ := List.getElem?_eq_some_iff.1 h
  rw [getElem!_pos s.data j (by simpa using hlt)]
  simpa using hb

theorem last_none (s : ByteArray) (h : s.data.toList.all (· != 47) = true) : Lib.lastIndexByte s 47 = -1 := by
  have hl : s.data.toList.length = s.size := by simp
  rcases Lib.lastIdx_spec s 47 s.size with ⟨h1, _⟩ | ⟨i, hi, h1, h2, _⟩
  · exact h1
  · exfalso
    have e : s.data.toList[i]? = some (s.data.toList[i]'(by omega)) := List.getElem?_eq_getElem _
    have := List.all_eq_true.1 h _ (List.mem_of_getElem? e)
    rw [data_get s i _ e] at h2
    simp only [bne_iff_ne, ne_eq] at this
    exact this (UInt8.toNat_inj.1 (by show _ = 47; omega))
theorem last_some (s : ByteArray) (j x : List UInt8) (hx : x.all (· != 47) = true) (h : s.data.toList = j ++ 47 :: x) : Lib.lastIndexByte s 47 = (j.length : Int) := by
  have hl : s.data.toList.length = s.size := by simp
  have hs : s.size = j.length + (x.length + 1) := by rw [← hl, h]; simp
  have ej : s.data.toList[j.length]? = some 47 := by rw [h]; simp
  rcases Lib.lastIdx_spec s 47 s.size with ⟨h1, h2⟩ | ⟨i, hi, h1, h2, h3⟩
  · exfalso
    have := h2 j.length (by omega)
    rw [data_get s _ _ ej] at this
    exact this rfl
  · have : i = j.length := by
      rcases Nat.lt_trichotomy i j.length with c | c | c
      · exfalso
        have := h3 j.length c (by omega)
        rw [data_get s _ _ ej] at this
        exact this rfl
      · exact c
      · exfalso
        have e : s.data.toList[i]? = some (x[i - j.length - 1]'(by omega)) := by
          rw [h, List.getElem?_append_right (by omega)]
          obtain ⟨m, hm⟩ : ∃ m, i - j.length = m + 1 := ⟨i - j.length - 1, by omega⟩
          simp only [hm, List.getElem?_cons_succ, Nat.add_sub_cancel]
          exact List.getElem?_eq_getElem _
        rw [data_get s _ _ e] at h2
        have := List.all_eq_true.1 hx _ (List.getElem_mem (show i - j.length - 1 < x.length by omega))
        simp only [bne_iff_ne, ne_eq] at this
        exact this (UInt8.toNat_inj.1 (by show _ = 47; omega))
    rw [← this]
    exact h1

/-- What Split tells. -/
def splitOf (l : List UInt8) : List UInt8 × List UInt8 × Int :=
  if isClean l = false then ([], [], 31) else if l = [] then ([], [], 32) else (joinP (partsOf l).dropLast, (partsOf l).getLastD [], 0)

theorem wrap_fits (x : Int) (h0 : 0 ≤ x) (h1 : x ≤ 9223372036854775807) : IntKind.i64.wrap x = x := by
  rw [IntKind.wrap_i64]
  omega

theorem clone_gen (s : ByteArray) (hs : s.size ≤ 281474976710656) (w : World) :
    Calls Try.prog 56 #[.string s] w fun e w' => e = .returned (.string s) ∧ Kept (fun _ => False) w w' := clone_any s w hs

theorem extract_le (s : ByteArray) (a b : Nat) (hs : s.size ≤ 16777216) : (s.extract a b).size ≤ 281474976710656 := by
  rw [ByteArray.size_extract]
  omega

set_option maxRecDepth 100000 in
set_option maxHeartbeats 2000000 in
theorem split_any (HR : HighRunes) (s : ByteArray) (hs : s.size ≤ 16777216) (w : World) :
    Calls Try.prog 53 #[.string s] w fun e w' => e = .returned (.tuple #[.string ⟨(splitOf s.data.toList).1.toArray⟩, .string ⟨(splitOf s.data.toList).2.1.toArray⟩, .int .i64 (splitOf s.data.toList).2.2]) ∧ Kept (fun _ => False) w w' := by
  have hl : s.data.toList.length = s.size := by simp
  have HI := hid_of (isclean_full HR s)
  obtain ⟨c, hcd⟩ : ∃ c, c = splitOf s.data.toList := ⟨_, rfl⟩
  rw [← hcd]
  cases hcl : isClean s.data.toList with
  | false =>
    rw [hcl] at HI
    rw [splitOf, if_pos hcl] at hcd
    have HE := hid_of hcd
    clear hcd hl
    go_enter Try.func53, Try.ntmps53
    go_wp2_with fail
    refine (HI.out _).mono ?_
    rintro e w1 ⟨rfl, hk⟩
    have K1 := hid_of hk
    clear hk HI
    go_wp2
    exact bodyPost_ret (v := .tuple #[.string ⟨#[]⟩, .string ⟨#[]⟩, .int .i64 31]) (by simp [results, Try.results53, go_sem]) rfl ⟨by rw [HE.out], K1.out⟩
  | true =>
    rw [hcl] at HI
    rw [splitOf, hcl, if_neg (by simp)] at hcd
    by_cases h0 : s.data.toList = []
    · rw [if_pos h0] at hcd
      have HE := hid_of hcd
      rw [← ByteArray.toList_eq] at h0
      clear hcd hl
      go_enter Try.func53, Try.ntmps53
      go_wp2_with fail
      refine (HI.out _).mono ?_
      rintro e w1 ⟨rfl, hk⟩
      have K1 := hid_of hk
      clear hk HI
      go_wp2
      exact bodyPost_ret (v := .tuple #[.string ⟨#[]⟩, .string ⟨#[]⟩, .int .i64 32]) (by simp [results, Try.results53, go_sem]) rfl ⟨by rw [HE.out], K1.out⟩
    · rw [if_neg h0] at hcd
      obtain ⟨init, x, e1, e2, e3⟩ := last_part _ h0
      rw [e1, List.dropLast_concat, List.getLastD_concat] at hcd
      have HE := hid_of hcd
      have h2 : s.toList.isEmpty = false := by
        rw [← ByteArray.toList_eq] at h0
        simpa using h0
      have HLB := hid_of (fun w => Any.strings_LastIndexByte Try.lays149 s 47 (show s.size < 4611686018427387904 by omega) w)
      by_cases hi : init = []
      · subst hi
        rw [if_pos rfl] at e3
        have hlast := last_none s (by rw [e3]; exact e2)
        rw [hlast] at HLB
        have E2 : Hid (s = ⟨x.toArray⟩) := bytes_eq e3
        have hz : (0 : Int) ≤ (s.size : Int) := by omega
        have hmx : max (-1 : Int) 0 = 0 := rfl
        have hwr : IntKind.i64.wrap 0 = 0 := rfl
        have C1 := hid_of (clone_gen ByteArray.empty (by decide))
        have C2 := hid_of (clone_gen s (by omega))
        clear hcd hl h0 e1 e2 e3 hlast
        go_enter Try.func53, Try.ntmps53
        go_wp2_with fail
        refine (HI.out _).mono ?_
        rintro e w1 ⟨rfl, hk⟩
        have K1 := hid_of hk
        clear hk HI
        go_wp2_with fail
        refine (HLB.out _).mono ?_
        rintro e w2 ⟨rfl, rfl⟩
        clear HLB
        go_wp2
        refine wp_region_held_drew (S := fun _ => True) (by kernel_rfl) trivial (fun hHeld => ?_)
        refine wpAnyH_take (i := 0) (v := ?_) rfl (by kernel_rfl) (by kernel_rfl) (by kernel_rfl) (fun _ _ _ h => h) (Or.inl ⟨by rfl, ?_⟩) (by assumption) ?_
        rotate_left 1
        · intro w hSw
          go_simp
          try with_reducible rfl
        try simp only [Act.put, List.getElem_toArray, List.getElem_cons_zero, List.getElem_cons_succ, List.setIfInBounds_toArray, List.set_cons_zero, List.set_cons_succ]
        refine wpAnyH_take (i := 1) (v := ?_) rfl (by kernel_rfl) (by kernel_rfl) (by kernel_rfl) (fun _ _ _ h => h) (Or.inl ⟨by rfl, ?_⟩) (by assumption) ?_
        rotate_left 1
        · intro w hSw
          go_simp
          try with_reducible rfl
        try simp only [Act.put, List.getElem_toArray, List.getElem_cons_zero, List.getElem_cons_succ, List.setIfInBounds_toArray, List.set_cons_zero, List.set_cons_succ]
        refine wpAnyH_take (i := 2) (v := ?_) rfl (by kernel_rfl) (by kernel_rfl) (by kernel_rfl) (fun _ _ _ h => h) (Or.inl ⟨by rfl, ?_⟩) (by assumption) ?_
        rotate_left 1
        · intro w hSw
          go_simp
          try with_reducible rfl
        try simp only [Act.put, List.getElem_toArray, List.getElem_cons_zero, List.getElem_cons_succ, List.setIfInBounds_toArray, List.set_cons_zero, List.set_cons_succ]
        refine wpAnyH_take (i := 3) (v := ?_) rfl (by kernel_rfl) (by kernel_rfl) (by kernel_rfl) (fun _ _ _ h => h) (Or.inl ⟨by rfl, ?_⟩) (by assumption) ?_
        rotate_left 1
        · intro w hSw
          go_simp
          try with_reducible rfl
        try simp only [Act.put, List.getElem_toArray, List.getElem_cons_zero, List.getElem_cons_succ, List.setIfInBounds_toArray, List.set_cons_zero, List.set_cons_succ]
        refine wpAnyH_take (i := 5) (v := ?_) rfl (by kernel_rfl) (by kernel_rfl) (by kernel_rfl) (fun _ _ _ h => h) (Or.inl ⟨by rfl, ?_⟩) (by assumption) ?_
        rotate_left 1
        · intro w hSw
          go_simp
          try with_reducible rfl
        try simp only [Act.put, List.getElem_toArray, List.getElem_cons_zero, List.getElem_cons_succ, List.setIfInBounds_toArray, List.set_cons_zero, List.set_cons_succ]
        refine wpAnyH_take (i := 6) (v := ?_) rfl (by kernel_rfl) (by kernel_rfl) (by kernel_rfl) (fun _ _ _ h => h) (Or.inl ⟨by rfl, ?_⟩) (by assumption) ?_
        rotate_left 1
        · intro w hSw
          go_simp
          try with_reducible rfl
        try simp only [Act.put, List.getElem_toArray, List.getElem_cons_zero, List.getElem_cons_succ, List.setIfInBounds_toArray, List.set_cons_zero, List.set_cons_succ]
        refine wpAnyH_take (i := 7) (v := ?_) rfl (by kernel_rfl) (by kernel_rfl) (by kernel_rfl) (fun _ _ _ h => h) (Or.inl ⟨by rfl, ?_⟩) (by assumption) ?_
        rotate_left 1
        · intro w hSw
          go_simp
          try with_reducible rfl
        try simp only [Act.put, List.getElem_toArray, List.getElem_cons_zero, List.getElem_cons_succ, List.setIfInBounds_toArray, List.set_cons_zero, List.set_cons_succ]
        refine wpAnyH_take (i := 8) (v := ?_) rfl (by kernel_rfl) (by kernel_rfl) (by kernel_rfl) (fun _ _ _ h => h) (Or.inl ⟨by rfl, ?_⟩) (by assumption) ?_
        rotate_left 1
        · intro w hSw
          go_simp
          try with_reducible rfl
        try simp only [Act.put, List.getElem_toArray, List.getElem_cons_zero, List.getElem_cons_succ, List.setIfInBounds_toArray, List.set_cons_zero, List.set_cons_succ]
        refine wpAnyH_ready (rs := [4]) (by kernel_rfl) (by simp) ?_
        refine AllReadyH.cons rfl (fun K hK => ?_) AllReadyH.nil
        go_simp
        refine (C1.out _).mono ?_
        rintro e w5 ⟨rfl, hk'⟩
        have K5 := hid_of (K1.out.drew.trans hk')
        clear hk'
        refine hK.out _ _ trivial (fun hHeld => ?_)
        clear hK K
        try simp only [Act.put, List.getElem_toArray, List.getElem_cons_zero, List.getElem_cons_succ, List.setIfInBounds_toArray, List.set_cons_zero, List.set_cons_succ]
        refine wpAnyH_ready (rs := [9]) (by kernel_rfl) (by simp) ?_
        refine AllReadyH.cons rfl (fun K hK => ?_) AllReadyH.nil
        go_simp
        refine (C2.out _).mono ?_
        rintro e w6 ⟨rfl, hk'⟩
        have K6 := hid_of (K5.out.trans hk')
        clear hk'
        refine hK.out _ _ trivial (fun hHeld => ?_)
        clear hK K
        try simp only [Act.put, List.getElem_toArray, List.getElem_cons_zero, List.getElem_cons_succ, List.setIfInBounds_toArray, List.set_cons_zero, List.set_cons_succ]
        refine wpAnyH_take (i := 10) (v := ?_) rfl (by kernel_rfl) (by kernel_rfl) (by kernel_rfl) (fun _ _ _ h => h) (Or.inl ⟨by rfl, ?_⟩) (by assumption) ?_
        rotate_left 1
        · intro w hSw
          go_simp
          try with_reducible rfl
        try simp only [Act.put, List.getElem_toArray, List.getElem_cons_zero, List.getElem_cons_succ, List.setIfInBounds_toArray, List.set_cons_zero, List.set_cons_succ]
        refine wpAnyH_take (i := 11) (v := ?_) rfl (by kernel_rfl) (by kernel_rfl) (by kernel_rfl) (fun _ _ _ h => h) (Or.inl ⟨by rfl, ?_⟩) (by assumption) ?_
        rotate_left 1
        · intro w hSw
          go_simp
          try with_reducible rfl
        try simp only [Act.put, List.getElem_toArray, List.getElem_cons_zero, List.getElem_cons_succ, List.setIfInBounds_toArray, List.set_cons_zero, List.set_cons_succ]
        refine wpAnyH_take (i := 12) (v := ?_) rfl (by kernel_rfl) (by kernel_rfl) (by kernel_rfl) (fun _ _ _ h => h) (Or.inl ⟨by rfl, ?_⟩) (by assumption) ?_
        rotate_left 1
        · intro w hSw
          go_simp
          try with_reducible rfl
        try simp only [Act.put, List.getElem_toArray, List.getElem_cons_zero, List.getElem_cons_succ, List.setIfInBounds_toArray, List.set_cons_zero, List.set_cons_succ]
        refine wpAnyH_done (by kernel_rfl) ?_ _
        go_wp2
        refine bodyPost_ret (v := .tuple #[.string ByteArray.empty, .string s, .int .i64 0]) (by simp [results, Try.results53, go_sem]) rfl ⟨?_, K6.out⟩
        rw [HE.out]
        show Ending.returned (.tuple #[.string ByteArray.empty, .string s, .int .i64 0]) = Ending.returned (.tuple #[.string ByteArray.empty, .string ⟨x.toArray⟩, .int .i64 0])
        rw [← E2.out]
      · rw [if_neg hi] at e3
        have hlast := last_some s (joinP init) x e2 e3
        rw [hlast] at HLB
        have hn : (joinP init).length + 1 + x.length = s.size := by
          rw [← hl, e3]
          simp
          omega
        have E1 : Hid (s.extract 0 (joinP init).length = ⟨(joinP init).toArray⟩) := bytes_eq (by rw [extract_list, List.drop_zero, e3, List.take_left' rfl])
        have E2 : Hid (s.extract ((joinP init).length + 1) s.size = ⟨x.toArray⟩) := bytes_eq (by
          rw [extract_list, e3, List.take_of_length_le (by rw [List.length_append, List.length_cons]; omega)]
          rw [show joinP init ++ 47 :: x = (joinP init ++ [47]) ++ x by simp, List.drop_left' (by simp)])
        clear hcd hl h0 e1 e2 e3 hlast
        generalize joinP init = j at *
        have hz : (0 : Int) ≤ (j.length : Int) := by omega
        have hmx : max (j.length : Int) 0 = (j.length : Int) := by omega
        have hwr : IntKind.i64.wrap ((j.length : Int) + 1) = (j.length : Int) + 1 := wrap_fits _ (by omega) (by omega)
        have hz2 : (j.length : Int) ≤ (s.size : Int) := by omega
        have hz3 : (0 : Int) ≤ (j.length : Int) + 1 := by omega
        have hz4 : (j.length : Int) + 1 ≤ (s.size : Int) := by omega
        have C1 := hid_of (clone_gen (s.extract 0 j.length) (extract_le s _ _ hs))
        have C2 := hid_of (clone_gen (s.extract (j.length + 1) s.size) (extract_le s _ _ hs))
        go_enter Try.func53, Try.ntmps53
        go_wp2_with fail
        refine (HI.out _).mono ?_
        rintro e w1 ⟨rfl, hk⟩
        have K1 := hid_of hk
        clear hk HI
        go_wp2_with fail
        refine (HLB.out _).mono ?_
        rintro e w2 ⟨rfl, rfl⟩
        clear HLB
        go_wp2
        refine wp_region_held_drew (S := fun _ => True) (by kernel_rfl) trivial (fun hHeld => ?_)
        refine wpAnyH_take (i := 0) (v := ?_) rfl (by kernel_rfl) (by kernel_rfl) (by kernel_rfl) (fun _ _ _ h => h) (Or.inl ⟨by rfl, ?_⟩) (by assumption) ?_
        rotate_left 1
        · intro w hSw
          go_simp
          try with_reducible rfl
        try simp only [Act.put, List.getElem_toArray, List.getElem_cons_zero, List.getElem_cons_succ, List.setIfInBounds_toArray, List.set_cons_zero, List.set_cons_succ]
        refine wpAnyH_take (i := 1) (v := ?_) rfl (by kernel_rfl) (by kernel_rfl) (by kernel_rfl) (fun _ _ _ h => h) (Or.inl ⟨by rfl, ?_⟩) (by assumption) ?_
        rotate_left 1
        · intro w hSw
          go_simp
          try with_reducible rfl
        try simp only [Act.put, List.getElem_toArray, List.getElem_cons_zero, List.getElem_cons_succ, List.setIfInBounds_toArray, List.set_cons_zero, List.set_cons_succ]
        refine wpAnyH_take (i := 2) (v := ?_) rfl (by kernel_rfl) (by kernel_rfl) (by kernel_rfl) (fun _ _ _ h => h) (Or.inl ⟨by rfl, ?_⟩) (by assumption) ?_
        rotate_left 1
        · intro w hSw
          go_simp
          try with_reducible rfl
        try simp only [Act.put, List.getElem_toArray, List.getElem_cons_zero, List.getElem_cons_succ, List.setIfInBounds_toArray, List.set_cons_zero, List.set_cons_succ]
        refine wpAnyH_take (i := 3) (v := ?_) rfl (by kernel_rfl) (by kernel_rfl) (by kernel_rfl) (fun _ _ _ h => h) (Or.inl ⟨by rfl, ?_⟩) (by assumption) ?_
        rotate_left 1
        · intro w hSw
          go_simp
          try with_reducible rfl
        try simp only [Act.put, List.getElem_toArray, List.getElem_cons_zero, List.getElem_cons_succ, List.setIfInBounds_toArray, List.set_cons_zero, List.set_cons_succ]
        refine wpAnyH_take (i := 5) (v := ?_) rfl (by kernel_rfl) (by kernel_rfl) (by kernel_rfl) (fun _ _ _ h => h) (Or.inl ⟨by rfl, ?_⟩) (by assumption) ?_
        rotate_left 1
        · intro w hSw
          go_simp
          try with_reducible rfl
        try simp only [Act.put, List.getElem_toArray, List.getElem_cons_zero, List.getElem_cons_succ, List.setIfInBounds_toArray, List.set_cons_zero, List.set_cons_succ]
        refine wpAnyH_take (i := 6) (v := ?_) rfl (by kernel_rfl) (by kernel_rfl) (by kernel_rfl) (fun _ _ _ h => h) (Or.inl ⟨by rfl, ?_⟩) (by assumption) ?_
        rotate_left 1
        · intro w hSw
          go_simp
          try with_reducible rfl
        try simp only [Act.put, List.getElem_toArray, List.getElem_cons_zero, List.getElem_cons_succ, List.setIfInBounds_toArray, List.set_cons_zero, List.set_cons_succ]
        refine wpAnyH_take (i := 7) (v := ?_) rfl (by kernel_rfl) (by kernel_rfl) (by kernel_rfl) (fun _ _ _ h => h) (Or.inl ⟨by rfl, ?_⟩) (by assumption) ?_
        rotate_left 1
        · intro w hSw
          go_simp
          try with_reducible rfl
        try simp only [Act.put, List.getElem_toArray, List.getElem_cons_zero, List.getElem_cons_succ, List.setIfInBounds_toArray, List.set_cons_zero, List.set_cons_succ]
        refine wpAnyH_take (i := 8) (v := ?_) rfl (by kernel_rfl) (by kernel_rfl) (by kernel_rfl) (fun _ _ _ h => h) (Or.inl ⟨by rfl, ?_⟩) (by assumption) ?_
        rotate_left 1
        · intro w hSw
          go_simp
          try with_reducible rfl
        try simp only [Act.put, List.getElem_toArray, List.getElem_cons_zero, List.getElem_cons_succ, List.setIfInBounds_toArray, List.set_cons_zero, List.set_cons_succ]
        refine wpAnyH_ready (rs := [4]) (by kernel_rfl) (by simp) ?_
        refine AllReadyH.cons rfl (fun K hK => ?_) AllReadyH.nil
        go_simp
        refine (C1.out _).mono ?_
        rintro e w5 ⟨rfl, hk'⟩
        have K5 := hid_of (K1.out.drew.trans hk')
        clear hk'
        refine hK.out _ _ trivial (fun hHeld => ?_)
        clear hK K
        try simp only [Act.put, List.getElem_toArray, List.getElem_cons_zero, List.getElem_cons_succ, List.setIfInBounds_toArray, List.set_cons_zero, List.set_cons_succ]
        refine wpAnyH_ready (rs := [9]) (by kernel_rfl) (by simp) ?_
        refine AllReadyH.cons rfl (fun K hK => ?_) AllReadyH.nil
        go_simp
        refine (C2.out _).mono ?_
        rintro e w6 ⟨rfl, hk'⟩
        have K6 := hid_of (K5.out.trans hk')
        clear hk'
        refine hK.out _ _ trivial (fun hHeld => ?_)
        clear hK K
        try simp only [Act.put, List.getElem_toArray, List.getElem_cons_zero, List.getElem_cons_succ, List.setIfInBounds_toArray, List.set_cons_zero, List.set_cons_succ]
        refine wpAnyH_take (i := 10) (v := ?_) rfl (by kernel_rfl) (by kernel_rfl) (by kernel_rfl) (fun _ _ _ h => h) (Or.inl ⟨by rfl, ?_⟩) (by assumption) ?_
        rotate_left 1
        · intro w hSw
          go_simp
          try with_reducible rfl
        try simp only [Act.put, List.getElem_toArray, List.getElem_cons_zero, List.getElem_cons_succ, List.setIfInBounds_toArray, List.set_cons_zero, List.set_cons_succ]
        refine wpAnyH_take (i := 11) (v := ?_) rfl (by kernel_rfl) (by kernel_rfl) (by kernel_rfl) (fun _ _ _ h => h) (Or.inl ⟨by rfl, ?_⟩) (by assumption) ?_
        rotate_left 1
        · intro w hSw
          go_simp
          try with_reducible rfl
        try simp only [Act.put, List.getElem_toArray, List.getElem_cons_zero, List.getElem_cons_succ, List.setIfInBounds_toArray, List.set_cons_zero, List.set_cons_succ]
        refine wpAnyH_take (i := 12) (v := ?_) rfl (by kernel_rfl) (by kernel_rfl) (by kernel_rfl) (fun _ _ _ h => h) (Or.inl ⟨by rfl, ?_⟩) (by assumption) ?_
        rotate_left 1
        · intro w hSw
          go_simp
          try with_reducible rfl
        try simp only [Act.put, List.getElem_toArray, List.getElem_cons_zero, List.getElem_cons_succ, List.setIfInBounds_toArray, List.set_cons_zero, List.set_cons_succ]
        refine wpAnyH_done (by kernel_rfl) ?_ _
        go_wp2
        refine bodyPost_ret (v := .tuple #[.string (s.extract 0 j.length), .string (s.extract (j.length + 1) s.size), .int .i64 0]) (by simp [results, Try.results53, go_sem]) rfl ⟨?_, K6.out⟩
        rw [HE.out, E1.out, E2.out]
end Go.Proofs.Ytmkfjdfpcjkmnaa
