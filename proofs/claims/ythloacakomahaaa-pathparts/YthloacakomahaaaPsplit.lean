/-
  The last part of a text; what Split tells.
-/
import Derived.Test.YthloacakomahaaaCleans
import Derived.Lib.LastIndexByte
namespace Go.Proofs.Ythloacakomahaaa
set_option linter.unusedVariables false
set_option linter.unusedSimpArgs false

theorem split_noslash : ∀ (l x : List UInt8), x ∈ splitB l → x.all (· != 47) = true
  | [], x, h => by
    simp only [splitB, List.mem_singleton] at h
    rw [h]
    rfl
  | c :: l, x, h => by
    obtain ⟨p, ps, e⟩ := splitB_some l
    by_cases hc : c = 47
    · rw [(splitB_cons c l).1 hc] at h
      rcases List.mem_cons.1 h with h | h
      · rw [h]; rfl
      · exact split_noslash l x h
    · rw [(splitB_cons c l).2 hc _ _ e] at h
      rcases List.mem_cons.1 h with h | h
      · have := split_noslash l p (by rw [e]; simp)
        rw [h, List.all_cons, this, Bool.and_true]
        simpa using hc
      · exact split_noslash l x (by rw [e]; exact List.mem_cons_of_mem _ h)

/-- The last part, and what is ahead of it. -/
theorem last_part (l : List UInt8) (h : l ≠ []) : ∃ init x, partsOf l = init ++ [x] ∧ x.all (· != 47) = true ∧ l = if init = [] then x else joinP init ++ 47 :: x := by
  have hp : partsOf l = splitB l := by rw [partsOf, if_neg h]
  obtain ⟨p, ps, e⟩ := splitB_some l
  have hne : splitB l ≠ [] := by rw [e]; simp
  refine ⟨(splitB l).dropLast, (splitB l).getLast hne, by rw [hp]; exact (List.dropLast_concat_getLast hne).symm, split_noslash l _ (List.getLast_mem hne), ?_⟩
  rw [← join_more, List.dropLast_concat_getLast, join_split]

theorem data_get (s : ByteArray) (j : Nat) (b : UInt8) (h : s.data.toList[j]? = some b) : s.data[j]! = b := by
  obtain ⟨hlt, hb⟩ := List.getElem?_eq_some_iff.1 h
  rw [getElem!_pos s.data j (by simpa using hlt)]
  simpa using hb

theorem last_none (s : ByteArray) (h : s.data.toList.all (· != 47) = true) : Lib.lastIndexByte s 47 = -1 := by
  have hl : s.data.toList.length = s.size := by simp
  rcases Lib.lastIdx_spec s 47 s.size with ⟨h1, _⟩ | ⟨i, hi, h1, h2, _⟩
  · exact h1
  · exfalso
    have e : s.data.toList[i]? = some (s.data.toList[i]'(by omega)) := List.getElem?_eq_getElem _
    have := List.all_eq_true.1 h _ (List.mem_of_getElem? e)
    rw [data_get s i _ e] at h2
    simp only [bne_iff_ne, ne_eq] at this
    exact this (UInt8.toNat_inj.1 (by show _ = 47; omega))
theorem last_some (s : ByteArray) (j x : List UInt8) (hx : x.all (· != 47) = true) (h : s.data.toList = j ++ 47 :: x) : Lib.lastIndexByte s 47 = (j.length : Int) := by
  have hl : s.data.toList.length = s.size := by simp
  have hs : s.size = j.length + (x.length + 1) := by rw [← hl, h]; simp
  have ej : s.data.toList[j.length]? = some 47 := by rw [h]; simp
  rcases Lib.lastIdx_spec s 47 s.size with ⟨h1, h2⟩ | ⟨i, hi, h1, h2, h3⟩
  · exfalso
    have := h2 j.length (by omega)
    rw [data_get s _ _ ej] at this
    exact this rfl
  · have : i = j.length := by
      rcases Nat.lt_trichotomy i j.length with c | c | c
      · exfalso
        have := h3 j.length c (by omega)
        rw [data_get s _ _ ej] at this
        exact this rfl
      · exact c
      · exfalso
        have e : s.data.toList[i]? = some (x[i - j.length - 1]'(by omega)) := by
          rw [h, List.getElem?_append_right (by omega)]
          obtain ⟨m, hm⟩ : ∃ m, i - j.length = m + 1 := ⟨i - j.length - 1, by omega⟩
          simp only [hm, List.getElem?_cons_succ, Nat.add_sub_cancel]
          exact List.getElem?_eq_getElem _
        rw [data_get s _ _ e] at h2
        have := List.all_eq_true.1 hx _ (List.getElem_mem (show i - j.length - 1 < x.length by omega))
        simp only [bne_iff_ne, ne_eq] at this
        exact this (UInt8.toNat_inj.1 (by show _ = 47; omega))
    rw [← this]
    exact h1

/-- What Split tells. -/
def splitOf (l : List UInt8) : List UInt8 × List UInt8 × Int :=
  if isClean l = false then ([], [], 31) else if l = [] then ([], [], 32) else (joinP (partsOf l).dropLast, (partsOf l).getLastD [], 0)

end Go.Proofs.Ythloacakomahaaa
