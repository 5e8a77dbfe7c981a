/-
  Match, whatever the texts.
-/
import Derived.Test.YthloacakomahaaaAnyc
import Derived.Test.YthloacakomahaaaMatch
import Derived.Test.YthloacakomahaaaCont
namespace Go.Proofs.Ythloacakomahaaa
open Go.RowKit
set_option linter.unusedVariables false
set_option linter.unusedSimpArgs false

theorem clean_fully (HR : HighRunes) (s : ByteArray) (w : World) :
    Calls Try.prog 10 #[.string s] w fun e w' => e = .returned (.tuple #[.string ⟨(cleanOf s.data.toList).1.toArray⟩, .int .i64 (cleanOf s.data.toList).2]) ∧ Kept (fun _ => False) w w' :=
  clean_any (P := fun _ => True) (fun x _ W => isname_full HR x W) s (fun _ _ => trivial) w

set_option maxRecDepth 100000 in
set_option maxHeartbeats 1000000 in
theorem match_long (s t : ByteArray) (h : 4096 < s.size) (w : World) : Calls Try.prog 28 #[.string s, .string t] w fun e w' => e = .returned (.tuple #[.bool false, .int .i64 2]) ∧ Kept (fun _ => False) w w' := by
  refine (callsIn_wide (n := 3)).1 ?_
  refine callsIn_of_wp_marks Try.func28 rfl trivial ?_ rfl
  simp only [Try.ntmps28, List.size_toArray, List.length_cons, List.length_nil, Nat.reduceAdd, Nat.reduceSub, Array.replicate_succ, Array.replicate_zero, List.push_toArray, List.append_toArray, List.nil_append, List.cons_append]
  gi_wp2
  refine ⟨.tuple #[.bool false, .int .i64 2], ?_, rfl, ((Kept.refl _ w).alloc _).alloc _⟩
  simp [results, Try.f28, go_sem]

theorem match_fully (HR : HighRunes) {w : World} (hc : Cell w) (s t : ByteArray) :
    Calls Try.prog 28 #[.string s, .string t] w fun e w' => e = .returned (.tuple #[.bool (matchOf s.data.toList t.data.toList).1, .int .i64 (matchOf s.data.toList t.data.toList).2]) ∧ Kept (fun _ => False) w w' := by
  have hl : s.data.toList.length = s.size := by simp
  by_cases h : 4096 < s.size
  · refine (match_long s t h w).mono ?_
    rintro e w' ⟨rfl, hk⟩
    rw [matchOf, if_pos (.inl (by omega))]
    exact ⟨rfl, hk⟩
  · refine match_any (P := fun x => x.length ≤ 4096) (P' := fun _ => True) w (fun x hx hn W hW => (contains_any (cell_below hc hW) ⟨x.toArray⟩ ⟨#[42, 42]⟩ ?_).mono ?_) (fun x _ W => isname_full HR x W) s t (fun x hx => ?_) (fun _ _ => trivial)
    · show x.length < _
      omega
    · rintro e w' ⟨rfl, rfl⟩
      exact ⟨rfl, Kept.refl _ _⟩
    · have := parts_le _ _ hx
      omega
end Go.Proofs.Ythloacakomahaaa
