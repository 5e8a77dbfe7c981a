/-
  The reference's Decode by contract.
-/
import Derived.Test.YtnjhnlohjhdcpabRe
import Derived.Test.YtnjhnlohjhdcpabRfc
import Derived.Test.YtnjhnlohjhdcpabPbx
import Derived.Test.YtnjhnlohjhdcpabRg
namespace Go.Proofs.Ytnjhnlohjhdcpab
open Go.RowKit
set_option linter.unusedVariables false
set_option linter.unusedSimpArgs false
set_option maxRecDepth 100000

section
variable {w wr w1 : World} {p q : Nat} {v : Value} {xs : List Int} {f : Int}
end
theorem drop_ok {xs : List Int} (hb : BytesOk xs) (p : Nat) : BytesOk (xs.drop p) := ⟨fun x hx => hb.1 x (List.mem_of_mem_drop hx), by rw [List.length_drop]; have := hb.2; omega⟩
theorem DecR.bad {xs : List Int} {w w' : World} {flt : Int} (h : decD xs = .error flt) (hk : Kept (fun _ => False) w w') : DecR xs w (.returned (.tuple #[.slice none 0 0, .int .i64 flt])) w' := ⟨hk, by rw [h]⟩
theorem intD_bounds {xs rest : List Int} {u : Int} (hb : BytesOk xs) (h : intD xs = .ok (u, rest)) : -9223372036854775808 ≤ u ∧ u < 9223372036854775808 := by
  unfold intD at h
  rcases formD_cases xs hb.1 with ⟨u', r', h', he, h0, h1⟩ | h' | h'
  · rw [h'] at h
    cases h
    obtain ⟨g1, g2, _⟩ := fold_unfold u' h0 h1
    exact ⟨g1, g2⟩
  · rw [h'.1] at h; cases h
  · rw [h'.1] at h; cases h

end Go.Proofs.Ytnjhnlohjhdcpab
