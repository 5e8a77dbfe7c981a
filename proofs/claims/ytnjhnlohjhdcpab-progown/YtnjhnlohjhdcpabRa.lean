/-
  The reference's words.
-/
import Derived.Test.YtnjhnlohjhdcpabObx
import Derived.Deep.Strs
import Derived.Laws.IdiomStrings
namespace Go.Proofs.Ytnjhnlohjhdcpab
open Go.RowKit
set_option linter.unusedVariables false
set_option linter.unusedSimpArgs false
set_option maxRecDepth 100000

/-- The n-th of words with a blank behind each, from a place on. -/
def wordF (s : ByteArray) : Nat → Nat → Nat → Nat → ByteArray
  | 0, _, _, _ => ⟨#[]⟩
  | f + 1, n, fr, i => if i < s.size then (if (s.data[i]?.getD 0).toNat ≠ 32 then wordF s f n fr (i + 1) else if n = 0 then s.extract fr i else wordF s f (n - 1) (i + 1) (i + 1)) else ⟨#[]⟩
def wordP (s : ByteArray) (n : Nat) : ByteArray := wordF s (s.size + 1) n 0 0
theorem wordF_succ (s : ByteArray) (f n fr i : Nat) : wordF s (f + 1) n fr i = if i < s.size then (if (s.data[i]?.getD 0).toNat ≠ 32 then wordF s f n fr (i + 1) else if n = 0 then s.extract fr i else wordF s f (n - 1) (i + 1) (i + 1)) else ⟨#[]⟩ := rfl

end Go.Proofs.Ytnjhnlohjhdcpab
