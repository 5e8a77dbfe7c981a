import Derived.Test.YtcaadgcfceommaaGreatTNe
import Derived.Test.YtcaadgcfceommaaGreatTLo
import Derived.Test.YtcaadgcfceommaaGreatTLc
import Derived.Test.YtcaadgcfceommaaGreatTLg
import Derived.Test.YtcaadgcfceommaaGreatTLl
import Derived.Test.YtcaadgcfceommaaGreatTQc
namespace Go.Proofs.YtcaadgcfceommaaGreat
open Go.ChangeShapes Go.WideShapes Go.ChangeAt Go.RowKit Go.Deep
set_option linter.unusedVariables false
set_option linter.unusedSimpArgs false
set_option maxRecDepth 100000
theorem sysg : ∀ k : Fin 5, (sysL.getD k.val Sh.none).g = 1 := by decide
theorem takes_same {p : PG} (hc : checkP p = 0) (sf sa : Int) : rtakesD p sf sa = takesD p sf sa := by
 unfold rtakesD takesD
 cases hi : instrD p sf sa with
 | none => rfl
 | some xf =>
  obtain ⟨x, f⟩ := xf
  obtain ⟨hf, hx, _⟩ := instrD_mem hi
  show (if x.op = 19 then ((rowS sysL x.a).t, 1) else tkgv p f x) = tkgv p f x
  by_cases h19 : x.op = 19
  ·rw [if_pos h19]
   have hF : firstF p.fns = 0 := by
    unfold checkP at hc
    split at hc
    ·cases hc
    ·exact hc
   have hE := firstF_zero _ hF f hf
   have hE2 : encE f.code = 0 := by
    unfold errF at hE
    split at hE
    ·cases hE
    ·exact hE
   have hI : errI x = 0 := by
    unfold encE at hE2
    split at hE2
    ·cases hE2
    ·exact (firstBad_zero _).1 hE2 x hx
   have hk : kOf x.op = 5 := by rw [h19]; decide
   have hm : mayP 5 x.a = true := by
    unfold errI at hI
    split at hI
    ·split at hI
     ·rename_i h9
      rw [hk] at h9
      exact h9
     ·cases hI
    ·cases hI
   have hb : 0 ≤ x.a ∧ x.a < 5 := by simpa [mayP, endOf] using hm
   unfold tkgv
   rw [if_neg (by omega), if_neg (by omega), if_pos h19]
   have hg : (rowS sysL x.a).g = 1 := by
    unfold rowS
    rw [if_pos ⟨hb.1, by show x.a < 5; omega⟩]
    exact sysg ⟨x.a.toNat, by omega⟩
   rw [hg]
  ·rw [if_neg h19]
end Go.Proofs.YtcaadgcfceommaaGreat
