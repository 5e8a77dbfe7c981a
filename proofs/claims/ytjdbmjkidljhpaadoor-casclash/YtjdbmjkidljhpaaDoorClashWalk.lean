/-
  CasClash: the walks, joined.
-/
import Derived.Test.YtjdbmjkidljhpaaDoorCkn
import Derived.Test.YtjdbmjkidljhpaaDoorCks
namespace Go.Proofs.YtjdbmjkidljhpaaDoor
open Go.RowKit
set_option linter.unusedVariables false
set_option linter.unusedSimpArgs false
set_option maxRecDepth 100000

theorem clash_long (x : Int) (av bv : Value) (sp : Bool) (al bs : List Int) (W : World) (hL : Laid W) (ha : BIn W av al) (hb : BIn W bv bs) (hla : al.length ≤ 140737488351232) (hlb : bs.length ≤ 140737488351232) (hlong : 8192 < al.length ∨ 8192 < bs.length) :
    Calls Tryd.prog 5 #[.int .i64 x, av, bv, .bool sp] W fun e w' => e = .returned (.bool true) ∧ Kept (fun _ => False) W w' := by
  obtain ⟨ao, ac, hav, _, _⟩ := id ha
  subst hav
  obtain ⟨bo, bc, hbv, _, _⟩ := id hb
  subst hbv
  have HHD := hid_of (head_any W hL)
  clear ha hb hL
  by_cases h8 : 8192 < al.length
  · have hA8 : (8192 : Int) < (al.length : Int) := by omega
    clear hlong
    go_enter Tryd.func5, Tryd.ntmps5
    go_wp2_with fail
    refine HHD.out.mono ?_
    rintro e w1 ⟨rfl, hk⟩
    have HK := hid_of hk
    clear hk
    go_wp2
    go_ret
    exact ⟨rfl, HK.out⟩
  · have hA8 : ¬ (8192 : Int) < (al.length : Int) := by omega
    have hB8 : (8192 : Int) < (bs.length : Int) := by omega
    clear hlong h8
    go_enter Tryd.func5, Tryd.ntmps5
    go_wp2_with fail
    refine HHD.out.mono ?_
    rintro e w1 ⟨rfl, hk⟩
    have HK := hid_of hk
    clear hk
    go_wp2
    go_ret
    exact ⟨rfl, HK.out⟩

/-- WHATEVER COMES, CasClash ANSWERS true. -/
theorem clash_walk (x : Int) (av bv : Value) (sp : Bool) (al bs : List Int) (W : World) (hx0 : -9223372036854775808 ≤ x) (hx1 : x ≤ 9223372036854775807) (hL : Laid W) (ha : BIn W av al) (hb : BIn W bv bs) (har : ∀ y ∈ al, 0 ≤ y ∧ y < 256) (hbr : ∀ y ∈ bs, 0 ≤ y ∧ y < 256) (hla : al.length ≤ 140737488351232) (hlb : bs.length ≤ 140737488351232) :
    Calls Tryd.prog 5 #[.int .i64 x, av, bv, .bool sp] W fun e w' => e = .returned (.bool true) ∧ Kept (fun _ => False) W w' := by
  by_cases h8 : 8192 < al.length ∨ 8192 < bs.length
  · exact clash_long x av bv sp al bs W hL ha hb hla hlb h8
  have h8a : al.length ≤ 8192 := by omega
  have h8b : bs.length ≤ 8192 := by omega
  obtain ⟨k, hk⟩ : ∃ k : Nat, 1 + x % 32 = (k : Int) := ⟨(1 + x % 32).toNat, by omega⟩
  have h1 : 1 ≤ k := by omega
  have h2 : k ≤ 32 := by omega
  by_cases hq : frontOf k bs = frontOf k al
  · cases sp with
    | false =>
      by_cases hy : al = bs
      · exact clash_n_same x k hk h1 h2 hx0 hx1 av bv al bs W hL ha hb har hbr h8a h8b hq hy
      · exact clash_n_clash x k hk h1 h2 hx0 hx1 av bv al bs W hL ha hb har hbr h8a h8b hq hy rfl
    | true =>
      by_cases hy : 1 :: al = bs
      · exact clash_s_same x k hk h1 h2 hx0 hx1 av bv al bs W hL ha hb har hbr h8a h8b hq hy
      · by_cases hw : frontOf k (1 :: al) = frontOf k al
        · exact clash_s_clash x k hk h1 h2 hx0 hx1 av bv al bs W hL ha hb har hbr h8a h8b hq hy hw
        · exact clash_s_over x k hk h1 h2 hx0 hx1 av bv al bs W hL ha hb har hbr h8a h8b hq hy hw
  · cases sp with
    | false => exact clash_n_apart x k hk h1 h2 hx0 hx1 av bv al bs W hL ha hb har hbr h8a h8b hq
    | true => exact clash_s_apart x k hk h1 h2 hx0 hx1 av bv al bs W hL ha hb har hbr h8a h8b hq
end Go.Proofs.YtjdbmjkidljhpaaDoor
