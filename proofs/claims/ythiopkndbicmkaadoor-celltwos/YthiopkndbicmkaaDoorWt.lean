/-
  The walk of CellTwos.
-/
import Derived.Test.YthiopkndbicmkaaDoorCm
import Derived.Test.YthiopkndbicmkaaDoorRc
namespace Go.Proofs.YthiopkndbicmkaaDoor
open Go.RowKit
set_option linter.unusedVariables false
set_option linter.unusedSimpArgs false

set_option maxRecDepth 100000 in
set_option maxHeartbeats 4000000 in
theorem cellTwos_walk (ts : List W3) (v : Value) (w : World) (hv : WIs w v ts) (hL : Laid w) : Calls Tryd.prog 3 #[v] w fun e w' => e = .returned (.bool true) ∧ Kept w w' := by
  have hv' := hv
  obtain ⟨ao, cap, rfl, hlen, _⟩ := hv'
  have HV := hid_of hv
  have HL := hid_of hL
  clear hv hL
  have hmax : ts.length ≤ 9223372036854775807 := by
    have : maxLen ≤ 9223372036854775807 := by decide
    omega
  clear hlen
  go_enter Tryd.func3, Tryd.ntmps3
  go_wp2
  go_loopw [3] (fun i wr => ∃ k : Nat, k ≤ ts.length ∧ i = .int .i64 k ∧ Kept w wr) (fun i _ => ts.length - (intOf i).toNat)
  case atStart => exact ⟨0, by omega, rfl, Kept.refl w⟩
  case round =>
    obtain ⟨k, hk, rfl, hkw⟩ := hrel
    have HK := hid_of hkw
    clear hkw
    by_cases hkn : k < ts.length
    · have hb1 : (k : Int) < (ts.length : Int) := by omega
      obtain ⟨t, ht⟩ : ∃ t, ts[k]? = some t := ⟨_, List.getElem?_eq_getElem hkn⟩
      obtain ⟨g, o, rfl, hok, c0, c1, c2⟩ := HV.out.at HK.out ht
      obtain ⟨op, a, b⟩ := t
      obtain ⟨wa, wb⟩ := hok
      dsimp only at wa wb c0 c1 c2
      clear ht
      go_wp2_with fail
      have n0 : (wr.alloc (Obj.cells #[.int .i64 op, .int .i64 a, .int .i64 b] 24)).cell? ⟨wr.heap.size, 0, none⟩ = some (.int .i64 op) := by simp
      have n1 : (wr.alloc (Obj.cells #[.int .i64 op, .int .i64 a, .int .i64 b] 24)).cell? ⟨wr.heap.size, 1, none⟩ = some (.int .i64 a) := by simp
      have n2 : (wr.alloc (Obj.cells #[.int .i64 op, .int .i64 a, .int .i64 b] 24)).cell? ⟨wr.heap.size, 2, none⟩ = some (.int .i64 b) := by simp
      have nk : Kept w (wr.alloc (Obj.cells #[.int .i64 op, .int .i64 a, .int .i64 b] 24)) := HK.out.alloc _
      generalize wr.alloc (Obj.cells #[.int .i64 op, .int .i64 a, .int .i64 b] 24) = W1 at *
      generalize wr.heap.size = B at *
      have NK := hid_of nk
      have H1 : Hid (∀ n, Calls Tryd.prog 9 #[.int .i64 op, .int .i64 a, .int .i64 b] (W1.drewN n) fun e w' => e = .returned (.tuple #[.int .i64 (twoV op a b).1, .int .i64 (twoV op a b).2]) ∧ ∃ q, w' = W1.drewN q) := fun n => by
        refine Calls.mono (two_any op a b (W1.drewN n) (laid_drewN (nk.laid HL.out) n)) ?_
        rintro e w' ⟨rfl, q, rfl⟩
        exact ⟨rfl, n + q, World.drewN_drewN ..⟩
      have H2 : Hid (∀ n, Calls Tryd.prog 10 #[.int .i64 op, .int .i64 a, .int .i64 b] (W1.drewN n) fun e w' => e = .returned (.tuple #[.int .i64 (twoV op a b).1, .int .i64 (twoV op a b).2]) ∧ ∃ q, w' = W1.drewN q) := fun n => by
        refine Calls.mono (rtwo_any op a b wa wb (W1.drewN n)) ?_
        rintro e w' ⟨rfl, q, rfl⟩
        exact ⟨rfl, n + q, World.drewN_drewN ..⟩
      generalize (twoV op a b).1 = rv at *
      generalize (twoV op a b).2 = rt at *
      clear wa wb c0 c1 c2 nk
      refine (H1.out 0).mono ?_
      rintro e w' ⟨rfl, q, rfl⟩
      go_wp2_with fail
      refine (H2.out _).mono ?_
      rintro e w' ⟨rfl, q2, rfl⟩
      go_wp2_with fail
      have m0 : (W1.drewN q2).cell? ⟨B, 0, none⟩ = some (.int .i64 op) := n0
      have mk : Kept w (W1.drewN q2) := kept_drewN NK.out _
      generalize W1.drewN q2 = W2 at *
      have H3 : Hid (∀ n, Calls Tryd.prog 11 #[.int .i64 op] (W2.drewN n) fun e w' => e = .returned (.bool (hasB op 2)) ∧ ∃ q, w' = W2.drewN q) := fun n => by
        refine Calls.mono (has2_any op (W2.drewN n) (laid_drewN (mk.laid HL.out) n)) ?_
        rintro e w' ⟨rfl, q, rfl⟩
        exact ⟨rfl, n + q, World.drewN_drewN ..⟩
      have H4 : Hid (∀ n, Calls Tryd.prog 12 #[.int .i64 op] (W2.drewN n) fun e w' => e = .returned (.bool (hasB op 2)) ∧ ∃ q, w' = W2.drewN q) := fun n => (rhas2_any op (W2.drewN n)).mono fun _ _ h => ⟨h.1, n, h.2⟩
      generalize hasB op 2 = hs at *
      have MK := hid_of mk
      clear n0 n1 n2 mk
      go_quiet (first | (go_at_call 11; exact (H3.out _).mono (fun _ _ h => ⟨h.1, h.2⟩)) | (go_at_call 12; exact (H4.out _).mono (fun _ _ h => ⟨h.1, h.2⟩)))
      go_wp2
      exact ⟨⟨k + 1, by omega, by go_num, kept_drewN MK.out _⟩, by simp [intOf]; omega⟩
    · obtain rfl : k = ts.length := by omega
      have HH : Hid (∀ n, Calls Tryd.prog 13 #[] (wr.drewN n) fun e w' => e = .returned (.bool true) ∧ ∃ q, w' = wr.drewN q) := fun n => head_n wr (HK.out.laid HL.out) n
      go_wp2_with fail
      refine (HH.out 0).mono ?_
      rintro e w' ⟨rfl, q, rfl⟩
      go_wp2
      go_ret
      exact ⟨rfl, kept_drewN HK.out _⟩
end Go.Proofs.YthiopkndbicmkaaDoor
