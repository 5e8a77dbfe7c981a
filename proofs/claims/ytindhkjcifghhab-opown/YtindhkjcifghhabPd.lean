/-
  Same of instructions by contract.
-/
import Derived.Test.YtindhkjcifghhabPc
import Derived.Laws.StructEq
namespace Go.Proofs.Ytindhkjcifghhab
open Go.RowKit Go.Deep
set_option linter.unusedVariables false
set_option linter.unusedSimpArgs false
set_option maxRecDepth 100000

/-- Are the instructions the same? -/
def sameI : List IN → List IN → Bool
  | [], [] => true
  | y :: ys, z :: zs => (y.op == z.op && y.a == z.a) && sameI ys zs
  | _, _ => false

theorem sameI_at : ∀ {ys zs : List IN} {k : Nat} {y z : IN}, ys[k]? = some y → zs[k]? = some z → sameI (ys.drop k) (zs.drop k) = ((y.op == z.op && y.a == z.a) && sameI (ys.drop (k + 1)) (zs.drop (k + 1)))
  | ys, zs, k, y, z, h1, h2 => by
    obtain ⟨l1, e1⟩ := List.getElem?_eq_some_iff.1 h1
    obtain ⟨l2, e2⟩ := List.getElem?_eq_some_iff.1 h2
    rw [List.drop_eq_getElem_cons l1, List.drop_eq_getElem_cons l2, e1, e2]
    rfl
theorem sameI_len : ∀ {ys zs : List IN}, ys.length ≠ zs.length → sameI ys zs = false
  | [], [], h => absurd rfl h
  | [], z :: zs, _ => rfl
  | y :: ys, [], _ => rfl
  | y :: ys, z :: zs, h => by
    rw [sameI, sameI_len (ys := ys) (zs := zs) (by simpa using h), Bool.and_false]
theorem sameI_refl : ∀ ys : List IN, sameI ys ys = true
  | [] => rfl
  | y :: ys => by rw [sameI, sameI_refl ys]; simp
theorem sameI_eq : ∀ {ys zs : List IN}, sameI ys zs = true → ys = zs
  | [], [], _ => rfl
  | [], z :: zs, h => by cases h
  | y :: ys, [], h => by cases h
  | ⟨yo, ya⟩ :: ys, ⟨zo, za⟩ :: zs, h => by
    rw [sameI, Bool.and_eq_true, Bool.and_eq_true] at h
    obtain ⟨⟨h1, h2⟩, h3⟩ := h
    rw [sameI_eq h3, show yo = zo by simpa using h1, show ya = za by simpa using h2]
theorem fields52 : Try.prog.underlying 42 = some (.struct (Try.prog.fieldsOf 42)) := by kernel_rfl
theorem held52 : Try.prog.stoodInHeld 42 = false := by kernel_rfl
theorem eq_fields2 (d : Nat) (xs ys : Array Value) (f0 f1 : Field) (h0 : f0.name ≠ "_") (h1 : f1.name ≠ "_") (a0 a1 b0 b1 : Value) (w : World) (q0 q1 : Bool)
    (pa0 : (part f0.type xs f0.offset).run Try.prog w = .ok a0 w) (pa1 : (part f1.type xs f1.offset).run Try.prog w = .ok a1 w)
    (pb0 : (part f0.type ys f0.offset).run Try.prog w = .ok b0 w) (pb1 : (part f1.type ys f1.offset).run Try.prog w = .ok b1 w)
    (e0 : (Op.equalIn d f0.type a0 b0).run Try.prog w = .ok q0 w) (e1 : (Op.equalIn d f1.type a1 b1).run Try.prog w = .ok q1 w) :
    (Op.eqFields d xs ys [f0, f1]).run Try.prog w = .ok (q0 && q1) w := by
  simp only [Op.eqFields, if_pos h0, if_pos h1, Sem.run_bind, pa0, pb0, e0, Result.andThen_ok]
  cases q0
  · simp [Sem.run_pure]
  · simp only [Bool.not_true, Bool.false_eq_true, if_false, Sem.run_bind, pa1, pb1, e1, Result.andThen_ok]
    cases q1 <;> simp [Sem.run_pure]
theorem run_eq52 (w : World) (a b c d : Int) : (Op.equalIn 10000 42 (.agg #[.int .i64 a, .int .i64 b]) (.agg #[.int .i64 c, .int .i64 d])).run Try.prog w = .ok (a == c && b == d) w := by
  rw [run_equalIn_struct w 9999 42 _ _ fields52 held52]
  simp only [Program.fieldsOf, Try.underlying42]
  exact eq_fields2 9999 _ _ _ _ (by decide) (by decide) _ _ _ _ w _ _ (by simp [part, Try.isAgg3]) (by simp [part, Try.isAgg3]) (by simp [part, Try.isAgg3]) (by simp [part, Try.isAgg3])
    (run_equalIn_int w 9998 3 .i64 .i64 _ _ Try.underlying3) (run_equalIn_int w 9998 3 .i64 .i64 _ _ Try.underlying3)
theorem run_neq52 (w : World) (a b c d : Int) : (binOp .neq 42 (.agg #[.int .i64 a, .int .i64 b]) (.agg #[.int .i64 c, .int .i64 d])).run Try.prog w = .ok (.bool (!(a == c && b == d))) w := by
  rw [run_neq_struct, run_eq52]
  rfl
theorem run_eql52 (w : World) (a b c d : Int) : (binOp .eql 42 (.agg #[.int .i64 a, .int .i64 b]) (.agg #[.int .i64 c, .int .i64 d])).run Try.prog w = .ok (.bool (a == c && b == d)) w := by
  rw [run_eql_struct, run_eq52]
  rfl

set_option maxHeartbeats 4000000 in
theorem same_any (v1 v2 : Value) (ys zs : List IN) (w : World) (h1 : RowI w v1 ys) (h2 : RowI w v2 zs) (hl : ys.length ≤ 9223372036854775807) (hl2 : zs.length ≤ 9223372036854775807) :
    Calls Try.prog 9 #[v1, v2] w fun e w' => e = .returned (.bool (sameI ys zs)) ∧ ∃ n, w' = w.drewN n := by
  obtain ⟨a1, c1, rfl⟩ := h1.shape
  obtain ⟨a2, c2, rfl⟩ := h2.shape
  by_cases hne : ys.length = zs.length
  · have HN := hid_of hne
    have HR : Hid (∀ k, k < ys.length → ∃ b1 o1 b2 o2, a1 = some ⟨b1, o1, none⟩ ∧ a2 = some ⟨b2, o2, none⟩ ∧ ∃ y z, ys[k]? = some y ∧ zs[k]? = some z ∧ w.cell? ⟨b1, o1 + k * 2, none⟩ = some (.int .i64 y.op) ∧ w.cell? ⟨b1, o1 + k * 2 + 1, none⟩ = some (.int .i64 y.a) ∧ w.cell? ⟨b2, o2 + k * 2, none⟩ = some (.int .i64 z.op) ∧ w.cell? ⟨b2, o2 + k * 2 + 1, none⟩ = some (.int .i64 z.a)) := fun k hk => by
      rcases h1 with ⟨e, _⟩ | ⟨b1, o1, d1, e1, r1⟩
      · rw [e] at hk; simp at hk
      · rcases h2 with ⟨e, _⟩ | ⟨b2, o2, d2, e2, r2⟩
        · rw [hne, e] at hk; simp at hk
        · cases e1
          cases e2
          have hk2 : k < zs.length := by omega
          have g1 := r1 k _ (List.getElem?_eq_getElem hk)
          have g2 := r2 k _ (List.getElem?_eq_getElem hk2)
          exact ⟨b1, o1, b2, o2, rfl, rfl, ys[k], zs[k], List.getElem?_eq_getElem hk, List.getElem?_eq_getElem hk2, g1 0 _ rfl, g1 1 _ rfl, g2 0 _ rfl, g2 1 _ rfl⟩
    obtain ⟨n, hn⟩ : ∃ n, n = ys.length := ⟨_, rfl⟩
    rw [← hne, ← hn]
    have HL := hid_of hn
    clear h1 h2 hne hl2
    rw [← hn] at hl
    clear hn
    go_enter Try.func9, Try.ntmps9
    go_wp2
    go_loopw [5] (fun iv wr => ∃ (k d : Nat), k ≤ n ∧ iv = .int .i64 k ∧ sameI ys zs = sameI (ys.drop k) (zs.drop k) ∧ wr = w.drewN d) (fun iv _ => n - (intOf iv).toNat)
    case atStart => exact ⟨0, 0, by omega, rfl, rfl, rfl⟩
    case round =>
      obtain ⟨k, d, hk, rfl, hs, rfl⟩ := hrel
      by_cases hlt : k < n
      · obtain ⟨b1, o1, b2, o2, rfl, rfl, ⟨yo, ya⟩, ⟨zo, za⟩, hy, hz, q0, q1, q2, q3⟩ := HR.out k (by rw [← HL.out]; exact hlt)
        have hkI : (k : Int) < (n : Int) := by omega
        have HS := hid_of hs
        have HY := hid_of hy
        have HZ := hid_of hz
        clear hs hy hz
        have hq := fun w => run_neq52 w yo ya zo za
        go_upto_region 6 with fail
        go_quiet (fail)
        go_wp2
        · rename_i hbad
          have HF : Hid (sameI ys zs = false) := by
            unfold Hid
            rw [HS.out, sameI_at HY.out HZ.out]
            simp only [Bool.and_eq_false_iff]
            left
            rcases hbad with h | h
            · left; simpa using h
            · right; simpa using h
          go_ret
          exact ⟨by rw [HF.out]; rfl, _, rfl⟩
        · rename_i hok
          refine ⟨⟨k + 1, _, by omega, by go_num, ?_, rfl⟩, by simp [intOf]; omega⟩
          rw [HS.out, sameI_at HY.out HZ.out]
          have h1 : (yo == zo) = true := by simpa using hok.1
          have h2 : (ya == za) = true := by simpa using hok.2
          simp [h1, h2]
      · have hkI : (n : Int) ≤ (k : Int) := by omega
        have HF : Hid (sameI ys zs = true) := by
          unfold Hid
          have e1 : ys.drop k = [] := List.drop_eq_nil_of_le (by rw [← HL.out]; omega)
          have e2 : zs.drop k = [] := List.drop_eq_nil_of_le (by rw [← HN.out, ← HL.out]; omega)
          rw [hs, e1, e2]
          rfl
        clear hs
        go_wp2
        go_ret
        exact ⟨by rw [HF.out]; rfl, _, rfl⟩
  · have hb : ((ys.length : Int) != (zs.length : Int)) = true := by simp; omega
    have HF := hid_of (sameI_len hne)
    clear h1 h2 hne
    generalize ys.length = n1 at *
    generalize zs.length = n2 at *
    go_enter Try.func9, Try.ntmps9
    go_wp2
    go_ret
    exact ⟨by rw [HF.out]; rfl, 0, rfl⟩

end Go.Proofs.Ytindhkjcifghhab
