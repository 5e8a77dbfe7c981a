/-
  TPd: Pd.
-/
import Derived.Test.YtgoabnehdmdikaaGreatDoorTPbx
import Derived.Laws.StructEq
namespace Go.Proofs.YtgoabnehdmdikaaGreatDoor
open Go.RowKit Go.Deep
set_option linter.unusedVariables false
set_option linter.unusedSimpArgs false
set_option maxRecDepth 100000

set_option maxHeartbeats 4000000 in
theorem same_any (v1 v2 : Value) (ys zs : List IN) (w : World) (h1 : RowI w v1 ys) (h2 : RowI w v2 zs) (hl : ys.length ≤ 9223372036854775807) (hl2 : zs.length ≤ 9223372036854775807) :
    Calls Tryz.prog 25 #[v1, v2] w fun e w' => e = .returned (.bool (sameI ys zs)) ∧ ∃ n, w' = w.drewN n := by
  obtain ⟨a1, c1, rfl⟩ := h1.shape
  obtain ⟨a2, c2, rfl⟩ := h2.shape
  by_cases hne : ys.length = zs.length
  · have HN := hid_of hne
    have HR : Hid (∀ k, k < ys.length → ∃ b1 o1 b2 o2, a1 = some ⟨b1, o1, none⟩ ∧ a2 = some ⟨b2, o2, none⟩ ∧ ∃ y z, ys[k]? = some y ∧ zs[k]? = some z ∧ w.cell? ⟨b1, o1 + k * 2, none⟩ = some (.int .i64 y.op) ∧ w.cell? ⟨b1, o1 + k * 2 + 1, none⟩ = some (.int .i64 y.a) ∧ w.cell? ⟨b2, o2 + k * 2, none⟩ = some (.int .i64 z.op) ∧ w.cell? ⟨b2, o2 + k * 2 + 1, none⟩ = some (.int .i64 z.a)) := fun k hk => by
      rcases h1 with ⟨e, _⟩ | ⟨b1, o1, d1, e1, r1⟩
      · rw [e] at hk; simp at hk
      · rcases h2 with ⟨e, _⟩ | ⟨b2, o2, d2, e2, r2⟩
        · rw [hne, e] at hk; simp at hk
        · cases e1
          cases e2
          have hk2 : k < zs.length := by omega
          have g1 := r1 k _ (List.getElem?_eq_getElem hk)
          have g2 := r2 k _ (List.getElem?_eq_getElem hk2)
          exact ⟨b1, o1, b2, o2, rfl, rfl, ys[k], zs[k], List.getElem?_eq_getElem hk, List.getElem?_eq_getElem hk2, g1 0 _ rfl, g1 1 _ rfl, g2 0 _ rfl, g2 1 _ rfl⟩
    obtain ⟨n, hn⟩ : ∃ n, n = ys.length := ⟨_, rfl⟩
    rw [← hne, ← hn]
    have HL := hid_of hn
    clear h1 h2 hne hl2
    rw [← hn] at hl
    clear hn
    go_enter Tryz.func25, Tryz.ntmps25
    go_wp2
    go_loopw [5] (fun iv wr => ∃ (k d : Nat), k ≤ n ∧ iv = .int .i64 k ∧ sameI ys zs = sameI (ys.drop k) (zs.drop k) ∧ wr = w.drewN d) (fun iv _ => n - (intOf iv).toNat)
    case atStart => exact ⟨0, 0, by omega, rfl, rfl, rfl⟩
    case round =>
      obtain ⟨k, d, hk, rfl, hs, rfl⟩ := hrel
      by_cases hlt : k < n
      · obtain ⟨b1, o1, b2, o2, rfl, rfl, ⟨yo, ya⟩, ⟨zo, za⟩, hy, hz, q0, q1, q2, q3⟩ := HR.out k (by rw [← HL.out]; exact hlt)
        have hkI : (k : Int) < (n : Int) := by omega
        have HS := hid_of hs
        have HY := hid_of hy
        have HZ := hid_of hz
        clear hs hy hz
        have hq := fun w => run_neq52 w yo ya zo za
        go_upto_region 6 with fail
        go_quiet (fail)
        go_wp2
        · rename_i hbad
          have HF : Hid (sameI ys zs = false) := by
            unfold Hid
            rw [HS.out, sameI_at HY.out HZ.out]
            simp only [Bool.and_eq_false_iff]
            left
            rcases hbad with h | h
            · left; simpa using h
            · right; simpa using h
          go_ret
          exact ⟨by rw [HF.out]; rfl, _, rfl⟩
        · rename_i hok
          refine ⟨⟨k + 1, _, by omega, by go_num, ?_, rfl⟩, by simp [intOf]; omega⟩
          rw [HS.out, sameI_at HY.out HZ.out]
          have h1 : (yo == zo) = true := by simpa using hok.1
          have h2 : (ya == za) = true := by simpa using hok.2
          simp [h1, h2]
      · have hkI : (n : Int) ≤ (k : Int) := by omega
        have HF : Hid (sameI ys zs = true) := by
          unfold Hid
          have e1 : ys.drop k = [] := List.drop_eq_nil_of_le (by rw [← HL.out]; omega)
          have e2 : zs.drop k = [] := List.drop_eq_nil_of_le (by rw [← HN.out, ← HL.out]; omega)
          rw [hs, e1, e2]
          rfl
        clear hs
        go_wp2
        go_ret
        exact ⟨by rw [HF.out]; rfl, _, rfl⟩
  · have hb : ((ys.length : Int) != (zs.length : Int)) = true := by simp; omega
    have HF := hid_of (sameI_len hne)
    clear h1 h2 hne
    generalize ys.length = n1 at *
    generalize zs.length = n2 at *
    go_enter Tryz.func25, Tryz.ntmps25
    go_wp2
    go_ret
    exact ⟨by rw [HF.out]; rfl, 0, rfl⟩

end Go.Proofs.YtgoabnehdmdikaaGreatDoor
