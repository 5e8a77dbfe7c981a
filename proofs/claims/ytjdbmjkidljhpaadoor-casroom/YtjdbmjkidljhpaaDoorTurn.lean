/-
  state.turned, state.digest, start, Hash.state by contract.
-/
import Derived.Test.YtjdbmjkidljhpaaDoorWide
namespace Go.Proofs.YtjdbmjkidljhpaaDoor
open Go.RowKit
set_option linter.unusedVariables false
set_option linter.unusedSimpArgs false

/-- The table lies in the first block. -/
def Laid (w : World) : Prop := ∀ t, t < 64 → w.cell? ⟨0, t, none⟩ = some (.int .u32 (kw.getD t 0))

theorem size48 : (Tryd.prog.info? 96).map (·.size) = some 8 := by kernel_rfl
def S8.val (s : S8) : Value := .agg (s.list.map (Value.int .u32)).toArray

theorem pw_flat (s : S8) (k w : Int) : pw s k w = (s.h + xo (xo (ror s.e 6) (ror s.e 11)) (ror s.e 25) + xo (an s.e s.f) (an (nt s.e) s.g) + k + w) % 4294967296 := by
  unfold pw add
  omega

set_option maxRecDepth 100000 in
set_option maxHeartbeats 1000000 in
theorem turned_any (s : S8) (bs : List Int) (hl : bs.length = 64) (hr : ∀ x ∈ bs, 0 ≤ x ∧ x < 256) (w : World) (hL : Laid w) :
    Calls Tryd.prog 55 #[.agg #[.int .u32 s.a, .int .u32 s.b, .int .u32 s.c, .int .u32 s.d, .int .u32 s.e, .int .u32 s.f, .int .u32 s.g, .int .u32 s.h], .agg (bs.map (Value.int .u8)).toArray] w fun e w' => e = .returned (turn s bs).val ∧ Kept (fun _ => False) w w' := by
  have HR := hid_of hr
  have HL := hid_of hL
  clear hr hL
  have hs49 : (Tryd.prog.info? 97).map (·.size) = some (bs.map (Value.int .u8)).toArray.size := by simp [size49, hl]
  go_enter Tryd.func55, Tryd.ntmps55
  go_wp2_with (first | refine wpList_load_row rfl 97 _ rfl (w.heap.size + 1) rfl 97 (bs.map (Value.int .u8)).toArray (0, 0) _ (alloc_old (alloc_new _ _ (by simp))) Tryd.underlying97 rfl hs49 ?_)
  refine (wide_any bs hl HR.out _).mono ?_
  rintro e w1 ⟨rfl, hk1⟩
  have hS : w1.heap[w.heap.size]? = some (.cells #[.int .u32 s.a, .int .u32 s.b, .int .u32 s.c, .int .u32 s.d, .int .u32 s.e, .int .u32 s.f, .int .u32 s.g, .int .u32 s.h] 96 (0, 0)) :=
    (hk1.block _ (by simp; omega) (fun f => f)).trans (alloc_old (alloc_old (alloc_new _ _ rfl)))
  have hD : w1.heap[w.heap.size + 1 + 1]? = some (.cells #[.int .u32 0, .int .u32 0, .int .u32 0, .int .u32 0, .int .u32 0, .int .u32 0, .int .u32 0, .int .u32 0] 96 (0, 0)) :=
    (hk1.block _ (by simp) (fun f => f)).trans (alloc_new _ _ (by simp))
  have hK : Kept (fun _ => False) w w1 := ((((Kept.refl _ w).alloc _).alloc _).alloc _).trans hk1
  have HS := hid_of hS
  have HD := hid_of hD
  have HK := hid_of hK
  clear hS hD hK hk1
  have hs79 : (Tryd.prog.info? 104).map (·.size) = some ((wide bs).map (Value.int .u32)).toArray.size := by simp [size79, wide_length]
  have h1 := oneCells .u32 (wide bs)
  have hcz : ((wide bs).map (Value.int .u32)).toArray.size = 64 := by simp [wide_length]
  have hat : ∀ t, t < 64 → ((wide bs).map (Value.int .u32)).toArray[t]? = some (.int .u32 ((wide bs).getD t 0)) := fun t ht => by
    simp [List.getD, List.getElem?_eq_getElem (show t < (wide bs).length by rw [wide_length]; exact ht)]
  have HA := hid_of hat
  clear hat
  generalize ((wide bs).map (Value.int .u32)).toArray = cs at *
  go_wp2_with (first | (refine wpList_store_row rfl 104 _ _ rfl w1.heap.size cs rfl rfl 104 _ (alloc_new _ _ rfl) hs79 (Eq.trans rfl hcz.symm) h1 ?_))
  rw [World.setRow_alloc_new]
  simp only [Act.put]
  have hS2 := alloc_old (o := .cells cs 104) HS.out
  have hD2 := alloc_old (o := .cells cs 104) HD.out
  have hW2 := alloc_new w1 (.cells cs 104) rfl
  have hK2 := HK.out.alloc (.cells cs 104)
  generalize w1.alloc (.cells cs 104) = w2 at *
  clear HS HD HK
  have c0 : w2.cell? ⟨w.heap.size, 0, none⟩ = some (.int .u32 s.a) := cell_block _ _ _ _ _ _ hS2
  have c1 : w2.cell? ⟨w.heap.size, 1, none⟩ = some (.int .u32 s.b) := cell_block _ _ _ _ _ _ hS2
  have c2 : w2.cell? ⟨w.heap.size, 2, none⟩ = some (.int .u32 s.c) := cell_block _ _ _ _ _ _ hS2
  have c3 : w2.cell? ⟨w.heap.size, 3, none⟩ = some (.int .u32 s.d) := cell_block _ _ _ _ _ _ hS2
  have c4 : w2.cell? ⟨w.heap.size, 4, none⟩ = some (.int .u32 s.e) := cell_block _ _ _ _ _ _ hS2
  have c5 : w2.cell? ⟨w.heap.size, 5, none⟩ = some (.int .u32 s.f) := cell_block _ _ _ _ _ _ hS2
  have c6 : w2.cell? ⟨w.heap.size, 6, none⟩ = some (.int .u32 s.g) := cell_block _ _ _ _ _ _ hS2
  have c7 : w2.cell? ⟨w.heap.size, 7, none⟩ = some (.int .u32 s.h) := cell_block _ _ _ _ _ _ hS2
  have hLk := HL.out
  have hT : ∀ t, t < 64 → w2.cell? ⟨0, t, none⟩ = some (.int .u32 (kw.getD t 0)) := fun t ht => hK2.cell (HL.out t ht) (fun f => f)
  have hV : ∀ t, t < 64 → w2.cell? ⟨w1.heap.size, t, none⟩ = some (.int .u32 ((wide bs).getD t 0)) := fun t ht => (cell_block _ _ _ _ _ _ hW2).trans (HA.out t ht)
  have HT := hid_of hT
  have HV := hid_of hV
  have HS2 := hid_of hS2
  have HD2 := hid_of hD2
  have HK2 := hid_of hK2
  clear hT hV hLk HA hS2 hD2 hK2 hW2 HL
  go_quiet (fail)
  go_wp2
  go_loopw [6, 7, 8, 9, 10, 11, 12, 13, 35] (fun a b c d e f g h i wr => ∃ k q : Nat, k ≤ 64 ∧ i = .int .i64 k ∧ wr = w2.drewN q ∧
      a = .int .u32 (rnds s (wide bs) k).a ∧ b = .int .u32 (rnds s (wide bs) k).b ∧ c = .int .u32 (rnds s (wide bs) k).c ∧ d = .int .u32 (rnds s (wide bs) k).d ∧
      e = .int .u32 (rnds s (wide bs) k).e ∧ f = .int .u32 (rnds s (wide bs) k).f ∧ g = .int .u32 (rnds s (wide bs) k).g ∧ h = .int .u32 (rnds s (wide bs) k).h) (fun _ _ _ _ _ _ _ _ i _ => 64 - (intOf i).toNat)
  case atStart => exact ⟨0, _, by omega, rfl, rfl, rfl, rfl, rfl, rfl, rfl, rfl, rfl, rfl⟩
  case round =>
    obtain ⟨k, q, hk, rfl, rfl, rfl, rfl, rfl, rfl, rfl, rfl, rfl, rfl⟩ := hrel
    by_cases hlt : k < 64
    · have hg : w2.cell? ⟨0, k, none⟩ = some (.int .u32 (kw.getD k 0)) := HT.out k hlt
      have hv : w2.cell? ⟨w1.heap.size, k, none⟩ = some (.int .u32 ((wide bs).getD k 0)) := HV.out k hlt
      have hX : rnds s (wide bs) (k + 1) = rnd (rnds s (wide bs) k) (kw.getD k 0) ((wide bs).getD k 0) := rfl
      have HX := hid_of hX
      clear hX
      generalize rnds s (wide bs) k = st at *
      generalize kw.getD k 0 = kv at *
      generalize (wide bs).getD k 0 = wv at *
      have hb0 : (0 : Int) ≤ (k : Int) := by omega
      have hb1 : (k : Int) < 64 := by omega
      go_wp2
      go_quiet (first | (go_at_call 67; exact (ror_int _ _ (by decide) (by decide) _).mono (fun _ _ h => ⟨h.1, _, h.2⟩)))
      go_wp2_with (first | (go_at_call 67; refine (ror_int _ _ (by decide) (by decide) _).mono ?_; rintro e w' ⟨rfl, rfl⟩))
      go_roundw
      case rel =>
        refine ⟨k + 1, _, by omega, by go_num, rfl, ?_⟩
        rw [HX.out]
        refine ⟨congrArg _ ?_, rfl, rfl, rfl, congrArg _ ?_, rfl, rfl, rfl⟩
        · show _ = (pw st kv wv + qw st) % 4294967296
          rw [pw_flat]
          rfl
        · show _ = (st.d + pw st kv wv) % 4294967296
          rw [pw_flat]
          rfl
      case measure => simp [intOf]; omega
    · obtain rfl : k = 64 := by omega
      have hX : turn s bs = s.add (rnds s (wide bs) 64) := rfl
      have HX := hid_of hX
      clear hX
      generalize rnds s (wide bs) 64 = v at *
      have HD3 : Hid ((w2.drewN q).heap[w.heap.size + 1 + 1]? = some (.cells #[.int .u32 0, .int .u32 0, .int .u32 0, .int .u32 0, .int .u32 0, .int .u32 0, .int .u32 0, .int .u32 0] 96 (0, 0))) := HD2.out
      have d0 : w2.cell? ⟨w.heap.size + 1 + 1, 0, none⟩ = some (.int .u32 0) := cell_block _ _ _ _ _ _ HD2.out
      have f0 : w2.frozen? ⟨w.heap.size + 1 + 1, 0, none⟩ = false := frozen_block _ _ _ _ _ HD2.out
      have d1 : w2.cell? ⟨w.heap.size + 1 + 1, 1, none⟩ = some (.int .u32 0) := cell_block _ _ _ _ _ _ HD2.out
      have f1 : w2.frozen? ⟨w.heap.size + 1 + 1, 1, none⟩ = false := frozen_block _ _ _ _ _ HD2.out
      have d2 : w2.cell? ⟨w.heap.size + 1 + 1, 2, none⟩ = some (.int .u32 0) := cell_block _ _ _ _ _ _ HD2.out
      have f2 : w2.frozen? ⟨w.heap.size + 1 + 1, 2, none⟩ = false := frozen_block _ _ _ _ _ HD2.out
      have d3 : w2.cell? ⟨w.heap.size + 1 + 1, 3, none⟩ = some (.int .u32 0) := cell_block _ _ _ _ _ _ HD2.out
      have f3 : w2.frozen? ⟨w.heap.size + 1 + 1, 3, none⟩ = false := frozen_block _ _ _ _ _ HD2.out
      have d4 : w2.cell? ⟨w.heap.size + 1 + 1, 4, none⟩ = some (.int .u32 0) := cell_block _ _ _ _ _ _ HD2.out
      have f4 : w2.frozen? ⟨w.heap.size + 1 + 1, 4, none⟩ = false := frozen_block _ _ _ _ _ HD2.out
      have d5 : w2.cell? ⟨w.heap.size + 1 + 1, 5, none⟩ = some (.int .u32 0) := cell_block _ _ _ _ _ _ HD2.out
      have f5 : w2.frozen? ⟨w.heap.size + 1 + 1, 5, none⟩ = false := frozen_block _ _ _ _ _ HD2.out
      have d6 : w2.cell? ⟨w.heap.size + 1 + 1, 6, none⟩ = some (.int .u32 0) := cell_block _ _ _ _ _ _ HD2.out
      have f6 : w2.frozen? ⟨w.heap.size + 1 + 1, 6, none⟩ = false := frozen_block _ _ _ _ _ HD2.out
      have d7 : w2.cell? ⟨w.heap.size + 1 + 1, 7, none⟩ = some (.int .u32 0) := cell_block _ _ _ _ _ _ HD2.out
      have f7 : w2.frozen? ⟨w.heap.size + 1 + 1, 7, none⟩ = false := frozen_block _ _ _ _ _ HD2.out
      go_wp2
      have hh : w.heap.size ≤ w.heap.size + 1 + 1 ∨ False := .inl (by omega)
      refine bodyPost_ret (v := .agg #[.int .u32 ((s.a + v.a) % 4294967296), .int .u32 ((s.b + v.b) % 4294967296), .int .u32 ((s.c + v.c) % 4294967296), .int .u32 ((s.d + v.d) % 4294967296), .int .u32 ((s.e + v.e) % 4294967296), .int .u32 ((s.f + v.f) % 4294967296), .int .u32 ((s.g + v.g) % 4294967296), .int .u32 ((s.h + v.h) % 4294967296)]) ?_ rfl ⟨?_, ((((((((kept_drewN HK2.out q).setCell hh _).setCell hh _).setCell hh _).setCell hh _).setCell hh _).setCell hh _).setCell hh _).setCell hh _⟩
      · exact results_cell_row (by rfl) _ _ (w.heap.size + 1 + 1) 96 #[.int .u32 ((s.a + v.a) % 4294967296), .int .u32 ((s.b + v.b) % 4294967296), .int .u32 ((s.c + v.c) % 4294967296), .int .u32 ((s.d + v.d) % 4294967296), .int .u32 ((s.e + v.e) % 4294967296), .int .u32 ((s.f + v.f) % 4294967296), .int .u32 ((s.g + v.g) % 4294967296), .int .u32 ((s.h + v.h) % 4294967296)] (0, 0) _ (by rfl) (set_block _ _ _ _ _ _ (set_block _ _ _ _ _ _ (set_block _ _ _ _ _ _ (set_block _ _ _ _ _ _ (set_block _ _ _ _ _ _ (set_block _ _ _ _ _ _ (set_block _ _ _ _ _ _ (set_block _ _ _ _ _ _ HD3.out _) _) _) _) _) _) _) _) Tryd.underlying96 rfl size48
      · rw [HX.out]
        rfl
end Go.Proofs.YtjdbmjkidljhpaaDoor
