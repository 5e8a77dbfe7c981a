/-
  strings.IndexRune in "/" and 0, of the rune that stands for what is none.
-/
import Derived.Test.YtmkfjdfpcjkmnaaRune
import Derived.Lib.OthersKept
namespace Go.Proofs.Ytmkfjdfpcjkmnaa
open Go.RowKit
set_option linter.unusedVariables false
set_option linter.unusedSimpArgs false

theorem slash_next (wr : World) (k pos : Nat) (ty : TypeId) (hk : wr.heap[k]? = some (.stringIter ⟨#[47, 0]⟩ pos)) (hp : pos < 2) :
    (Instr.next (.pointer (some ⟨k, 0, none⟩)) true ty).run Try.prog wr = .ok (.tuple #[.bool true, .int .i64 pos, .int .i32 (if pos = 0 then 47 else 0)]) (wr.iterAt k ⟨#[47, 0]⟩ (pos + 1)) := by
  have h := Lib.run_next_any_at (P := Try.prog) wr k ⟨#[47, 0]⟩ pos ty hk hp
  rw [h]
  match pos, hp with
  | 0, _ => rfl
  | 1, _ => rfl

set_option maxRecDepth 1000000 in
set_option maxHeartbeats 2000000 in
theorem irune_err (w : World) :
    Calls Try.prog 96 #[.string ⟨#[47, 0]⟩, .int .i32 65533] w fun e w' => e = .returned (.int .i64 (-1)) ∧ Kept (fun _ => False) w w' := by
  go_enter Try.func96, Try.ntmps96
  go_wp2
  go_loopw [5, 6] (fun _ _ wr => ∃ pos : Nat, wr.heap[w.heap.size]? = some (.stringIter ⟨#[47, 0]⟩ pos) ∧ Kept (fun _ => False) w wr ∧ pos ≤ 2) (fun _ _ wr => 2 - wr.iterPos w.heap.size)
  case atStart => exact ⟨0, World.iter_heap w _ 0, (Kept.refl _ w).alloc _, by omega⟩
  case round =>
    obtain ⟨pos, hit, hkept, hp⟩ := hrel
    have HK := hid_of hkept
    have HI := hid_of hit
    clear hkept
    have hip : wr.iterPos w.heap.size = pos := by rw [World.iterPos, HI.out]
    by_cases hlt : pos < 2
    · have hnx := fun ty => slash_next wr w.heap.size pos ty hit hlt
      have GI : Hid ((wr.iterAt w.heap.size ⟨#[47, 0]⟩ (pos + 1)).heap[w.heap.size]? = some (.stringIter ⟨#[47, 0]⟩ (pos + 1))) := Lib.iterAt_heap wr _ _ pos _ HI.out
      have GK := hid_of (HK.out.step (S := fun _ => False) (T := fun i => i = w.heap.size) ⟨rfl, rfl, rfl, by simp [World.iterAt], fun i _ hn => by
        show (wr.heap.setIfInBounds w.heap.size _)[i]? = _
        rw [Array.getElem?_setIfInBounds_ne (fun e => hn e.symm)]⟩ (fun i hi e => absurd hi (by omega)) : Kept (fun _ => False) w (wr.iterAt w.heap.size ⟨#[47, 0]⟩ (pos + 1)))
      have hr : (((if pos = 0 then 47 else 0 : Int)) == 65533) = false := by split <;> rfl
      generalize (if pos = 0 then 47 else 0 : Int) = rn at *
      have e1 : (wr.iterAt w.heap.size ⟨#[47, 0]⟩ (pos + 1)).iterPos w.heap.size = pos + 1 := by rw [World.iterPos, GI.out]
      go_wp2
      refine ⟨⟨pos + 1, GI.out, GK.out, by omega⟩, ?_⟩
      rw [e1, hip]
      omega
    · have hnx := fun ty => Lib.run_next_end_at (P := Try.prog) wr w.heap.size ⟨#[47, 0]⟩ pos ty hit hlt
      go_wp2
      go_ret
      exact ⟨rfl, HK.out⟩
end Go.Proofs.Ytmkfjdfpcjkmnaa
