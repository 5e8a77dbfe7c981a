/-
 made, CasPlays, by contract.
-/
import Derived.Test.YtjdbmjkidljhpaaGreatDoorTWs
import Derived.Test.YtjdbmjkidljhpaaGreatDoorTMn
import Derived.Test.YtjdbmjkidljhpaaGreatDoorTMq
namespace Go.Proofs.YtjdbmjkidljhpaaGreatDoor
open Go.RowKit
set_option linter.unusedVariables false
set_option linter.unusedSimpArgs false
set_option maxRecDepth 100000
set_option maxHeartbeats 2000000 in
theorem news_bad (wd cp : Int) (w : World) (h : ¬ ((1 ≤ wd ∧ wd ≤ 32) ∧ 0 ≤ cp ∧ cp ≤ 67108864)) :
  Calls Tryz.prog 13 #[.int .i64 wd, .int .i64 cp] w fun e w' => e = .returned (.tuple #[.pointer none, .int .i64 (if 1 ≤ wd ∧ wd ≤ 32 then 1 else 3)]) ∧ w' = w := by
 have HM := hid_of (may_any cp)
 by_cases h1 : 1 ≤ wd
 ·by_cases h2 : wd ≤ 32
  ·rw [if_pos ⟨h1, h2⟩]
   have l1 : ¬ wd < 1 := by omega
   have l2 : ¬ 32 < wd := by omega
   have e0 : decide (0 ≤ cp ∧ cp ≤ 67108864) = false := decide_eq_false (fun q => h ⟨⟨h1, h2⟩, q⟩)
   rw [e0] at HM
   clear h h1 h2 e0
   go_enter Tryz.func13, Tryz.ntmps13
   go_wp2_with fail
   refine (HM.out _).mono ?_
   rintro e w1 ⟨rfl, rfl⟩
   go_wp2
   go_ret2
   exact ⟨rfl, rfl⟩
  ·rw [if_neg (fun q => h2 q.2)]
   have l1 : ¬ wd < 1 := by omega
   have l2 : 32 < wd := by omega
   clear h h1 h2
   go_enter Tryz.func13, Tryz.ntmps13
   go_wp2
   go_ret2
   exact ⟨rfl, rfl⟩
 ·rw [if_neg (fun q => h1 q.1)]
  have l1 : wd < 1 := by omega
  clear h h1
  go_enter Tryz.func13, Tryz.ntmps13
  go_wp2
  go_ret2
  exact ⟨rfl, rfl⟩
set_option maxHeartbeats 4000000 in
theorem made_bad (wd cp : Int) (w : World) (hL : Laid w) (h : ¬ ((1 ≤ wd ∧ wd ≤ 32) ∧ 0 ≤ cp ∧ cp ≤ 67108864)) :
  Calls Tryz.prog 5 #[.int .i64 wd, .int .i64 cp] w fun e w' => e = .returned (.tuple #[.pointer none, .bool true]) ∧ Kept (fun _ => False) w w' := by
 have HA := hid_of (news_bad wd cp w h)
 have HB := hid_of (newr_bad wd cp w h)
 have HH := hid_of (head_any w hL)
 clear h hL
 generalize (if 1 ≤ wd ∧ wd ≤ 32 then (1 : Int) else 3) = q at *
 go_enter Tryz.func5, Tryz.ntmps5
 go_wp2_with fail
 refine HA.out.mono ?_
 rintro e w1 ⟨rfl, rfl⟩
 go_wp2_with fail
 refine HB.out.mono ?_
 rintro e w2 ⟨rfl, rfl⟩
 go_wp2_with fail
 refine HH.out.mono ?_
 rintro e w3 ⟨rfl, hk⟩
 have HK := hid_of hk
 clear hk
 go_wp2
 go_ret2
 exact ⟨rfl, HK.out⟩
set_option maxHeartbeats 4000000 in
theorem made_ok (wd cp : Int) (w : World) (h1 : 1 ≤ wd) (h2 : wd ≤ 32) (h3 : 0 ≤ cp) (h4 : cp ≤ 67108864) :
  Calls Tryz.prog 5 #[.int .i64 wd, .int .i64 cp] w fun e w' => e = .returned (.tuple #[.pointer (some ⟨w.heap.size + 1 + 1, 0, none⟩), .bool true]) ∧ w' = ((w.alloc (.cells ((Sg.new wd cp).cells (.map none)) 65)).alloc (.cells ((Rg.new wd cp).cells (.slice none 0 0)) 42)).alloc (.cells (wcells w.heap.size (w.heap.size + 1) (.slice none 0 0)) 36) := by
 have HA := hid_of (new_store wd cp w h1 h2 h3 h4)
 have HB := hid_of (newr_ok wd cp (w.alloc (.cells ((Sg.new wd cp).cells (.map none)) 65)) h1 h2 h3 h4)
 rw [show (w.alloc (.cells ((Sg.new wd cp).cells (.map none)) 65)).heap.size = w.heap.size + 1 by simp] at HB
 have hs : ((w.alloc (.cells ((Sg.new wd cp).cells (.map none)) 65)).alloc (.cells ((Rg.new wd cp).cells (.slice none 0 0)) 42)).heap.size = w.heap.size + 1 + 1 := by simp
 have HWC : Hid (wcells w.heap.size (w.heap.size + 1) (.slice none 0 0) = #[.pointer (some ⟨w.heap.size, 0, none⟩), .pointer (some ⟨w.heap.size + 1, 0, none⟩), .slice none 0 0]) := rfl
 rw [HWC.out]
 clear h1 h2 h3 h4 HWC
 go_enter Tryz.func5, Tryz.ntmps5
 go_wp2_with fail
 refine HA.out.mono ?_
 rintro e w1 ⟨rfl, rfl⟩
 go_wp2_with fail
 refine HB.out.mono ?_
 rintro e w2 ⟨rfl, rfl⟩
 clear HA HB
 go_wp2
 try rw [hs]
 go_ret2
 exact ⟨rfl, rfl⟩
theorem wd_new (k : Nat) (h1 : 1 ≤ k) (h2 : k ≤ 32) (cp : Int) (h4 : cp ≤ 67108864) (w : World) (hL : Laid w) :
  Wd (((w.alloc (.cells ((Sg.new k cp).cells (.map none)) 65)).alloc (.cells ((Rg.new k cp).cells (.slice none 0 0)) 42)).alloc (.cells (wcells w.heap.size (w.heap.size + 1) (.slice none 0 0)) 36)) w.heap.size k 0 (w.heap.size + 1 + 1) w.heap.size (.map none) (Sg.new k cp) (w.heap.size + 1) (.slice none 0 0) (Rg.new k cp) (.slice none 0 0) 0 := by
 have k1 : Kept (fun _ => False) (w.alloc (.cells ((Sg.new k cp).cells (.map none)) 65)) (((w.alloc (.cells ((Sg.new k cp).cells (.map none)) 65)).alloc (.cells ((Rg.new k cp).cells (.slice none 0 0)) 42)).alloc (.cells (wcells w.heap.size (w.heap.size + 1) (.slice none 0 0)) 36)) := ((Kept.refl _ _).alloc _).alloc _
 have k2 : Kept (fun _ => False) ((w.alloc (.cells ((Sg.new k cp).cells (.map none)) 65)).alloc (.cells ((Rg.new k cp).cells (.slice none 0 0)) 42)) (((w.alloc (.cells ((Sg.new k cp).cells (.map none)) 65)).alloc (.cells ((Rg.new k cp).cells (.slice none 0 0)) 42)).alloc (.cells (wcells w.heap.size (w.heap.size + 1) (.slice none 0 0)) 36)) := (Kept.refl _ _).alloc _
 have k0 : Kept (fun _ => False) w (w.alloc (.cells ((Sg.new k cp).cells (.map none)) 65)) := (Kept.refl _ _).alloc _
 have hr := rst_new (w.alloc (.cells ((Sg.new k cp).cells (.map none)) 65)) k cp
 rw [show (w.alloc (.cells ((Sg.new k cp).cells (.map none)) 65)).heap.size = w.heap.size + 1 by simp] at hr
 have h0 := hL.size
 refine ⟨⟨(stor_new w k cp).kept k1 (fun _ _ f => f), sane_new k cp h4, hr.same k2, Alk.nil, ⟨rfl, rfl, rfl, rfl, rfl⟩, laid_kept hL (k0.trans k1) (fun f => f), ⟨h1, h2⟩, fun e he => (by cases he), fun q hq => ?_, by omega, Nat.le_refl _⟩, alloc_new _ _ (by simp), .inl ⟨rfl, rfl⟩, by omega, ⟨by omega, fun q hq => (by cases hq)⟩, fun q hq e => (by cases e)⟩
 rcases hq with (rfl | hq) | (rfl | hq)
 ·exact Nat.le_refl _
 ·cases hq
 ·omega
 ·cases hq
theorem TIs.stays {w w' : World} {v : Value} {ts : List Stp} (h : TIs w v ts) (hk : Kept (fun _ => False) w w') : TIs w' v ts := by
 obtain ⟨ao, cap, hv, hl, hall⟩ := h
 refine ⟨ao, cap, hv, hl, fun i t ht => ?_⟩
 obtain ⟨h1, g, o, h2, h3⟩ := hall i t ht
 exact ⟨⟨h1.bb.kept2 hk (fun _ _ _ f => f), h1.br, h1.cb.kept2 hk (fun _ _ _ f => f), h1.cr, h1.dl, h1.dr, h1.bl, h1.cl⟩, g, o, h2, fun j u hj => hk.cell (h3 j u hj) (fun f => f)⟩
theorem Stp.clen {t : Stp} (h : t.d.length = 32) : t.cells.length = 37 := by simp [Stp.cells, h]
theorem Stp.low {w : World} {t : Stp} (h : t.Ok w) : Low w.heap.size t := ⟨fun h0 q hq => h.bb.blt h0 q hq, fun h0 q hq => h.cb.blt h0 q hq⟩
/-- What holds between the rounds. -/
def PlS (W wr : World) (k n g r : Nat) : Prop := ∃ s mv σ lv ρ iv m, Wd wr W.heap.size k n g s mv σ r lv ρ iv m ∧ Kept (fun _ => False) W wr
theorem PlS.next {W wr w' : World} {k n n' g r s : Nat} {mv : Value} {σ : Sg} {lv : Value} {ρ : Rg} {iv : Value} {m : Nat} (h : Wd wr W.heap.size k n g s mv σ r lv ρ iv m) (hk : Kept (fun _ => False) W wr) (ht : WdTo wr w' W.heap.size k n' g s mv σ r lv ρ iv) : PlS W w' k n' g r := by
 obtain ⟨s', mv', σ', lv', ρ', iv', m', h1, h2, _, _⟩ := ht
 exact ⟨s', mv', σ', lv', ρ', iv', m', h1, hk.step h2 (fun i hi e => by have := h.base i e; omega)⟩
end Go.Proofs.YtjdbmjkidljhpaaGreatDoor
