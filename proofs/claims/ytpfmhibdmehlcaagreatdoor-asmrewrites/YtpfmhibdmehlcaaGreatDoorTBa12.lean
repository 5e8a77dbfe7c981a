import Derived.Test.YtpfmhibdmehlcaaGreatDoorTBa11
import Derived.Lib.SlBytesConst
import Derived.Laws.BitsAllLaws
namespace Go.Proofs.YtpfmhibdmehlcaaGreatDoor
open Go.RowKit
set_option linter.unusedVariables false
set_option linter.unusedSimpArgs false
set_option maxRecDepth 100000
structure Bs (w0 w1 wr : World) (ao : Option Addr) (m c : Nat) (zs : List Value) : Prop where
 own : wr.ownsRow w0.heap.size 5 1 (.slice ao m c) m zs
 kept : Kept (fun _ => False) w0 wr
 oth : Lib.OthersKept 5 none w1 wr
theorem Bs.len {w0 w1 wr : World} {ao : Option Addr} {m c : Nat} {zs : List Value} (h : Bs w0 w1 wr ao m c zs) : m = zs.length := by have := h.own.1; omega
theorem Bs.same {w0 w1 wr w' : World} {ao : Option Addr} {m c : Nat} {zs : List Value} (h : Bs w0 w1 wr ao m c zs) (hk : Kept (fun _ => False) wr w') : Bs w0 w1 w' ao m c zs := ⟨hk.ownsRow h.own (fun _ _ f => f), h.kept.trans hk, h.oth.trans (oth5_kept hk)⟩
theorem Bs.gl {w0 w1 wr : World} {ao : Option Addr} {m c : Nat} {zs : List Value} (h : Bs w0 w1 wr ao m c zs) (hG : Gl w0) : Gl wr := hG.same h.kept
abbrev memY : List Value := [.int .u8 109, .int .u8 101, .int .u8 109, .int .u8 111, .int .u8 114, .int .u8 121]
abbrev memC : Array Value := #[.int .u8 109, .int .u8 101, .int .u8 109, .int .u8 111, .int .u8 114, .int .u8 121]
theorem own_new (w0 W : World) (hk : Kept (fun _ => False) w0 W) : (W.alloc (.cells memC 5)).ownsRow w0.heap.size 5 1 (.slice (some ⟨W.heap.size, 0, none⟩) 6 6) 6 memY :=
 ⟨rfl, .inr ⟨W.heap.size, 6, _, rfl, hk.size, heap_alloc_new W _, Nat.le_refl _, by decide, rfl, rfl⟩⟩
theorem own_at_block {w w' : World} {B e s n : Nat} {v : Value} {xs : List Value} (h : w.ownsRow B e s v n xs) (hb : ∀ g, v.ownBlock = some g → w'.heap[g]? = w.heap[g]?) : w'.ownsRow B e s v n xs := by
 refine ⟨h.1, ?_⟩
 rcases h.2 with hh | ⟨g, cap, cur, rfl, hbg, hgg, rest⟩
 ·exact .inl hh
 ·exact .inr ⟨g, cap, cur, rfl, hbg, (hb g rfl).trans hgg, rest⟩
theorem push_first (w0 wa : World) (hk : Kept (fun _ => False) w0 wa) (x : Int) :
  ∃ ao' m' c' w', (Builtin.append_ #[22, 22] 22 #[.slice (some ⟨wa.heap.size, 0, none⟩) 6 6, .slice (some ⟨wa.heap.size + 1, 0, none⟩) 1 1]).run Tryz.prog ((wa.alloc (.cells memC 5 (6, 7))).alloc (.cells #[.int .u8 x] 5)) = .ok (.slice ao' m' c') w' ∧ w'.ownsRow w0.heap.size 5 1 (.slice ao' m' c') m' (memY ++ [.int .u8 x]) ∧ Kept (fun _ => False) wa w' := by
 obtain ⟨i0, hi, hz0, hz1, hz2⟩ := info_parts Tryz.info5
 have hsu : (wa.alloc (.cells memC 5)).heap.size = wa.heap.size + 1 := by simp
 obtain ⟨v', wu, hr, ho, hk0, hk1, hn⟩ := push_byte (own_new w0 wa hk) (.int .u8 x) rfl (hk.trans ((Kept.refl _ _).alloc _)) (by omega)
 rw [hsu] at hr
 have hg := fun (W : World) (h1 : ∀ j v, memY[j]? = some v → W.cell? ((⟨wa.heap.size, 0, none⟩ : Addr).add j) = some v) (h2 : ∀ j v, [Value.int .u8 x][j]? = some v → W.cell? ((⟨wa.heap.size + 1, 0, none⟩ : Addr).add j) = some v) =>
  run_append_grow (P := Tryz.prog) W 22 22 5 i0 (.int .u8 0) Tryz.underlying22 hi hz0 ⟨wa.heap.size, 0, none⟩ 6 6 memY (by rw [hz1]; rfl) h1 ⟨wa.heap.size + 1, 0, none⟩ 1 1 [.int .u8 x] (by rw [hz1]; rfl) h2 (by omega) (by decide) (growslice_fits (by decide) (by rw [hz2]; decide))
 have cells : ∀ f : Nat × Nat, (∀ j v, memY[j]? = some v → ((wa.alloc (.cells memC 5 f)).alloc (.cells #[.int .u8 x] 5)).cell? ((⟨wa.heap.size, 0, none⟩ : Addr).add j) = some v) ∧ (∀ j v, [Value.int .u8 x][j]? = some v → ((wa.alloc (.cells memC 5 f)).alloc (.cells #[.int .u8 x] 5)).cell? ((⟨wa.heap.size + 1, 0, none⟩ : Addr).add j) = some v) := fun f => by
  have hsz : (wa.alloc (.cells memC 5 f)).heap.size = wa.heap.size + 1 := by simp
  have ha : ((wa.alloc (.cells memC 5 f)).alloc (.cells #[.int .u8 x] 5)).heap[wa.heap.size]? = some (.cells memC 5 f) := by
   rw [heap_alloc_old _ _ (by simp)]
   exact heap_alloc_new wa _
  have hb : ((wa.alloc (.cells memC 5 f)).alloc (.cells #[.int .u8 x] 5)).heap[wa.heap.size + 1]? = some (.cells #[.int .u8 x] 5) := hsz ▸ heap_alloc_new _ _
  refine ⟨fun j v hj => ?_, fun j v hj => ?_⟩
  ·rw [Addr.add_lit, Nat.zero_add, cell_block _ _ _ _ _ _ ha]
   simpa using hj
  ·rw [Addr.add_lit, Nat.zero_add, cell_block _ _ _ _ _ _ hb]
   simpa using hj
 have hu := hg _ (cells (0, 0)).1 (cells (0, 0)).2
 have hm := hg _ (cells (6, 7)).1 (cells (6, 7)).2
 rw [hu] at hr
 injection hr with e1 e2
 subst e1 e2
 have ec : grownCap ((wa.alloc (.cells memC 5 (6, 7))).alloc (.cells #[.int .u8 x] 5)) (6 + 1) 6 5 = grownCap ((wa.alloc (.cells memC 5)).alloc (.cells #[.int .u8 x] 5)) (6 + 1) 6 5 := rfl
 have es1 : ((wa.alloc (.cells memC 5)).alloc (.cells #[.int .u8 x] 5)).heap.size = wa.heap.size + 2 := by simp
 have es2 : ((wa.alloc (.cells memC 5 (6, 7))).alloc (.cells #[.int .u8 x] 5)).heap.size = wa.heap.size + 2 := by simp
 refine ⟨_, _, _, _, hm, ?_, (((Kept.refl (fun _ => False) wa).alloc _).alloc _).drew.alloc _⟩
 rw [ec, es2]
 rw [es1] at ho
 refine own_at_block ho (fun g hg' => ?_)
 have eg : g = wa.heap.size + 2 := by simpa [Value.ownBlock] using hg'.symm
 subst eg
 have n1 := heap_alloc_new ((wa.alloc (.cells memC 5 (6, 7))).alloc (.cells #[.int .u8 x] 5)).drew (.cells (memY.toArray ++ [Value.int .u8 x].toArray ++ Builtin.zeroCells (Value.int .u8 0).cells (grownCap ((wa.alloc (.cells memC 5)).alloc (.cells #[.int .u8 x] 5)) (6 + 1) 6 5 - (6 + 1))) 5)
 have n2 := heap_alloc_new ((wa.alloc (.cells memC 5)).alloc (.cells #[.int .u8 x] 5)).drew (.cells (memY.toArray ++ [Value.int .u8 x].toArray ++ Builtin.zeroCells (Value.int .u8 0).cells (grownCap ((wa.alloc (.cells memC 5)).alloc (.cells #[.int .u8 x] 5)) (6 + 1) 6 5 - (6 + 1))) 5)
 rw [show ((wa.alloc (.cells memC 5 (6, 7))).alloc (.cells #[.int .u8 x] 5)).drew.heap.size = wa.heap.size + 2 from es2] at n1
 rw [show ((wa.alloc (.cells memC 5)).alloc (.cells #[.int .u8 x] 5)).drew.heap.size = wa.heap.size + 2 from es1] at n2
 exact n1.trans n2.symm
theorem Bs.push {w0 w1 wr : World} {ao : Option Addr} {m c : Nat} {zs : List Value} (h : Bs w0 w1 wr ao m c zs) (ns : List Value) (hone : ∀ u ∈ ns, u.oneCell' = true) (hl : m + ns.length ≤ 140737488355328) :
  ∃ ao' m' c' w', (Builtin.append_ #[22, 22] 22 #[.slice ao m c, .slice (some ⟨wr.heap.size, 0, none⟩) ns.length ns.length]).run Tryz.prog (wr.alloc (.cells ns.toArray 5)) = .ok (.slice ao' m' c') w' ∧ Bs w0 w1 w' ao' m' c' (zs ++ ns) := by
 obtain ⟨i0, hi, hz0, hz1, hz2⟩ := info_parts Tryz.info5
 obtain ⟨v', w', hr, h2, h3, h4, _⟩ := append_old (P := Tryz.prog) (wr.alloc (.cells ns.toArray 5)) w0.heap.size 22 22 5 i0 _ 1 1 Tryz.underlying22 hi hz0 hz1 hz2 rfl (by decide) (.slice ao m c) m zs (h.own.alloc _) ⟨wr.heap.size, 0, none⟩ ns.length ns.length ns (by simp) (fun j u hj => by
  rw [Addr.add_lit, Nat.zero_add, cell_block _ _ _ _ _ _ (heap_alloc_new wr _)]
  simpa using hj) hone (by unfold maxLen; omega) (by omega) (by have := h.kept.size; simp; omega)
 have hk1 : Kept (fun k => (Value.slice ao m c).ownBlock = some k) wr w' := ((Kept.refl _ wr).alloc _).grown h3 (fun k hk => .inr hk)
 obtain ⟨a, q, rfl⟩ := ownsRow_shape h2
 exact ⟨_, _, _, _, hr, ⟨h2, h.kept.step hk1 (fun i hi e => by have := (h.own.lt i e).1; omega), h.oth.trans (oth5_of h.own hk1)⟩⟩
theorem Bs.pushS {w0 w1 wr : World} {ao : Option Addr} {m c : Nat} {zs : List Value} (h : Bs w0 w1 wr ao m c zs) (s : ByteArray) (hl : m + s.size ≤ 140737488355328) :
  ∃ ao' m' c' w', (Builtin.append_ #[22, 9] 22 #[.slice ao m c, .string s]).run Tryz.prog wr = .ok (.slice ao' m' c') w' ∧ Bs w0 w1 w' ao' m' c' (zs ++ Lib.strCells s) := by
 obtain ⟨i0, hi, hz0, hz1, hz2⟩ := info_parts Tryz.info5
 obtain ⟨v', w', hr, h2, h3, h4⟩ := Lib.run_append_own_string (P := Tryz.prog) wr w0.heap.size 22 9 22 5 i0 Tryz.underlying22 Tryz.underlying9 hi hz0 hz1 hz2 (.slice ao m c) m zs h.own s (by unfold maxLen; omega) (by omega) h.kept.size
 have hk1 : Kept (fun q => (Value.slice ao m c).ownBlock = some q) wr w' := (Kept.refl _ wr).grown h3 (fun k hk => .inr hk)
 obtain ⟨a, q, rfl⟩ := ownsRow_shape h2
 exact ⟨_, _, _, _, hr, ⟨h2, h.kept.step hk1 (fun i hi e => by have := (h.own.lt i e).1; omega), h.oth.trans (oth5_of h.own hk1)⟩⟩
theorem Bs.step {w0 w1 wr w' : World} {ao a' : Option Addr} {m c m' c' : Nat} {zs ns : List Value} (h : Bs w0 w1 wr ao m c zs) (h' : Bs w0 w1 w' a' m' c' (zs ++ ns)) : m' = m + ns.length := by
 rw [h.len, h'.len, List.length_append]
set_option maxHeartbeats 4000000 in
theorem numB_big (ao : Option Addr) (m c : Nat) (zs : List Value) (i : Int) (h0 : -9223372036854775808 ≤ i) (h1 : i ≤ 9223372036854775807) (w0 w1 wr : World) (hG0 : 8 ≤ w0.heap.size) (hG : Gl w0) (h : Bs w0 w1 wr ao m c zs) (hm : m ≤ 140000000000000) :
  Calls Tryz.prog 29 #[.slice ao m c, .int .i64 i] wr fun e w' => ∃ ao' m' c', e = .returned (.slice ao' m' c') ∧ Bs w0 w1 w' ao' m' c' (zs ++ (.int .u8 32 :: Lib.byteCells (Lib.itoa i))) := by
 obtain ⟨a1, m1, c1, w2, hr, hb⟩ := h.push [.int .u8 32] (by simp [Value.oneCell']) (by simp; omega)
 have hm1 : m1 = m + 1 := by have := h.step hb; simpa using this
 have HA := hid_of (Tryz.strconv_AppendInt_10 w0.heap.size m1 i h0 h1 (.slice a1 m1 c1) _ w2 hb.own hb.kept.size (by omega) ((hb.gl hG).tab5 hG0))
 have HB := hid_of hb
 have HR := hid_of hr
 clear hr hb h hG hG0 h0 h1 hm hm1
 go_enter Tryz.func29, Tryz.ntmps29
 go_wp2_with (at_builtin; refine wp_app2 rfl (.tmp 5) (.tmp 6) 22 22 rfl _ _ rfl rfl _ w2 HR.out ?_)
 refine HA.out.mono ?_
 rintro e w3 ⟨v3, rfl, ho3, hb3, hot3⟩
 rw [List.append_assoc] at ho3
 obtain ⟨a3, c3, hv3⟩ := ownsRow_shape ho3
 obtain ⟨m3, hm3⟩ := nmd (m1 + (Lib.itoa i).length)
 rw [← hm3] at ho3 hv3
 subst hv3
 have HF : Hid (Bs w0 w1 w3 a3 m3 c3 (zs ++ (.int .u8 32 :: Lib.byteCells (Lib.itoa i)))) := ⟨ho3, bel_kept HB.out.kept hb3, HB.out.oth.trans hot3⟩
 clear ho3 hb3 hot3 hm3 HA HR
 go_wp2
 go_ret
 exact ⟨_, _, _, rfl, HF.out⟩
set_option maxHeartbeats 4000000 in
theorem nameB_big (ao : Option Addr) (m c : Nat) (zs : List Value) (l i : Int) (h0 : -9223372036854775808 ≤ i) (h1 : i ≤ 9223372036854775807) (w0 w1 wr : World) (hG0 : 8 ≤ w0.heap.size) (hG : Gl w0) (h : Bs w0 w1 wr ao m c zs) (hm : m ≤ 140000000000000) :
  Calls Tryz.prog 43 #[.slice ao m c, .int .u8 l, .int .i64 i] wr fun e w' => ∃ ao' m' c', e = .returned (.slice ao' m' c') ∧ Bs w0 w1 w' ao' m' c' (zs ++ (.int .u8 l :: Lib.byteCells (Lib.itoa i))) := by
 obtain ⟨a1, m1, c1, w2, hr, hb⟩ := h.push [.int .u8 l] (by simp [Value.oneCell']) (by simp; omega)
 have hm1 : m1 = m + 1 := by have := h.step hb; simpa using this
 have HA := hid_of (Tryz.strconv_AppendInt_10 w0.heap.size m1 i h0 h1 (.slice a1 m1 c1) _ w2 hb.own hb.kept.size (by omega) ((hb.gl hG).tab5 hG0))
 have HB := hid_of hb
 have HR := hid_of hr
 clear hr hb h hG hG0 h0 h1 hm hm1
 go_enter Tryz.func43, Tryz.ntmps43
 go_wp2_with (at_builtin; refine wp_app2 rfl (.tmp 7) (.tmp 9) 22 22 rfl _ _ rfl rfl _ w2 HR.out ?_)
 refine HA.out.mono ?_
 rintro e w3 ⟨v3, rfl, ho3, hb3, hot3⟩
 rw [List.append_assoc] at ho3
 obtain ⟨a3, c3, hv3⟩ := ownsRow_shape ho3
 obtain ⟨m3, hm3⟩ := nmd (m1 + (Lib.itoa i).length)
 rw [← hm3] at ho3 hv3
 subst hv3
 have HF : Hid (Bs w0 w1 w3 a3 m3 c3 (zs ++ (.int .u8 l :: Lib.byteCells (Lib.itoa i)))) := ⟨ho3, bel_kept HB.out.kept hb3, HB.out.oth.trans hot3⟩
 clear ho3 hb3 hot3 hm3 HA HR
 go_wp2
 go_ret
 exact ⟨_, _, _, rfl, HF.out⟩
end Go.Proofs.YtpfmhibdmehlcaaGreatDoor
