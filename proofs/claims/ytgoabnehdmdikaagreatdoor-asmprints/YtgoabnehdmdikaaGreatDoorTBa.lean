/-
  TBa: Ba.
-/
import Derived.Test.YtgoabnehdmdikaaGreatDoorTAm
import Derived.Laws.BitsAllLaws
namespace Go.Proofs.YtgoabnehdmdikaaGreatDoor
open Go.RowKit
set_option linter.unusedVariables false
set_option linter.unusedSimpArgs false
set_option maxRecDepth 100000

theorem Bs.push {w0 w1 wr : World} {ao : Option Addr} {m c : Nat} {zs : List Value} (h : Bs w0 w1 wr ao m c zs) (ns : List Value) (hone : ∀ u ∈ ns, u.oneCell' = true) (hl : m + ns.length ≤ 140737488355328) :
    ∃ ao' m' c' w', (Builtin.append_ #[23, 23] 23 #[.slice ao m c, .slice (some ⟨wr.heap.size, 0, none⟩) ns.length ns.length]).run Tryz.prog (wr.alloc (.cells ns.toArray 5)) = .ok (.slice ao' m' c') w' ∧ Bs w0 w1 w' ao' m' c' (zs ++ ns) := by
  obtain ⟨i0, hi, hz0, hz1, hz2⟩ := info_parts Tryz.info5
  obtain ⟨v', w', hr, h2, h3, h4, _⟩ := append_old (P := Tryz.prog) (wr.alloc (.cells ns.toArray 5)) w0.heap.size 23 23 5 i0 _ 1 1 Tryz.underlying23 hi hz0 hz1 hz2 rfl (by decide) (.slice ao m c) m zs (h.own.alloc _) ⟨wr.heap.size, 0, none⟩ ns.length ns.length ns (by simp) (fun j u hj => by
    rw [Addr.add_lit, Nat.zero_add, cell_block _ _ _ _ _ _ (heap_alloc_new wr _)]
    simpa using hj) hone (by unfold maxLen; omega) (by omega) (by have := h.kept.size; simp; omega)
  have hk1 : Kept (fun k => (Value.slice ao m c).ownBlock = some k) wr w' := ((Kept.refl _ wr).alloc _).grown h3 (fun k hk => .inr hk)
  obtain ⟨a, q, rfl⟩ := ownsRow_shape h2
  exact ⟨_, _, _, _, hr, ⟨h2, h.kept.step hk1 (fun i hi e => by have := (h.own.lt i e).1; omega), h.oth.trans (oth5_of h.own hk1)⟩⟩
theorem Bs.pushS {w0 w1 wr : World} {ao : Option Addr} {m c : Nat} {zs : List Value} (h : Bs w0 w1 wr ao m c zs) (s : ByteArray) (hl : m + s.size ≤ 140737488355328) :
    ∃ ao' m' c' w', (Builtin.append_ #[23, 9] 23 #[.slice ao m c, .string s]).run Tryz.prog wr = .ok (.slice ao' m' c') w' ∧ Bs w0 w1 w' ao' m' c' (zs ++ Lib.strCells s) := by
  obtain ⟨i0, hi, hz0, hz1, hz2⟩ := info_parts Tryz.info5
  obtain ⟨v', w', hr, h2, h3, h4⟩ := Lib.run_append_own_string (P := Tryz.prog) wr w0.heap.size 23 9 23 5 i0 Tryz.underlying23 Tryz.underlying9 hi hz0 hz1 hz2 (.slice ao m c) m zs h.own s (by unfold maxLen; omega) (by omega) h.kept.size
  have hk1 : Kept (fun q => (Value.slice ao m c).ownBlock = some q) wr w' := (Kept.refl _ wr).grown h3 (fun k hk => .inr hk)
  obtain ⟨a, q, rfl⟩ := ownsRow_shape h2
  exact ⟨_, _, _, _, hr, ⟨h2, h.kept.step hk1 (fun i hi e => by have := (h.own.lt i e).1; omega), h.oth.trans (oth5_of h.own hk1)⟩⟩
theorem Bs.step {w0 w1 wr w' : World} {ao a' : Option Addr} {m c m' c' : Nat} {zs ns : List Value} (h : Bs w0 w1 wr ao m c zs) (h' : Bs w0 w1 w' a' m' c' (zs ++ ns)) : m' = m + ns.length := by
  rw [h.len, h'.len, List.length_append]
set_option maxHeartbeats 4000000 in
theorem numB_big (ao : Option Addr) (m c : Nat) (zs : List Value) (i : Int) (h0 : -9223372036854775808 ≤ i) (h1 : i ≤ 9223372036854775807) (w0 w1 wr : World) (hG0 : 8 ≤ w0.heap.size) (hG : Gl w0) (h : Bs w0 w1 wr ao m c zs) (hm : m ≤ 140000000000000) :
    Calls Tryz.prog 46 #[.slice ao m c, .int .i64 i] wr fun e w' => ∃ ao' m' c', e = .returned (.slice ao' m' c') ∧ Bs w0 w1 w' ao' m' c' (zs ++ (.int .u8 32 :: Lib.byteCells (Lib.itoa i))) := by
  obtain ⟨a1, m1, c1, w2, hr, hb⟩ := h.push [.int .u8 32] (by simp [Value.oneCell']) (by simp; omega)
  have hm1 : m1 = m + 1 := by have := h.step hb; simpa using this
  have HA := hid_of (Tryz.strconv_AppendInt_10 w0.heap.size m1 i h0 h1 (.slice a1 m1 c1) _ w2 hb.own hb.kept.size (by omega) ((hb.gl hG).tab5 hG0))
  have HB := hid_of hb
  have HR := hid_of hr
  clear hr hb h hG hG0 h0 h1 hm hm1
  go_enter Tryz.func46, Tryz.ntmps46
  go_wp2_with (at_builtin; refine wp_app2 rfl (.tmp 5) (.tmp 6) 23 23 rfl _ _ rfl rfl _ w2 HR.out ?_)
  refine HA.out.mono ?_
  rintro e w3 ⟨v3, rfl, ho3, hb3, hot3⟩
  rw [List.append_assoc] at ho3
  obtain ⟨a3, c3, hv3⟩ := ownsRow_shape ho3
  obtain ⟨m3, hm3⟩ : ∃ q, q = m1 + (Lib.itoa i).length := ⟨_, rfl⟩
  rw [← hm3] at ho3 hv3
  subst hv3
  have HF : Hid (Bs w0 w1 w3 a3 m3 c3 (zs ++ (.int .u8 32 :: Lib.byteCells (Lib.itoa i)))) := ⟨ho3, bel_kept HB.out.kept hb3, HB.out.oth.trans hot3⟩
  clear ho3 hb3 hot3 hm3 HA HR
  go_wp2
  go_ret
  exact ⟨_, _, _, rfl, HF.out⟩
set_option maxHeartbeats 4000000 in
theorem nameB_big (ao : Option Addr) (m c : Nat) (zs : List Value) (l i : Int) (h0 : -9223372036854775808 ≤ i) (h1 : i ≤ 9223372036854775807) (w0 w1 wr : World) (hG0 : 8 ≤ w0.heap.size) (hG : Gl w0) (h : Bs w0 w1 wr ao m c zs) (hm : m ≤ 140000000000000) :
    Calls Tryz.prog 73 #[.slice ao m c, .int .u8 l, .int .i64 i] wr fun e w' => ∃ ao' m' c', e = .returned (.slice ao' m' c') ∧ Bs w0 w1 w' ao' m' c' (zs ++ (.int .u8 l :: Lib.byteCells (Lib.itoa i))) := by
  obtain ⟨a1, m1, c1, w2, hr, hb⟩ := h.push [.int .u8 l] (by simp [Value.oneCell']) (by simp; omega)
  have hm1 : m1 = m + 1 := by have := h.step hb; simpa using this
  have HA := hid_of (Tryz.strconv_AppendInt_10 w0.heap.size m1 i h0 h1 (.slice a1 m1 c1) _ w2 hb.own hb.kept.size (by omega) ((hb.gl hG).tab5 hG0))
  have HB := hid_of hb
  have HR := hid_of hr
  clear hr hb h hG hG0 h0 h1 hm hm1
  go_enter Tryz.func73, Tryz.ntmps73
  go_wp2_with (at_builtin; refine wp_app2 rfl (.tmp 7) (.tmp 9) 23 23 rfl _ _ rfl rfl _ w2 HR.out ?_)
  refine HA.out.mono ?_
  rintro e w3 ⟨v3, rfl, ho3, hb3, hot3⟩
  rw [List.append_assoc] at ho3
  obtain ⟨a3, c3, hv3⟩ := ownsRow_shape ho3
  obtain ⟨m3, hm3⟩ : ∃ q, q = m1 + (Lib.itoa i).length := ⟨_, rfl⟩
  rw [← hm3] at ho3 hv3
  subst hv3
  have HF : Hid (Bs w0 w1 w3 a3 m3 c3 (zs ++ (.int .u8 l :: Lib.byteCells (Lib.itoa i)))) := ⟨ho3, bel_kept HB.out.kept hb3, HB.out.oth.trans hot3⟩
  clear ho3 hb3 hot3 hm3 HA HR
  go_wp2
  go_ret
  exact ⟨_, _, _, rfl, HF.out⟩
end Go.Proofs.YtgoabnehdmdikaaGreatDoor
