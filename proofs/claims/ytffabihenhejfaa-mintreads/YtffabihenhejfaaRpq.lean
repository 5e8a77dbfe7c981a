/-
  Rpq: Rpe, Rpg.
-/
import Derived.Test.YtffabihenhejfaaRpd
import Derived.Test.YtffabihenhejfaaOpen
namespace Go.Proofs.Ytffabihenhejfaa
open Go.RowKit
set_option linter.unusedVariables false

theorem pread_all (W : World) (calls : List CV) (sb : Nat) (callsV : Value) (hcalls : CallsOk W callsV calls) (hcap : ∀ i, i < calls.length → SrcOk W (calls.getD i CV.default).bv (calls.getD i CV.default).xs) (fuel : Nat) : ReadC W calls sb callsV fuel := by
  induction fuel using Nat.strongRecOn with
  | ind f ih => exact pread_ok W calls sb callsV hcalls hcap f ih

/-- What is told is no longer than what was handed in. -/
def SmallT (s : PS) : Prop := (∀ i, i < s.rs.length → BytesOk (s.rs.getD i [])) ∧ ∀ y ∈ s.told, y.2.2.length ≤ 140737488351232

theorem oneD_told {k n : Int} {xs : List Int} (hb : BytesOk xs) {g : Int × List Int} {rest : List Int} (h : oneD k n xs = .ok (g, rest)) : g.2.length ≤ 140737488351232 := by
  have l1 : ∀ {d : Except Int (Int × List Int)}, lift1 d = .ok (g, rest) → g.2.length ≤ 140737488351232 := fun {d} hf => by
    cases d with
    | error e => cases hf
    | ok p => obtain ⟨u, r⟩ := p; cases hf; exact Nat.zero_le _
  have l2 : ∀ {d : Except Int (List Int × List Int)}, lift2 d = .ok (g, rest) → d = .ok (g.2, rest) := fun {d} hf => by
    cases d with
    | error e => cases hf
    | ok p => obtain ⟨u, r⟩ := p; cases hf; rfl
  have hraw : ∀ {m : Int} {zs ys rest : List Int}, rawD m zs = .ok (ys, rest) → ys.length ≤ zs.length := fun {m zs ys rest} hf => by
    unfold rawD at hf
    split at hf
    · cases hf
    · split at hf
      · cases hf
      · cases hf
        rw [List.length_take]
        omega
  have hnum : ∀ {u : Int} {rest : List Int}, numD xs = .ok (u, rest) → rest.length ≤ xs.length := fun {u rest} hf => by
    have hf := (numD_ok hf).1
    rcases formD_cases xs hb.1 with ⟨u', rest', h', he, _⟩ | h' | h'
    · rw [h'] at hf; cases hf; rw [he, List.length_append]; omega
    · rw [h'.1] at hf; cases hf
    · rw [h'.1] at hf; cases hf
  have hbytes : ∀ {ys rest : List Int}, bytesD xs = .ok (ys, rest) → ys.length ≤ xs.length := fun {ys rest} hf => by
    unfold bytesD at hf
    cases hd : numD xs with
    | error e => rw [hd] at hf; cases hf
    | ok p =>
      obtain ⟨u, r⟩ := p
      rw [hd] at hf
      exact Nat.le_trans (hraw hf) (hnum hd)
  have hx := hb.2
  unfold oneD at h
  split at h
  · exact l1 h
  split at h
  · exact l1 h
  split at h
  · exact l1 h
  split at h
  · exact Nat.le_trans (hbytes (l2 h)) hx
  split at h
  · exact Nat.le_trans (hbytes (l2 h)) hx
  split at h
  · exact Nat.le_trans (hraw (l2 h)) hx
  split at h
  · exact l1 h
  split at h
  · cases h; exact Nat.zero_le _
  split at h
  · cases h; exact Nat.zero_le _
  · cases h

theorem callP_small {c : CV} {s : PS} (h : SmallT s) (hn : 0 < s.rs.length) : SmallT (callP c s).1 := by
  have hj : whichR c.o s.rs.length < s.rs.length := by unfold whichR; omega
  refine ⟨callP_bytes (o := (callP c s).2) h.1 hj rfl, ?_⟩
  unfold callP
  by_cases hk : 1 ≤ c.k ∧ c.k ≤ 9
  · rw [if_pos hk]
    cases hd : oneD c.k c.n (s.rs.getD (s.rs.length - 1 - (c.o % (s.rs.length : Int)).toNat) []) with
    | error flt => exact h.2
    | ok p =>
      obtain ⟨g, rest⟩ := p
      intro y hy
      rcases List.mem_append.1 hy with hy | hy
      · exact h.2 y hy
      · rw [List.mem_singleton.1 hy]
        exact oneD_told (h.1 _ hj) hd
  · rw [if_neg hk]; exact h.2

theorem SmallT.take {t : PS} (h : SmallT t) (n : Nat) (l : List Int) : SmallT { t with rs := t.rs.take n, rets := l } := by
  refine ⟨fun i hi => ?_, h.2⟩
  dsimp only at hi ⊢
  rw [List.length_take] at hi
  rw [List.getD, List.getElem?_take, if_pos (by omega)]
  exact h.1 i (by omega)

theorem play_small (calls : List CV) (hc : ∀ i, i < calls.length → BytesOk (calls.getD i CV.default).xs) (fuel : Nat) : ∀ (n : Int) (s : PS), SmallT s → 0 < s.rs.length → SmallT (play calls fuel n s).1 := by
  induction fuel with
  | zero => intro n s h _; exact h
  | succ fuel ih =>
    intro n s h hr
    unfold play
    by_cases hh : 0 < n ∧ s.pos < calls.length ∧ s.pos < 400
    · rw [if_pos hh]
      have hcx := hc s.pos hh.2.1
      generalize calls.getD s.pos CV.default = c at *
      by_cases h10 : c.k = 10
      · rw [if_pos h10]
        by_cases h20 : s.rs.length < 20
        · rw [if_pos h20]
          have hs1 : SmallT { s with pos := s.pos + 1, rs := s.rs ++ [c.xs], many := s.many + 1 } := ⟨fun i hi => by
            dsimp only at hi ⊢
            rw [List.length_append, List.length_singleton] at hi
            by_cases e : i < s.rs.length
            · rw [List.getD, List.getElem?_append_left e]; exact h.1 i e
            · rw [show i = s.rs.length by omega, List.getD, List.getElem?_append_right (Nat.le_refl _), Nat.sub_self]; exact hcx, h.2⟩
          have h1 := ih c.n { s with pos := s.pos + 1, rs := s.rs ++ [c.xs], many := s.many + 1 } hs1 (by simp)
          have hp := play_pos calls fuel c.n { s with pos := s.pos + 1, rs := s.rs ++ [c.xs], many := s.many + 1 }
          cases hpl : play calls fuel c.n { s with pos := s.pos + 1, rs := s.rs ++ [c.xs], many := s.many + 1 } with
          | mk t o =>
            rw [hpl] at h1 hp
            dsimp only at h1 hp
            rw [List.length_append, List.length_singleton] at hp
            have htk : 0 < (t.rs.take s.rs.length).length := by rw [List.length_take]; omega
            cases o with
            | none => exact ih (n - 1) _ (h1.take _ _) htk
            | some jf =>
              obtain ⟨j, flt⟩ := jf
              dsimp only
              by_cases hj : j = s.rs.length
              · rw [if_pos hj]; exact ih (n - 1) _ (h1.take _ _) htk
              · rw [if_neg hj]; exact h1
        · rw [if_neg h20]; exact ih (n - 1) { s with pos := s.pos + 1 } h hr
      · rw [if_neg h10]
        have h2 := callP_small (c := c) (s := { s with pos := s.pos + 1 }) h hr
        have hp := (callP_pos c { s with pos := s.pos + 1 }).2
        cases hpl : callP c { s with pos := s.pos + 1 } with
        | mk t o =>
          rw [hpl] at h2 hp
          dsimp only at h2 hp
          cases o with
          | none => exact ih (n - 1) t h2 (by omega)
          | some jf => exact h2
    · rw [if_neg hh]; exact h

/-- The Read of the law itself. -/
theorem top_read (W : World) (calls : List CV) (sb : Nat) (callsV : Value) (fuel : Nat) (hih : RunC W calls sb callsV fuel) (w w2 : World) (κ : Nat → Nat) (rV kV tV eV : Value) (s : PS) (cn : Int) (cxs : List Int) (yb g : Nat)
    (hsc : Sc W w κ sb callsV [] [] [] rV kV tV eV [] s []) (hlive : Live w [] [] s.rs) (hk : Kept (fun _ => False) w w2) (hyb : w2.heap[yb]? = some (.cells #[.pointer (some ⟨sb, 0, none⟩), .int .i64 cn] 41 (0, 0))) (hy : w.heap.size ≤ yb) (hg : w.heap.size ≤ g) (hg2 : g < w2.heap.size) (hgy : g ≠ yb) (hle : Lent w2 g cxs 5) (hco : BytesOk cxs)
    (hn0 : -9223372036854775808 ≤ cn) (hn1 : cn ≤ 9223372036854775807) (hfu : 400 < s.pos + fuel) :
    Calls Try.prog 14 #[.slice (some ⟨g, 0, none⟩) cxs.length (cxs.length + 5), .func (.func 15) #[.pointer (some ⟨yb, 0, none⟩)] #[]] w2 fun e w4 =>
      ∃ t x, (play calls fuel cn { s with rs := s.rs ++ [cxs], many := s.many + 1 } = (t, none) ∧ x = tailOf (t.rs.getD 0 []).length 0 ∨ play calls fuel cn { s with rs := s.rs ++ [cxs], many := s.many + 1 } = (t, some (0, x))) ∧ e = .returned (.int .i64 x) ∧ LvG W κ w sb callsV [] [] { t with rs := t.rs.take 0 } g w4 ∧ Lent w4 g cxs 5 := by
  have hir : IsR w2 g (.slice (some ⟨g, 0, none⟩) cxs.length (cxs.length + 5)) cxs := by
    have := hco.2
    obtain ⟨cur, l0, l1, l2, l3⟩ := hle
    exact .inr ⟨0, cxs.length + 5, rfl, by omega, by omega, by unfold maxLen; omega, fun i hi => by rw [cell_block _ _ _ _ _ _ l0, Nat.zero_add]; exact l2 i hi⟩
  have hs := hk.size
  have hk3 : Kept (fun _ => False) w2 ((w2.alloc (.cells #[.slice (some ⟨g, 0, none⟩) cxs.length (cxs.length + 5), .bool true, .int .i64 0] 82)).alloc (.cells #[.pointer (some ⟨w2.heap.size, 0, none⟩)] 56)) := ((Kept.refl _ _).alloc _).alloc _
  have hir' := inner_run W calls sb callsV fuel hih w w2 κ [] [] [] rV kV tV eV [] s cn cxs yb g _ _ hsc hlive hk hyb hy hg hg2 hgy hir hco hn0 hn1 (by decide) hfu (Nat.zero_le _)
  refine (read_x (.pointer (some ⟨yb, 0, none⟩)) _ _ _ w2 _ _ _ hir').mono ?_
  clear hir'
  have hkk := hk.trans hk3
  have hgr : g ≠ w2.heap.size := by omega
  have k3s := hk3.size
  have kk : ∀ {w1 w4 : World}, Kept (fun q => 1 ≤ inκ κ w g w2.heap.size q ∧ inκ κ w g w2.heap.size q ≤ 6) ((w2.alloc (.cells #[.slice (some ⟨g, 0, none⟩) cxs.length (cxs.length + 5), .bool true, .int .i64 0] 82)).alloc (.cells #[.pointer (some ⟨w2.heap.size, 0, none⟩)] 56)) w1 → Kept (fun k => k = w2.heap.size) w1 w4 → Kept (fun q => q < w.heap.size ∧ 1 ≤ κ q ∧ κ q ≤ 6) w2 w4 := fun {w1 w4} h1 h2 => by
    refine ((hk3.mono (fun _ _ f => f.elim)).step h1 (fun q hq e => ?_)).step h2 (fun q hq e => by omega)
    unfold inκ at e
    by_cases e1 : q = g
    · rw [if_pos e1] at e; omega
    · rw [if_neg e1, if_neg (by omega)] at e
      by_cases e2 : q < w.heap.size
      · rw [if_pos e2] at e; exact ⟨e2, e⟩
      · rw [if_neg e2] at e; omega
  rintro e w4 (⟨m, w1, rfl, ⟨t, hp, rfl, hlv⟩, hd, hk4⟩ | ⟨flt, w1, rfl, ⟨t, hp, htv⟩, hd, hk4⟩ | ⟨q, older, w1, hne, hpl, rfl, ⟨t, j, flt, rfl, hj, hp, htv⟩, hd, hk4⟩)
  · have hkp : Kept (fun q => q < w.heap.size ∧ 1 ≤ κ q ∧ κ q ≤ 6) w2 w4 := by
      obtain ⟨_, _, _, _, _, _, _, _, _, h3, _⟩ := hlv
      exact kk h3 hk4
    exact ⟨t, _, .inl ⟨hp, rfl⟩, rfl, after_ret hkk hg hs (by omega) hgr hsc.rblt hsc.gslt hlive.2.1 hlv ⟨_, hd⟩ hk4, hle.kept hkp (fun h => by omega)⟩
  · have hkp : Kept (fun q => q < w.heap.size ∧ 1 ≤ κ q ∧ κ q ≤ 6) w2 w4 := by
      obtain ⟨_, _, _, _, _, _, _, _, _, _, _, _, _, _, h3, _⟩ := htv
      exact kk h3 hk4
    exact ⟨t, _, .inr hp, rfl, after_caught hkk hg hs (by omega) hgr hsc.rblt hsc.gslt hlive.2.1 htv ⟨_, hd⟩ hk4, hle.kept hkp (fun h => by omega)⟩
  · exact absurd hj (by simp)

/-- The program's side, behind its Read. -/
def EndS (W w : World) (sb : Nat) (callsV : Value) (kb : List Nat) (kV tV eV : Value) (told : List ItV) (s : PS) : Prop :=
  ∃ κ ex rV, Rep w κ sb callsV ex kb [] rV kV tV eV told s ∧ (∀ b, b ∈ kb → Dead w b) ∧ Kept (fun _ => False) W w ∧ (∀ q, q < W.heap.size → κ q = 0) ∧ kb.length ≤ 401 ∧ told.length ≤ 400 ∧ s.rets.length ≤ 400

section
variable {W w w' : World} {sb : Nat} {callsV : Value} {kb : List Nat} {kV tV eV : Value} {told : List ItV} {s : PS}

theorem LvG.ends {W w w0 : World} {κ0 : Nat → Nat} {sb g : Nat} {callsV : Value} {s : PS} (h : LvG W κ0 w0 sb callsV [] [] s g w) : ∃ kb kV tV eV told, EndS W w sb callsV kb kV tV eV told s := by
  obtain ⟨κ, kb, ex, gR, m, rc, kV, tV, eV, told, hsc, _, _, _, _⟩ := h
  have h1 := hsc.kl
  have h2 := hsc.p4
  have h3 := hsc.tl
  have h4 := hsc.el
  exact ⟨kb, kV, tV, eV, told, κ, [] ++ ex, _, hsc.rep, fun b hb => hsc.dead b hb (by simp), hsc.base, hsc.b0, by omega, by omega, by omega⟩

theorem EndS.new (h : EndS W w sb callsV kb kV tV eV told s) (hk : Kept (fun _ => False) w w') : EndS W w' sb callsV kb kV tV eV told s := by
  obtain ⟨κ, ex, rV, h1, h2, h3, h4, h5⟩ := h
  exact ⟨κ, ex, rV, h1.new hk, fun b hb => (h2 b hb).kept hk (fun f => f), h3.trans hk, h4, h5⟩

theorem EndS.over (h : EndS W w sb callsV kb kV tV eV told s) {b : Nat} (hb : b ∈ kb) (hd : Dead w' b) (hk : Kept (fun k => k = b) w w') : EndS W w' sb callsV kb kV tV eV told s := by
  obtain ⟨κ, ex, rV, h1, h2, h3, h4, h5⟩ := h
  have h6 := (h1.c6 b hb).1
  refine ⟨κ, ex, rV, h1.kept hk (fun q hq e => .inl (by rw [e]; exact h6)) (fun _ _ => rfl), fun b' hb' => ?_, h3.step hk (fun q hq e => by have := h4 q hq; rw [e, h6] at this; omega), h4, h5⟩
  by_cases e : b' = b
  · rw [e]; exact hd
  · exact (h2 b' hb').kept hk e

theorem EndS.cells (h : EndS W w sb callsV kb kV tV eV told s) : w.cell? ⟨sb, 3, none⟩ = some kV ∧ w.cell? ⟨sb, 4, none⟩ = some tV ∧ w.cell? ⟨sb, 5, none⟩ = some eV ∧ w.cell? ⟨sb, 6, none⟩ = some (.bool false) ∧ sb < w.heap.size := by
  obtain ⟨κ, ex, rV, h1, h2⟩ := h
  obtain ⟨_, _, _, c3, c4, c5, c6⟩ := h1.cells
  exact ⟨c3, c4, c5, c6, h1.lt⟩

theorem row_ptrs {w : World} {l : List Nat} {e : TypeId} {v : Value} (h : w.ownsRow 0 e 1 v l.length (l.map ptrV)) : ∃ ao c, v = .slice ao l.length c ∧ ∀ i, i < l.length → ∃ g, ao = some ⟨g, 0, none⟩ ∧ g < w.heap.size ∧ w.cell? ⟨g, i, none⟩ = some (.pointer (some ⟨l.getD i 0, 0, none⟩)) := by
  obtain ⟨ao, c, hv⟩ := ownsRow_shape h
  refine ⟨ao, c, hv, fun i hi => ?_⟩
  rcases World.ownsRow.mk' h with ⟨_, h0⟩ | ⟨g, cap, e⟩
  · omega
  · rw [e] at hv
    cases hv
    have hc := World.ownsRow.cells h (g := g) (by rw [e]; rfl) i (ptrV (l.getD i 0)) (by simp [List.getElem?_map, List.getElem?_eq_getElem hi, List.getD])
    rw [Addr.add_lit, Nat.zero_add] at hc
    exact ⟨g, rfl, World.block_lt_of_cell? _ _ hc, hc⟩

theorem row_ints {w : World} {l : List Int} {e : TypeId} {v : Value} (h : w.ownsRow 0 e 1 v l.length (l.map (Value.int .i64))) : ∃ ao c, v = .slice ao l.length c ∧ ∀ i, i < l.length → ∃ g, ao = some ⟨g, 0, none⟩ ∧ g < w.heap.size ∧ w.cell? ⟨g, i, none⟩ = some (.int .i64 (l.getD i 0)) := by
  obtain ⟨ao, c, hv⟩ := ownsRow_shape h
  refine ⟨ao, c, hv, fun i hi => ?_⟩
  rcases World.ownsRow.mk' h with ⟨_, h0⟩ | ⟨g, cap, e⟩
  · omega
  · rw [e] at hv
    cases hv
    have hc := World.ownsRow.cells h (g := g) (by rw [e]; rfl) i (.int .i64 (l.getD i 0)) (by simp [List.getElem?_map, List.getElem?_eq_getElem hi, List.getD])
    rw [Addr.add_lit, Nat.zero_add] at hc
    exact ⟨g, rfl, World.block_lt_of_cell? _ _ hc, hc⟩

theorem row_gots {w : World} {l : List ItV} {v : Value} (h : w.ownsRow 0 54 3 v l.length (l.flatMap ItV.cells)) : ∃ ao c, v = .slice ao l.length c ∧ ∀ i, i < l.length → ∃ g, ao = some ⟨g, 0, none⟩ ∧ g < w.heap.size ∧ w.cell? ⟨g, i * 3, none⟩ = some (.int .i64 (l.getD i ItV.default).k) ∧ w.cell? ⟨g, i * 3 + 1, none⟩ = some (.int .i64 (l.getD i ItV.default).n) ∧ w.cell? ⟨g, i * 3 + 2, none⟩ = some (l.getD i ItV.default).bv := by
  obtain ⟨ao, c, hv⟩ := ownsRow_shape h
  refine ⟨ao, c, hv, fun i hi => ?_⟩
  rcases World.ownsRow.mk' h with ⟨_, h0⟩ | ⟨g, cap, e⟩
  · omega
  · rw [e] at hv
    cases hv
    have hc : ∀ j u, j < 3 → (l.getD i ItV.default).cells[j]? = some u → w.cell? ⟨g, i * 3 + j, none⟩ = some u := fun j u hj hu => by
      have := World.ownsRow.cells h (g := g) (by rw [e]; rfl) (i * 3 + j) u (by rw [flat_at l i j hi hj]; exact hu)
      rw [Addr.add_lit, Nat.zero_add] at this
      exact this
    have h0 := hc 0 _ (by decide) rfl
    exact ⟨g, rfl, World.block_lt_of_cell? _ _ h0, h0, hc 1 _ (by decide) rfl, hc 2 _ (by decide) rfl⟩
end
end Go.Proofs.Ytffabihenhejfaa

namespace Go.Proofs.Ytffabihenhejfaa
open Go.RowKit
set_option linter.unusedVariables false

def ps0 : PS := ⟨0, [], [], [], 0⟩

theorem start_sc (W : World) (callsV : Value) : Sc W (W.alloc (.cells #[callsV, .int .i64 0, .slice none 0 0, .slice none 0 0, .slice none 0 0, .slice none 0 0, .bool false] 38)) (fun q => if q = W.heap.size then 1 else 0) W.heap.size callsV [] [] [] (.slice none 0 0) (.slice none 0 0) (.slice none 0 0) (.slice none 0 0) [] ps0 [] ∧ Live (W.alloc (.cells #[callsV, .int .i64 0, .slice none 0 0, .slice none 0 0, .slice none 0 0, .slice none 0 0, .bool false] 38)) [] [] ps0.rs := by
  have hn := heap_alloc_new W (.cells #[callsV, .int .i64 0, .slice none 0 0, .slice none 0 0, .slice none 0 0, .slice none 0 0, .bool false] 38)
  refine ⟨⟨⟨hn, World.ownsRow_nil _ _ _ _, World.ownsRow_nil _ _ _ _, World.ownsRow_nil _ _ _ _, World.ownsRow_nil _ _ _ _, if_pos rfl, fun q hq => (by cases hq), fun q hq => (by cases hq), fun q hq => (by cases hq), fun q hq => (by cases hq), fun b hb => (by cases hb), fun b hb => (by cases hb), List.nodup_nil, List.nodup_nil, fun b hb => hb, rfl, rfl, fun i hi => absurd hi (by simp), fun i hi => absurd hi (by simp)⟩, (Kept.refl _ _).alloc _, fun q hq => if_neg (by omega), fun b hb => (by cases hb), Nat.le_refl _, Nat.le_refl _, Nat.zero_le _, Nat.zero_le _, fun i hi => absurd hi (by simp [ps0])⟩, rfl, rfl, fun i hi => absurd hi (by simp)⟩

theorem start_scp (W : World) (callsV : Value) : ScP W (W.alloc (.cells #[callsV, .int .i64 0, .slice none 0 0, .slice none 0 0, .slice none 0 0, .int .i64 0] 51)) (fun q => if q = W.heap.size then 1 else 0) W.heap.size callsV [] (.slice none 0 0) (.slice none 0 0) (.slice none 0 0) [] ps0 ∧ LiveP W (W.alloc (.cells #[callsV, .int .i64 0, .slice none 0 0, .slice none 0 0, .slice none 0 0, .int .i64 0] 51)) [] ps0.rs := by
  have hn := heap_alloc_new W (.cells #[callsV, .int .i64 0, .slice none 0 0, .slice none 0 0, .slice none 0 0, .int .i64 0] 51)
  refine ⟨⟨⟨hn, World.ownsRow_nil _ _ _ _, World.ownsRow_nil _ _ _ _, World.ownsRow_nil _ _ _ _, if_pos rfl, fun q hq => (by cases hq), fun q hq => (by cases hq), fun q hq => (by cases hq), fun b hb => (by cases hb), List.nodup_nil, rfl, fun i hi => absurd hi (by simp), fun i hi => absurd hi (by simp)⟩, (Kept.refl _ _).alloc _, fun q hq => if_neg (by omega), Nat.le_refl _, Nat.le_refl _, Nat.zero_le _, Nat.zero_le _⟩, rfl, fun i hi => absurd hi (by simp)⟩

theorem ReadPost.ends {W w w' : World} {calls : List CV} {κ : Nat → Nat} {pb fuel : Nat} {callsV : Value} {N x : Int} {s t : PS} {e : Ending} (h : ReadPost W calls κ w pb callsV [] fuel N s e w') (hp : play calls fuel N s = (t, none) ∧ x = tailOf (t.rs.getD 0 []).length 0 ∨ play calls fuel N s = (t, some (0, x))) :
    e = .returned (.tuple #[.int .i64 x, .bool true]) ∧ ∃ κ2 rb rV tV eV told, ScP W w' κ2 pb callsV rb rV tV eV told t := by
  obtain ⟨r, ⟨t2, h5, rfl, h7⟩ | ⟨t2, flt, h5, rfl, h7⟩ | ⟨t2, j, flt, h5, hj, h6, h7⟩⟩ := h
  · rcases hp with ⟨hp, hx⟩ | hp
    · rw [h5] at hp
      cases hp
      obtain ⟨κ2, rV, tV, eV, told, hsc, _⟩ := h7
      exact ⟨by rw [hx]; rfl, κ2, _, rV, tV, eV, told, hsc⟩
    · rw [h5] at hp; cases hp
  · rcases hp with ⟨hp, hx⟩ | hp
    · rw [h5] at hp; cases hp
    · rw [h5] at hp
      cases hp
      obtain ⟨κ2, rV, tV, eV, told, hsc, _⟩ := h7
      exact ⟨rfl, κ2, _, rV, tV, eV, told, hsc⟩
  · exact absurd hj (by simp)

theorem told_same {a b : List ItV} (h : a.map (fun y => (y.k, y.n, y.xs)) = b.map (fun y => (y.k, y.n, y.xs))) : b.length = a.length ∧ ∀ i, i < a.length → (b.getD i ItV.default).k = (a.getD i ItV.default).k ∧ (b.getD i ItV.default).n = (a.getD i ItV.default).n ∧ (b.getD i ItV.default).xs = (a.getD i ItV.default).xs := by
  have hl : b.length = a.length := by have := congrArg List.length h; simpa using this.symm
  refine ⟨hl, fun i hi => ?_⟩
  have hg := congrArg (fun l => l[i]?) h
  have hi2 : i < b.length := by omega
  simp only [List.getElem?_map, List.getElem?_eq_getElem hi, List.getElem?_eq_getElem hi2, Option.map_some, Option.some.injEq, Prod.mk.injEq] at hg
  simp only [List.getD, List.getElem?_eq_getElem hi, List.getElem?_eq_getElem hi2, Option.getD_some]
  exact ⟨hg.1.symm, hg.2.1.symm, hg.2.2.symm⟩

/-- What both sides told, side by side. -/
def Gots (w : World) (tao tao2 : Option Addr) (T : Nat) : Prop :=
  ∀ i, i < T → ∃ (g g2 : Nat) (k n : Int) (bao bao2 : Option Addr) (bc bc2 : Nat) (ys : List Int), tao = some ⟨g, 0, none⟩ ∧ tao2 = some ⟨g2, 0, none⟩ ∧ g < w.heap.size ∧ g2 < w.heap.size ∧
    w.cell? ⟨g, i * 3, none⟩ = some (.int .i64 k) ∧ w.cell? ⟨g, i * 3 + 1, none⟩ = some (.int .i64 n) ∧ w.cell? ⟨g, i * 3 + 2, none⟩ = some (.slice bao ys.length bc) ∧
    w.cell? ⟨g2, i * 3, none⟩ = some (.int .i64 k) ∧ w.cell? ⟨g2, i * 3 + 1, none⟩ = some (.int .i64 n) ∧ w.cell? ⟨g2, i * 3 + 2, none⟩ = some (.slice bao2 ys.length bc2) ∧ IsB w (.slice bao ys.length bc) ys ∧ IsB w (.slice bao2 ys.length bc2) ys ∧ ys.length ≤ 140737488351232

/-- What both sides' inner Reads answered. -/
def Rets (w : World) (eao eao2 : Option Addr) (R : Nat) : Prop :=
  ∀ i, i < R → ∃ (g g2 : Nat) (y : Int), eao = some ⟨g, 0, none⟩ ∧ eao2 = some ⟨g2, 0, none⟩ ∧ g < w.heap.size ∧ g2 < w.heap.size ∧ w.cell? ⟨g, i, none⟩ = some (.int .i64 y) ∧ w.cell? ⟨g2, i, none⟩ = some (.int .i64 y)

theorem both_ends {W W5 w : World} {sb pb : Nat} {callsV kV tV eV rV2 tV2 eV2 : Value} {kb rb : List Nat} {told told2 : List ItV} {t : PS} {κ2 : Nat → Nat} (hS : EndS W w sb callsV kb kV tV eV told { t with rs := t.rs.take 0 }) (hP : ScP W5 w κ2 pb callsV rb rV2 tV2 eV2 told2 t) (hsm : ∀ y ∈ t.told, y.2.2.length ≤ 140737488351232) :
    ∃ (M T R : Nat) (kao tao tao2 eao eao2 : Option Addr) (kc tc tc2 ec ec2 : Nat), kb.length = M ∧ M ≤ 401 ∧ T ≤ 400 ∧ R ≤ 400 ∧ kV = .slice kao M kc ∧ tV = .slice tao T tc ∧ eV = .slice eao R ec ∧
      w.cell? ⟨sb, 3, none⟩ = some (.slice kao M kc) ∧ w.cell? ⟨sb, 4, none⟩ = some (.slice tao T tc) ∧ w.cell? ⟨sb, 5, none⟩ = some (.slice eao R ec) ∧ w.cell? ⟨sb, 6, none⟩ = some (.bool false) ∧ sb < w.heap.size ∧
      w.cell? ⟨pb, 3, none⟩ = some (.slice tao2 T tc2) ∧ w.cell? ⟨pb, 4, none⟩ = some (.slice eao2 R ec2) ∧ w.cell? ⟨pb, 5, none⟩ = some (.int .i64 (M : Int)) ∧ pb < w.heap.size ∧ Gots w tao tao2 T ∧ Rets w eao eao2 R := by
  obtain ⟨c3, c4, c5, c6, hsl⟩ := hS.cells
  obtain ⟨κ, ex, rV, hr, _, _, _, hkl, htl, hrl⟩ := hS
  obtain ⟨_, _, _, p3, p4, p5⟩ := hP.rep.cells
  obtain ⟨hll, hsame⟩ := told_same (hr.tmap.trans hP.rep.tmap.symm)
  obtain ⟨kao, kc, hk, _⟩ := row_ptrs hr.krow
  obtain ⟨tao, tc, ht, ht2⟩ := row_gots hr.trow
  obtain ⟨tao2, tc2, hu, hu2⟩ := row_gots hP.rep.trow
  obtain ⟨eao, ec, he, he2⟩ := row_ints hr.erow
  obtain ⟨eao2, ec2, hf, hf2⟩ := row_ints hP.rep.erow
  have hklen : kb.length = t.many := hr.klen
  refine ⟨kb.length, told.length, t.rets.length, kao, tao, tao2, eao, eao2, kc, tc, tc2, ec, ec2, rfl, hkl, htl, hrl, hk, ht, he, by rw [c3, hk], by rw [c4, ht], by rw [c5, he], c6, hsl, by rw [p3, hu, hll], by rw [p4, hf], by rw [p5, hklen], hP.rep.lt, fun i hi => ?_, fun i hi => ?_⟩
  · obtain ⟨g, h1, h2, h3, h4, h5⟩ := ht2 i hi
    obtain ⟨g2, j1, j2, j3, j4, j5⟩ := hu2 i (by omega)
    obtain ⟨s1, s2, s3⟩ := hsame i hi
    have i1 := hr.tis i hi
    have i2 := hP.rep.tis i (by omega)
    obtain ⟨bao, bc, hb1⟩ := i1.shape
    obtain ⟨bao2, bc2, hb2⟩ := i2.shape
    rw [s3] at hb2 i2
    rw [hb1] at h5 i1
    rw [hb2] at j5 i2
    rw [s1] at j3
    rw [s2] at j4
    refine ⟨g, g2, _, _, bao, bao2, bc, bc2, (told.getD i ItV.default).xs, h1, j1, h2, j2, h3, h4, h5, j3, j4, j5, i1, i2, ?_⟩
    have hmem : ((told.getD i ItV.default).k, (told.getD i ItV.default).n, (told.getD i ItV.default).xs) ∈ t.told := by
      have hm : told.map (fun y => (y.k, y.n, y.xs)) = t.told := hr.tmap
      rw [← hm, List.getD, List.getElem?_eq_getElem hi]
      exact List.mem_map.2 ⟨_, List.getElem_mem hi, rfl⟩
    exact hsm _ hmem
  · obtain ⟨g, h1, h2, h3⟩ := he2 i hi
    obtain ⟨g2, j1, j2, j3⟩ := hf2 i hi
    exact ⟨g, g2, _, h1, j1, h2, j2, h3, j3⟩

theorem EndS.kept1 {W w : World} {sb : Nat} {callsV : Value} {kb : List Nat} {kV tV eV : Value} {told : List ItV} {s : PS} (h : EndS W w sb callsV kb kV tV eV told s) (i : Nat) (hi : i < kb.length) : ∃ g c, kV = .slice (some ⟨g, 0, none⟩) kb.length c ∧ g < w.heap.size ∧ w.cell? ⟨g, i, none⟩ = some (.pointer (some ⟨kb.getD i 0, 0, none⟩)) ∧ Dead w (kb.getD i 0) ∧ kb.getD i 0 ∈ kb := by
  obtain ⟨κ, ex, rV, hr, hd, _⟩ := h
  obtain ⟨kao, kc, hk, hk2⟩ := row_ptrs hr.krow
  obtain ⟨g, h1, h2, h3⟩ := hk2 i hi
  rw [h1] at hk
  exact ⟨g, kc, hk, h2, h3, hd _ (mem_getD hi), mem_getD hi⟩
end Go.Proofs.Ytffabihenhejfaa
