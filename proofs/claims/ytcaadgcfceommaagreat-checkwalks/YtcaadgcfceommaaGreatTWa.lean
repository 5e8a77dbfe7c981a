/-
  TWa: Wa, Wb, Wc.
-/
import Derived.Test.YtcaadgcfceommaaGreatTTd
import Derived.Test.YtcaadgcfceommaaGreatTHi
namespace Go.Proofs.YtcaadgcfceommaaGreat
open Go.RowKit
set_option linter.unusedVariables false
set_option linter.unusedSimpArgs false
set_option maxRecDepth 100000

def frC (c : FR) (bv : Value) : List Value := [.int .i64 (c.fn : Int), .int .i64 (c.at' : Int), .int .i64 c.high, bv]
def frsC : List FR → List Value → List Value
  | c :: cs, b :: bv => frC c b ++ frsC cs bv
  | _, _ => []
theorem frsC_at : ∀ (cs : List FR) (bv : List Value) (i : Nat) (c : FR) (b : Value), cs[i]? = some c → bv[i]? = some b → ∀ (k : Nat) (x : Value), (frC c b)[k]? = some x → (frsC cs bv)[i * 4 + k]? = some x
  | [], bv, i, c, b, h, _, k, x, _ => by simp at h
  | c0 :: cs, [], i, c, b, _, h, k, x, _ => by simp at h
  | c0 :: cs, b0 :: bv, 0, c, b, h, h', k, x, hx => by
    simp only [List.getElem?_cons_zero, Option.some.injEq] at h h'
    subst h; subst h'
    have hk : k < 4 := (List.getElem?_eq_some_iff.1 hx).1
    show (frC c0 b0 ++ frsC cs bv)[0 * 4 + k]? = some x
    rw [Nat.zero_mul, Nat.zero_add, List.getElem?_append_left (by simpa [frC] using hk)]
    exact hx
  | c0 :: cs, b0 :: bv, i + 1, c, b, h, h', k, x, hx => by
    show (frC c0 b0 ++ frsC cs bv)[(i + 1) * 4 + k]? = some x
    have e : (i + 1) * 4 + k = (frC c0 b0).length + (i * 4 + k) := by simp [frC]; omega
    rw [e, List.getElem?_append_right (by omega), Nat.add_sub_cancel_left]
    exact frsC_at cs bv i c b (by simpa using h) (by simpa using h') k x hx
theorem frsC_len : ∀ (cs : List FR) (bv : List Value), bv.length = cs.length → (frsC cs bv).length = cs.length * 4
  | [], [], _ => rfl
  | [], b :: bv, h => by simp at h
  | c :: cs, [], h => by simp at h
  | c :: cs, b :: bv, h => by
    show (frC c b ++ frsC cs bv).length = _
    rw [List.length_append, frsC_len cs bv (by simpa using h)]
    simp [frC]; omega
theorem frsC_app : ∀ (cs ds : List FR) (bv cv : List Value), bv.length = cs.length → frsC (cs ++ ds) (bv ++ cv) = frsC cs bv ++ frsC ds cv
  | [], ds, [], cv, _ => rfl
  | [], ds, b :: bv, cv, h => by simp at h
  | c :: cs, ds, [], cv, h => by simp at h
  | c :: cs, ds, b :: bv, cv, h => by
    show frC c b ++ frsC (cs ++ ds) (bv ++ cv) = (frC c b ++ frsC cs bv) ++ frsC ds cv
    rw [frsC_app cs ds bv cv (by simpa using h), List.append_assoc]
/-- The row of the calls under way, the first one first. -/
structure Frs (w : World) (B : Nat) (v : Value) (fs : List FR) (bv : List Value) : Prop where
  row : w.ownsRow B 58 4 v fs.length (frsC fs bv)
  len : bv.length = fs.length
  been : ∀ (i : Nat) (c : FR) (b : Value), fs[i]? = some c → bv[i]? = some b → OwnL w B b c.been.length c.been
  some' : ∀ b ∈ bv, ∃ g, b.ownBlock = some g
  ap : bv.Pairwise (fun (b b' : Value) => b.ownBlock ≠ b'.ownBlock)
theorem Frs.kept {S : Nat → Prop} {w w' : World} {B : Nat} {v : Value} {fs : List FR} {bv : List Value} (h : Frs w B v fs bv) (hk : Kept S w w') (hS : ∀ q, B ≤ q → ¬ S q) : Frs w' B v fs bv :=
  ⟨hk.ownsRow h.row (fun q hq => hS q (h.row.lt q hq).1), h.len, fun i c b hc hb => hk.ownsRow (h.been i c b hc hb) (fun q hq => hS q ((h.been i c b hc hb).lt q hq).1), h.some', h.ap⟩
theorem Frs.same {w w' : World} {B : Nat} {v : Value} {fs : List FR} {bv : List Value} (h : Frs w B v fs bv) (hk : Kept (fun _ => False) w w') : Frs w' B v fs bv := h.kept hk (fun _ _ f => f)
theorem Frs.look {w : World} {B : Nat} {v : Value} {fs : List FR} {bv : List Value} (h : Frs w B v fs bv) {i : Nat} {c : FR} (hc : fs[i]? = some c) : ∃ g cap b, v = .slice (some ⟨g, 0, none⟩) fs.length cap ∧ bv[i]? = some b ∧ w.cell? ⟨g, i * 4, none⟩ = some (.int .i64 (c.fn : Int)) ∧ w.cell? ⟨g, i * 4 + 1, none⟩ = some (.int .i64 (c.at' : Int)) ∧ w.cell? ⟨g, i * 4 + 2, none⟩ = some (.int .i64 c.high) ∧ w.cell? ⟨g, i * 4 + 3, none⟩ = some b ∧ OwnL w B b c.been.length c.been := by
  have hi : i < fs.length := (List.getElem?_eq_some_iff.1 hc).1
  obtain ⟨g, cap, e⟩ := own_at9 h.row (by omega)
  have hib : i < bv.length := by rw [h.len]; exact hi
  have hb : bv[i]? = some bv[i] := List.getElem?_eq_getElem hib
  have hrow := h.row
  rw [e] at hrow
  have hcell : ∀ k x, (frC c bv[i])[k]? = some x → w.cell? ⟨g, i * 4 + k, none⟩ = some x := fun k x hx => by
    have := hrow.cells rfl (i * 4 + k) x (frsC_at fs bv i c _ hc hb k x hx)
    rwa [Addr.add_lit, Nat.zero_add] at this
  exact ⟨g, cap, _, e, hb, hcell 0 _ rfl, hcell 1 _ rfl, hcell 2 _ rfl, hcell 3 _ rfl, h.been i c _ hc hb⟩
set_option maxHeartbeats 4000000 in
theorem has_any (v : Value) (l : List Int) (x : Int) (w : World) (base : Nat) (h : OwnN w base v l) (hl : l.length ≤ 10000) :
    Calls Tryz.prog 26 #[v, .int .i64 x] w fun e w' => e = .returned (.bool (decide (x ∈ l))) ∧ w' = w := by
  obtain ⟨ao, c, rfl⟩ := ownsRow_shape h
  have HC : Hid (∀ i, i < l.length → ∃ g, ao = some ⟨g, 0, none⟩ ∧ w.cell? ⟨g, i, none⟩ = some (.int .i64 (l.getD i 0))) := fun i hi => by
    rcases h.2 with ⟨e, h0⟩ | ⟨g, cap, cur, e, _⟩
    · omega
    · cases e
      refine ⟨g, rfl, ?_⟩
      have := h.cells rfl i (.int .i64 (l.getD i 0)) (by simp [ints, List.getD, List.getElem?_eq_getElem hi])
      rwa [Addr.add_lit, Nat.zero_add] at this
  obtain ⟨n, hn⟩ : ∃ n, n = l.length := ⟨_, rfl⟩
  rw [← hn] at HC hl ⊢
  have HN := hid_of hn
  clear h hn
  go_enter Tryz.func26, Tryz.ntmps26
  go_wp2
  go_loopw [5] (fun iv wr => ∃ k : Nat, k ≤ n ∧ iv = .int .i64 (k : Int) ∧ wr = w ∧ Hid (x ∉ l.take k)) (fun iv _ => n - (intOf iv).toNat)
  case atStart => exact ⟨0, by omega, rfl, rfl, by simp [Hid]⟩
  case round =>
    obtain ⟨k, hk, rfl, rfl, HT⟩ := hrel
    by_cases hlt : k < n
    · have hltI : (k : Int) < (n : Int) := by omega
      obtain ⟨g, hao, hc⟩ := HC.out k hlt
      subst hao
      have hkl : k < l.length := by rw [← HN.out]; exact hlt
      have HE : Hid (l[k]? = some (l.getD k 0)) := by simp [Hid, List.getD, List.getElem?_eq_getElem hkl]
      by_cases hx : x = l.getD k 0
      · have HM : Hid (decide (x ∈ l) = true) := by unfold Hid; rw [hx]; exact decide_eq_true (List.mem_of_getElem? HE.out)
        rw [← hx] at hc
        clear hx
        go_wp2
        go_ret
        exact ⟨by rw [HM.out]; rfl, rfl⟩
      · have hb : (l.getD k 0 == x) = false := by simpa using fun e => hx e.symm
        have HT2 : Hid (x ∉ l.take (k + 1)) := by
          unfold Hid
          rw [List.take_add_one, HE.out]
          intro h
          rcases List.mem_append.1 h with h | h
          · exact HT.out h
          · simp at h; exact hx (by simpa using h)
        generalize l.getD k 0 = y at *
        clear hx
        go_wp2
        go_roundw
        case rel => exact ⟨k + 1, by omega, by go_num, trivial, HT2⟩
        case measure => simp [intOf]; omega
    · have HM : Hid (decide (x ∈ l) = false) := by
        have := HT.out
        rw [List.take_of_length_le (by rw [← HN.out]; omega)] at this
        exact decide_eq_false this
      go_wp2
      go_ret
      exact ⟨by rw [HM.out]; rfl, rfl⟩
theorem sumK_app (p : PG) : ∀ (a b : List FR), sumK p (a ++ b) = sumK p a + sumK p b
  | [], b => by simp [sumK]
  | c :: a, b => by
    show 1 + locOf p c.fn + c.high + sumK p (a ++ b) = 1 + locOf p c.fn + c.high + sumK p a + sumK p b
    rw [sumK_app p a b]; omega
theorem sumK_rev (p : PG) : ∀ (a : List FR), sumK p a.reverse = sumK p a
  | [] => rfl
  | c :: a => by
    rw [List.reverse_cons, sumK_app, sumK_rev p a]
    show sumK p a + (1 + locOf p c.fn + c.high + 0) = 1 + locOf p c.fn + c.high + sumK p a
    omega
/-- What the frames' numbers may be. -/
def FrR (p : PG) (fs : List FR) : Prop := ∀ c ∈ fs, c.fn < p.fns.length ∧ 0 ≤ c.high ∧ c.high ≤ 256 ∧ 0 ≤ locOf p c.fn ∧ locOf p c.fn ≤ 64
theorem sumK_rng {p : PG} : ∀ (fs : List FR), FrR p fs → 0 ≤ sumK p fs ∧ sumK p fs ≤ (fs.length : Int) * 321
  | [], _ => by simp [sumK]
  | c :: fs, h => by
    have h1 := sumK_rng fs (fun d hd => h d (by simp [hd]))
    have h2 := h c (by simp)
    have e : sumK p (c :: fs) = 1 + locOf p c.fn + c.high + sumK p fs := rfl
    have e2 : ((c :: fs).length : Int) * 321 = (fs.length : Int) * 321 + 321 := by rw [List.length_cons, Int.natCast_add, Int.add_mul]; rfl
    rw [e, e2]
    omega
set_option maxHeartbeats 8000000 in
theorem fcells_any (v : Value) (p : PG) (w : World) (B : Nat) (h : PgIs w B v p) (ho : p.Ok) (lv : Value) (fs : List FR) (bv : List Value) (B2 : Nat) (hl : Frs w B2 lv fs bv) (hr : FrR p fs) (hfl : fs.length ≤ 1000) :
    Calls Tryz.prog 27 #[v, lv] w fun e w' => e = .returned (.int .i64 (sumK p fs)) ∧ Kept (fun _ => False) w w' := by
  obtain ⟨dv, fv, rfl, hd, hdl, hf⟩ := h
  obtain ⟨dao, dc, rfl⟩ := hd.shape
  obtain ⟨fao, fc, rfl⟩ := hf.shape
  obtain ⟨lao, lc, rfl⟩ := ownsRow_shape hl.row
  obtain ⟨nf, hnf⟩ : ∃ n, n = p.fns.length := ⟨_, rfl⟩
  obtain ⟨nd, hnd⟩ : ∃ n, n = p.data.length := ⟨_, rfl⟩
  obtain ⟨mem, hmem⟩ : ∃ n, n = p.mem := ⟨_, rfl⟩
  obtain ⟨m, hm⟩ : ∃ n, n = fs.length := ⟨_, rfl⟩
  rw [← hnf, ← hnd, ← hmem, ← hm]
  rw [← hm] at hfl hl
  have hkA : Kept (fun _ => False) w (w.alloc (.cells #[.int .i64 mem, .slice dao nd dc, .slice fao nf fc] 25)) := (Kept.refl _ _).alloc _
  have hbA := heap_alloc_new w (.cells #[.int .i64 mem, .slice dao nd dc, .slice fao nf fc] 25)
  have HF := hid_of (hf.kept hkA (fun _ _ f => f))
  have HL := hid_of (hl.same hkA)
  have HNF := hid_of hnf
  have HM := hid_of hm
  have HR := hid_of hr
  have HK := hid_of hkA
  have HBA := hid_of hbA
  have hnfI : (nf : Int) ≤ 140737488351232 := by have := ho.len; rw [← hnf] at this; omega
  obtain ⟨tot, htot⟩ : ∃ t, t = sumK p fs := ⟨_, rfl⟩
  have HT := hid_of htot
  rw [← htot]
  clear hbA hkA hd hdl hf hnf hnd hmem ho hl hm hr htot
  go_enter Tryz.func27, Tryz.ntmps27
  go_wp2
  generalize w.alloc (.cells #[.int .i64 mem, .slice dao nd dc, .slice fao nf fc] 25) = W at *
  generalize w.heap.size = gb at *
  have HK0 := hid_of (Kept.refl (fun _ => False) W)
  go_loopw [5, 6] (fun nv iv wr => ∃ k : Nat, k ≤ m ∧ iv = .int .i64 (k : Int) ∧ nv = .int .i64 (sumK p (fs.take k)) ∧ Hid (Kept (fun _ => False) W wr)) (fun _ iv _ => m - (intOf iv).toNat)
  case atStart => exact ⟨0, by omega, rfl, rfl, HK0⟩
  case round =>
    clear HK0
    obtain ⟨k, hk, rfl, rfl, HKR⟩ := hrel
    by_cases hlt : k < m
    · have hltI : (k : Int) < (m : Int) := by omega
      have hkl : k < fs.length := by rw [← HM.out]; exact hlt
      have hck : fs[k]? = some fs[k] := List.getElem?_eq_getElem hkl
      have hLw := HL.out.same HKR.out
      obtain ⟨g, cap, b, e0, hb0, l0, l1, l2, l3, l4⟩ := Frs.look (fs := fs) (by rw [HM.out] at hLw; exact hLw) hck
      simp only [Value.slice.injEq] at e0
      obtain ⟨rfl, hx8, rfl⟩ := e0
      clear hx8 l1 l3 l4 hb0 hLw
      obtain ⟨r1, r2, r3, r4, r5⟩ := HR.out _ (List.getElem_mem hkl)
      obtain ⟨pg, po, f, e1, hgB, hfi, hfa⟩ := HF.out.at (i := fs[k].fn) r1
      subst e1
      obtain ⟨cao, cc, x0, x1, x2, x3, hri, hcl⟩ := fn_read hfa
      have hlo : locOf p fs[k].fn = f.l := by unfold locOf; rw [hfi]; rfl
      have hsum : sumK p (fs.take (k + 1)) = sumK p (fs.take k) + (1 + f.l + fs[k].high) := by
        rw [List.take_add_one, hck, sumK_app]
        show _ + (1 + locOf p fs[k].fn + fs[k].high + 0) = _
        rw [hlo]; omega
      have hsr := sumK_rng (p := p) (fs.take k) (fun c hc => HR.out c (List.mem_of_mem_take hc))
      have hs2 : sumK p (fs.take k) ≤ 321000 := by
        have h1 : ((fs.take k).length : Int) ≤ 1000 := by rw [List.length_take]; omega
        omega
      have hs3 := hsr.1
      have HS2 := hid_of hsum
      rw [hlo] at r4 r5
      have x1' := HKR.out.cell x1 (fun f => f)
      have c2 := HKR.out.cell (cell_block _ _ 2 _ _ _ HBA.out) (fun f => f)
      have r1I : (fs[k].fn : Int) < (nf : Int) := by rw [HNF.out]; omega
      generalize sumK p (fs.take k) = sk at *
      generalize fs[k].fn = q at *
      generalize fs[k].high = hh at *
      generalize f.l = fl at *
      have HSX : Hid (∀ w', Kept (fun _ => False) wr w' → w'.cell? ⟨gb, 2, none⟩ = some (.slice (some ⟨pg, po, none⟩) nf fc) ∧ w'.cell? ⟨g, k * 4, none⟩ = some (.int .i64 (q : Int)) ∧ w'.cell? ⟨g, k * 4 + 2, none⟩ = some (.int .i64 hh) ∧ w'.cell? ⟨pg, po + q * 4 + 1, none⟩ = some (.int .i64 fl)) := fun w' hw =>
        ⟨hw.cell c2 (fun f => f), hw.cell l0 (fun f => f), hw.cell l2 (fun f => f), hw.cell x1' (fun f => f)⟩
      clear x0 x1 x2 x3 hri hcl hfa hfi hgB l0 l2 x1' c2 hsum hlo hck hkl hsr r1
      go_upto_region 5 with fail
      refine wp_region_held_drew (S := fun w' => Kept (fun _ => False) wr w') (by kernel_rfl) ((Kept.refl _ _).drew) (fun hHeld => ?_)
      iterate 21
        refine tkn (v := ?_) 0 rfl ?_ ?_; rotate_left 1
        · intro w hSw; obtain ⟨a0, a1, a2, a3⟩ := HSX.out w hSw; go_simp; try with_reducible rfl
        try simp only [Act.put, tdy]
      refine wpAnyH_done (by kernel_rfl) ?_ _
      have HK5 := hid_of (HKR.out.trans hHeld)
      clear hHeld HSX HKR
      go_wp2
      go_roundw
      case rel =>
        refine ⟨k + 1, by omega, by go_num, ?_, HK5⟩
        rw [HS2.out]
        have y1 : IntKind.i64.wrap (sk + 1) = sk + 1 := by simp [IntKind.wrap, IntKind.bits, IntKind.signed]; omega
        have y2 : IntKind.i64.wrap (sk + 1 + fl) = sk + 1 + fl := by simp [IntKind.wrap, IntKind.bits, IntKind.signed]; omega
        have y3 : IntKind.i64.wrap (sk + 1 + fl + hh) = sk + 1 + fl + hh := by simp [IntKind.wrap, IntKind.bits, IntKind.signed]; omega
        simp only [y1, y2, y3]
        congr 1
        omega
      case measure => simp [intOf]; omega
    · have hltI : ¬ ((k : Int) < (m : Int)) := by omega
      have HE : Hid (sumK p (fs.take k) = tot) := by
        unfold Hid
        rw [HT.out, List.take_of_length_le (by rw [← HM.out]; omega)]
      go_wp2
      go_ret
      exact ⟨by rw [← HE.out]; rfl, HK.out.trans HKR.out⟩
end Go.Proofs.YtcaadgcfceommaaGreat

namespace Go.Proofs.YtcaadgcfceommaaGreat
open Go.RowKit
set_option linter.unusedVariables false
set_option linter.unusedSimpArgs false
set_option maxRecDepth 100000

theorem Tryz.info58b : (Tryz.prog.info? 58).map (fun i => (i.zero, i.size, i.bytes)) = some (some (.agg #[.int .i64 0, .int .i64 0, .int .i64 0, .slice none 0 0]), 4, 48) := by kernel_rfl
theorem push_frame2 {W : World} {b : Nat} {v : Value} {k : Nat} {xs : List Value} (h : W.ownsRow b 58 4 v k xs) (x0 x1 x2 x3 : Value) (h0 : x0.oneCell' = true) (h1 : x1.oneCell' = true) (h2 : x2.oneCell' = true) (h3 : x3.oneCell' = true) (hb : b ≤ W.heap.size) (hl : k ≤ 90000) :
    ∃ v' w', (Builtin.append_ #[59, 59] 59 #[v, .slice (some ⟨W.heap.size, 0, none⟩) 1 1]).run Tryz.prog (W.alloc (.cells #[x0, x1, x2, x3] 58)) = .ok v' w' ∧ w'.ownsRow b 58 4 v' (k + 1) (xs ++ [x0, x1, x2, x3]) ∧ Kept (fun q => v.ownBlock = some q) W w' ∧ NewB W v v' := by
  obtain ⟨i0, hi, hz0, hz1, hz2⟩ := info_parts Tryz.info58b
  obtain ⟨v', w', hr, h2', h3', h4, _⟩ := append_old (P := Tryz.prog) (W.alloc (.cells #[x0, x1, x2, x3] 58)) b 59 59 58 i0 _ 4 48 Tryz.underlying59 hi hz0 hz1 hz2 rfl (by decide) v k xs (h.alloc _) ⟨W.heap.size, 0, none⟩ 1 1 [x0, x1, x2, x3] (by simp) (fun j u hj => by
    have hjl := (List.getElem?_eq_some_iff.1 hj).1
    rw [Addr.add_lit, Nat.zero_add, cell_block _ _ _ _ _ _ (heap_alloc_new W _)]
    simpa using hj) (fun u hu => by
      simp at hu
      rcases hu with rfl | rfl | rfl | rfl <;> assumption) (by unfold maxLen; omega) (by omega) (by simp; omega)
  have hk1 : Kept (fun k => v.ownBlock = some k) W w' := ((Kept.refl _ W).alloc _).grown h3' (fun k hk => .inr hk)
  exact ⟨v', w', hr, h2', hk1, by simpa [NewB] using h4⟩
theorem frC_one (c : FR) (b : Value) (hb : b.oneCell' = true) : ∀ u ∈ frC c b, u.oneCell' = true := fun u hu => by
  simp only [frC, List.mem_cons, List.not_mem_nil, or_false] at hu
  rcases hu with rfl | rfl | rfl | rfl
  · rfl
  · rfl
  · rfl
  · exact hb
theorem frsC_one : ∀ (cs : List FR) (bv : List Value), (∀ b ∈ bv, b.oneCell' = true) → ∀ u ∈ frsC cs bv, u.oneCell' = true
  | [], bv, _, u, hu => by cases bv <;> simp [frsC] at hu
  | c :: cs, [], _, u, hu => by simp [frsC] at hu
  | c :: cs, b :: bv, h, u, hu => by
    rcases List.mem_append.1 (show u ∈ frC c b ++ frsC cs bv from hu) with h1 | h1
    · exact frC_one c b (h b (by simp)) u h1
    · exact frsC_one cs bv (fun b' hb' => h b' (by simp [hb'])) u h1
theorem own_oneC {w : World} {B e s n : Nat} {v : Value} {xs : List Value} (h : w.ownsRow B e s v n xs) : v.oneCell' = true := by
  obtain ⟨ao, c, rfl⟩ := ownsRow_shape h
  rfl
/-- All but the last are copied. -/
theorem copy_frames {W : World} {B : Nat} {g cap : Nat} {fs : List FR} {bv : List Value} {now : FR} {bn : Value} (h : Frs W B (.slice (some ⟨g, 0, none⟩) (fs ++ [now]).length cap) (fs ++ [now]) (bv ++ [bn])) (hlen : bv.length = fs.length) (hl : fs.length ≤ 90000) :
    ∃ v' w', (Builtin.append_ #[59, 59] 59 #[.slice none 0 0, .slice (some ⟨g, 0, none⟩) fs.length cap]).run Tryz.prog W = .ok v' w' ∧ w'.ownsRow W.heap.size 58 4 v' fs.length (frsC fs bv) ∧ Kept (fun _ => False) W w' := by
  obtain ⟨i0, hi, hz0, hz1, hz2⟩ := info_parts Tryz.info58b
  have hone : ∀ b ∈ bv, b.oneCell' = true := fun b hb => by
    obtain ⟨i, hi, e⟩ := List.mem_iff_getElem.1 hb
    have hbi : (bv ++ [bn])[i]? = some b := by rw [List.getElem?_append_left hi, List.getElem?_eq_getElem hi, e]
    have hci : (fs ++ [now])[i]? = some fs[i] := by rw [List.getElem?_append_left (by omega), List.getElem?_eq_getElem (by omega)]
    exact own_oneC (h.been i _ b hci hbi)
  obtain ⟨v', w', hr, h2', h3', h4, _⟩ := append_old (P := Tryz.prog) W W.heap.size 59 59 58 i0 _ 4 48 Tryz.underlying59 hi hz0 hz1 hz2 rfl (by decide) (.slice none 0 0) 0 [] (World.ownsRow_nil _ _ _ _) ⟨g, 0, none⟩ fs.length cap (frsC fs bv) (frsC_len fs bv hlen) (fun j u hj => by
    refine h.row.cells rfl j u ?_
    rw [frsC_app fs [now] bv [bn] hlen, List.getElem?_append_left (List.getElem?_eq_some_iff.1 hj).1]
    exact hj) (frsC_one fs bv hone) (by unfold maxLen; omega) (by omega) (Nat.le_refl _)
  have hk1 : Kept (fun _ => False) W w' := (Kept.refl _ W).grown h3' (fun k hk => by cases hk)
  exact ⟨v', w', hr, by simpa using h2', hk1⟩
/-- One more call. -/
theorem Frs.more {w' : World} {B : Nat} {v' : Value} {fs : List FR} {bv : List Value} {c : FR} {b : Value} (hlen : bv.length = fs.length) (hbeen : ∀ (i : Nat) (c : FR) (b : Value), fs[i]? = some c → bv[i]? = some b → OwnL w' B b c.been.length c.been) (hsm : ∀ b ∈ bv, ∃ g, b.ownBlock = some g) (hap : bv.Pairwise (fun (b b' : Value) => b.ownBlock ≠ b'.ownBlock)) (hrow : w'.ownsRow B 58 4 v' (fs.length + 1) (frsC fs bv ++ frC c b))
    (hb : OwnL w' B b c.been.length c.been) (hg : ∃ g, b.ownBlock = some g) (hne : ∀ b' ∈ bv, b'.ownBlock ≠ b.ownBlock) : Frs w' B v' (fs ++ [c]) (bv ++ [b]) := by
  refine ⟨?_, by simp [hlen], fun i d e hd he => ?_, fun x hx => ?_, ?_⟩
  · rw [frsC_app fs [c] bv [b] hlen, List.length_append]
    show w'.ownsRow B 58 4 v' (fs.length + 1) (frsC fs bv ++ (frC c b ++ []))
    rw [List.append_nil]
    exact hrow
  · by_cases hi : i < fs.length
    · rw [List.getElem?_append_left hi] at hd
      rw [List.getElem?_append_left (by omega)] at he
      exact hbeen i d e hd he
    · rw [List.getElem?_append_right (by omega)] at hd he
      have hz : i - fs.length = 0 := by
        have := (List.getElem?_eq_some_iff.1 hd).1
        simp at this
        omega
      rw [hlen] at he
      rw [hz] at hd he
      simp only [List.getElem?_cons_zero, Option.some.injEq] at hd he
      subst hd; subst he
      exact hb
  · rcases List.mem_append.1 hx with hx | hx
    · exact hsm x hx
    · simp at hx; subst hx; exact hg
  · rw [List.pairwise_append]
    exact ⟨hap, by simp, fun x hx y hy => by simp at hy; subst hy; exact hne x hx⟩
/-- All but the last. -/
theorem Frs.init {w : World} {B : Nat} {v : Value} {fs : List FR} {bv : List Value} {c : FR} {b : Value} (h : Frs w B v (fs ++ [c]) (bv ++ [b])) (hlen : bv.length = fs.length) : (∀ (i : Nat) (c : FR) (b : Value), fs[i]? = some c → bv[i]? = some b → OwnL w B b c.been.length c.been) ∧ (∀ b ∈ bv, ∃ g, b.ownBlock = some g) ∧ bv.Pairwise (fun (b b' : Value) => b.ownBlock ≠ b'.ownBlock) ∧ OwnL w B b c.been.length c.been ∧ (∃ g, b.ownBlock = some g) ∧ ∀ b' ∈ bv, b'.ownBlock ≠ b.ownBlock := by
  have hp := List.pairwise_append.1 h.ap
  refine ⟨fun i d e hd he => ?_, fun x hx => h.some' x (by simp [hx]), hp.1, ?_, h.some' b (by simp), fun x hx => hp.2.2 x hx b (by simp)⟩
  · have hi := (List.getElem?_eq_some_iff.1 hd).1
    exact h.been i d e (by rw [List.getElem?_append_left hi]; exact hd) (by rw [List.getElem?_append_left (by omega)]; exact he)
  · exact h.been fs.length c b (by simp) (by rw [← hlen]; simp)
end Go.Proofs.YtcaadgcfceommaaGreat

namespace Go.Proofs.YtcaadgcfceommaaGreat
open Go.RowKit
set_option linter.unusedVariables false
set_option linter.unusedSimpArgs false
set_option maxRecDepth 100000

set_option maxHeartbeats 8000000 in
theorem walked_go (v : Value) (p : PG) (w : World) (B : Nat) (h : PgIs w B v p) (hB : B ≤ w.heap.size) (ho : p.Ok) (lv : Value) (fs : List FR) (now : FR) (bv : List Value) (bn : Value) (B2 : Nat) (hl : Frs w B2 lv (fs ++ [now]) (bv ++ [bn])) (hlb : bv.length = fs.length) (hB2 : B2 ≤ w.heap.size) (hfl : fs.length ≤ 1000) (x : IN)
    (tk gv : Int) (hTk : takesD p (now.fn : Int) (now.at' : Int) = (tk, gv)) (htk : 0 ≤ tk ∧ tk ≤ 1000) (hgv : 0 ≤ gv ∧ gv ≤ 1000) (hh : 0 ≤ now.high ∧ now.high ≤ 256) (ways : List Int) (hNx : nextD p (now.fn : Int) (now.at' : Int) = ways) (pick : Int) (hw0 : 0 < ways.length) (hwl : ways.length ≤ 2) (hwr : ∀ m ∈ ways, 0 ≤ m) (hp0 : -9223372036854775808 ≤ pick) (hp1 : pick < 9223372036854775808) (h17 : x.op ≠ 17) (h18 : x.op ≠ 18) :
    Calls Tryz.prog 28 #[v, lv, .agg #[.int .i64 x.op, .int .i64 x.a], .int .i64 pick] w fun e w' => Kept (fun _ => False) w w' ∧ ∃ (v' : Value) (m : Nat), (m : Int) ∈ ways ∧ e = .returned v' ∧ Frs w' B2 v' (fs ++ [⟨now.fn, m, now.high - tk + gv, now.been⟩]) (bv ++ [bn]) := by
  have HPG := hid_of h
  have HO := hid_of ho
  obtain ⟨dv, fv, rfl, hd, hdl, hf⟩ := h
  obtain ⟨dao, dc, rfl⟩ := hd.shape
  obtain ⟨fao, fc, rfl⟩ := hf.shape
  obtain ⟨g, cap, b0, e0, hb0, l0, l1, l2, l3, lb⟩ := hl.look (i := fs.length) (c := now) (by simp)
  have hbe : b0 = bn := by
    rw [← hlb] at hb0
    simp at hb0
    exact hb0.symm
  subst hbe
  subst e0
  have hone : b0.oneCell' = true := own_oneC lb
  have hcap : fs.length + 1 ≤ cap := by
    rcases hl.row.2 with ⟨e, _⟩ | ⟨g', cap', cur', e, _, _, hnc, _⟩
    · cases e
    · simp only [Value.slice.injEq] at e
      obtain ⟨_, _, rfl⟩ := e
      simpa using hnc
  obtain ⟨bo, bc, rfl⟩ := ownsRow_shape lb
  obtain ⟨bl, hbl⟩ : ∃ z, z = now.been.length := ⟨_, rfl⟩
  rw [← hbl] at l3 hone hl lb
  obtain ⟨nf, hnf⟩ : ∃ n, n = p.fns.length := ⟨_, rfl⟩
  obtain ⟨nd, hnd⟩ : ∃ n, n = p.data.length := ⟨_, rfl⟩
  obtain ⟨mem, hmem⟩ : ∃ n, n = p.mem := ⟨_, rfl⟩
  have HHN := hid_of hnf
  rw [← hnf, ← hnd, ← hmem] at HPG ⊢
  have HLB := hid_of hlb
  obtain ⟨W, hW⟩ : ∃ W, W = ((w.alloc (.cells #[.int .i64 mem, .slice dao nd dc, .slice fao nf fc] 25)).alloc (.cells #[.int .i64 x.op, .int .i64 x.a] 64)).alloc (.cells #[.int .i64 (now.fn : Int), .int .i64 (now.at' : Int), .int .i64 now.high, .slice bo bl bc] 58) := ⟨_, rfl⟩
  obtain ⟨hkW, hb1, hb2, hb3⟩ := allocs3 _ _ _ _ _ _ _ _ hW
  have hk2 : Kept (fun _ => False) w ((w.alloc (.cells #[.int .i64 mem, .slice dao nd dc, .slice fao nf fc] 25)).alloc (.cells #[.int .i64 x.op, .int .i64 x.a] 64)) := ((Kept.refl _ _).alloc _).alloc _
  have l0' := hk2.cell l0 (fun f => f)
  have l1' := hk2.cell l1 (fun f => f)
  have l2' := hk2.cell l2 (fun f => f)
  have l3' := hk2.cell l3 (fun f => f)
  have HL := hid_of (hl.same hkW)
  have HL0 := hid_of hl
  have HB1 := hid_of hb1
  have HB2 := hid_of hb2
  have HB3 := hid_of hb3
  have HKW := hid_of hkW
  have HBB := hid_of hB
  have HBL := hid_of hbl
  have HON := hid_of hone
  have HB22 := hid_of hB2
  have hCT := fun W' (hW' : Kept (fun _ => False) W W') => ctakes_any _ p W' B (HPG.out.kept (hkW.trans hW') (fun _ _ f => f)) (Nat.le_trans hB (hkW.trans hW').size) ho (now.fn : Int) (now.at' : Int)
  have hCN := fun W' (hW' : Kept (fun _ => False) W W') => cnext_any _ p W' B (HPG.out.kept (hkW.trans hW') (fun _ _ f => f)) (Nat.le_trans hB (hkW.trans hW').size) ho (now.fn : Int) (now.at' : Int)
  rw [hTk] at hCT
  rw [hNx] at hCN
  have HCT := hid_of hCT
  have HCN := hid_of hCN
  obtain ⟨k, hk⟩ : ∃ k, k = fs.length := ⟨_, rfl⟩
  have HLK := hid_of hk
  have hkl : (fs ++ [now]).length = k + 1 := by rw [hk]; simp
  rw [hkl] at HL HL0 ⊢
  rw [← hk] at l0' l1' l2' l3' hfl hcap
  have hcapI : (k : Int) ≤ (cap : Int) := by omega
  have hcapN : k ≤ cap := by omega
  obtain ⟨fn, hfn⟩ : ∃ z, z = now.fn := ⟨_, rfl⟩
  obtain ⟨at', hat⟩ : ∃ z, z = now.at' := ⟨_, rfl⟩
  obtain ⟨hi, hhi⟩ : ∃ z, z = now.high := ⟨_, rfl⟩
  rw [← hfn, ← hat] at HCT HCN
  rw [← hfn] at l0'
  rw [← hat] at l1'
  rw [← hhi] at l2' hh
  rw [← hfn, ← hat, ← hhi] at hW HB3
  have HFN := hid_of hfn
  have HAT := hid_of hat
  have HHI := hid_of hhi
  have kI : (k : Int) < ((k + 1 : Nat) : Int) := by omega
  clear hd hdl hf hl hlb hb0 l0 l1 l2 l3 lb hnf hnd hmem hkW hb1 hb2 hb3 hk2 hCT hCN hTk hNx hkl hk hB hB2 ho hone hbl hfn hat hhi HPG
  generalize x.op = xo at *
  generalize x.a = xa at *
  go_enter Tryz.func28, Tryz.ntmps28
  go_upto_region 3 with fail
  rw [← hW]
  clear hW l0' l1' l2' l3'
  generalize hgb : w.heap.size = gb at *
  have HGB := hid_of hgb
  obtain ⟨gn, hgn⟩ : ∃ z, z = gb + 1 + 1 := ⟨_, rfl⟩
  rw [← hgn]
  rw [show gb + 2 = gn by omega] at HB3
  have HGN := hid_of hgn
  clear hgb hgn
  obtain ⟨c0, c1, c2, _⟩ := look3 HB1.out
  obtain ⟨n0, n1, n2, n3, _⟩ := look4 HB3.out
  go_wp2_with fail
  refine (HCT.out _ (Kept.refl _ _)).mono ?_
  rintro e w2 ⟨rfl, hk2⟩
  clear HCT c0 c1 c2 n0 n1 n2 n3
  obtain ⟨c0, c1, c2, _⟩ := look3 (box_kept hk2 HB1.out (fun f => f))
  obtain ⟨n0, n1, n2, n3, _⟩ := look4 (box_kept hk2 HB3.out (fun f => f))
  have HK2 := hid_of hk2
  clear hk2
  go_wp2_with fail
  refine (HCN.out _ HK2.out).mono ?_
  rintro e w3 ⟨wv, rfl, hwv, hk3⟩
  obtain ⟨wa, wc, hws⟩ := ownsRow_shape hwv
  obtain ⟨nw, hnw⟩ : ∃ z, z = ways.length := ⟨_, rfl⟩
  rw [← hnw] at hws
  subst hws
  have HWV := hid_of hwv
  have HNW := hid_of hnw
  have HK3 := hid_of (HK2.out.trans hk3)
  have HS2 : Hid (gn < w2.heap.size) := by
    have h1 := HK2.out.size
    have h2 := (Array.getElem?_eq_some_iff.1 HB3.out).1
    show gn < w2.heap.size
    omega
  have HS23 : Hid (w2.heap.size ≤ w3.heap.size) := hk3.size
  clear HCN c0 c1 c2 n0 n1 n2 n3 hk3 HK2 hwv
  obtain ⟨v4, w4, hr, ho4, hk4⟩ := copy_frames (W := w3) (g := g) (cap := cap) (fs := fs) (now := now) (bv := bv) (bn := .slice bo bl bc) (by have h9 := HL.out.same HK3.out; rw [HLK.out] at h9; simpa using h9) HLB.out (by rw [← HLK.out]; omega)
  rw [← HLK.out] at hr ho4
  obtain ⟨va, vc, hvs⟩ := ownsRow_shape ho4
  subst hvs
  have HO4 := hid_of ho4
  have HR := hid_of hr
  have HK4 := hid_of (HK3.out.trans hk4)
  have HK34 := hid_of hk4
  have HWV4 := hid_of (hk4.ownsRow HWV.out (fun _ _ f => f))
  have HS3 : Hid (gn < w3.heap.size) := by
    have h1 := HK3.out.size
    have h2 := (Array.getElem?_eq_some_iff.1 HB3.out).1
    show gn < w3.heap.size
    omega
  clear ho4 hk4 HWV hr
  obtain ⟨q0, q1, _⟩ := look2 (box_kept HK4.out HB2.out (fun f => f))
  obtain ⟨n0, n1, n2, n3, _⟩ := look4 (box_kept HK4.out HB3.out (fun f => f))
  have hc18 : (xo == 18) = false := by simpa using h18
  have hc17 : (xo == 17) = false := by simpa using h17
  have hnz : ¬ ((nw : Int) = 0) := by omega
  have hnwz : ((nw : Int) == 0) = false := by simpa using hnz
  have nf2 := frozen_block _ gn 2 _ _ (box_kept HK4.out HB3.out (fun f => f))
  rw [HNW.out] at hnz hnwz
  have hB4 := box_kept HK4.out HB3.out (fun f => f)
  have hks5 := kept_set w4 gn 2 (.int .i64 (hi - tk + gv))
  have hB5 := set_block _ gn 2 _ _ _ hB4 (.int .i64 (hi - tk + gv))
  simp only [List.setIfInBounds_toArray, List.set_cons_succ, List.set_cons_zero] at hB5
  have hw1 : IntKind.i64.wrap (hi - tk) = hi - tk := by simp [IntKind.wrap, IntKind.bits, IntKind.signed]; omega
  have hw2 : IntKind.i64.wrap (hi - tk + gv) = hi - tk + gv := by simp [IntKind.wrap, IntKind.bits, IntKind.signed]; omega
  go_upto_region 22 with (at_builtin; refine wp_app2 rfl (.tmp 34) (.tmp 37) 59 59 rfl _ _ rfl rfl _ w4 HR.out ?_)
  go_upto_region 23 with fail
  generalize hw5 : w4.setCell ⟨gn, 2, none⟩ (.int .i64 (hi - tk + gv)) = w5 at *
  have HB5 := hid_of hB5
  have HKS5 := hid_of hks5
  have HRN := hid_of (rnd_any pick ways.length w5 hp0 hp1 hw0 (by omega))
  clear hB5 hks5 hB4 n0 n1 n2 n3 q0 q1 nf2 hw5
  go_wp2_with fail
  refine HRN.out.mono ?_
  rintro e w6 ⟨⟨j, hj, rfl⟩, rfl⟩
  have hwv5 := HKS5.out.ownsRow HWV4.out (fun q hq e => by subst e; have := (HWV4.out.lt _ hq).1; have := HS2.out; omega)
  obtain ⟨wg, wc', e1, hco⟩ := own_look (l := ways) (by rw [HNW.out] at hwv5; exact hwv5) hj
  simp only [Value.slice.injEq] at e1
  obtain ⟨rfl, hx8, rfl⟩ := e1
  clear hx8
  have hmem := getD_mem hj
  have hm0 := hwr _ hmem
  obtain ⟨m, hm⟩ : ∃ m : Nat, ways.getD j 0 = (m : Int) := ⟨(ways.getD j 0).toNat, by omega⟩
  rw [hm] at hco hmem
  have HMM := hid_of hmem
  have hjI : (j : Int) < (ways.length : Int) := by omega
  have hks6 := kept_set w6 gn 1 (.int .i64 (m : Int))
  have hB6 := set_block _ gn 1 _ _ _ HB5.out (.int .i64 (m : Int))
  simp only [List.setIfInBounds_toArray, List.set_cons_succ, List.set_cons_zero] at hB6
  have nf1 := frozen_block _ gn 1 _ _ HB5.out
  have y1 := cell_block _ gn 1 _ _ _ HB5.out
  clear hm hm0 hmem hwv5
  go_upto_region 24 with fail
  generalize hw7 : w6.setCell ⟨gn, 1, none⟩ (.int .i64 (m : Int)) = w7 at *
  have HKS := hid_of (HKS5.out.trans hks6)
  have ho7 := HKS.out.ownsRow HO4.out (fun q hq e => by subst e; have := (HO4.out.lt _ hq).1; have := HS2.out; have := HS23.out; omega)
  have hsz : w3.heap.size ≤ w7.heap.size := by have h1 := HKS.out.size; have h2 := HO4.out; have h3 := HK34.out.size; omega
  obtain ⟨v8, w8, hr8, ho8, hk8, _⟩ := push_frame2 ho7 (.int .i64 (fn : Int)) (.int .i64 (m : Int)) (.int .i64 (hi - tk + gv)) (.slice bo bl bc) rfl rfl rfl rfl hsz (by omega)
  obtain ⟨va8, vc8, hvs8⟩ := ownsRow_shape ho8
  obtain ⟨k1, hk1⟩ : ∃ q, q = k + 1 := ⟨_, rfl⟩
  rw [← hk1] at hvs8
  subst hvs8
  have hkt : Kept (fun _ => False) w w8 := ((HKW.out.trans HK4.out).step HKS.out (fun i hi e => by have := HGB.out; have := HGN.out; omega)).step hk8 (fun i hi e => by
    have h1 := (HO4.out.lt i e).1
    have h2 := HS2.out
    have h3 := HS23.out
    have h4 := HGB.out
    have h5 := HGN.out
    omega)
  have HEND : Hid (Frs w8 B2 (.slice va8 k1 vc8) (fs ++ [⟨now.fn, m, now.high - tk + gv, now.been⟩]) (bv ++ [.slice bo bl bc])) := by
    obtain ⟨f1, f2, f3, f4, f5, f6⟩ := (HL0.out.same hkt).init HLB.out
    have hb2 : B2 ≤ w3.heap.size := by
      have h1 := HB22.out
      have h2 := HGB.out
      have h3 := HGN.out
      have h4 := HS2.out
      have h5 := HS23.out
      omega
    refine Frs.more HLB.out f1 f2 f3 ?_ f4 f5 f6
    have h9 := own_mono ho8 hb2
    rw [← HLK.out]
    show w8.ownsRow B2 58 4 _ (k + 1) (frsC fs bv ++ [.int .i64 (now.fn : Int), .int .i64 (m : Int), .int .i64 (now.high - tk + gv), .slice bo bl bc])
    rw [← HFN.out, ← HHI.out]
    exact h9
  have HR8 := hid_of hr8
  have HKT := hid_of hkt
  obtain ⟨y0, y1, y2, y3, _⟩ := look4 hB6
  clear hr8 ho8 hk8 hkt ho7 hsz hks6 hB6 hk1
  go_wp2_with (at_builtin; refine wp_app2 rfl (.tmp 113) (.tmp 115) 59 59 rfl _ _ rfl rfl _ w8 HR8.out ?_)
  go_ret
  exact ⟨HKT.out, .slice va8 k1 vc8, m, HMM.out, rfl, by have h9 := HEND.out; rw [HBL.out] at h9; exact h9⟩
end Go.Proofs.YtcaadgcfceommaaGreat
