/-
  Bytes written, bytes read.
-/
import Derived.Test.YtmkfjdfpcjkmnaaVj
import Derived.Test.YtmkfjdfpcjkmnaaStrs
import Derived.Shelf.Bytes.SlClone
import Derived.Shelf.Lay
namespace Go.Proofs
open Go.Shelf
shelf_lay SlLaysK.n4 Slk 4 at Try as Try.laysK4
end Go.Proofs
namespace Go.Proofs.Ytmkfjdfpcjkmnaa
open Go.RowKit
set_option linter.unusedVariables false
set_option linter.unusedSimpArgs false
set_option maxRecDepth 100000

set_option maxHeartbeats 4000000 in
theorem write_none {w : World} {s : Nat} {σ : FSt} (H : Fs w s σ) (h : Int) (x : Ha) (hx : look σ.hs h = some x) (hm : x.md ≠ 0) (f : Fi) (hf : look σ.fs x.p = some f) (ao : Option Addr) (c : Nat) :
    Calls Try.prog 16 #[.pointer (some ⟨s, 0, none⟩), .int .i64 h, .slice ao 0 c] w fun e w' => e = .returned (.int .i64 0) ∧ Kept (fun _ => False) w w' := by
  have HM := hid_of (may_ok H h 0 x hx hm f hf (by omega) (fun h => absurd h (by omega)))
  clear H hx hm hf
  go_enter Try.func16, Try.ntmps16
  go_wp2_with fail
  refine HM.out.mono ?_
  rintro e w1 ⟨rfl, hk1⟩
  have HK := hid_of hk1
  clear hk1 HM
  go_wp2
  exact bodyPost_ret (v := .int .i64 0) (by simp [results, Try.results16, go_sem]) rfl ⟨rfl, HK.out⟩

def WriteR (w : World) (s : Nat) (σ : FSt) (h : Int) (x : Ha) (f : Fi) (tg : Nat) (ys : List Int) (e : Ending) (w' : World) : Prop :=
  e = .returned (.int .i64 0) ∧ ∃ dv' b b', (∀ g, dv'.ownBlock = some g → σ.own s g ∨ w.heap.size ≤ g) ∧ Fs w' s { σ with fs := lays σ.fs x.p ⟨f.p, f.nm, dv', layB f.xs tg ys⟩ b, ub := σ.ub - f.xs.length + (layB f.xs tg ys).length, hs := lays σ.hs h ⟨x.p, (tg : Int) + (ys.length : Int), x.md⟩ b' } ∧ Kept (fun k => σ.own s k) w w'
set_option maxHeartbeats 4000000 in
theorem write_ok {w : World} {s : Nat} {σ : FSt} (H : Fs w s σ) (h : Int) (x : Ha) (hx : look σ.hs h = some x) (hm : x.md ≠ 0) (f : Fi) (hf : look σ.fs x.p = some f) (ys : List Int) (ab ao c : Nat) (hsrc : ∀ j u, (ints ys)[j]? = some u → w.cell? ⟨ab, ao + j, none⟩ = some u) (hyc : ys.length ≤ c) (h0 : 0 < ys.length) (hab : ¬ σ.own s ab)
    (tg : Nat) (htg : tgt x f.xs.length = tg) (h1 : tg + ys.length ≤ 1048576) (h2 : (tg : Int) + ys.length - f.xs.length ≤ σ.qb - σ.ub) (h3 : 0 ≤ σ.ub) (h4 : σ.qb ≤ 67108864) (h5 : σ.ub ≤ σ.qb) :
    Calls Try.prog 16 #[.pointer (some ⟨s, 0, none⟩), .int .i64 h, .slice (some ⟨ab, ao, none⟩) ys.length c] w fun e w' => WriteR w s σ h x f tg ys e w' := by
  have HM := hid_of (may_ok H h ys.length x hx hm f hf (by omega) (fun _ W hW => fits_ok (H.same hW) x f hf ys.length (by omega) (by rw [htg]; omega) (by rw [htg]; omega) (by rw [htg]; exact h2) h3 h4 h5))
  have hablt : ab < w.heap.size := by
    have h9 : 0 < (ints ys).length := by rw [ints_len]; exact h0
    exact World.block_lt_of_cell? _ _ (hsrc 0 _ (List.getElem?_eq_getElem h9))
  have HG := hid_of (fun (W : World) (hW : Kept (fun _ => False) w W) => (H.same hW).getH hx)
  have HT := hid_of (fun (W : World) (hW : Kept (fun _ => False) w W) => target_any (H.same hW) x f hf)
  have HFL := hid_of (fun (W : World) (hW : Kept (fun _ => False) w W) => fill_any (H.same hW) x.p f hf tg ys ab ao c (fun j u hu => hW.cell (hsrc j u hu) (fun f => f)) hyc h0 hab h1 h3 (by omega))
  rw [htg] at HT
  unfold Ha.cells at HT
  have HF := hid_of H
  have HX := hid_of hx
  obtain ⟨xp, hxp⟩ : ∃ q : ByteArray, q = ⟨x.p.toArray⟩ := ⟨_, rfl⟩
  rw [← hxp] at HG HT HFL
  have HXP := hid_of hxp
  obtain ⟨m, hmm⟩ : ∃ m, m = ys.length := ⟨_, rfl⟩
  rw [← hmm] at HM HFL hyc h0 h1 h2
  rw [← hmm]
  have HMM := hid_of hmm
  clear H hx hf hsrc hab htg hxp hmm
  go_enter Try.func16, Try.ntmps16
  go_wp2_with fail
  refine HM.out.mono ?_
  rintro e w1 ⟨rfl, hk1⟩
  have hF1 := HF.out.same hk1
  have hc8 := hF1.cell 8 (v := .map (some σ.hm)) rfl
  have hg := HG.out w1 hk1
  have hK2 : Kept (fun _ => False) w (w1.alloc (.cells #[.string xp, .int .i64 x.pl, .int .i64 x.md] 82)) := hk1.trans ((Kept.refl _ w1).alloc _)
  have hb2 : (w1.alloc (.cells #[.string xp, .int .i64 x.pl, .int .i64 x.md] 82)).heap[w1.heap.size]? = some (.cells #[.string xp, .int .i64 x.pl, .int .i64 x.md] 82 (0, 0)) := alloc_new _ _ rfl
  have HT2 := hid_of (HT.out _ hK2)
  have HK2 := hid_of hK2
  have HB2 := hid_of hb2
  have hm1 : ¬ (m : Int) = 0 := by omega
  have hm2 : m ≠ 0 := by omega
  have hwq : w.heap.size ≤ w1.heap.size := hk1.size
  clear HM hk1 hF1 hK2 hb2 HT
  go_wp2_with fail
  refine HT2.out.mono ?_
  rintro e w2 ⟨rfl, hk2⟩
  have hK3 := HK2.out.trans hk2
  have hb3 : w2.heap[w1.heap.size]? = some (.cells #[.string xp, .int .i64 x.pl, .int .i64 x.md] 82 (0, 0)) := (hk2.block _ (heap_lt HB2.out) (fun f => f)).trans HB2.out
  have c30 : w2.cell? ⟨w1.heap.size, 0, none⟩ = some (.string xp) := (cell_block _ _ 0 _ _ _ hb3).trans rfl
  have HFL3 := hid_of (HFL.out w2 hK3)
  have HK3 := hid_of hK3
  have HB3 := hid_of hb3
  clear hk2 hK3 hb3 HT2 HFL HK2 HB2
  go_wp2_with fail
  refine HFL3.out.mono ?_
  rintro e w3 ⟨rfl, dv', bf, hgr, hF3, hk3⟩
  have HGR : Hid (∀ g, dv'.ownBlock = some g → σ.own s g ∨ w.heap.size ≤ g) := fun g hg => (hgr g hg).imp_right (fun h => Nat.le_trans HK3.out.size h)
  clear hgr
  have hqo : ¬ σ.own s w1.heap.size := fun ho => by have := HF.out.lt ho; omega
  have hb4 : w3.heap[w1.heap.size]? = some (.cells #[.string xp, .int .i64 x.pl, .int .i64 x.md] 82 (0, 0)) := (hk3.block _ (heap_lt HB3.out) hqo).trans HB3.out
  have c41 : w3.cell? ⟨w1.heap.size, 1, none⟩ = some (.int .i64 x.pl) := (cell_block _ _ 1 _ _ _ hb4).trans rfl
  have f41 : w3.frozen? ⟨w1.heap.size, 1, none⟩ = false := frozen_block _ _ 1 _ _ hb4
  have wr1 : IntKind.i64.wrap ((tg : Int) + (m : Int)) = (tg : Int) + (m : Int) := by rw [IntKind.wrap_i64]; omega
  have HB4 : Hid ((w3.setCell ⟨w1.heap.size, 1, none⟩ (.int .i64 ((tg : Int) + (m : Int)))).heap[w1.heap.size]? = some (.cells #[.string xp, .int .i64 ((tg : Int) + (m : Int)), .int .i64 x.md] 82 (0, 0))) := set_block w3 w1.heap.size 1 _ 82 (0, 0) hb4 _
  have hk34 : Kept (fun k => k = w1.heap.size) w3 (w3.setCell ⟨w1.heap.size, 1, none⟩ (.int .i64 ((tg : Int) + (m : Int)))) := kept_set w3 ⟨w1.heap.size, 1, none⟩ _
  have HNQ : Hid (w1.heap.size ≠ σ.hm) := fun e => hqo (.inr (.inr (.inr (.inl e))))
  have HF4 : Hid (Fs (w3.setCell ⟨w1.heap.size, 1, none⟩ (.int .i64 ((tg : Int) + (m : Int)))) s { σ with fs := lays σ.fs x.p ⟨f.p, f.nm, dv', layB f.xs tg ys⟩ bf, ub := σ.ub - f.xs.length + (layB f.xs tg ys).length }) := hF3.kept hk34 (fun k hk e => by
    obtain ⟨cs, hcs⟩ : ∃ cs, w3.heap[k]? = some (.cells cs 82 (0, 0)) := ⟨_, by rw [e]; exact hb4⟩
    rw [← e] at hqo
    rcases hk with h | h | h | h | h | h
    · exact hqo (.inl h)
    · exact hqo (.inr (.inl h))
    · exact hqo (.inr (.inr (.inl h)))
    · exact hqo (.inr (.inr (.inr (.inl h))))
    · obtain ⟨c9, h9⟩ := hF3.rowF h
      rw [hcs] at h9; cases h9
    · obtain ⟨c9, h9⟩ := hF3.rowD h
      rw [hcs] at h9; cases h9)
  have HK4 : Hid (Kept (fun k => σ.own s k) w (w3.setCell ⟨w1.heap.size, 1, none⟩ (.int .i64 ((tg : Int) + (m : Int))))) := ((HK3.out.mono (fun _ _ f => f.elim)).trans hk3).step hk34 (fun k hk e => by omega)
  clear hF3 hk3 hk34 hb4 HFL3
  go_upto_region 8 with fail
  clear c41 f41 wr1 c30 HB3
  generalize w3.setCell ⟨w1.heap.size, 1, none⟩ (.int .i64 ((tg : Int) + (m : Int))) = w4 at *
  generalize w1.heap.size = q at *
  obtain ⟨ch, hmh4⟩ := HF4.out.mh
  have hhm : s ≠ σ.hm ∧ q ≠ σ.hm := ⟨HF4.out.not_s.2.2.1, HNQ.out⟩
  have hkd4 : Kept (fun k => k = σ.hm) w4 w4.drew := (Kept.refl _ w4).drew
  have hmh4d : w4.drew.heap[σ.hm]? = some (.map (σ.hs.map cH.ent).toArray ch) := hmh4
  obtain ⟨ch', hup⟩ := run_lay fitsH w4.drew σ.hm ch σ.hs hmh4d h ⟨x.p, ((tg : Int) + (m : Int)), x.md⟩
  rw [show cH.val ⟨x.p, ((tg : Int) + (m : Int)), x.md⟩ = .agg #[.string ⟨x.p.toArray⟩, .int .i64 ((tg : Int) + (m : Int)), .int .i64 x.md] from rfl, show cH.enc h = .int .i64 h from rfl, ← HXP.out] at hup
  have c84 : w4.cell? ⟨s, 8, none⟩ = some (.map (some σ.hm)) := HF4.out.cell 8 rfl
  have HSM : Hid (∀ w', Kept (fun k => k = σ.hm) w4 w' → w'.cell? ⟨s, 8, none⟩ = some (.map (some σ.hm)) ∧ w'.cell? ⟨q, 0, none⟩ = some (.string xp) ∧ w'.cell? ⟨q, 1, none⟩ = some (.int .i64 ((tg : Int) + (m : Int))) ∧ w'.cell? ⟨q, 2, none⟩ = some (.int .i64 x.md)) := fun w' hw =>
    ⟨hw.cell c84 hhm.1, hw.cell ((cell_block _ _ 0 _ _ _ HB4.out).trans rfl) hhm.2, hw.cell ((cell_block _ _ 1 _ _ _ HB4.out).trans rfl) hhm.2, hw.cell ((cell_block _ _ 2 _ _ _ HB4.out).trans rfl) hhm.2⟩
  have HKM : Hid (Kept (fun k => k = σ.hm) w4 (World.over w4.drew σ.hm (.map ((lays σ.hs h ⟨x.p, ((tg : Int) + (m : Int)), x.md⟩ ch).map cH.ent).toArray ch'))) := hkd4.trans (kept_over _ _ _)
  have HFE : Hid (Fs (World.over w4.drew σ.hm (.map ((lays σ.hs h ⟨x.p, ((tg : Int) + (m : Int)), x.md⟩ ch).map cH.ent).toArray ch')) s { ({ σ with fs := lays σ.fs x.p ⟨f.p, f.nm, dv', layB f.xs tg ys⟩ bf, ub := σ.ub - f.xs.length + (layB f.xs tg ys).length } : FSt) with hs := lays σ.hs h ⟨x.p, ((tg : Int) + (m : Int)), x.md⟩ ch }) := HF4.out.setH HKM.out _ ⟨ch', over_same _ _ _ (heap_lt hmh4d)⟩ (keys_lays h _ ch HF4.out.kh)
  have HUP := hid_of hup
  clear hmh4 hmh4d c84 hup
  refine wp_region_held_drew (S := fun w' => Kept (fun k => k = σ.hm) w4 w') (by kernel_rfl) hkd4 (fun hHeld => ?_)
  iterate 6
    refine tkn (v := ?_) 0 rfl ?_ ?_; rotate_left 1
    · intro w hSw; obtain ⟨s1, s2, s3, s4⟩ := HSM.out w hSw; go_simp; try with_reducible rfl
    try simp only [Act.put, tdy]
  have hup' := HUP.out
  refine wpAnyH_ready (rs := [6]) (by kernel_rfl) (by simp) ?_
  refine AllReadyH.cons rfl (fun K hK => ?_) AllReadyH.nil
  go_simp
  refine hK.out _ _ HKM.out (fun hHeld => ?_)
  clear hK K
  try simp only [Act.put, tdy]
  refine wpAnyH_done (by kernel_rfl) ?_ _
  clear hHeld
  go_wp2
  have hend := HK4.out.trans (HKM.out.mono (fun k _ e => .inr (.inr (.inr (.inl e)))))
  exact bodyPost_ret (v := .int .i64 0) (by simp [results, Try.results16, go_sem]) rfl ⟨rfl, dv', bf, ch, HGR.out, by rw [← HMM.out]; exact HFE.out, hend⟩

theorem own_base {w : World} {B B' : Nat} {e sz : Nat} {v : Value} {m : Nat} {l : List Value} (h : w.ownsRow B' e sz v m l) (hB : B ≤ B') : w.ownsRow B e sz v m l := by
  refine ⟨h.1, ?_⟩
  rcases h.2 with h | ⟨g, cap, cur, e, hb, r⟩
  · exact .inl h
  · exact .inr ⟨g, cap, cur, e, by omega, r⟩
theorem not_box' {w : World} {q B : Nat} {cs : Array Value} {t : Nat} (ht : t ≠ 5) (hb : w.heap[q]? = some (.cells cs t (0, 0))) {v : Value} {n : Nat} {xs : List Value} (ho : w.ownsRow B 5 1 v n xs) : v.ownBlock ≠ some q := not_box ht hb (own_base ho (Nat.zero_le _))
/-- What is read. -/
def readN (x : Ha) (ln : Nat) (n : Int) : Int := min n (max ((ln : Int) - x.pl) 0)
set_option maxHeartbeats 4000000 in
theorem read_none {w : World} {s : Nat} {σ : FSt} (H : Fs w s σ) (h n : Int) (x : Ha) (hx : look σ.hs h = some x) (hm : x.md = 0) (hn : 0 ≤ n) (f : Fi) (hf : look σ.fs x.p = some f) (hp0 : 0 ≤ x.pl) (hp1 : x.pl ≤ 2097152) (hz : readN x f.xs.length n = 0) :
    Calls Try.prog 22 #[.pointer (some ⟨s, 0, none⟩), .int .i64 h, .int .i64 n] w fun e w' => e = .returned (.tuple #[.slice none 0 0, .int .i64 0]) ∧ Kept (fun _ => False) w w' := by
  have HP := hid_of (peek_ok H h n x hx hm hn f hf hp0 hp1)
  unfold readN at hz
  rw [hz] at HP
  clear H hx hm hf hz
  go_enter Try.func22, Try.ntmps22
  go_wp2_with fail
  refine HP.out.mono ?_
  rintro e w1 ⟨rfl, hk1⟩
  have HK := hid_of hk1
  clear hk1 HP
  go_wp2
  exact bodyPost_ret (v := .tuple #[.slice none 0 0, .int .i64 0]) (by simp [results, Try.results22, go_sem]) rfl ⟨rfl, HK.out⟩

theorem slice_mid (ao : Option Addr) (L cap i j : Nat) (hij : i ≤ j) (hj : j ≤ cap) : ∃ ao', (∀ g o, ao = some ⟨g, o, none⟩ → i < cap → ao' = some ⟨g, o + i, none⟩) ∧ ∀ W, (Instr.slice 33 (.slice ao L cap) (some (.int .i64 i)) (some (.int .i64 j)) none).run Try.prog W = .ok (.slice ao' (j - i) (cap - i)) W := by
  refine ⟨if cap = i then ao else ao.map (·.add (i * 1)), fun g o h hk => ?_, fun W => ?_⟩
  · rw [if_neg (by omega), h]
    simp [Addr.add_lit]
  · simp [Instr.slice, Instr.sliceBounds, Instr.sliceBound, run_underlying Try.underlying33, asIntOf, hij, hj, sizeOf, typeInfo]
    obtain ⟨i0, hi, hz, hs, hby⟩ := info_parts info5
    simp [hi, hs]
def ReadR (w : World) (s : Nat) (σ : FSt) (h : Int) (x : Ha) (pl : Nat) (ys : List Int) (k : Nat) (e : Ending) (w' : World) : Prop :=
  ∃ v b', e = .returned (.tuple #[v, .int .i64 0]) ∧ w'.ownsRow w.heap.size 5 1 v k (ints (ys.take k)) ∧ Fs w' s { σ with hs := lays σ.hs h ⟨x.p, (pl : Int) + k, 0⟩ b' } ∧ Kept (fun k => σ.own s k) w w'
set_option maxHeartbeats 4000000 in
theorem read_ok {w : World} {s : Nat} {σ : FSt} (H : Fs w s σ) (h n : Int) (x : Ha) (hx : look σ.hs h = some x) (hm : x.md = 0) (hn : 0 ≤ n) (f : Fi) (hf : look σ.fs x.p = some f) (pl k : Nat) (hpl : x.pl = pl) (hz : readN x f.xs.length n = k) (hk0 : 0 < k) :
    Calls Try.prog 22 #[.pointer (some ⟨s, 0, none⟩), .int .i64 h, .int .i64 n] w fun e w' => ReadR w s σ h x pl (f.xs.drop pl) k e w' := by
  obtain ⟨ao, c, hv, hown, hl⟩ := H.data hf
  have hkl : pl + k ≤ f.xs.length := by
    unfold readN at hz
    rw [hpl] at hz
    omega
  have HP := hid_of (peek_ok H h n x hx hm hn f hf (by omega) (by omega))
  unfold readN at hz
  rw [hz] at HP
  have HF := hid_of H
  have HG := hid_of (fun (W : World) (hW : Kept (fun _ => False) w W) => (H.same hW).getH hx)
  have HD := hid_of (fun (W : World) (hW : Kept (fun _ => False) w W) => (H.same hW).getF hf hv)
  obtain ⟨g, hao, hcell, hcap⟩ : ∃ g, ao = some ⟨g, 0, none⟩ ∧ (∀ (W : World), Kept (fun _ => False) w W → ∀ j, j < f.xs.length → W.cell? ⟨g, j, none⟩ = some (.int .u8 (f.xs.getD j 0))) ∧ f.xs.length ≤ c := by
    obtain ⟨_, ⟨h1, h2⟩ | ⟨g, cap, cur, h1, _, h3, h4, _, h6, h7⟩⟩ := id hown
    · omega
    · rw [hv] at h1
      injection h1 with e1 _ e3
      subst e3
      refine ⟨g, e1, fun W hW j hj => ?_, h4⟩
      have h9 := (hW.ownsRow hown (fun _ _ f => f)).cells (g := g) (by rw [hv, e1]; rfl) j (.int .u8 (f.xs.getD j 0)) (by
        rw [List.getElem?_map, List.getElem?_eq_getElem hj]
        simp [List.getD, List.getElem?_eq_getElem hj])
      rw [Addr.add_lit, Nat.zero_add] at h9
      exact h9
  subst hao
  have HCELL := hid_of hcell
  obtain ⟨xp, hxp⟩ : ∃ q : ByteArray, q = ⟨x.p.toArray⟩ := ⟨_, rfl⟩
  rw [← hxp] at HG HD
  rw [hpl, hm] at HG
  have HXP := hid_of hxp
  obtain ⟨a1, ha1⟩ : ∃ q : ByteArray, q = ⟨f.p.toArray⟩ := ⟨_, rfl⟩
  obtain ⟨a2, ha2⟩ : ∃ q : ByteArray, q = ⟨f.nm.toArray⟩ := ⟨_, rfl⟩
  rw [← ha1, ← ha2] at HD
  obtain ⟨ao5, h5, hsl⟩ := slice_mid (some ⟨g, 0, none⟩) f.xs.length c pl (pl + k) (by omega) (by omega)
  obtain rfl := h5 g 0 rfl (by omega)
  rw [Nat.add_sub_cancel_left, Nat.zero_add, Int.natCast_add] at hsl
  have hfld := fun W => field99 W a1 a2 false (some ⟨g, 0, none⟩) f.xs.length c
  have HMD := hid_of hm
  have hxs : ((f.xs.drop pl).take k).length = k := by rw [List.length_take, List.length_drop]; omega
  have HCL := hid_of (fun (W : World) (hW : Kept (fun _ => False) w W) => Any.bytes_Clone_at Try.laysK4 ⟨g, pl, none⟩ k (c - pl) ((f.xs.drop pl).take k) W hxs (by omega) (fun i hi => by
    rw [Addr.add_lit]
    have h9 := hcell W hW (pl + i) (by omega)
    have h10 : ((f.xs.drop pl).take k).getD i 0 = f.xs.getD (pl + i) 0 := by
      simp [List.getD, List.getElem?_take, List.getElem?_drop, hi]
    rw [h10]
    exact h9))
  clear H hx hm hf hv hown hxp ha1 ha2 h5 hcell
  generalize f.xs.length = ln at *
  go_enter Try.func22, Try.ntmps22
  go_wp2_with fail
  refine HP.out.mono ?_
  rintro e w1 ⟨rfl, hk1⟩
  have hF1 := HF.out.same hk1
  have hc8 := hF1.cell 8 (v := .map (some σ.hm)) rfl
  have hg := HG.out w1 hk1
  have hK2 : Kept (fun _ => False) w (w1.alloc (.cells #[.string xp, .int .i64 pl, .int .i64 0] 82)) := hk1.trans ((Kept.refl _ w1).alloc _)
  have hb2 : (w1.alloc (.cells #[.string xp, .int .i64 pl, .int .i64 0] 82)).heap[w1.heap.size]? = some (.cells #[.string xp, .int .i64 pl, .int .i64 0] 82 (0, 0)) := alloc_new _ _ rfl
  have HK2 := hid_of hK2
  have HB2 := hid_of hb2
  have hwq : w.heap.size ≤ w1.heap.size := hk1.size
  have hk1a : ¬ (k : Int) = 0 := by omega
  have hk1b : k ≠ 0 := by omega
  have wr1 : IntKind.i64.wrap ((pl : Int) + (k : Int)) = (pl : Int) + (k : Int) := by rw [IntKind.wrap_i64]; omega
  clear HP hk1 hF1 hK2 hb2
  go_upto_region 5 with fail
  generalize w1.alloc (.cells #[.string xp, .int .i64 pl, .int .i64 0] 82) = w2 at *
  have HS5 : Hid (∀ w', Kept (fun _ => False) w2 w' → w'.cell? ⟨s, 6, none⟩ = some (.map (some σ.fm)) ∧ w'.cell? ⟨w1.heap.size, 0, none⟩ = some (.string xp) ∧ w'.cell? ⟨w1.heap.size, 1, none⟩ = some (.int .i64 pl) ∧ _) := fun w' hw =>
    ⟨(HF.out.same (HK2.out.trans hw)).cell 6 rfl, hw.cell ((cell_block _ _ 0 _ _ _ HB2.out).trans rfl) (fun f => f), hw.cell ((cell_block _ _ 1 _ _ _ HB2.out).trans rfl) (fun f => f), HD.out w' (HK2.out.trans hw)⟩
  have hkd : Kept (fun _ => False) w2 w2.drew := (Kept.refl _ w2).drew
  have HCL2 := hid_of (HCL.out w2.drew (HK2.out.trans hkd))
  clear HD HCL hc8 hg
  refine wp_region_held_drew (S := fun w' => Kept (fun _ => False) w2 w') (by kernel_rfl) hkd (fun hHeld => ?_)
  iterate 15
    refine tkn (v := ?_) 0 rfl ?_ ?_; rotate_left 1
    · intro w hSw; obtain ⟨s1, s2, s3, s4⟩ := HS5.out w hSw; go_simp; try with_reducible rfl
    try simp only [Act.put, tdy]
  refine wpAnyH_ready (rs := [15]) (by kernel_rfl) (by simp) ?_
  refine AllReadyH.cons rfl (fun K hK => ?_) AllReadyH.nil
  go_simp
  refine (HCL2.out).mono ?_
  rintro e w3 ⟨v3, rfl, ho3, _, hbl3⟩
  have hk3 : Kept (fun _ => False) w2 w3 := hkd.trans (kept_below hbl3)
  have HK3 := hid_of hk3
  have HO3 := hid_of ho3
  clear hbl3 ho3
  refine hK.out _ _ hk3 (fun hHeld => ?_)
  clear hK K
  try simp only [Act.put, tdy]
  iterate 1
    refine tkn (v := ?_) 16 rfl ?_ ?_; rotate_left 1
    · intro w hSw; go_simp; try with_reducible rfl
    try simp only [Act.put, tdy]
  refine wpAnyH_done (by kernel_rfl) ?_ _
  clear hHeld HCL2 hkd HS5 hk3
  have hK03 := HK2.out.trans HK3.out
  have hb3 : w3.heap[w1.heap.size]? = some (.cells #[.string xp, .int .i64 pl, .int .i64 0] 82 (0, 0)) := (HK3.out.block _ (heap_lt HB2.out) (fun f => f)).trans HB2.out
  have c31 : w3.cell? ⟨w1.heap.size, 1, none⟩ = some (.int .i64 pl) := (cell_block _ _ 1 _ _ _ hb3).trans rfl
  have f31 : w3.frozen? ⟨w1.heap.size, 1, none⟩ = false := frozen_block _ _ 1 _ _ hb3
  have HB4 : Hid ((w3.setCell ⟨w1.heap.size, 1, none⟩ (.int .i64 ((pl : Int) + (k : Int)))).heap[w1.heap.size]? = some (.cells #[.string xp, .int .i64 ((pl : Int) + (k : Int)), .int .i64 0] 82 (0, 0))) := set_block w3 w1.heap.size 1 _ 82 (0, 0) hb3 _
  have hk34 : Kept (fun k => k = w1.heap.size) w3 (w3.setCell ⟨w1.heap.size, 1, none⟩ (.int .i64 ((pl : Int) + (k : Int)))) := kept_set w3 ⟨w1.heap.size, 1, none⟩ _
  have hqo : ¬ σ.own s w1.heap.size := fun ho => by have := HF.out.lt ho; omega
  have HNQ : Hid (w1.heap.size ≠ σ.hm) := fun e => hqo (.inr (.inr (.inr (.inl e))))
  have HF4 : Hid (Fs (w3.setCell ⟨w1.heap.size, 1, none⟩ (.int .i64 ((pl : Int) + (k : Int)))) s σ) := (HF.out.same hK03).kept hk34 (fun q hq e => by rw [e] at hq; exact hqo hq)
  have HK4 : Hid (Kept (fun k => σ.own s k) w (w3.setCell ⟨w1.heap.size, 1, none⟩ (.int .i64 ((pl : Int) + (k : Int))))) := (hK03.mono (fun _ _ f => f.elim)).step hk34 (fun k hk e => by omega)
  have ho3 : w3.ownsRow w.heap.size 5 1 v3 k (ints ((f.xs.drop pl).take k)) := own_base HO3.out (by have := HK2.out.size; have h9 : w2.drew.heap.size = w2.heap.size := rfl; omega)
  obtain ⟨ao3, c3, hv3⟩ := row_slice ho3
  subst hv3
  have HO4 : Hid ((w3.setCell ⟨w1.heap.size, 1, none⟩ (.int .i64 ((pl : Int) + (k : Int)))).ownsRow w.heap.size 5 1 (.slice ao3 k c3) k (ints ((f.xs.drop pl).take k))) := hk34.ownsRow ho3 (fun q hq e => not_box' (by decide) hb3 ho3 (by rw [hq, e]))
  clear hK03 hb3 hk34 ho3 HO3 HK3
  go_upto_region 7 with fail
  clear c31 f31
  generalize w3.setCell ⟨w1.heap.size, 1, none⟩ (.int .i64 ((pl : Int) + (k : Int))) = w4 at *
  clear HB2 hqo
  generalize w1.heap.size = q at *
  obtain ⟨ch, hmh4⟩ := HF4.out.mh
  have hhm : s ≠ σ.hm ∧ q ≠ σ.hm := ⟨HF4.out.not_s.2.2.1, HNQ.out⟩
  have hkd4 : Kept (fun k => k = σ.hm) w4 w4.drew := (Kept.refl _ w4).drew
  have hmh4d : w4.drew.heap[σ.hm]? = some (.map (σ.hs.map cH.ent).toArray ch) := hmh4
  obtain ⟨ch', hup⟩ := run_lay fitsH w4.drew σ.hm ch σ.hs hmh4d h ⟨x.p, ((pl : Int) + (k : Int)), 0⟩
  rw [show cH.val ⟨x.p, ((pl : Int) + (k : Int)), 0⟩ = .agg #[.string ⟨x.p.toArray⟩, .int .i64 ((pl : Int) + (k : Int)), .int .i64 0] from rfl, show cH.enc h = .int .i64 h from rfl, ← HXP.out] at hup
  have c84 : w4.cell? ⟨s, 8, none⟩ = some (.map (some σ.hm)) := HF4.out.cell 8 rfl
  have HSM : Hid (∀ w', Kept (fun k => k = σ.hm) w4 w' → w'.cell? ⟨s, 8, none⟩ = some (.map (some σ.hm)) ∧ w'.cell? ⟨q, 0, none⟩ = some (.string xp) ∧ w'.cell? ⟨q, 1, none⟩ = some (.int .i64 ((pl : Int) + (k : Int))) ∧ w'.cell? ⟨q, 2, none⟩ = some (.int .i64 0)) := fun w' hw =>
    ⟨hw.cell c84 hhm.1, hw.cell ((cell_block _ _ 0 _ _ _ HB4.out).trans rfl) hhm.2, hw.cell ((cell_block _ _ 1 _ _ _ HB4.out).trans rfl) hhm.2, hw.cell ((cell_block _ _ 2 _ _ _ HB4.out).trans rfl) hhm.2⟩
  have HKM : Hid (Kept (fun k => k = σ.hm) w4 (World.over w4.drew σ.hm (.map ((lays σ.hs h ⟨x.p, ((pl : Int) + (k : Int)), 0⟩ ch).map cH.ent).toArray ch'))) := hkd4.trans (kept_over _ _ _)
  have HFE : Hid (Fs (World.over w4.drew σ.hm (.map ((lays σ.hs h ⟨x.p, ((pl : Int) + (k : Int)), 0⟩ ch).map cH.ent).toArray ch')) s { σ with hs := lays σ.hs h ⟨x.p, ((pl : Int) + (k : Int)), 0⟩ ch }) := HF4.out.setH HKM.out _ ⟨ch', over_same _ _ _ (heap_lt hmh4d)⟩ (keys_lays h _ ch HF4.out.kh)
  have HUP := hid_of hup
  clear hmh4 hmh4d c84 hup
  refine wp_region_held_drew (S := fun w' => Kept (fun k => k = σ.hm) w4 w') (by kernel_rfl) hkd4 (fun hHeld => ?_)
  iterate 6
    refine tkn (v := ?_) 0 rfl ?_ ?_; rotate_left 1
    · intro w hSw; obtain ⟨s1, s2, s3, s4⟩ := HSM.out w hSw; go_simp; try with_reducible rfl
    try simp only [Act.put, tdy]
  have hup' := HUP.out
  refine wpAnyH_ready (rs := [6]) (by kernel_rfl) (by simp) ?_
  refine AllReadyH.cons rfl (fun K hK => ?_) AllReadyH.nil
  go_simp
  refine hK.out _ _ HKM.out (fun hHeld => ?_)
  clear hK K
  try simp only [Act.put, tdy]
  refine wpAnyH_done (by kernel_rfl) ?_ _
  clear hHeld
  have HEND : Hid (ReadR w s σ h x pl (f.xs.drop pl) k (.returned (.tuple #[.slice ao3 k c3, .int .i64 0])) (World.over w4.drew σ.hm (.map ((lays σ.hs h ⟨x.p, ((pl : Int) + (k : Int)), 0⟩ ch).map cH.ent).toArray ch'))) := by
    refine ⟨_, ch, rfl, HKM.out.ownsRow HO4.out (fun g' hg' e => ?_), ?_, HK4.out.trans (HKM.out.mono (fun k _ e => .inr (.inr (.inr (.inl e)))))⟩
    · obtain ⟨c9, h9⟩ := HF4.out.mh
      obtain ⟨_, ⟨h1, _⟩ | ⟨g9, cap9, cur9, h1, _, h3, _⟩⟩ := HO4.out
      · rw [h1] at hg'; cases hg'
      · rw [h1] at hg'
        cases hg'
        have e' : g9 = σ.hm := e
        rw [e', h9] at h3
        cases h3
    · have h9 := HFE.out
      exact h9
  go_wp2
  exact bodyPost_ret (v := .tuple #[.slice ao3 k c3, .int .i64 0]) (by simp [results, Try.results22, go_sem]) rfl HEND.out
end Go.Proofs.Ytmkfjdfpcjkmnaa
