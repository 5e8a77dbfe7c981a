/-
 What a sequence goes over, and what is wanted of it.
-/
import Derived.Test.YtjdbmjkidljhpaaGreatDoorTAlb
namespace Go.Proofs.YtjdbmjkidljhpaaGreatDoor
open Go.RowKit Go.Shelf
attribute [local go_sem] Oper.semAt_some
set_option linter.unusedVariables false
set_option linter.unusedSimpArgs false
set_option maxRecDepth 100000
set_option maxHeartbeats 1000000 in
theorem all_full2 {w : World} {s : Nat} {mv : Value} {σ : Sg} (h : Stor w s mv σ) (hn : σ.es.length ≤ 1000000000) : Calls Tryz.prog 11 #[.pointer (some ⟨s, 0, none⟩)] w fun e w' => ∃ B0 B1 B2 r clock ds ao cap, e = .returned (.func (.func 29) #[] #[.pointer (some ⟨B0, 0, none⟩)]) ∧ RowOf w w' σ.es B1 B2 r clock ds ao cap ∧ w'.cell? ⟨B0, 0, none⟩ = some (.func (.func 55) #[] #[.pointer (some ⟨B1, 0, none⟩), .pointer (some ⟨B2, 0, none⟩)]) ∧ w.heap.size ≤ B0 ∧ B0 < w'.heap.size := by
 have HR := hid_of (row_full h hn)
 clear h
 go_enter Tryz.func11, Tryz.ntmps11
 go_wp2_with fail
 refine HR.out.mono ?_
 rintro e w1 ⟨B1, B2, r, clock, ds, ao, cap, rfl, ho⟩
 have HO := hid_of ho
 have HK : Hid (Kept (fun _ => False) w1 (w1.alloc (.cells #[.func (.func 55) #[] #[.pointer (some ⟨B1, 0, none⟩), .pointer (some ⟨B2, 0, none⟩)]] 47))) := (Kept.refl _ w1).alloc _
 have HB : Hid ((w1.alloc (.cells #[.func (.func 55) #[] #[.pointer (some ⟨B1, 0, none⟩), .pointer (some ⟨B2, 0, none⟩)]] 47)).heap[w1.heap.size]? = some (.cells #[.func (.func 55) #[] #[.pointer (some ⟨B1, 0, none⟩), .pointer (some ⟨B2, 0, none⟩)]] 47 (0, 0))) := alloc_new _ _ rfl
 clear ho HR
 go_wp2
 generalize w1.alloc (.cells #[.func (.func 55) #[] #[.pointer (some ⟨B1, 0, none⟩), .pointer (some ⟨B2, 0, none⟩)]] 47) = w2 at *
 go_ret
 have hsz := HK.out.size
 have ho := HO.out
 have h1 := ho.n1
 have h2 := ho.n2
 have h3 := ho.n3
 have h4 := ho.kp.size
 refine ⟨w1.heap.size, B1, B2, r, clock, ds, ao, cap, rfl, ⟨ho.at_.keep (Z := fun _ => True) (KeepsB.of_kept HK.out) trivial trivial trivial (fun _ _ _ => trivial), ho.perm, by omega, by omega, by omega, (fun g o h => by have := ho.n4 g o h; omega), ho.kp.trans HK.out, ho.up⟩, (cell_block _ _ _ _ _ _ HB.out).trans rfl, h4, heap_lt HB.out⟩
/-- What comes in a round: a digest, its bytes in a row of their own. -/
def Cb (es : List En) (ds : List Dg) (pre : List (Eb es)) (x : Eb es) (A W : World) : Prop :=
 W.ownsRow A.heap.size 5 1 x.1.2 x.1.1.1.xs.length (x.1.1.1.xs.map (Value.int .u8)) ∧ ∃ d, ds[pre.length]? = some d ∧ d.1 = x.1.1.1.k
theorem Cb.loop {es : List En} {ds : List Dg} (pre : List (Eb es)) (x : Eb es) (A A' B B' : World) (q : Nat) (L : Loop) (hl : B.heap[q]? = some (.loop L)) (ho : ∀ k, k ≠ q → B'.heap[k]? = B.heap[k]?) (hs : A'.heap.size = A.heap.size) (h : Cb es ds pre x A B) : Cb es ds pre x A' B' := by
 refine ⟨?_, h.2⟩
 rw [hs]
 refine ⟨h.1.1, ?_⟩
 rcases h.1.2 with h0 | ⟨g, cap, cur, h1, h2, h3, h4⟩
 ·exact .inl h0
 ·refine .inr ⟨g, cap, cur, h1, h2, (ho g (fun e => ?_)).trans h3, h4⟩
  rw [e, hl] at h3
  cases h3
theorem Cb.kept {es : List En} {ds : List Dg} (pre : List (Eb es)) (x : Eb es) (A B B' : World) (hk : Kept (fun _ => False) B B') (h : Cb es ds pre x A B) : Cb es ds pre x A B' := ⟨hk.ownsRow h.1 (fun _ _ f => f), h.2⟩
/-- What lies where a sequence was made. -/
def Zs (es : List En) (B0 B1 B2 rr : Nat) (ao : Option Addr) (q : Nat) : Prop :=
 q = B0 ∨ q = B1 ∨ q = B2 ∨ q = rr ∨ (∃ g o, ao = some ⟨g, o, none⟩ ∧ q = g) ∨ ∃ e ∈ es, e.xs ≠ [] ∧ e.bv.ownBlock = some q
structure Snap (w : World) (Z Pw : Nat → Prop) (es : List En) (ds : List Dg) (B0 : Nat) (wv : Value) (m : Nat) : Prop where
 seq : ∀ (Y Yx : Nat → Prop), (∀ q, Z q → ¬ Y q) → (∀ q, Z q → ¬ Yx q) → ∀ n, 4 ≤ n → SeqL n 29 #[.pointer (some ⟨B0, 0, none⟩)] (fun x : Eb es => #[dv x.1.1.1.k, x.1.2]) Y Yx Z (Cb es ds) (fun ys => ys.map (·.1.1.1.k) = ds.map (·.1)) ds.length 3 w
 len : ds.length = m
 few : m ≤ 900000
 key : ∀ x ∈ es, x.k.length = 32 ∧ ∀ y ∈ x.k, 0 ≤ y ∧ y < 256
 form : ∃ ao c, wv = .slice ao m c
 at_ : ∀ w', KeepsB Pw w w' → ∀ i d (x : En), x ∈ es → ds[i]? = some d → d.1 = x.k → ∃ gl c bo bc, wv = .slice (some ⟨gl, 0, none⟩) m c ∧ w'.rangeAt gl (i * 34) (x.k.map (Value.int .u8)) ∧ w'.cell? ⟨gl, i * 34 + 32, none⟩ = some (.slice bo x.xs.length bc) ∧ BIn w' (.slice bo x.xs.length bc) x.xs ∧ x.xs.length ≤ 1048576
theorem snap_of {w5 w6 w7 w8 w9 : World} {lo k n g s : Nat} {mv : Value} {σ : Sg} {r : Nat} {lv : Value} {ρ : Rg} {iv : Value} {mm : Nat} (hW : Wd w5 lo k n g s mv σ r lv ρ iv mm) (hn : n ≤ 900000) {lv' : Value} {l' : List Bl} (hT : TwR w5 w6 ρ.l.length lv' ρ l') (hk67 : Kept (fun _ => False) w6 w7) {B0 B1 B2 rr clock : Nat} {ds : List Dg} {ao : Option Addr} {cap : Nat} (hR : RowOf w7 w8 σ.es B1 B2 rr clock ds ao cap) (hf : w8.cell? ⟨B0, 0, none⟩ = some (.func (.func 55) #[] #[.pointer (some ⟨B1, 0, none⟩), .pointer (some ⟨B2, 0, none⟩)])) (hB0 : B0 < w8.heap.size) (hk89 : Kept (fun _ => False) w8 w9) :
  Snap w9 (Zs σ.es B0 B1 B2 rr ao) (fun q => w5.heap.size ≤ q ∧ q < w9.heap.size) σ.es ds B0 lv' ρ.l.length := by
 have hk57 : Kept (fun _ => False) w5 w7 := hT.kp.trans hk67
 have hk59 : Kept (fun _ => False) w5 w9 := (hk57.trans hR.kp).trans hk89
 have hs89 := hk89.size
 have hs58 := (hk57.trans hR.kp).size
 obtain ⟨hrst, hsame⟩ := hT.rst (Nat.le_refl _) hW.two.rs.few
 have hlen : ds.length = ρ.l.length := by
  have h5 := hR.perm.length_eq
  rw [List.length_map, List.length_map, hW.two.alk.len] at h5
  exact h5
 have hcnt := hW.two.cnt
 refine ⟨fun Y Yx hY hYx n' hn' => ?_, hlen, by omega, hW.two.st.key, row_form hT.row |>.imp fun a h => h.imp fun c h => by rw [← hsame.len]; exact h, ?_⟩
 ·refine all1_seqL Y Yx (Zs σ.es B0 B1 B2 rr ao) hY hYx n' hn' B0 B1 B2 rr clock σ.es ds ao cap w9 (hR.at_.keep (Z := fun _ => True) (KeepsB.of_kept hk89) trivial trivial trivial (fun _ _ _ => trivial)) (.inl rfl) (.inr (.inl rfl)) (.inr (.inr (.inl rfl))) (.inr (.inr (.inr (.inl rfl)))) (fun g o e => .inr (.inr (.inr (.inr (.inl ⟨g, o, e, rfl⟩))))) (fun q hq => ?_) (by omega) (by omega) (hk89.cell hf (fun f => f)) (fun e he => ?_)
  ·rcases hq with rfl | rfl | rfl | rfl | ⟨g, o, e, rfl⟩ | ⟨e, he, h0, hq⟩
   ·omega
   ·have := hR.n1.2; omega
   ·have := hR.n2.2; omega
   ·have := hR.n3.2; omega
   ·have := (hR.n4 _ _ e).2; omega
   ·have := hW.two.st.bytelt he h0 q hq
    omega
  ·obtain ⟨h1, h2, h3, h4⟩ := hW.two.st.blob e he
   exact ⟨h1.kept2 hk59 (fun _ _ _ f => f), h3, fun h0 g hg => .inr (.inr (.inr (.inr (.inr ⟨e, he, h0, hg⟩))))⟩
 ·intro w' hw' i d x hx hd hk
  obtain ⟨b, hb, hbd, hbs, _, _⟩ := hW.two.place hR.perm hR.up hx hd hk
  have hlt : i < ρ.l.length := (List.getElem?_eq_some_iff.1 hb).1
  have hll := hsame.len
  obtain ⟨b', hb'⟩ : ∃ b', l'[i]? = some b' := ⟨_, List.getElem?_eq_getElem (by omega)⟩
  have h3 : (l'.map (fun x => (x.d, x.xs, x.st)))[i]? = (ρ.l.map (fun x => (x.d, x.xs, x.st)))[i]? := by rw [hsame]
  rw [List.getElem?_map, List.getElem?_map, hb, hb'] at h3
  have h4 := Option.some.inj h3
  have hd' : b'.d = x.k := (congrArg Prod.fst h4).trans hbd
  have hx' : b'.xs = x.xs := (congrArg (fun p => p.2.1) h4).trans hbs
  obtain ⟨gl, c, hgl⟩ := row_some hT.row (by omega)
  have hok := hT.ok b' (List.mem_of_getElem? hb')
  obtain ⟨bo, bc, hbv⟩ := hok.bin.form
  have hglb := (hT.row.lt gl (by rw [hgl]; rfl))
  have hk69 := (hk67.trans hR.kp).trans hk89
  have hrow := hT.row
  rw [hgl] at hrow
  obtain ⟨h5, h6, _⟩ := Bl.range hok.len (row_get (own_lo hrow) (fun b hb => (hT.ok b hb).len) hb')
  rw [hd'] at h5
  rw [hbv, hx'] at h6
  have hs69 := hk69.size
  have zg : w5.heap.size ≤ gl ∧ gl < w9.heap.size := ⟨by omega, by omega⟩
  refine ⟨gl, c, bo, bc, by rw [hgl, hll], fun j u hj => hw'.cell zg (hk69.cell (h5 j u hj) (fun f => f)), hw'.cell zg (hk69.cell h6 (fun f => f)), ?_, ?_⟩
  ·have h7 := hok.bin
   rw [hbv, hx'] at h7
   refine bin_keepsB (h7.kept2 hk69 (fun _ _ _ f => f)) hw' (fun h0 q hq => ?_)
   obtain ⟨h8, cs, h9⟩ := hT.by_ b' (List.mem_of_getElem? hb') (by rw [hx']; exact h0) q (by rw [hbv, hx']; exact hq)
   have := heap_lt h9
   exact ⟨by omega, by omega⟩
  ·have := (hW.two.st.blob x hx).2.2.1; exact this
end Go.Proofs.YtjdbmjkidljhpaaGreatDoor
