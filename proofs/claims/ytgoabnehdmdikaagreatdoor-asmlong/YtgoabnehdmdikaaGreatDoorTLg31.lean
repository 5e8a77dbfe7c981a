import Derived.Test.YtgoabnehdmdikaaGreatDoorTLg11
import Derived.Test.YtgoabnehdmdikaaGreatDoorTLg30
import Derived.Test.YtgoabnehdmdikaaGreatDoorTLg4
set_option linter.unusedVariables false
set_option linter.unusedSimpArgs false
set_option maxRecDepth 100000
set_option maxHeartbeats 64000000
namespace Go.Proofs.YtgoabnehdmdikaaGreatDoor
open Go.RowKit
theorem Zuw (w : World) : IsB w (.slice none 0 0) [] := .inl ⟨rfl, none, 0, rfl⟩
theorem Zhv (k n : Int) (w : World) (hk : k = 1 ∨ k = 2) (hn0 : -9223372036854775808 ≤ n) (hn1 : n < 9223372036854775808) (hkn : k = 1 → 0 ≤ n) (base : Nat) (v : Value) (l : List Int) (L : Nat) (hL : L = l.length) (hb : base ≤ w.heap.size) (hown : w.ownsRow base 5 1 v L (l.map (Value.int .u8))) (hl : l.length ≤ 4194304) :
  Calls Tryz.prog 68 #[.agg #[.int .i64 k, .int .i64 n, .slice none 0 0]] w fun e w' => ∃ bv o2 L2 c2 w2, e = .returned bv ∧ (Builtin.append_ #[23, 23] 23 #[v, bv]).run Tryz.prog w' = .ok (.slice o2 L2 c2) w2 ∧ L2 = (l ++ Zan k n []).length ∧ w2.ownsRow base 5 1 (.slice o2 L2 c2) L2 ((l ++ Zan k n []).map (Value.int .u8)) ∧ Kept (fun q => v.ownBlock = some q) w w2 := by
 subst hL
 refine (Zr0 k n (.slice none 0 0) [] w (by omega) (by omega) hn0 hn1 hkn (Zuw w) (by simp)).mono ?_
 rintro e w' ⟨bv, rfl, ho, hk'⟩
 have hlen : (Zan k n []).length ≤ 9 := by
  rcases hk with rfl | rfl
  ·exact (Mth.form_length n (by omega)).2
  ·exact (Mth.form_length (Wg n) (Zf3 n hn0 hn1).2).2
 obtain ⟨v2, w2, hr, h2, h3⟩ := Zf6 w' v l.length base l 23 bv (Zan k n []) (hk'.ownsRow hown (fun _ _ f => f)) (Zbc ho) (Nat.le_trans hb hk'.size) (by omega)
 obtain ⟨o2, c2, rfl⟩ := Zd h2
 exact ⟨bv, o2, _, c2, w2, rfl, hr, by rw [List.length_append], h2, (hk'.mono (fun _ _ f => f.elim)).grown h3 (fun k hk => .inr hk)⟩
theorem Zr1 {w : World} {base : Nat} {e t : TypeId} {sz n B : Nat} {v : Value} {xs : List Value} {c : Array Value} (h : w.ownsRow base e sz v n xs) (hB : w.heap[B]? = some (.cells c t (0, 0))) (hv : v.ownBlock = some B) (hne : t ≠ e) : False := by
 rcases h.2 with ⟨rfl, _⟩ | ⟨g, cap, cur, rfl, _, hg, _⟩
 ·simp [Value.ownBlock] at hv
 ·have : g = B := by simpa [Value.ownBlock] using hv
  subst this
  rw [hB] at hg
  cases hg
  exact hne rfl
theorem Zne (v : Value) (ys : List IN) (w : World) (hv : RowI w v ys) (hy : ∀ y ∈ ys, y.Ok) (hyl : ys.length ≤ 9223372036854775807) : Calls Tryz.prog 44 #[v] w (Zdf ys w) := by
 obtain ⟨ao, c, rfl⟩ := hv.shape
 obtain ⟨n, hn⟩ := nmd (ys.length)
 have HN := Za hn
 rw [← hn]
 rw [← hn] at hv hyl
 by_cases hbig : 4096 < n
 ·have hbI : (4096 : Int) < (n : Int) := by omega
  have HR : Hid (Zdf ys w (.returned (.tuple #[.slice none 0 0, .int .i64 2])) w) := ⟨Kept.refl _ _, by
   have e : Xz ys = 2 := if_pos (by rw [← HN.out]; exact hbig)
   rw [e, if_neg (by decide)]⟩
  clear hv hy hn
  go_enter Tryz.func44, Tryz.ntmps44
  go_wp2
  go_ret2
  exact HR.out
 ·have hbI : (n : Int) ≤ 4096 := by omega
  have hb4 : n ≤ 4096 := by omega
  have HV := Za hv
  have HY := Za hy
  have HE : Hid (Xz ys = Zay ys) := if_neg (by rw [← HN.out]; omega)
  clear hv hy hn hyl hbig
  go_enter Tryz.func44, Tryz.ntmps44
  go_wp2
  go_loopw [4, 5] (fun ov iv wr => ∃ (i cp L : Nat) (oo : Option Addr), i ≤ n ∧ iv = .int .i64 i ∧ ov = .slice oo L cp ∧ L = (Xj (ys.take i)).length ∧ wr.ownsRow w.heap.size 5 1 (.slice oo L cp) L ((Xj (ys.take i)).map (Value.int .u8)) ∧ Kept nF w wr ∧ ∀ z ∈ ys.take i, Xl z = 0) (fun _ iv _ => n - (intOf iv).toNat)
  case atStart => exact ⟨0, 0, 0, none, by omega, rfl, rfl, rfl, World.ownsRow_nil _ _ _ _, Kept.refl _ _, fun z hz => by simp at hz⟩
  case round =>
   obtain ⟨i, cp, L, oo, hi, rfl, rfl, hLe, hown, hKe, hgood⟩ := hrel
   have HLE := Za hLe
   clear hLe
   by_cases hlt : i < n
   ·have hltI : (i : Int) < (n : Int) := by omega
    have hi0 : (0 : Int) ≤ (i : Int) := by omega
    have hly : i < ys.length := by rw [← HN.out]; exact hlt
    obtain ⟨y, hyi⟩ : ∃ y, ys[i]? = some y := ⟨_, List.getElem?_eq_getElem hly⟩
    have hyo := HY.out y (List.mem_of_getElem? hyi)
    have HBAD : Hid (Xl y ≠ 0 → Xz ys = Xl y) := fun h => by rw [HE.out]; exact Zd8 ys i y hyi hgood h
    have HNEXT : Hid (Xl y = 0 → (∀ z ∈ ys.take (i + 1), Xl z = 0) ∧ Xj (ys.take (i + 1)) = Xj (ys.take i) ++ Zfp y) := fun h => by
     rw [List.take_add_one, hyi]
     exact ⟨fun z hz => by
      rcases List.mem_append.1 hz with hz | hz
      ·exact hgood z hz
      ·simp at hz; rw [hz]; exact h, Zir _ _⟩
    have hlen : (Xj (ys.take i)).length ≤ 4193000 := by
     have h1 := Zgq (ys.take i) (fun z hz => HY.out z (List.mem_of_mem_take hz))
     have h2 : (ys.take i).length ≤ i := by simp; omega
     omega
    obtain ⟨g, o, e1, r1⟩ : ∃ g o, ao = some ⟨g, o, none⟩ ∧ w.rangeAt g (o + i * 2) y.cells := by
     rcases HV.out with ⟨e, _⟩ | ⟨g, o, c2, e, hc⟩
     ·rw [e] at hly; simp at hly
     ·cases e; exact ⟨g, o, rfl, hc i y hyi⟩
    subst e1
    obtain ⟨op, a⟩ := y
    obtain ⟨⟨hp0, hp1⟩, ha0, ha1⟩ := hyo
    have HC0 : Hid (∀ w', Kept nF w w' → w'.cell? ⟨g, o + i * 2, none⟩ = some (.int .i64 op)) := fun w' hk => hk.cell (r1 0 _ rfl) id
    have HC1 : Hid (∀ w', Kept nF w w' → w'.cell? ⟨g, o + i * 2 + 1, none⟩ = some (.int .i64 a)) := fun w' hk => hk.cell (r1 1 _ rfl) id
    have x0 := HC0.out wr hKe
    have HOW := Za hown
    have HKE := Za hKe
    generalize Xj (ys.take i) = eb at *
    clear hown hKe hyi hly hgood r1
    go_wp2_with fail
    refine (Zn8 op wr hp0 hp1).mono ?_
    rintro e w1 ⟨rfl, hk1⟩
    have HO1 := Za (hk1.ownsRow HOW.out (fun _ _ f => f))
    have HK1 := Za (HKE.out.trans hk1)
    clear hk1 HOW HKE x0
    by_cases hrow : 0 ≤ op ∧ op < 46
    ·obtain ⟨k, rfl⟩ : ∃ k : Nat, op = k := ⟨op.toNat, by omega⟩
     have hk46 : k < 46 := by omega
     rw [(Zcd (L := Zj) hk46).1, (Zcd (L := Zj) hk46).2]
     obtain ⟨hm6, hmo⟩ := Zen k hk46
     have HERR : Hid (Xl ⟨(k : Int), a⟩ = if Xo (kix k) a = true then 0 else 112) := if_pos (Zhz hrow)
     have HPUT : Hid (Zfp ⟨(k : Int), a⟩ = Mth.form (k : Int) ++ opB (kix k) a) := rfl
     clear hrow
     generalize kix k = m at *
     generalize Zj.getD k Sh.none = x at *
     obtain ⟨nm, oo2, ta, gi⟩ := x
     obtain rfl : oo2 = (m : Int) := hmo
     rw [Zoj]
     have hkA : Kept nF w1 (w1.alloc (.cells #[.string nm, .int .i64 (m : Int), .int .i64 ta, .int .i64 gi] 89)) := (Kept.refl _ _).alloc _
     have hB2 := heap_alloc_new w1 (.cells #[.string nm, .int .i64 (m : Int), .int .i64 ta, .int .i64 gi] 89)
     have HO2 := Za (hkA.ownsRow HO1.out (fun _ _ f => f))
     have HK2 := Za (HK1.out.trans hkA)
     clear hkA HO1 HK1
     go_upto_region 8 with fail
     generalize w1.alloc _ = w2 at *
     generalize w1.heap.size = B at *
     have HB2 := Za hB2
     have HBL : Hid (B < w2.heap.size) := (Array.getElem?_eq_some_iff.1 hB2).1
     have s1 : w2.cell? ⟨B, 1, none⟩ = some (.int .i64 (m : Int)) := by rw [Zb _ _ _ _ _ _ hB2]; rfl
     have x1 := HC1.out w2 HK2.out
     clear hB2
     go_upto_region 10 with fail
     go_quiet (first | (go_at_call 67; exact Calls.quiet_of_same (Ztr a _ m hm6)))
     by_cases hmay : Xo m a = true
     ·rw [hmay, show (!true) = false from rfl]
      have hz : Xl ⟨(k : Int), a⟩ = 0 := by rw [HERR.out, if_pos hmay]
      obtain ⟨hgn, hbn⟩ := HNEXT.out hz
      have HGN := Za hgn
      have HBN : Hid (Xj (ys.take (i + 1)) = (eb ++ Mth.form (k : Int)) ++ opB m a) := by unfold Hid; rw [hbn, HPUT.out, List.append_assoc]
      have HMA := Za hmay
      clear hz hgn hbn s1 x1 hmay
      have HK3 := Za (Yf HK2.out nq)
      have HO3 := Za ((Yf (Kept.refl nF w2) nq).ownsRow HO2.out (fun _ _ f => f))
      have HB3 := Za (Zc (Yf (Kept.refl nF w2) nq) HB2.out id)
      have HBL3 : Hid (B < (w2.drewN nq).heap.size) := HBL.out
      clear HK2 HO2 HB2 HBL
      generalize w2.drewN nq = w3 at *
      have x0 := HC0.out w3 HK3.out
      have HPA := Za (Zhv 1 (k : Int) w3 (.inl rfl) hp0 hp1 (fun _ => by omega) w.heap.size (.slice oo L cp) eb L HLE.out HK3.out.size HO3.out (by omega))
      have HNB : Hid (∀ q, (Value.slice oo L cp).ownBlock = some q → w.heap.size ≤ q ∧ q ≠ B) := fun q hq => by
       have h1 := HO3.out.lt q hq
       refine ⟨h1.1, fun e => ?_⟩
       subst e
       exact Zr1 HO3.out HB3.out hq (by decide)
      go_wp2_with fail
      refine HPA.out.mono ?_
      rintro e w4 ⟨bv, o5, L5, c5, w5, rfl, hr5, hL5, ho5, hk5⟩
      rw [show Zan 1 (k : Int) [] = Mth.form (k : Int) from rfl] at ho5 hL5
      have HK5 := Za (HK3.out.step hk5 (fun q hq e => by have := (HNB.out q e).1; omega))
      have hB5 := Zc hk5 HB3.out (fun e => (HNB.out B e).2 rfl)
      have s1 : w5.cell? ⟨B, 1, none⟩ = some (.int .i64 (m : Int)) := by rw [Zb _ _ _ _ _ _ hB5]; rfl
      have HO5 := Za ho5
      have hl5 : (eb ++ Mth.form (k : Int)).length ≤ 4194000 := by have := (Mth.form_length (k : Int) (by omega)).2; rw [List.length_append]; omega
      have HL5 := Za hL5
      have HL6 := Za hl5
      clear x0 hk5 ho5 HPA HO3 HB3 HK3 hB5 hL5 hl5 hlen
      go_upto_region 13 with (at_builtin; refine Zej rfl (.tmp 37) (.tmp 44) 23 23 rfl _ _ rfl rfl _ w5 hr5 ?_)
      clear hr5
      obtain ⟨ec, hec⟩ := nmd (eb ++ Mth.form (k : Int))
      rw [← hec] at HL5 HL6 HO5 HBN
      clear hec
      rcases (show m = 0 ∨ m = 1 ∨ 2 ≤ m by omega) with rfl | rfl | hm2
      ·have HF : Hid (Xj (ys.take (i + 1)) = ec) := by unfold Hid; rw [HBN.out]; exact List.append_nil _
       go_wp2
       go_roundw
       case rel => exact ⟨i + 1, c5, L5, o5, by omega, by go_num, rfl, by rw [HF.out]; exact HL5.out, by rw [HF.out]; exact HO5.out, HK5.out, HGN.out⟩
       case measure => simp [intOf]; omega
      ·have HF : Hid (Xj (ys.take (i + 1)) = ec ++ Mth.form (Wg a)) := by unfold Hid; rw [HBN.out]; rfl
       have x1 := HC1.out w5 HK5.out
       have HPA := Za (Zhv 2 a w5 (.inr rfl) ha0 ha1 (fun h => absurd h (by decide)) w.heap.size (.slice o5 L5 c5) ec L5 HL5.out HK5.out.size HO5.out (by have := HL6.out; omega))
       have HNB5 : Hid (∀ q, (Value.slice o5 L5 c5).ownBlock = some q → w.heap.size ≤ q) := fun q hq => (HO5.out.lt q hq).1
       go_wp2_with fail
       refine HPA.out.mono ?_
       rintro e w6 ⟨bv6, o7, L7, c7, w7, rfl, hr7, hL7, ho7, hk7⟩
       rw [show Zan 2 a [] = Mth.form (Wg a) from rfl] at ho7 hL7
       have HL7 := Za hL7
       have HK7 := Za (HK5.out.step hk7 (fun q hq e => by have := HNB5.out q e; omega))
       have HO7 := Za ho7
       clear x1 s1 hk7 ho7 HPA HO5 HK5 hL7
       go_wp2_with (at_builtin; refine Zej rfl (.tmp 49) (.tmp 56) 23 23 rfl _ _ rfl rfl _ w7 hr7 ?_)
       go_roundw
       case rel => exact ⟨i + 1, c7, L7, o7, by omega, by go_num, rfl, by rw [HF.out]; exact HL7.out, by rw [HF.out]; exact HO7.out, HK7.out, HGN.out⟩
       case measure => simp [intOf]; omega
      ·have HF : Hid (Xj (ys.take (i + 1)) = ec ++ Mth.form a) := by unfold Hid; rw [HBN.out, Zpv hm2]
       have x1 := HC1.out w5 HK5.out
       have ha : 0 ≤ a := by
        have h := HMA.out
        rw [Zk1 hm2, Bool.and_eq_true, decide_eq_true_iff] at h
        exact h.1
       have hm1 : ((m : Int) == 1) = false := by simp; omega
       have hm0 : ((m : Int) != 0) = true := by simp; omega
       have HPA := Za (Zhv 1 a w5 (.inl rfl) ha0 ha1 (fun h => ha) w.heap.size (.slice o5 L5 c5) ec L5 HL5.out HK5.out.size HO5.out (by have := HL6.out; omega))
       have HNB5 : Hid (∀ q, (Value.slice o5 L5 c5).ownBlock = some q → w.heap.size ≤ q) := fun q hq => (HO5.out.lt q hq).1
       go_wp2_with fail
       refine HPA.out.mono ?_
       rintro e w6 ⟨bv6, o7, L7, c7, w7, rfl, hr7, hL7, ho7, hk7⟩
       rw [show Zan 1 a [] = Mth.form a from rfl] at ho7 hL7
       have HL7 := Za hL7
       have HK7 := Za (HK5.out.step hk7 (fun q hq e => by have := HNB5.out q e; omega))
       have HO7 := Za ho7
       clear x1 s1 hk7 ho7 HPA HO5 HK5 hL7
       go_wp2_with (at_builtin; refine Zej rfl (.tmp 61) (.tmp 68) 23 23 rfl _ _ rfl rfl _ w7 hr7 ?_)
       go_roundw
       case rel => exact ⟨i + 1, c7, L7, o7, by omega, by go_num, rfl, by rw [HF.out]; exact HL7.out, by rw [HF.out]; exact HO7.out, HK7.out, HGN.out⟩
       case measure => simp [intOf]; omega
     ·rw [show Xo m a = false by simpa using hmay, show (!false) = true from rfl]
      have HBD : Hid (Xz ys = 112) := by
       have h1 : Xl ⟨(k : Int), a⟩ = 112 := by rw [HERR.out, if_neg hmay]
       unfold Hid
       rw [HBAD.out (by rw [h1]; decide), h1]
      have HR : Hid (Zdf ys w (.returned (.tuple #[.slice none 0 0, .int .i64 112])) (w2.drewN nq)) := ⟨Yf HK2.out nq, by rw [HBD.out, if_neg (by decide)]⟩
      clear s1 x1 hmay
      go_wp2
      go_ret2
      exact HR.out
    ·rw [show Yd Zj op = Sh.none from if_neg hrow, Zgb hrow, show Sh.none.cells.toArray = #[.string ⟨#[]⟩, .int .i64 0, .int .i64 0, .int .i64 0] from rfl]
     have HBD : Hid (Xz ys = 111) := by
      have h1 : Xl ⟨op, a⟩ = 111 := if_neg (by rw [Zgb hrow]; decide)
      unfold Hid
      rw [HBAD.out (by rw [h1]; decide), h1]
     have HR : Hid (Zdf ys w (.returned (.tuple #[.slice none 0 0, .int .i64 111])) (w1.alloc (.cells #[.string ⟨#[]⟩, .int .i64 0, .int .i64 0, .int .i64 0] 89))) := ⟨HK1.out.alloc _, by rw [HBD.out, if_neg (by decide)]⟩
     clear hrow
     go_wp2
     go_ret2
     exact HR.out
   ·have hnl : (n : Int) ≤ (i : Int) := by omega
    have HZ : Hid (Xz ys = 0 ∧ ys.take i = ys) := by
     have ht : ys.take i = ys := List.take_of_length_le (by rw [← HN.out]; omega)
     rw [ht] at hgood
     exact ⟨by rw [HE.out]; exact (Zcf ys).2 hgood, ht⟩
    rw [HZ.out.2] at hown
    have hL9 := HLE.out
    rw [HZ.out.2] at hL9
    have HR : Hid (Zdf ys w (.returned (.tuple #[.slice oo L cp, .int .i64 0])) wr) := ⟨hKe, by rw [if_pos HZ.out.1]; exact ⟨_, rfl, by rw [← hL9]; exact hown⟩⟩
    clear hown hKe hgood hL9
    go_wp2
    go_ret2
    exact HR.out
end Go.Proofs.YtgoabnehdmdikaaGreatDoor
namespace Go.Proofs.YtgoabnehdmdikaaGreatDoor
open Go.ChangeShapes Go.WideShapes Go.ChangeAt Go.RowKit Go.Deep
theorem Zg6 (v : Value) (p : PG) (w : World) (B : Nat) (h : PgIs w B v p) (hB : B ≤ w.heap.size) (ho : p.Ok) :
  Calls Tryz.prog 24 #[v] w fun e w' => e = .returned (.int .i64 (Ya p)) ∧ Kept nF w w' := by
 obtain ⟨dv, fv, rfl, hd, hdl, hf⟩ := h
 obtain ⟨dao, dc, rfl⟩ := hd.shape
 obtain ⟨fao, fc, rfl⟩ := hf.shape
 obtain ⟨nd, hnd⟩ := nmd (p.data.length)
 obtain ⟨nf, hnf⟩ := nmd (p.fns.length)
 obtain ⟨mem, hmem⟩ := nmd (p.mem)
 have hcs := Zfv p
 rw [← hmem, ← hnd, ← hnf] at hcs
 rw [← hnf] at hf
 rw [← hmem, ← hnd, ← hnf]
 have hbd := ho.data.2
 rw [← hnd] at hbd
 have HF := Za hf
 have HO := Za ho
 have HNF := Za hnf
 have HBB := Za hB
 have hkA : Kept nF w (w.alloc (.cells #[.int .i64 mem, .slice dao nd dc, .slice fao nf fc] 26)) := (Kept.refl _ _).alloc _
 have hbA := heap_alloc_new w (.cells #[.int .i64 mem, .slice dao nd dc, .slice fao nf fc] 26)
 have c0 := Zb _ w.heap.size 0 _ _ _ hbA
 have c1 := Zb _ w.heap.size 1 _ _ _ hbA
 have c2 := Zb _ w.heap.size 2 _ _ _ hbA
 have HKA := Za hkA
 have HBA := Za hbA
 clear hd hdl hf ho hnf hnd hmem hB hkA hbA
 rcases hcs with ⟨hcs, hbp⟩ | ⟨hcs, hbp⟩
 ·have HC : Hid (Ya p = 121) := by unfold Hid Ya; rw [if_pos hbp]
  rw [HC.out]
  clear hbp
  rcases hcs with hcs | hcs | hcs | hcs | hcs
  all_goals
   go_enter Tryz.func24, Tryz.ntmps24
   go_wp2
   go_ret
   exact ⟨rfl, HKA.out⟩
 ·have HC : Hid (Ya p = Za6 p.fns) := by unfold Hid Ya; rw [if_neg (by rw [hbp]; decide)]
  clear hbp
  obtain ⟨h1, h2, h3, h4, h5⟩ := hcs
  rw [HC.out]
  go_enter Tryz.func24, Tryz.ntmps24
  go_wp2_with fail
  obtain ⟨gb, hgb⟩ := nmd (w.heap.size)
  have HBA2 : Hid ((w.alloc (.cells #[.int .i64 mem, .slice dao nd dc, .slice fao nf fc] 26)).heap[gb]? = some (.cells #[.int .i64 mem, .slice dao nd dc, .slice fao nf fc] 26 (0, 0))) := by unfold Hid; rw [hgb]; exact HBA.out
  rw [← hgb]
  clear hgb c0 c1 c2 HBA
  go_loopw [3] (fun i wr => ∃ k : Nat, k ≤ nf ∧ i = .int .i64 k ∧ Hid (∀ x ∈ p.fns.take k, Wk x = 0) ∧ Hid (Kept nF w wr) ∧ Hid (wr.heap[gb]? = some (.cells #[.int .i64 mem, .slice dao nd dc, .slice fao nf fc] 26 (0, 0)))) (fun i _ => nf - (intOf i).toNat)
  case atStart => exact ⟨0, by omega, rfl, (fun x hx => by simp at hx), HKA, HBA2⟩
  case round =>
   obtain ⟨k, hk, rfl, HGO, HKR, HBR⟩ := hrel
   have c2 := Zb _ gb 2 _ _ _ HBR.out
   by_cases hlt : k < nf
   ·have hltI : (k : Int) < (nf : Int) := by omega
    obtain ⟨g, o, f, e1, hgB, hfi, hfa⟩ := (HF.out.kept HKR.out (fun _ _ f => f)).at (i := k) (by rw [← HNF.out]; exact hlt)
    subst e1
    obtain ⟨cao, cc, x0, x1, x2, x3, hri, hcl⟩ := Zbr hfa
    have hfo := HO.out.fns f (List.mem_of_getElem? hfi)
    have hcs2 := Zhc f
    obtain ⟨fa, hfa'⟩ := nmd (f.a)
    obtain ⟨fl, hfl'⟩ := nmd (f.l)
    obtain ⟨fr, hfr'⟩ := nmd (f.r)
    obtain ⟨nc, hnc⟩ := nmd (f.code.length)
    have hen := Zne (.slice cao nc cc) f.code
    have hncb := hfo.len
    rw [← hfa'] at x0
    rw [← hfl'] at x1
    rw [← hfr'] at x2
    rw [← hnc] at x3 hri hncb
    rw [← hfa', ← hfl', ← hfr', ← hnc] at hcs2
    have hkB : Kept nF wr (wr.alloc (.cells #[.int .i64 fa, .int .i64 fl, .int .i64 fr, .slice cao nc cc] 78)) := (Kept.refl _ _).alloc _
    have hbB := heap_alloc_new wr (.cells #[.int .i64 fa, .int .i64 fl, .int .i64 fr, .slice cao nc cc] 78)
    have HEN := Za (hen _ (hri.kept hkB (fun _ _ f => f)) hfo.code (by rw [← hnc]; omega))
    have HKB := Za (HKR.out.trans hkB)
    have HBB2 : Hid ((wr.alloc (.cells #[.int .i64 fa, .int .i64 fl, .int .i64 fr, .slice cao nc cc] 78)).heap[gb]? = some (.cells #[.int .i64 mem, .slice dao nd dc, .slice (some ⟨g, o, none⟩) nf fc] 26 (0, 0))) := (hkB.block gb (Array.getElem?_eq_some_iff.1 HBR.out).1 id).trans HBR.out
    have y0 := Zb _ wr.heap.size 0 _ _ _ hbB
    have y1 := Zb _ wr.heap.size 1 _ _ _ hbB
    have y2 := Zb _ wr.heap.size 2 _ _ _ hbB
    have y3 := Zb _ wr.heap.size 3 _ _ _ hbB
    have HFI := Za hfi
    clear hfa hri hcl hfo hfa' hfl' hfr' hnc hen hkB hbB hfi
    rcases hcs2 with ⟨hcs2, he⟩ | ⟨hcs2, he⟩
    ·have HR : Hid (Za6 p.fns = 121) := by unfold Hid; rw [Zcs p.fns k f HGO.out HFI.out (by rw [he]; decide), he]
     clear he HEN
     rcases hcs2 with hcs2 | hcs2 | hcs2 | hcs2 | hcs2 | hcs2 | hcs2 | hcs2
     all_goals
      go_wp2
      go_ret
      exact ⟨by rw [HR.out]; rfl, HKB.out⟩
    ·obtain ⟨q1, q2, q3, q4, q5, q6, q7, q8⟩ := hcs2
     have HE := Za he
     clear he
     go_wp2_with fail
     refine HEN.out.mono ?_
     rintro e w6 ⟨hk6, he6⟩
     have HK6 := Za (HKB.out.trans hk6)
     have HB6 : Hid (w6.heap[gb]? = some (.cells #[.int .i64 mem, .slice dao nd dc, .slice (some ⟨g, o, none⟩) nf fc] 26 (0, 0))) := (hk6.block gb (Array.getElem?_eq_some_iff.1 HBB2.out).1 id).trans HBB2.out
     clear hk6 HEN HKB HBB2 y0 y1 y2 y3 x0 x1 x2 x3
     by_cases hE : Xz f.code = 0
     ·rw [if_pos hE] at he6
      obtain ⟨v6, rfl, ho6⟩ := he6
      obtain ⟨bo, bc, hv6⟩ := Zd ho6
      obtain ⟨bl, hbl⟩ := nmd ((Xj f.code).length)
      rw [← hbl] at hv6
      subst hv6
      have HGO2 := Za (Zi0 HGO.out HFI.out (by rw [HE.out]; exact hE))
      clear ho6 hbl hE
      go_wp2
      go_roundw
      case rel => exact ⟨k + 1, by omega, by go_num, HGO2, HK6, HB6⟩
      case measure => simp [intOf]; omega
     ·rw [if_neg hE] at he6
      subst he6
      have HR : Hid (Za6 p.fns = Xz f.code) := by unfold Hid; rw [Zcs p.fns k f HGO.out HFI.out (by rw [HE.out]; exact hE), HE.out]
      obtain ⟨ee, hee⟩ := nmd (Xz f.code)
      rw [← hee] at HR hE ⊢
      have hb : (ee == 0) = false := by simp; exact hE
      have hb2 : (ee != 0) = true := by simp; exact hE
      clear hee
      go_wp2
      go_ret
      exact ⟨by rw [HR.out]; rfl, HK6.out⟩
   ·have hnl : ¬ ((k : Int) < (nf : Int)) := by omega
    have HR : Hid (Za6 p.fns = 0) := by
     unfold Hid
     have := HGO.out
     rw [List.take_of_length_le (by rw [← HNF.out]; omega)] at this
     exact Zeb _ this
    go_wp2
    go_ret
    exact ⟨by rw [HR.out]; rfl, HKR.out⟩
end Go.Proofs.YtgoabnehdmdikaaGreatDoor
