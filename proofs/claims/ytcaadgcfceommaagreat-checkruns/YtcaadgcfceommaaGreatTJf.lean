import Derived.Test.YtcaadgcfceommaaGreatTJe
import Derived.Test.YtcaadgcfceommaaGreatTHi
import Derived.Deep.AppendSrc
import Derived.Test.YtcaadgcfceommaaGreatTTa
namespace Go.Proofs.YtcaadgcfceommaaGreat
open Go.RowKit
set_option linter.unusedVariables false
set_option linter.unusedSimpArgs false
set_option maxRecDepth 100000
structure TopK (ss : List ST) (k : Nat) (H : List Int) (T : Int) : Prop where
 lo : 0 ≤ T ∧ T ≤ 256
 ub : ∀ i s, i < k → ss[i]? = some s → H.getD i 0 ≠ -1 → H.getD i 0 ≤ T ∧ behindS s (H.getD i 0) ≤ T
 is : T = 0 ∨ ∃ i s, i < k ∧ ss[i]? = some s ∧ H.getD i 0 ≠ -1 ∧ (T = H.getD i 0 ∨ T = behindS s (H.getD i 0))
theorem TopK.start (ss : List ST) (H : List Int) : TopK ss 0 H 0 := ⟨by omega, fun i s h => absurd h (by omega), .inl rfl⟩
theorem TopK.is_top {ss : List ST} {n : Nat} {H : List Int} {T : Int} (h : TopK ss n H T) : IsTop ss n H T := ⟨h.lo.1, h.ub, h.is⟩
theorem TopK.skip {ss : List ST} {k : Nat} {H : List Int} {T : Int} (h : TopK ss k H T) (hk : H.getD k 0 = -1) : TopK ss (k + 1) H T := by
 refine ⟨h.lo, fun i s hi hs hne => ?_, ?_⟩
 ·by_cases e : i = k
  ·subst e; exact absurd hk hne
  ·exact h.ub i s (by omega) hs hne
 ·rcases h.is with e | ⟨i, s, h1, h2⟩
  ·exact .inl e
  ·exact .inr ⟨i, s, by omega, h2⟩
theorem TopK.step {ss : List ST} {k : Nat} {H : List Int} {T : Int} (h : TopK ss k H T) {s : ST} (hs : ss[k]? = some s) (hne : H.getD k 0 ≠ -1) (h1 : H.getD k 0 ≤ 256) (h2 : behindS s (H.getD k 0) ≤ 256) (U V : Int) (hU : U = if T < H.getD k 0 then H.getD k 0 else T) (hV : V = if U < behindS s (H.getD k 0) then behindS s (H.getD k 0) else U) : TopK ss (k + 1) H V := by
 have hl := h.lo
 have hUV : T ≤ U ∧ H.getD k 0 ≤ U ∧ U ≤ V ∧ behindS s (H.getD k 0) ≤ V ∧ V ≤ 256 ∧ (V = T ∨ V = H.getD k 0 ∨ V = behindS s (H.getD k 0)) := by
  subst hV
  subst hU
  split <;> split <;> omega
 obtain ⟨u1, u2, u3, u4, u5, u6⟩ := hUV
 refine ⟨by omega, fun i s' hi hs' hne' => ?_, ?_⟩
 ·by_cases e : i = k
  ·subst e
   rw [hs] at hs'
   cases hs'
   exact ⟨by omega, u4⟩
  ·have := h.ub i s' (by omega) hs' hne'
   exact ⟨by omega, by omega⟩
 ·rcases u6 with e | e
  ·rw [e]
   rcases h.is with e | ⟨i, s, h1, h2⟩
   ·exact .inl e
   ·exact .inr ⟨i, s, by omega, h2⟩
  ·exact .inr ⟨k, s, by omega, hs, hne, e⟩
set_option maxHeartbeats 40000000 in
theorem top_ref (v : Value) (p : PG) (B : Nat) (w : World) (hpg : PgIs w B v p) (hB : B ≤ w.heap.size) (ho : p.Ok) (hck : checkP p = 0) (hall : ∀ f ∈ p.fns, FnOk p f) (q : Nat) (f : FN) (hf : p.fns[q]? = some f) (hv : Value) (hs : List Int) (hown : OwnN w 0 hv hs) (hfit : Fit (stepsL p f) f.code.length hs) :
  Calls Tryz.prog 40 #[v, .int .i64 (q : Int), hv] w fun e w' => KF w w' ∧ ∃ T, e = .returned (.int .i64 T) ∧ IsTop (stepsL p f) f.code.length hs T := by
 have hpg0 := hpg
 obtain ⟨dv, fv, rfl, hd, hdl, hfr⟩ := hpg
 obtain ⟨dao, dc, rfl⟩ := hd.shape
 obtain ⟨fao, fc, rfl⟩ := hfr.shape
 obtain ⟨nf, hnf⟩ := nmd (p.fns.length)
 obtain ⟨nd, hnd⟩ := nmd (p.data.length)
 obtain ⟨mem, hmem⟩ := nmd (p.mem)
 rw [← hnf, ← hnd, ← hmem] at hpg0 ⊢
 have hfo := hall f (List.mem_of_getElem? hf)
 have hok := steps_ok p f hfo hall
 obtain ⟨n, hn⟩ := nmd (f.code.length)
 have hn1 : 1 ≤ n := by rw [hn]; exact hfo.n.1
 have hn4 : n ≤ 4096 := by rw [hn]; exact hfo.n.2
 rw [← hn] at hfit hok ⊢
 obtain ⟨hg, hc, hvs, _⟩ := own_look hown (show 0 < hs.length by rw [hfit.len]; omega)
 rw [hfit.len] at hvs
 subst hvs
 obtain ⟨gb, hgb⟩ := nmd (w.heap.size)
 obtain ⟨W, hW⟩ := nmd (w.alloc (.cells #[.int .i64 mem, .slice dao nd dc, .slice fao nf fc] 25))
 have k1 : KF w W := by rw [hW]; exact (Kept.refl _ _).alloc _
 have x1 : W.heap[gb]? = some (.cells #[.int .i64 mem, .slice dao nd dc, .slice fao nf fc] 25 (0, 0)) := by rw [hW, hgb]; exact heap_alloc_new w _
 have HTK : Hid (∀ (i : Nat) x w', f.code[i]? = some x → KF W w' → Calls Tryz.prog 21 #[.agg #[.int .i64 mem, .slice dao nd dc, .slice fao nf fc], .agg #[.int .i64 (q : Int), .int .i64 (i : Int)]] w' fun e w2 => e = .returned (.tuple #[.int .i64 (tkgv p f x).1, .int .i64 (tkgv p f x).2]) ∧ KF w' w2) := fun i x w' hx hw => by
  have h9 := rtakes_any _ p w' B (hpg0.kept (k1.trans hw) (fun _ _ f => f)) (Nat.le_trans hB (k1.trans hw).size) ho (q : Int) (i : Int)
  have htk : rtakesD p (q : Int) (i : Int) = tkgv p f x := by rw [takes_same hck]; unfold takesD; rw [instr_at hf hx]
  rw [htk] at h9
  exact h9
 have HRG : Hid (∀ x, (0 ≤ (tkgv p f x).1 ∧ (tkgv p f x).1 ≤ 1000) ∧ 0 ≤ (tkgv p f x).2 ∧ (tkgv p f x).2 ≤ 1000) := fun x => tkgv_rng p f x hfo hall
 have HLK : Hid (∀ w' (i : Nat), i < n → KF W w' → w'.cell? ⟨hg, i, none⟩ = some (.int .i64 (hs.getD i 0))) := fun w' i hi hw => by
  exact (k1.trans hw).cell (own_int hown hfit.len hi) id
 have HBX : Hid (∀ w', KF W w' → w'.cell? ⟨gb, 0, none⟩ = some (.int .i64 mem) ∧ w'.cell? ⟨gb, 1, none⟩ = some (.slice dao nd dc) ∧ w'.cell? ⟨gb, 2, none⟩ = some (.slice fao nf fc)) := fun w' hw => by
  obtain ⟨z0, z1, z2, _⟩ := look3 (box_kept hw x1 id)
  exact ⟨z0, z1, z2⟩
 have HKW := hid_of k1
 have HN := hid_of hn
 have HOK := hid_of hok
 have HFT := hid_of hfit
 have HT0 := hid_of (TopK.start (stepsL p f) hs)
 clear k1 x1 hd hdl hfr hnf hnd hmem hpg0 ho hB hck hall hf hok hfo hown hfit hn
 go_enter Tryz.func40, Tryz.ntmps40
 go_upto_region 1 with fail
 rw [← hW, ← hgb]
 clear hW hgb
 have HK0 := hid_of (Kept.refl (fun _ => False) W)
 go_wp2_with fail
 go_loopw [7, 8] (fun tv iv wr => ∃ (k : Nat) (T : Int), k ≤ n ∧ tv = .int .i64 T ∧ iv = .int .i64 (k : Int) ∧ Hid (KF W wr) ∧ Hid (TopK (stepsL p f) k hs T)) (fun _ iv _ => n - (intOf iv).toNat)
 case atStart => exact ⟨0, 0, by omega, rfl, rfl, HK0, HT0⟩
 case round =>
  clear HK0 HT0
  obtain ⟨k, T, hk, rfl, rfl, HK, HT⟩ := hrel
  by_cases hlt : k < n
  ·have hltI : (k : Int) < (n : Int) := by omega
   have u0 := HLK.out wr k hlt HK.out
   by_cases hm1 : hs.getD k 0 = -1
   ·as_aux_lemma =>
     rw [hm1] at u0
     have HTN := hid_of (HT.out.skip hm1)
     clear hm1 HT
     go_wp2
     go_roundw
     case rel => exact ⟨k + 1, T, by omega, rfl, by go_num, HK, HTN⟩
     case measure => simp [intOf]; omega
   ·as_aux_lemma =>
     obtain ⟨x, hx⟩ : ∃ x, f.code[k]? = some x := ⟨_, List.getElem?_eq_getElem (by rw [← HN.out]; exact hlt)⟩
     have hsa := steps_at (p := p) hx
     have hsm := List.mem_of_getElem? hsa
     obtain ⟨f1, _⟩ := HFT.out.ok k _ hlt hsa hm1
     obtain ⟨b1, b2, _⟩ := fault_zero (HOK.out.stb _ hsm) (HOK.out.cp _ hsm) (fun m hm => (HOK.out.nx _ hsm).1 m hm) f1
     have hlo := HFT.out.lo _ (getD_mem (show k < hs.length by rw [HFT.out.len]; exact hlt))
     have hrg := HRG.out x
     have hTb := HT.out.lo
     have hcl := fun w' => HTK.out k x w' hx
     have HST : Hid (∀ U V : Int, U = (if T < hs.getD k 0 then hs.getD k 0 else T) → V = (if U < hs.getD k 0 - (tkgv p f x).1 + (tkgv p f x).2 then hs.getD k 0 - (tkgv p f x).1 + (tkgv p f x).2 else U) → TopK (stepsL p f) (k + 1) hs V) := fun U V hU hV => HT.out.step hsa hm1 hlo.2 b2 U V hU hV
     have b3 : 0 ≤ hs.getD k 0 - (tkgv p f x).1 + (tkgv p f x).2 ∧ hs.getD k 0 - (tkgv p f x).1 + (tkgv p f x).2 ≤ 256 := ⟨b1, b2⟩
     have HL2 : Hid (∀ w', KF W w' → w'.cell? ⟨hg, k, none⟩ = some (.int .i64 (hs.getD k 0))) := fun w' hw => HLK.out w' k hlt hw
     have hm0 : hs.getD k 0 ≠ -1 := hm1
     clear b1 b2 f1 hsa hsm hx HT hm1
     generalize (tkgv p f x).1 = tk at *
     generalize (tkgv p f x).2 = gv at *
     generalize hs.getD k 0 = ha at *
     obtain ⟨⟨t0, t1⟩, g0, g1⟩ := hrg
     obtain ⟨b4, b5⟩ := b3
     have hm2 : (ha == -1) = false := by simpa using hm0
     have HCL := hid_of hcl
     obtain ⟨a0, a1, a2⟩ := HBX.out wr HK.out
     clear hcl hm0 HLK HTK
     go_wp2_with fail
     refine (HCL.out wr HK.out).mono ?_
     rintro e w3 ⟨rfl, hk3⟩
     have HK3 := hid_of (HK.out.trans hk3)
     have u1 := HL2.out w3 HK3.out
     clear HCL u0 a0 a1 a2 hk3 HK
     obtain ⟨bh, hbh⟩ := nmd (ha - tk + gv)
     rw [← hbh] at b4 b5
     have HBH := hid_of hbh
     rw [← hbh] at HST
     clear hbh
     by_cases c1 : T < ha
     ·by_cases c2 : ha < bh
      ·as_aux_lemma =>
        have HTN := hid_of (HST.out ha bh (by rw [if_pos c1]) (by rw [if_pos c2]))
        have c3 : ha < ha - tk + gv := by rw [← HBH.out]; exact c2
        clear HST
        go_wp2_with fail
        rw [← HBH.out]
        go_roundw
        case rel => exact ⟨k + 1, bh, by omega, rfl, by go_num, HK3, HTN⟩
        case measure => simp [intOf]; omega
      ·as_aux_lemma =>
        have HTN := hid_of (HST.out ha ha (by rw [if_pos c1]) (by rw [if_neg c2]))
        have c3 : ¬ (ha < ha - tk + gv) := by rw [← HBH.out]; exact c2
        clear HST
        go_wp2_with fail
        go_roundw
        case rel => exact ⟨k + 1, ha, by omega, rfl, by go_num, HK3, HTN⟩
        case measure => simp [intOf]; omega
     ·by_cases c2 : T < bh
      ·as_aux_lemma =>
        have HTN := hid_of (HST.out T bh (by rw [if_neg c1]) (by rw [if_pos c2]))
        have c3 : T < ha - tk + gv := by rw [← HBH.out]; exact c2
        clear HST
        go_wp2_with fail
        rw [← HBH.out]
        go_roundw
        case rel => exact ⟨k + 1, bh, by omega, rfl, by go_num, HK3, HTN⟩
        case measure => simp [intOf]; omega
      ·as_aux_lemma =>
        have HTN := hid_of (HST.out T T (by rw [if_neg c1]) (by rw [if_neg c2]))
        have c3 : ¬ (T < ha - tk + gv) := by rw [← HBH.out]; exact c2
        clear HST
        go_wp2_with fail
        go_roundw
        case rel => exact ⟨k + 1, T, by omega, rfl, by go_num, HK3, HTN⟩
        case measure => simp [intOf]; omega
  ·have hltI : ¬ ((k : Int) < (n : Int)) := by omega
   have hkn : k = n := by omega
   subst hkn
   have HIS := hid_of HT.out.is_top
   have HKE := hid_of (HKW.out.trans HK.out)
   clear HT HK
   go_wp2
   go_ret
   exact ⟨HKE.out, T, rfl, HIS.out⟩
def callAt (f : FN) (hs : List Int) (i : Nat) : List Int := match f.code[i]? with
 | some x => if x.op = 17 ∧ hs.getD i 0 ≠ -1 then [x.a] else []
 | none => []
def callsK (f : FN) (hs : List Int) : Nat → List Int
 | 0 => []
 | k + 1 => callsK f hs k ++ callAt f hs k
theorem callsK_mem (f : FN) (hs : List Int) (y : Int) : ∀ k, y ∈ callsK f hs k ↔ ∃ (i : Nat) (x : IN), i < k ∧ f.code[i]? = some x ∧ x.op = 17 ∧ hs.getD i 0 ≠ -1 ∧ y = x.a
 | 0 => by
  constructor
  ·intro h; simp [callsK] at h
  ·rintro ⟨i, x, hi, _⟩; omega
 | k + 1 => by
  rw [callsK, List.mem_append, callsK_mem f hs y k]
  constructor
  ·rintro (⟨i, x, hi, h⟩ | h)
   ·exact ⟨i, x, by omega, h⟩
   ·unfold callAt at h
    split at h
    ·rename_i x hx
     split at h
     ·rename_i hc
      exact ⟨k, x, by omega, hx, hc.1, hc.2, by simpa using h⟩
     ·cases h
    ·cases h
  ·rintro ⟨i, x, hi, hx, h1, h2, h3⟩
   by_cases e : i = k
   ·subst e
    right
    unfold callAt
    rw [hx]
    simp only
    rw [if_pos ⟨h1, h2⟩, h3]
    simp
   ·exact .inl ⟨i, x, by omega, hx, h1, h2, h3⟩
theorem callAt_len (f : FN) (hs : List Int) (i : Nat) : (callAt f hs i).length ≤ 1 := by
 unfold callAt
 split
 ·split <;> simp
 ·simp
theorem callsK_len (f : FN) (hs : List Int) : ∀ k, (callsK f hs k).length ≤ k
 | 0 => by simp [callsK]
 | k + 1 => by
  have h1 := callsK_len f hs k
  have h2 := callAt_len f hs k
  rw [callsK, List.length_append]
  omega
set_option maxHeartbeats 40000000 in
theorem calls_ref (v : Value) (p : PG) (B : Nat) (w : World) (hpg : PgIs w B v p) (q : Nat) (f : FN) (hf : p.fns[q]? = some f) (hfo : FnOk p f) (hv : Value) (hs : List Int) (hown : OwnN w 0 hv hs) (hlen : hs.length = f.code.length) :
  Calls Tryz.prog 71 #[v, .int .i64 (q : Int), hv] w fun e w' => ∃ u, e = .returned u ∧ OwnN w' w.heap.size u (callsK f hs f.code.length) ∧ KF w w' := by
 obtain ⟨dv, fv, rfl, hd, hdl, hfr⟩ := hpg
 obtain ⟨dao, dc, rfl⟩ := hd.shape
 obtain ⟨fao, fc, rfl⟩ := hfr.shape
 have hqn : q < p.fns.length := (List.getElem?_eq_some_iff.1 hf).1
 obtain ⟨nf, hnf⟩ := nmd (p.fns.length)
 obtain ⟨nd, hnd⟩ := nmd (p.data.length)
 obtain ⟨mem, hmem⟩ := nmd (p.mem)
 rw [← hnf, ← hnd, ← hmem]
 rw [← hnf] at hfr hqn
 obtain ⟨n, hn⟩ := nmd (f.code.length)
 have hn1 : 1 ≤ n := by rw [hn]; exact hfo.n.1
 have hn4 : n ≤ 4096 := by rw [hn]; exact hfo.n.2
 obtain ⟨pg, po, cg, co, cc, rfl, y0, y1, y2, y3, hri, hpgB, hcgB⟩ := row_instr hfr hf (List.getElem?_eq_getElem (show 0 < f.code.length by omega))
 rw [← hn] at hlen y3 hri ⊢
 have hqI : (q : Int) < (nf : Int) := by omega
 obtain ⟨hg, hc, hvs, _⟩ := own_look hown (show 0 < hs.length by omega)
 rw [hlen] at hvs
 subst hvs
 obtain ⟨gb, hgb⟩ := nmd (w.heap.size)
 obtain ⟨W, hW⟩ := nmd (w.alloc (.cells #[.int .i64 mem, .slice dao nd dc, .slice (some ⟨pg, po, none⟩) nf fc] 25))
 have k1 : KF w W := by rw [hW]; exact (Kept.refl _ _).alloc _
 have x1 : W.heap[gb]? = some (.cells #[.int .i64 mem, .slice dao nd dc, .slice (some ⟨pg, po, none⟩) nf fc] 25 (0, 0)) := by rw [hW, hgb]; exact heap_alloc_new w _
 have HLK : Hid (∀ w' (i : Nat), i < n → KF w w' → w'.cell? ⟨hg, i, none⟩ = some (.int .i64 (hs.getD i 0))) := fun w' i hi hw => hw.cell (own_int hown hlen hi) id
 have HCD : Hid (∀ w' (i : Nat) (x : IN), f.code[i]? = some x → KF w w' → w'.cell? ⟨pg, po + q * 4 + 3, none⟩ = some (.slice (some ⟨cg, co, none⟩) n cc) ∧ w'.cell? ⟨cg, co + i * 2, none⟩ = some (.int .i64 x.op) ∧ w'.cell? ⟨cg, co + i * 2 + 1, none⟩ = some (.int .i64 x.a)) := fun w' i x hx hw => by
  obtain ⟨z0, z1⟩ := rowI_cell hri hx
  exact ⟨hw.cell y3 id, hw.cell z0 id, hw.cell z1 id⟩
 have HN := hid_of hn
 have HKW := hid_of k1
 have HX1 := hid_of x1
 have HL0 : Hid (OwnN W gb (.slice none 0 0) (callsK f hs 0)) := World.ownsRow_nil _ _ _ _
 have HGB := hid_of hgb
 clear k1 x1 hd hdl hfr hnf hnd hmem hf hfo hown hn hlen hri y0 y1 y2 y3 hpgB hcgB hqn
 go_enter Tryz.func71, Tryz.ntmps71
 go_upto_region 1 with fail
 rw [← hW, ← hgb]
 clear hW hgb
 go_wp2_with fail
 go_loopw [7, 8] (fun vv iv wr => ∃ (k : Nat), k ≤ n ∧ iv = .int .i64 (k : Int) ∧ Hid (OwnN wr gb vv (callsK f hs k)) ∧ Hid (KF w wr) ∧ Hid (wr.heap[gb]? = some (.cells #[.int .i64 mem, .slice dao nd dc, .slice (some ⟨pg, po, none⟩) nf fc] 25 (0, 0)))) (fun _ iv _ => n - (intOf iv).toNat)
 case atStart => exact ⟨0, by omega, rfl, HL0, HKW, HX1⟩
 case round =>
  clear HL0 HKW HX1
  obtain ⟨k, hk, rfl, HL, HK, HBX⟩ := hrel
  by_cases hlt : k < n
  ·as_aux_lemma =>
    have hltI : (k : Int) < (n : Int) := by omega
    obtain ⟨x, hx⟩ : ∃ x, f.code[k]? = some x := ⟨_, List.getElem?_eq_getElem (by rw [← HN.out]; exact hlt)⟩
    obtain ⟨d0, d1, d2⟩ := HCD.out wr k x hx HK.out
    obtain ⟨z0, z1, z2, _⟩ := look3 HBX.out
    have HCA : Hid (callsK f hs (k + 1) = callsK f hs k ++ (if x.op = 17 ∧ hs.getD k 0 ≠ -1 then [x.a] else [])) := by
     unfold Hid
     rw [callsK]
     congr 1
     unfold callAt
     rw [hx]
    have hfl := callsK_len f hs k
    have HLK2 : Hid (∀ w', KF w w' → w'.cell? ⟨hg, k, none⟩ = some (.int .i64 (hs.getD k 0))) := fun w' hw => HLK.out w' k hlt hw
    obtain ⟨vao, vc, hvv⟩ := ownsRow_shape HL.out
    obtain ⟨nl, hnl⟩ := nmd ((callsK f hs k).length)
    rw [← hnl] at hvv
    subst hvv
    have HFL : Hid ((callsK f hs k).length ≤ 4096) := by unfold Hid; omega
    generalize x.op = xo at *
    generalize x.a = xa at *
    generalize hs.getD k 0 = ha at *
    have hb9 := heap_alloc_new wr (.cells #[.int .i64 xo, .int .i64 xa] 64)
    have hk9 : KF wr (wr.alloc (.cells #[.int .i64 xo, .int .i64 xa] 64)) := (Kept.refl _ _).alloc _
    have HB9 := hid_of hb9
    have HBX2 := hid_of (box_kept hk9 HBX.out id)
    have HK2 := hid_of (HK.out.trans hk9)
    have HL2 := hid_of (hk9.ownsRow HL.out (fun _ _ f => f))
    clear hx hfl hnl hb9 hk9 HBX HK HL HLK HCD
    go_upto_region 6 with fail
    clear d0 d1 d2 z0 z1 z2
    generalize wr.alloc (.cells #[.int .i64 xo, .int .i64 xa] 64) = w2 at *
    generalize wr.heap.size = gx at *
    obtain ⟨s0, s1, _⟩ := look2 HB9.out
    have u0 := HLK2.out w2 HK2.out
    by_cases h17 : xo = 17
    ·by_cases hm1 : ha = -1
     ·as_aux_lemma =>
       have HO : Hid (OwnN w2 gb (.slice vao nl vc) (callsK f hs (k + 1))) := by
        unfold Hid
        rw [HCA.out, if_neg (fun h => h.2 hm1), List.append_nil]
        exact HL2.out
       subst h17 hm1
       clear HL2 HCA
       go_wp2
       go_roundw
       case rel => exact ⟨k + 1, by omega, by go_num, HO, HK2, HBX2⟩
       case measure => simp [intOf]; omega
     ·as_aux_lemma =>
       have hgbw : gb = w.heap.size := HGB.out
       have hL3 := HL2.out
       rw [hgbw] at hL3
       obtain ⟨v', w', hr, ho, hk0, hk1⟩ := push_num hL3 xa HK2.out (by have := HFL.out; omega)
       have HR := hid_of hr
       have HO : Hid (OwnN w' gb v' (callsK f hs (k + 1))) := by
        unfold Hid
        rw [HCA.out, if_pos ⟨h17, hm1⟩, hgbw]
        exact ho
       have HK' := hid_of hk0
       have HBX' := hid_of (box_kept hk1 HBX2.out (fun e => own_box2 HL2.out HBX2.out (by decide) e))
       obtain ⟨ao', c', hv'⟩ := ownsRow_shape ho
       generalize (callsK f hs k ++ [xa]).length = nl' at hv'
       subst hv'
       have hm2 : (ha != -1) = true := by simpa using hm1
       subst h17
       clear hr ho hk0 hk1 hL3 hgbw hm1 HCA HL2
       go_wp2_with (at_builtin; refine wp_app2 rfl (.tmp 35) (.tmp 38) 30 30 rfl _ _ rfl rfl _ w' HR.out ?_)
       go_roundw
       case rel => exact ⟨k + 1, by omega, by go_num, HO, HK', HBX'⟩
       case measure => simp [intOf]; omega
    ·as_aux_lemma =>
      have HO : Hid (OwnN w2 gb (.slice vao nl vc) (callsK f hs (k + 1))) := by
       unfold Hid
       rw [HCA.out, if_neg (fun h => h17 h.1), List.append_nil]
       exact HL2.out
      have h17b : (xo == 17) = false := by simp; exact h17
      clear HL2 HCA
      go_wp2
      go_roundw
      case rel => exact ⟨k + 1, by omega, by go_num, HO, HK2, HBX2⟩
      case measure => simp [intOf]; omega
  ·have e : k = n := by omega
   subst e
   clear HBX
   go_wp2
   go_ret
   exact ⟨_, rfl, by rw [← HGB.out]; exact HL.out, HK.out⟩
def Que (w : World) (base g o c : Nat) (l : List Int) : Prop := base ≤ g ∧ l.length ≤ c ∧ (∃ C, w.heap[g]? = some (.cells C 3 (0, 0)) ∧ o + c ≤ C.size) ∧ ∀ j, j < l.length → w.cell? ⟨g, o + j, none⟩ = some (.int .i64 (l.getD j 0))
theorem Que.kept {w w' : World} {base g o c : Nat} {l : List Int} {S : Nat → Prop} (h : Que w base g o c l) (hk : Kept S w w') (hS : ¬ S g) : Que w' base g o c l := by
 obtain ⟨h1, h2, ⟨C, h3, h4⟩, h5⟩ := h
 exact ⟨h1, h2, ⟨C, box_kept hk h3 hS, h4⟩, fun j hj => hk.cell (h5 j hj) hS⟩
theorem Que.ofOwn {w : World} {base g o n c : Nat} {l : List Int} (h : OwnN w base (.slice (some ⟨g, o, none⟩) n c) l) : Que w base g o c l ∧ n = l.length := by
 obtain ⟨ao, c', hv⟩ := ownsRow_shape h
 have hn : n = l.length := by cases hv; rfl
 subst hn
 rcases h.2 with ⟨e, _⟩ | ⟨g', cap, cur, e, hb, hg, hl, hm, hs, ht⟩
 ·cases e
 ·cases e
  refine ⟨⟨hb, hl, ⟨cur, hg, by omega⟩, fun j hj => ?_⟩, rfl⟩
  have := h.cells rfl j (.int .i64 (l.getD j 0)) (by simp [ints, List.getD, List.getElem?_eq_getElem hj])
  rwa [Addr.add_lit] at this
theorem Que.cut {w : World} {base g o c : Nat} {x : Int} {l : List Int} (h : Que w base g o c (x :: l)) : Que w base g (if c = 1 then o else o + 1) (c - 1) l := by
 obtain ⟨h1, h2, ⟨C, h3, h4⟩, h5⟩ := h
 simp only [List.length_cons] at h2 h5
 refine ⟨h1, by omega, ⟨C, h3, by split <;> omega⟩, fun j hj => ?_⟩
 rw [if_neg (by omega)]
 have := h5 (j + 1) (by omega)
 rw [show o + 1 + j = o + (j + 1) by omega, this]
 simp [List.getD]
theorem set_cells (b : Nat) : ∀ (vs : List Value) (o : Nat) (w : World) (C : Array Value) (t : TypeId) (f : Nat × Nat), w.heap[b]? = some (.cells C t f) → ∃ C', (w.setCells b o vs).heap[b]? = some (.cells C' t f) ∧ C'.size = C.size ∧ Kept (fun k => k = b) w (w.setCells b o vs)
 | [], o, w, C, t, f, h => ⟨C, h, rfl, Kept.refl _ _⟩
 | v :: vs, o, w, C, t, f, h => by
  obtain ⟨C', h1, h2, h3⟩ := set_cells b vs (o + 1) _ _ t f (set_block w b o C t f h v)
  exact ⟨C', h1, by rw [h2]; simp, (kept_set w b o v).trans h3⟩
theorem que_app (W : World) (base b2 g o c : Nat) (l : List Int) (u : Value) (ys : List Int) (hq : Que W base g o c l) (hu : OwnN W b2 u ys) (hsz : l.length + ys.length ≤ 1000000) (hb : base ≤ W.heap.size) :
  ∃ g' o' c' w', (Builtin.append_ #[30, 30] 30 #[.slice (some ⟨g, o, none⟩) l.length c, u]).run Tryz.prog W = .ok (.slice (some ⟨g', o', none⟩) (l.length + ys.length) c') w' ∧ Que w' base g' o' c' (l ++ ys) ∧ Kept (fun k => k = g) W w' ∧ (g' = g ∨ W.heap.size ≤ g') := by
 obtain ⟨i0, hi, hz0, hz1, hz2⟩ := info_parts Tryz.info3
 have hs : Src Tryz.prog i0.size 30 u ys.length (ints ys) W := by
  rw [hz1]
  rcases hu.2 with ⟨rfl, h0⟩ | ⟨g2, c2, cur, rfl, _⟩
  ·have : ys = [] := List.eq_nil_of_length_eq_zero h0
   subst this
   exact Src.ofNil W Tryz.underlying30 0
  ·exact Src.ofSlice W Tryz.underlying30 _ _ _ _ (by rw [ints_len]; omega) (fun j z hj => hu.cells rfl j z hj) (ints_one ys)
 obtain ⟨q1, q2, ⟨C, q3, q4⟩, q5⟩ := hq
 have hcell : ∀ j, j < C.size → (W.cell? ⟨g, j, none⟩).isSome = true ∧ W.frozen? ⟨g, j, none⟩ = false := fun j hj => by
  rw [cell_block W g j C 3 (0, 0) q3, frozen_block W g j C 3 q3]
  simp [hj]
 by_cases hroom : l.length + ys.length ≤ c
 ·have hr := run_append_room_src W 30 30 30 3 i0 Tryz.underlying30 hi g o l.length c u ys.length (ints ys) hs hroom (fun j hj => (hcell _ (by rw [ints_len] at hj; rw [hz1]; omega)).1) (fun j hj => (hcell _ (by rw [ints_len] at hj; rw [hz1]; omega)).2)
  rw [hz1, Nat.mul_one] at hr
  obtain ⟨C', s1, s2, s3⟩ := set_cells g (ints ys) (o + l.length) W C 3 (0, 0) q3
  refine ⟨g, o, c, _, hr, ⟨q1, by rw [List.length_append]; omega, ⟨C', s1, by omega⟩, fun j hj => ?_⟩, s3, .inl rfl⟩
  rw [List.length_append] at hj
  by_cases hjl : j < l.length
  ·rw [World.cell?_setCells_out g (ints ys) (o + l.length) W ⟨g, o + j, none⟩ (fun _ _ => .inl (by show o + j < _; omega)), q5 j hjl]
   simp [List.getD, List.getElem?_append_left hjl]
  ·have h9 := World.cell?_setCells_in g (ints ys) (o + l.length) W (fun k hk => (hcell _ (by rw [ints_len] at hk; omega)).1) (j - l.length) (by rw [ints_len]; omega)
   rw [show o + l.length + (j - l.length) = o + j by omega] at h9
   rw [h9]
   have hjl2 : j - l.length < ys.length := by omega
   simp [ints, List.getD, List.getElem?_append_right (show l.length ≤ j by omega), List.getElem?_eq_getElem hjl2]
 ·have hold : (Builtin.firstCells i0.size l.length (.slice (some ⟨g, o, none⟩) l.length c)).run Tryz.prog W.drew = .ok (ints l).toArray W.drew := by
   rw [hz1]
   refine run_firstCells_some W.drew 1 l.length ⟨g, o, none⟩ l.length c (ints l) (by rw [ints_len]; omega) (fun j v hj => ?_)
   have hjl := (List.getElem?_eq_some_iff.1 hj).1
   rw [ints_len] at hjl
   have h9 := q5 j hjl
   simp only [ints, List.getElem?_map, List.getElem?_eq_getElem hjl] at hj
   rw [Addr.add_mid]
   simp only [List.getD, List.getElem?_eq_getElem hjl, Option.getD_some] at h9
   simp at hj
   rw [← hj]
   exact h9
  have hge := grownCap_ge W (l.length + ys.length) c 3
  have hr := run_append_grow_src W 30 30 30 3 i0 _ Tryz.underlying30 hi hz0 (some ⟨g, o, none⟩) l.length c (ints l) hold u ys.length (ints ys) hs (by omega) (by omega) (by
   rw [hz2]
   have := nextslicecap_le (need := l.length + ys.length) (old := c) (by omega)
   omega)
  refine ⟨W.heap.size, 0, _, _, hr, ?_, ((Kept.refl (fun _ => False) W).drew.alloc _).mono (fun _ _ f => f.elim), .inr (Nat.le_refl _)⟩
  have hn := heap_alloc_new W.drew (.cells ((ints l ++ ints ys).toArray ++ Builtin.zeroCells (Value.int .i64 0).cells (grownCap W (l.length + ys.length) c 3 - (l.length + ys.length))) 3)
  refine ⟨hb, by rw [List.length_append]; exact hge, ⟨_, hn, ?_⟩, fun j hj => ?_⟩
  ·simp only [Array.size_append, List.size_toArray, size_zeroCells, List.length_append, ints_len]
   simp [Value.cells]
   omega
  ·rw [Nat.zero_add]
   have h9 := cell_block _ _ j _ _ _ hn
   refine h9.trans ?_
   rw [List.length_append] at hj
   rw [Array.getElem?_append_left (by simp [ints_len]; omega)]
   rw [show ints l ++ ints ys = ints (l ++ ys) by simp [ints]]
   have hj2 : j < (l ++ ys).length := by rw [List.length_append]; exact hj
   rw [List.getElem?_toArray]
   unfold ints
   rw [List.getElem?_map, List.getElem?_eq_getElem hj2]
   simp only [Option.map_some, List.getD, List.getElem?_eq_getElem hj2, Option.getD_some]
theorem getD_set (l : List Bool) (i j : Nat) (hi : i < l.length) : (l.set i true).getD j false = if i = j then true else l.getD j false := by
 simp only [List.getD, List.getElem?_set]
 split
 ·simp [hi]
 ·rfl
structure CoI (nx : Nat → List Int) (n pl : Nat) (l : List Int) (cs : List Bool) : Prop where
 len : cs.length = n
 rg : ∀ y ∈ l, 0 ≤ y ∧ y < n
 snd : ∀ y ∈ l, Plus nx pl y.toNat
 sn2 : ∀ i, i < n → cs.getD i false = true → Plus nx pl i
 cl0 : ∀ y ∈ nx pl, y ∈ l ∨ cs.getD y.toNat false = true
 cl1 : ∀ i, i < n → cs.getD i false = true → ∀ y ∈ nx i, y ∈ l ∨ cs.getD y.toNat false = true
 no : cs.getD pl false = false
def NxOk (nx : Nat → List Int) (n : Nat) : Prop := ∀ i, i < n → (∀ y ∈ nx i, 0 ≤ y ∧ y < n) ∧ (nx i).length ≤ 2
theorem rep_false (n i : Nat) : (List.replicate n false).getD i false = false := by
 simp only [List.getD, List.getElem?_replicate]
 split <;> rfl
theorem CoI.start {nx : Nat → List Int} {n pl : Nat} (h : NxOk nx n) (hp : pl < n) : CoI nx n pl (nx pl) (List.replicate n false) := by
 refine ⟨by simp, (h pl hp).1, fun y hy => ⟨y.toNat, ?_, .refl _⟩, fun i hi hc => ?_, fun y hy => .inl hy, fun i hi hc => ?_, rep_false _ _⟩
 ·rw [Int.toNat_of_nonneg ((h pl hp).1 y hy).1]; exact hy
 ·rw [rep_false] at hc; cases hc
 ·rw [rep_false] at hc; cases hc
theorem CoI.found {nx : Nat → List Int} {n pl : Nat} {l : List Int} {cs : List Bool} (h : CoI nx n pl ((pl : Int) :: l) cs) : Plus nx pl pl := by
 have := h.snd (pl : Int) (by simp)
 rwa [Int.toNat_natCast] at this
theorem CoI.skip {nx : Nat → List Int} {n pl x : Nat} {l : List Int} {cs : List Bool} (h : CoI nx n pl ((x : Int) :: l) cs) (hx : cs.getD x false = true) : CoI nx n pl l cs := by
 refine ⟨h.len, fun y hy => h.rg y (by simp [hy]), fun y hy => h.snd y (by simp [hy]), h.sn2, fun y hy => ?_, fun i hi hc y hy => ?_, h.no⟩
 ·rcases h.cl0 y hy with e | e
  ·rcases List.mem_cons.1 e with e | e
   ·subst e; right; rw [Int.toNat_natCast]; exact hx
   ·exact .inl e
  ·exact .inr e
 ·rcases h.cl1 i hi hc y hy with e | e
  ·rcases List.mem_cons.1 e with e | e
   ·subst e; right; rw [Int.toNat_natCast]; exact hx
   ·exact .inl e
  ·exact .inr e
theorem CoI.take {nx : Nat → List Int} {n pl x : Nat} {l : List Int} {cs : List Bool} (hn : NxOk nx n) (h : CoI nx n pl ((x : Int) :: l) cs) (hne : x ≠ pl) : CoI nx n pl (l ++ nx x) (cs.set x true) := by
 have hxn : x < n := by have := (h.rg (x : Int) (by simp)).2; omega
 have hxl : x < cs.length := by rw [h.len]; exact hxn
 have hpx : Plus nx pl x := by have := h.snd (x : Int) (by simp); rwa [Int.toNat_natCast] at this
 have key : ∀ y : Int, y ∈ (x : Int) :: l ∨ cs.getD y.toNat false = true → y ∈ l ++ nx x ∨ (cs.set x true).getD y.toNat false = true := fun y hy => by
  rw [getD_set _ _ _ hxl]
  rcases hy with e | e
  ·rcases List.mem_cons.1 e with e | e
   ·subst e; right; rw [Int.toNat_natCast, if_pos rfl]
   ·exact .inl (List.mem_append.2 (.inl e))
  ·right; split
   ·rfl
   ·exact e
 refine ⟨by rw [List.length_set]; exact h.len, fun y hy => ?_, fun y hy => ?_, fun i hi hc => ?_, fun y hy => key y (h.cl0 y hy), fun i hi hc y hy => ?_, ?_⟩
 ·rcases List.mem_append.1 hy with e | e
  ·exact h.rg y (by simp [e])
  ·exact (hn x hxn).1 y e
 ·rcases List.mem_append.1 hy with e | e
  ·exact h.snd y (by simp [e])
  ·refine hpx.trans (.step (v := y.toNat) ?_ (.refl _))
   rw [Int.toNat_of_nonneg ((hn x hxn).1 y e).1]; exact e
 ·rw [getD_set _ _ _ hxl] at hc
  by_cases e : x = i
  ·subst e; exact hpx
  ·rw [if_neg e] at hc; exact h.sn2 i hi hc
 ·rw [getD_set _ _ _ hxl] at hc
  by_cases e : x = i
  ·subst e; exact .inl (List.mem_append.2 (.inr hy))
  ·rw [if_neg e] at hc; exact key y (h.cl1 i hi hc y hy)
 ·rw [getD_set _ _ _ hxl, if_neg hne]; exact h.no
theorem CoI.none {nx : Nat → List Int} {n pl : Nat} {cs : List Bool} (hn : NxOk nx n) (hp : pl < n) (h : CoI nx n pl [] cs) : ¬ Plus nx pl pl := by
 rintro ⟨w, h1, h2⟩
 have hw : w < n ∧ cs.getD w false = true := by
  have h3 := (hn pl hp).1 _ h1
  rcases h.cl0 _ h1 with e | e
  ·cases e
  ·rw [Int.toNat_natCast] at e; exact ⟨by omega, e⟩
 have key : ∀ u v, Star nx u v → u < n → cs.getD u false = true → cs.getD v false = true := fun u v hs => by
  induction hs with
  | refl => exact fun _ h => h
  | step g1 _ ih =>
   intro hu hc
   have h3 := (hn _ hu).1 _ g1
   rcases h.cl1 _ hu hc _ g1 with e | e
   ·cases e
   ·rw [Int.toNat_natCast] at e; exact ih (by omega) e
 have := key w pl h2 hw.1 hw.2
 rw [h.no] at this
 cases this
theorem next_ok {p : PG} {q : Nat} {f : FN} (hf : p.fns[q]? = some f) : NxOk (fun j => nextD p (q : Int) (j : Int)) f.code.length := fun i hi => by
 have e : nextD p (q : Int) (i : Int) = (wayL f.code[i] i).filter (fun y => amg y f.code.length) := by
  unfold nextD
  rw [instr_at hf (List.getElem?_eq_getElem hi)]
 show (∀ y ∈ nextD p (q : Int) (i : Int), _) ∧ (nextD p (q : Int) (i : Int)).length ≤ 2
 rw [e]
 refine ⟨fun y hy => ?_, Nat.le_trans (List.length_filter_le _ _) (way_len _ _)⟩
 exact (amg_iff _ _).1 (List.mem_filter.1 hy).2
def QV (w : World) (base : Nat) (v : Value) (l : List Int) : Prop := (v = .slice none 0 0 ∧ l = []) ∨ ∃ g o c, v = .slice (some ⟨g, o, none⟩) l.length c ∧ Que w base g o c l
theorem QV.ofOwn {w : World} {base : Nat} {v : Value} {l : List Int} (h : OwnN w base v l) : QV w base v l := by
 rcases h.2 with ⟨e, h0⟩ | ⟨g, cap, cur, rfl, _⟩
 ·exact .inl ⟨e, List.eq_nil_of_length_eq_zero h0⟩
 ·exact .inr ⟨g, 0, cap, rfl, (Que.ofOwn h).1⟩
section
variable {w wr w' : World} {gb gc nc : Nat} {pv : Array Value} {hv : Value} {hs : List Int} {cs : List Bool} {g o c base : Nat} {l : List Int}
theorem AgK.apart (h : AgK w wr gb gc nc pv hv hs cs) (hq : Que wr base g o c l) : gb ≠ g ∧ gc ≠ g := by
 obtain ⟨_, _, ⟨C, h3, _⟩, _⟩ := hq
 refine ⟨fun e => ?_, fun e => ?_⟩
 ·subst e
  have h1 := h.box
  rw [h3] at h1
  cases h1
 ·subst e
  exact own_box2 h.cc h3 (by decide) rfl
theorem AgK.app (h : AgK w wr gb gc nc pv (.slice none 0 0) [] cs) (hq : Que wr w.heap.size g o c l) (hk : Kept (fun k => k = g) wr w') : AgK w w' gb gc nc pv (.slice none 0 0) [] cs := by
 obtain ⟨a1, a2⟩ := h.apart hq
 refine ⟨box_kept hk h.box a1, World.ownsRow_nil _ _ _ _, hk.ownsRow h.cc (fun q hq e => ?_), h.kept.step hk (fun j hj e => ?_), h.cl⟩
 ·simp [Value.ownBlock] at hq
  omega
 ·have := hq.1
  omega
theorem AgK.que (h : AgK w wr gb gc nc pv hv hs cs) (hq : Que wr base g o c l) (i : Nat) : Que (wr.setCell ⟨gc, i, none⟩ (.bool true)) base g o c l :=
 hq.kept (kept_set wr gc i (.bool true)) (fun e => (h.apart hq).2 e.symm)
end
set_option maxHeartbeats 40000000 in
theorem comes_ref (v : Value) (p : PG) (B : Nat) (w : World) (hpg : PgIs w B v p) (hB : B ≤ w.heap.size) (ho : p.Ok) (q : Nat) (f : FN) (hf : p.fns[q]? = some f) (hfo : FnOk p f) (i : Nat) (hi : i < f.code.length) :
  Calls Tryz.prog 41 #[v, .int .i64 (q : Int), .int .i64 (i : Int)] w fun e w' => ∃ b : Bool, e = .returned (.bool b) ∧ (b = true ↔ Plus (fun j => nextD p (q : Int) (j : Int)) i i) ∧ KF w w' := by
 have hpg0 := hpg
 obtain ⟨dv, fv, rfl, hd, hdl, hfr⟩ := hpg
 obtain ⟨dao, dc, rfl⟩ := hd.shape
 obtain ⟨fao, fc, rfl⟩ := hfr.shape
 have hqn : q < p.fns.length := (List.getElem?_eq_some_iff.1 hf).1
 obtain ⟨nf, hnf⟩ := nmd (p.fns.length)
 obtain ⟨nd, hnd⟩ := nmd (p.data.length)
 obtain ⟨mem, hmem⟩ := nmd (p.mem)
 rw [← hnf, ← hnd, ← hmem] at hpg0 ⊢
 rw [← hnf] at hfr hqn
 obtain ⟨n, hn⟩ := nmd (f.code.length)
 have hn1 : 1 ≤ n := by rw [hn]; exact hfo.n.1
 have hn4 : n ≤ 4096 := by rw [hn]; exact hfo.n.2
 obtain ⟨pg, po, cg, co, cc, rfl, y0, y1, y2, y3, hri, hpgB, hcgB⟩ := row_instr hfr hf (List.getElem?_eq_getElem (show 0 < f.code.length by omega))
 rw [← hn] at y3 hi
 have hqI : (q : Int) < (nf : Int) := by omega
 have hok := next_ok hf
 rw [← hn] at hok
 obtain ⟨nx, hnx⟩ : ∃ z : Nat → List Int, z = fun j : Nat => nextD p (q : Int) (j : Int) := ⟨_, rfl⟩
 rw [← hnx] at hok ⊢
 obtain ⟨gb, hgb⟩ := nmd (w.heap.size)
 obtain ⟨W, hW⟩ := nmd (w.alloc (.cells #[.int .i64 mem, .slice dao nd dc, .slice (some ⟨pg, po, none⟩) nf fc] 25))
 have k1 : KF w W := by rw [hW]; exact (Kept.refl _ _).alloc _
 have x1 : W.heap[gb]? = some (.cells #[.int .i64 mem, .slice dao nd dc, .slice (some ⟨pg, po, none⟩) nf fc] 25 (0, 0)) := by rw [hW, hgb]; exact heap_alloc_new w _
 have HNX : Hid (∀ (j : Nat) w', KF w w' → Calls Tryz.prog 19 #[.agg #[.int .i64 mem, .slice dao nd dc, .slice (some ⟨pg, po, none⟩) nf fc], .agg #[.int .i64 (q : Int), .int .i64 (j : Int)]] w' fun e w2 => ∃ v', e = .returned v' ∧ OwnN w2 w'.heap.size v' (nx j) ∧ KF w' w2) := fun j w' hw => by
  rw [hnx]
  exact rnext_any _ p w' B (hpg0.kept hw (fun _ _ f => f)) (Nat.le_trans hB hw.size) ho (q : Int) (j : Int)
 have hmk := makeBool W n (by omega)
 obtain ⟨gc, hgc⟩ := nmd (W.heap.size)
 have hb2 := heap_alloc_new W (.cells (zbool n) 4)
 rw [← hgc] at hb2
 have k2 : KF W (W.alloc (.cells (zbool n) 4)) := (Kept.refl _ _).alloc _
 have hA0 : AgK w (W.alloc (.cells (zbool n) 4)) gb gc n #[.int .i64 mem, .slice dao nd dc, .slice (some ⟨pg, po, none⟩) nf fc] (.slice none 0 0) [] (List.replicate n false) :=
  ⟨box_kept k2 x1 id, World.ownsRow_nil _ _ _ _, own_zbool _ w.heap.size gc n hb2 (by rw [hgc]; exact k1.size) (by omega), k1.trans k2, by simp⟩
 have HA0 := hid_of hA0
 have HOK := hid_of hok
 have HST := hid_of (CoI.start hok hi)
 have HLN := hid_of (hok i hi).2
 have HI := hid_of hi
 obtain ⟨z0, z1, z2, _⟩ := look3 x1
 have y3W := k1.cell y3 id
 have c0 := cell_block _ _ 0 _ _ _ hA0.box
 have c1 := cell_block _ _ 1 _ _ _ hA0.box
 have c2 := cell_block _ _ 2 _ _ _ hA0.box
 clear k1 x1 hd hdl hfr hnf hnd hmem hpg0 ho hB hf hfo hqn hn hnx hri y0 y1 y2 y3 hpgB hcgB hok hA0 hb2 k2
 go_enter Tryz.func41, Tryz.ntmps41
 go_upto_region 1 with fail
 rw [← hW, ← hgb]
 clear hW hgb
 go_upto_region 3 with fail
 rw [← hgc]
 clear hmk hgc z0 z1 z2 y3W
 generalize W.alloc (.cells (zbool n) 4) = W2 at *
 go_wp2_with fail
 refine (HNX.out i W2 HA0.out.kept).mono ?_
 rintro e w3 ⟨rv, rfl, hrv, hk3⟩
 have HA1 := hid_of (HA0.out.same hk3)
 have HQ0 := hid_of (QV.ofOwn (own_mono hrv (show w.heap.size ≤ W2.heap.size from HA0.out.kept.size)))
 have HM0 : Hid (3 * (List.replicate n false).count false + (nx i).length + 1 ≤ 3 * n + 3) := by
  have := HLN.out
  unfold Hid
  simp
  omega
 clear c0 c1 c2 hrv hk3 HA0
 go_wp2_with fail
 go_loopg [9] (3 * n + 3) (fun gk rv wr => ∃ (l : List Int) (cs : List Bool), Hid (QV wr w.heap.size rv l) ∧ Hid (AgK w wr gb gc n #[.int .i64 mem, .slice dao nd dc, .slice (some ⟨pg, po, none⟩) nf fc] (.slice none 0 0) [] cs) ∧ Hid (CoI nx n i l cs) ∧ Hid (3 * cs.count false + l.length + 1 ≤ gk) ∧ Hid (3 * cs.count false + l.length ≤ 3 * n + 3))
 case atStart => exact ⟨_, _, HQ0, HA1, HST, HM0, by have := HM0.out; unfold Hid; omega⟩
 case round =>
  clear HQ0 HA1 HST HM0 HLN
  obtain ⟨l, cs, HQ, HA, HC, HM, HML⟩ := hrel
  cases l with
  | nil =>
   as_aux_lemma =>
    have HNO := hid_of (CoI.none HOK.out HI.out HC.out)
    have HKE := hid_of HA.out.kept
    obtain ⟨ao, c, hv⟩ : ∃ ao c, u9 = .slice ao 0 c := by
     rcases HQ.out with ⟨e, _⟩ | ⟨g, o, c, e, _⟩
     ·exact ⟨_, _, e⟩
     ·exact ⟨_, _, e⟩
    subst hv
    clear HQ HA HC HM HML HNX
    go_wp2
    go_ret
    exact ⟨false, rfl, ⟨(fun h => by cases h), fun h => absurd h HNO.out⟩, HKE.out⟩
  | cons x l =>
   as_aux_lemma =>
    obtain ⟨g, o, c, hv, hq⟩ : ∃ g o c, u9 = .slice (some ⟨g, o, none⟩) (l.length + 1) c ∧ Que wr w.heap.size g o c (x :: l) := by
     rcases HQ.out with ⟨_, e⟩ | ⟨g, o, c, e, h⟩
     ·cases e
     ·exact ⟨g, o, c, e, h⟩
    subst hv
    obtain ⟨xn, hxn⟩ : ∃ z : Nat, x = (z : Int) := ⟨x.toNat, by have := (HC.out.rg x (by simp)).1; omega⟩
    subst hxn
    have hx2 := (HC.out.rg (xn : Int) (by simp)).2
    have u0 := hq.2.2.2 0 (by simp)
    simp only [Nat.add_zero, List.getD_cons_zero] at u0
    have hlc : l.length + 1 ≤ c := hq.2.1
    have hll : l.length ≤ 20000 := by
     have := HML.out
     simp at this
     omega
    obtain ⟨m, hm⟩ := nmd (l.length)
    have hqc := hq.cut
    have HQQ := hid_of hq
    have HLM := hid_of hm
    rw [← hm] at hll hlc ⊢
    obtain ⟨d0, d1⟩ := HA.out.cAt (i := xn) (by omega)
    have hxn3 : xn < n := by omega
    have HNL := hid_of (HOK.out xn hxn3).2
    clear hq HQ hm
    by_cases hc1 : c = 1
    ·subst hc1
     have hm0 : m = 0 := by omega
     subst hm0
     have HQC : Hid (Que wr w.heap.size g o 0 l) := by unfold Hid; simpa using hqc
     clear hqc
     simp only [Nat.zero_add]
     by_cases hxi : xn = i
     ·as_aux_lemma =>
       subst hxi
       have HFD := hid_of HC.out.found
       have HKE := hid_of HA.out.kept
       clear HNX HQC HQQ HM HML HC HA
       go_wp2_with fail
       go_ret
       first | exact .inr ⟨rfl, HFD.out, HKE.out⟩ | exact ⟨true, rfl, ⟨fun _ => HFD.out, fun _ => rfl⟩, HKE.out⟩
     ·have hxib : ((xn : Int) == (i : Int)) = false := by simp; omega
      cases hcb : cs.getD xn false with
      | true =>
       as_aux_lemma =>
        have HC2 := hid_of (HC.out.skip hcb)
        have HGK : Hid (1 ≤ gk ∧ 3 * cs.count false + l.length + 1 ≤ gk - 1 ∧ 3 * cs.count false + l.length ≤ 3 * n + 3) := by
         have h1 := HM.out
         have h2 := HML.out
         simp at h1 h2
         unfold Hid
         omega
        rw [hcb] at d0
        have HQN : Hid (QV wr w.heap.size (.slice (some ⟨g, o, none⟩) 0 (0)) l) := .inr ⟨g, o, 0, by rw [HLM.out], HQC.out⟩
        clear hcb HC HM HML HQQ HNX HNL
        go_wp2_with fail
        go_roundg (gk - 1)
        case measure => have := HGK.out; omega
        case rel => exact ⟨l, cs, HQN, HA, HC2, HGK.out.2.1, HGK.out.2.2⟩
      | false =>
       as_aux_lemma =>
        have HC2 := hid_of (HC.out.take HOK.out hxi)
        have hct := count_set (show xn < cs.length by rw [HC.out.len]; exact hxn3) hcb
        have HGK : Hid (1 ≤ gk ∧ 3 * (cs.set xn true).count false + (l ++ nx xn).length + 1 ≤ gk - 1 ∧ 3 * (cs.set xn true).count false + (l ++ nx xn).length ≤ 3 * n + 3) := by
         have h1 := HM.out
         have h2 := HML.out
         have h3 := HNL.out
         simp at h1 h2
         unfold Hid
         rw [List.length_append]
         omega
        have HA2 := hid_of (HA.out.set xn)
        have HQ2 := hid_of (HA.out.que HQC.out xn)
        have e0 := cell_block _ _ 0 _ _ _ HA2.out.box
        have e1 := cell_block _ _ 1 _ _ _ HA2.out.box
        have e2 := cell_block _ _ 2 _ _ _ HA2.out.box
        rw [hcb] at d0
        clear hcb HC HM HML HQQ hct HQC
        go_upto_region 11 with fail
        clear d0 d1 u0 HA
        generalize wr.setCell ⟨gc, xn, none⟩ (.bool true) = w2 at *
        go_wp2_with fail
        refine (HNX.out xn w2 HA2.out.kept).mono ?_
        rintro e w3 ⟨yv, rfl, hyv, hk3⟩
        have hq3 := HQ2.out.kept hk3 id
        have hA3 := HA2.out.same hk3
        obtain ⟨g', o', c', w4, hr, hq4, hk4, _⟩ := que_app w3 w.heap.size w2.heap.size g (o) (0) l yv (nx xn) hq3 hyv (by have := HNL.out; have := HLM.out; omega) hA3.kept.size
        rw [← HLM.out] at hr
        have HA4 := hid_of (hA3.app hq3 hk4)
        have HQN : Hid (QV w4 w.heap.size (.slice (some ⟨g', o', none⟩) (0 + (nx xn).length) c') (l ++ nx xn)) := .inr ⟨g', o', c', by rw [List.length_append, HLM.out], hq4⟩
        have HR := hid_of hr
        obtain ⟨yao, yc, hys⟩ := ownsRow_shape hyv
        subst hys
        clear e0 e1 e2 hr hq4 hk4 hA3 hq3 hyv hk3 HQ2 HA2 HNX HNL
        generalize (nx xn).length = yl at *
        try rw [Nat.zero_add] at HQN
        go_wp2_with (at_builtin; refine wp_app2 rfl (.tmp 43) (.tmp 48) 30 30 rfl _ _ rfl rfl _ w4 HR.out ?_)
        go_roundg (gk - 1)
        case measure => have := HGK.out; omega
        case rel => exact ⟨_, _, HQN, HA4, HC2, HGK.out.2.1, HGK.out.2.2⟩
    ·have HQC : Hid (Que wr w.heap.size g (o + 1) (c - 1) l) := by rw [if_neg hc1] at hqc; exact hqc
     clear hqc
     by_cases hxi : xn = i
     ·as_aux_lemma =>
       subst hxi
       have HFD := hid_of HC.out.found
       have HKE := hid_of HA.out.kept
       clear HNX HQC HQQ HM HML HC HA
       go_wp2_with fail
       go_ret
       first | exact .inr ⟨rfl, HFD.out, HKE.out⟩ | exact ⟨true, rfl, ⟨fun _ => HFD.out, fun _ => rfl⟩, HKE.out⟩
     ·have hxib : ((xn : Int) == (i : Int)) = false := by simp; omega
      cases hcb : cs.getD xn false with
      | true =>
       as_aux_lemma =>
        have HC2 := hid_of (HC.out.skip hcb)
        have HGK : Hid (1 ≤ gk ∧ 3 * cs.count false + l.length + 1 ≤ gk - 1 ∧ 3 * cs.count false + l.length ≤ 3 * n + 3) := by
         have h1 := HM.out
         have h2 := HML.out
         simp at h1 h2
         unfold Hid
         omega
        rw [hcb] at d0
        have HQN : Hid (QV wr w.heap.size (.slice (some ⟨g, o + 1, none⟩) m (c - 1)) l) := .inr ⟨g, o + 1, c - 1, by rw [HLM.out], HQC.out⟩
        clear hcb HC HM HML HQQ HNX HNL
        go_wp2_with fail
        go_roundg (gk - 1)
        case measure => have := HGK.out; omega
        case rel => exact ⟨l, cs, HQN, HA, HC2, HGK.out.2.1, HGK.out.2.2⟩
      | false =>
       as_aux_lemma =>
        have HC2 := hid_of (HC.out.take HOK.out hxi)
        have hct := count_set (show xn < cs.length by rw [HC.out.len]; exact hxn3) hcb
        have HGK : Hid (1 ≤ gk ∧ 3 * (cs.set xn true).count false + (l ++ nx xn).length + 1 ≤ gk - 1 ∧ 3 * (cs.set xn true).count false + (l ++ nx xn).length ≤ 3 * n + 3) := by
         have h1 := HM.out
         have h2 := HML.out
         have h3 := HNL.out
         simp at h1 h2
         unfold Hid
         rw [List.length_append]
         omega
        have HA2 := hid_of (HA.out.set xn)
        have HQ2 := hid_of (HA.out.que HQC.out xn)
        have e0 := cell_block _ _ 0 _ _ _ HA2.out.box
        have e1 := cell_block _ _ 1 _ _ _ HA2.out.box
        have e2 := cell_block _ _ 2 _ _ _ HA2.out.box
        rw [hcb] at d0
        clear hcb HC HM HML HQQ hct HQC
        go_upto_region 11 with fail
        clear d0 d1 u0 HA
        generalize wr.setCell ⟨gc, xn, none⟩ (.bool true) = w2 at *
        go_wp2_with fail
        refine (HNX.out xn w2 HA2.out.kept).mono ?_
        rintro e w3 ⟨yv, rfl, hyv, hk3⟩
        have hq3 := HQ2.out.kept hk3 id
        have hA3 := HA2.out.same hk3
        obtain ⟨g', o', c', w4, hr, hq4, hk4, _⟩ := que_app w3 w.heap.size w2.heap.size g (o + 1) (c - 1) l yv (nx xn) hq3 hyv (by have := HNL.out; have := HLM.out; omega) hA3.kept.size
        rw [← HLM.out] at hr
        have HA4 := hid_of (hA3.app hq3 hk4)
        have HQN : Hid (QV w4 w.heap.size (.slice (some ⟨g', o', none⟩) (m + (nx xn).length) c') (l ++ nx xn)) := .inr ⟨g', o', c', by rw [List.length_append, HLM.out], hq4⟩
        have HR := hid_of hr
        obtain ⟨yao, yc, hys⟩ := ownsRow_shape hyv
        subst hys
        clear e0 e1 e2 hr hq4 hk4 hA3 hq3 hyv hk3 HQ2 HA2 HNX HNL
        generalize (nx xn).length = yl at *
        try rw [Nat.zero_add] at HQN
        go_wp2_with (at_builtin; refine wp_app2 rfl (.tmp 43) (.tmp 48) 30 30 rfl _ _ rfl rfl _ w4 HR.out ?_)
        go_roundg (gk - 1)
        case measure => have := HGK.out; omega
        case rel => exact ⟨_, _, HQN, HA4, HC2, HGK.out.2.1, HGK.out.2.2⟩
end Go.Proofs.YtcaadgcfceommaaGreat
