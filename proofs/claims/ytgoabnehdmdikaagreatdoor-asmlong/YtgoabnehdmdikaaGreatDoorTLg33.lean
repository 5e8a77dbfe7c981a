import Derived.Test.YtgoabnehdmdikaaGreatDoorTLg7
import Derived.Test.YtgoabnehdmdikaaGreatDoorTLg4
import Derived.Laws.StructEq
import Derived.Test.YtgoabnehdmdikaaGreatDoorTLg2
set_option linter.unusedVariables false
set_option linter.unusedSimpArgs false
set_option maxRecDepth 100000
set_option maxHeartbeats 64000000
namespace Go.Proofs.YtgoabnehdmdikaaGreatDoor
open Go.RowKit
theorem Zhw (w : World) : Calls Tryz.prog 18 #[] w fun e w' => ∃ fa fc, e = .returned (.agg #[.int .i64 0, .slice none 0 0, .slice fa 1 fc]) ∧ Pg1 w' w.heap.size (.slice fa 1 fc) ∧ Kept nF w w' := by
 obtain ⟨W1, hW1⟩ := nmd (w.alloc (.cells #[.int .i64 0, .slice none 0 0, .slice none 0 0] 26))
 have k1 : Kept nF w W1 := by rw [hW1]; exact (Kept.refl _ _).alloc _
 have x1 : W1.heap[w.heap.size]? = some (.cells #[.int .i64 0, .slice none 0 0, .slice none 0 0] 26 (0, 0)) := by rw [hW1]; exact heap_alloc_new _ _
 obtain ⟨W3, hW3⟩ := nmd ((W1.alloc (.cells #[.int .i64 18, .int .i64 0] 75)).alloc (.cells #[.int .i64 0, .int .i64 0, .int .i64 1, .slice (some ⟨W1.heap.size, 0, none⟩) 1 1] 78))
 obtain ⟨k3, y1, y2⟩ := Zmr _ _ _ _ _ _ hW3
 have HPG : Hid (Pg1 W3 w.heap.size (.slice (some ⟨W1.heap.size + 1, 0, none⟩) 1 1)) :=
  ⟨_, ⟨rfl, .inr ⟨_, 1, _, rfl, Nat.le_trans k1.size (Nat.le_succ _), y2, Nat.le_refl _, by decide, rfl, rfl⟩⟩, ⟨rfl, .inr ⟨_, 1, _, rfl, k1.size, y1, Nat.le_refl _, by decide, rfl, rfl⟩⟩⟩
 have HX3 := Za (Zc k3 x1 id)
 have HK3 := Za (k1.trans k3)
 clear k1 x1 k3 y1 y2
 go_enter Tryz.func18, Tryz.ntmps18
 go_upto_region 1 with fail
 rw [← hW1]
 obtain ⟨p0, hp0⟩ := nmd (w.heap.size)
 rw [← hp0] at HX3 ⊢
 have HPW : Hid (w.heap.size ≤ p0) := by rw [hp0]; exact Nat.le_refl _
 have HPE := Za hp0
 clear hW1 hp0
 obtain ⟨hx, hkx⟩ := Zct W3 p0 26 _ _ _ (.int .i64 0) (.slice none 0 0) (.slice (some ⟨W1.heap.size + 1, 0, none⟩) 1 1) HX3.out
 obtain ⟨c0, c1, c2, f0, f1, f2⟩ := Zx HX3.out
 have HX4 := Za hx
 have HK4 := Za (HK3.out.step hkx (fun i hi e => by have := HPW.out; omega))
 have HPG4 := Za (HPG.out.put HX3.out hkx)
 rw [hW3] at c0 c1 c2 f0 f1 f2 HX4 HK4 HPG4
 clear hx hkx HX3 HK3 HPG
 go_wp2
 refine bodyPost_ret (v := .agg #[.int .i64 0, .slice none 0 0, .slice (some ⟨W1.heap.size + 1, 0, none⟩) 1 1]) ?_ rfl ⟨_, _, rfl, HPG4.out, HK4.out⟩
 exact results_cell_row (by rfl) _ _ p0 26 _ (0, 0) _ (by rfl) HX4.out Tryz.underlying26 rfl Zak
end Go.Proofs.YtgoabnehdmdikaaGreatDoor
namespace Go.Proofs.YtgoabnehdmdikaaGreatDoor
open Go.RowKit Go.Deep
theorem Zkn (v1 v2 : Value) (ys zs : List IN) (w : World) (h1 : RowI w v1 ys) (h2 : RowI w v2 zs) (hl : ys.length ≤ 9223372036854775807) (hl2 : zs.length ≤ 9223372036854775807) :
  Calls Tryz.prog 25 #[v1, v2] w fun e w' => e = .returned (.bool (Zcg ys zs)) ∧ ∃ n, w' = w.drewN n := by
 obtain ⟨a1, c1, rfl⟩ := h1.shape
 obtain ⟨a2, c2, rfl⟩ := h2.shape
 by_cases hne : ys.length = zs.length
 ·have HN := Za hne
  have HR : Hid (∀ k, k < ys.length → ∃ b1 o1 b2 o2, a1 = some ⟨b1, o1, none⟩ ∧ a2 = some ⟨b2, o2, none⟩ ∧ ∃ y z, ys[k]? = some y ∧ zs[k]? = some z ∧ w.cell? ⟨b1, o1 + k * 2, none⟩ = some (.int .i64 y.op) ∧ w.cell? ⟨b1, o1 + k * 2 + 1, none⟩ = some (.int .i64 y.a) ∧ w.cell? ⟨b2, o2 + k * 2, none⟩ = some (.int .i64 z.op) ∧ w.cell? ⟨b2, o2 + k * 2 + 1, none⟩ = some (.int .i64 z.a)) := fun k hk => by
   rcases h1 with ⟨e, _⟩ | ⟨b1, o1, d1, e1, r1⟩
   ·rw [e] at hk; simp at hk
   ·rcases h2 with ⟨e, _⟩ | ⟨b2, o2, d2, e2, r2⟩
    ·rw [hne, e] at hk; simp at hk
    ·cases e1
     cases e2
     have hk2 : k < zs.length := by omega
     have g1 := r1 k _ (List.getElem?_eq_getElem hk)
     have g2 := r2 k _ (List.getElem?_eq_getElem hk2)
     exact ⟨b1, o1, b2, o2, rfl, rfl, ys[k], zs[k], List.getElem?_eq_getElem hk, List.getElem?_eq_getElem hk2, g1 0 _ rfl, g1 1 _ rfl, g2 0 _ rfl, g2 1 _ rfl⟩
  obtain ⟨n, hn⟩ := nmd (ys.length)
  rw [← hne, ← hn]
  have HL := Za hn
  clear h1 h2 hne hl2
  rw [← hn] at hl
  clear hn
  go_enter Tryz.func25, Tryz.ntmps25
  go_wp2
  go_loopw [5] (fun iv wr => ∃ (k d : Nat), k ≤ n ∧ iv = .int .i64 k ∧ Zcg ys zs = Zcg (ys.drop k) (zs.drop k) ∧ wr = w.drewN d) (fun iv _ => n - (intOf iv).toNat)
  case atStart => exact ⟨0, 0, by omega, rfl, rfl, rfl⟩
  case round =>
   obtain ⟨k, d, hk, rfl, hs, rfl⟩ := hrel
   by_cases hlt : k < n
   ·obtain ⟨b1, o1, b2, o2, rfl, rfl, ⟨yo, ya⟩, ⟨zo, za⟩, hy, hz, q0, q1, q2, q3⟩ := HR.out k (by rw [← HL.out]; exact hlt)
    have hkI : (k : Int) < (n : Int) := by omega
    have HS := Za hs
    have HY := Za hy
    have HZ := Za hz
    clear hs hy hz
    have hq := fun w => Zpw w yo ya zo za
    go_upto_region 6 with fail
    go_quiet (fail)
    go_wp2
    ·rename_i hbad
     have HF : Hid (Zcg ys zs = false) := by
      unfold Hid
      rw [HS.out, Zk2 HY.out HZ.out]
      simp only [Bool.and_eq_false_iff]
      left
      rcases hbad with h | h
      ·left; simpa using h
      ·right; simpa using h
     go_ret
     exact ⟨by rw [HF.out]; rfl, _, rfl⟩
    ·rename_i hok
     refine ⟨⟨k + 1, _, by omega, by go_num, ?_, rfl⟩, by simp [intOf]; omega⟩
     rw [HS.out, Zk2 HY.out HZ.out]
     have h1 : (yo == zo) = true := by simpa using hok.1
     have h2 : (ya == za) = true := by simpa using hok.2
     simp [h1, h2]
   ·have hkI : (n : Int) ≤ (k : Int) := by omega
    have HF : Hid (Zcg ys zs = true) := by
     unfold Hid
     have e1 : ys.drop k = [] := List.drop_eq_nil_of_le (by rw [← HL.out]; omega)
     have e2 : zs.drop k = [] := List.drop_eq_nil_of_le (by rw [← HN.out, ← HL.out]; omega)
     rw [hs, e1, e2]
     rfl
    clear hs
    go_wp2
    go_ret
    exact ⟨by rw [HF.out]; rfl, _, rfl⟩
 ·have hb : ((ys.length : Int) != (zs.length : Int)) = true := by simp; omega
  have HF := Za (Ziz hne)
  clear h1 h2 hne
  generalize ys.length = n1 at *
  generalize zs.length = n2 at *
  go_enter Tryz.func25, Tryz.ntmps25
  go_wp2
  go_ret
  exact ⟨by rw [HF.out]; rfl, 0, rfl⟩
end Go.Proofs.YtgoabnehdmdikaaGreatDoor
namespace Go.Proofs.YtgoabnehdmdikaaGreatDoor
open Go.RowKit
def Ze5 (i : Nat) : IN := ⟨-9, i⟩
structure LentI (w : World) (g : Nat) (ys : List IN) (j : Nat) : Prop where
 there : w.there g 0 ((ys.length + 67) * 2)
 ents : ∀ i y, ys[i]? = some y → w.rangeAt g (i * 2) y.cells
 marks : ∀ t, t < j → w.rangeAt g ((ys.length + t) * 2) (Ze5 (ys.length + t)).cells
theorem LentI.step {w : World} {g : Nat} {ys : List IN} {j : Nat} (h : LentI w g ys j) (hj : j < 67) : LentI (w.setCells g ((ys.length + j) * 2) (Ze5 (ys.length + j)).cells) g ys (j + 1) := by
 have hth : w.there g ((ys.length + j) * 2) (Ze5 (ys.length + j)).cells.length := Zao h.there (by show _ + 2 ≤ _; omega)
 refine ⟨World.there_setCells h.there _ _ _, fun i y hi => ?_, fun t ht => ?_⟩
 ·refine World.rangeAt_setCells_apart (h.ents i y hi) _ _ _ (.inr (.inl ?_))
  have hil : i < ys.length := (List.getElem?_eq_some_iff.1 hi).1
  show i * 2 + 2 ≤ _
  omega
 ·rcases Nat.lt_or_ge t j with h1 | h1
  ·refine World.rangeAt_setCells_apart (h.marks t h1) _ _ _ (.inr (.inl ?_))
   show (ys.length + t) * 2 + 2 ≤ _
   omega
  ·have e : t = j := by omega
   subst e
   exact World.rangeAt_setCells_same _ _ _ _ hth
theorem Zat {S : Nat → Prop} {w w' : World} {g n : Nat} (h : w.there g 0 n) (hk : Kept S w w') (hS : ¬ S g) : w'.there g 0 n := fun i hi => by
 have h1 := h i hi
 cases hb : w.heap[g]? with
 | none =>
  have := h1.1
  simp [World.cell?, hb] at this
 | some ob =>
  have hb' := (hk.block g (Array.getElem?_eq_some_iff.1 hb).1 hS).trans hb
  unfold World.cell? World.frozen? at h1 ⊢
  simp only [hb, hb'] at h1 ⊢
  exact h1
theorem LentI.kept {S : Nat → Prop} {w w' : World} {g : Nat} {ys : List IN} {j : Nat} (h : LentI w g ys j) (hk : Kept S w w') (hS : ¬ S g) : LentI w' g ys j :=
 ⟨Zat h.there hk hS, fun i y hy k u hu => hk.cell (h.ents i y hy k u hu) hS, fun t ht k u hu => hk.cell (h.marks t ht k u hu) hS⟩
theorem LentI.row {w : World} {g : Nat} {ys : List IN} {j c : Nat} (h : LentI w g ys j) : RowI w (.slice (some ⟨g, 0, none⟩) ys.length c) ys := by
 refine .inr ⟨g, 0, c, rfl, fun i y hy => ?_⟩
 rw [Nat.zero_add]
 exact h.ents i y hy
def zin (n : Nat) : Array Value := madeCells (Value.agg #[.int .i64 0, .int .i64 0]).cells n
theorem Zr2 (n : Nat) : (zin n).size = n := size_madeCells _ n
theorem Zr3 (W : World) (l : Nat) (h : l * 16 ≤ 140737488355328) : (Instr.makeSlice 76 (.int .i64 (l : Int)) (.int .i64 (l : Int))).run Tryz.prog W = .ok (.slice (some ⟨W.heap.size, 0, none⟩) l l) (W.alloc (.cells (zin (l * 2)) 75)) := by
 obtain ⟨i0, hi, hz0, hz1, hz2⟩ := info_parts Tryz.info75
 have := run_make (P := Tryz.prog) W 76 75 i0 _ Tryz.underlying76 hi hz0 .i64 .i64 (l : Int) (l : Int) (by omega) (by omega) (by rw [hz2]; omega) (by omega)
 rw [hz1] at this
 simpa [zin, Value.cells] using this
theorem Znf (w : World) (ty : TypeId) (b dLen dCap : Nat) (a : Option Addr) (n sCap : Nat) (cs : List Value) (hn : cs.length = n * 2) (hle : n ≤ dLen) (ha : a = none → n = 0)
  (hsrc : ∀ ad, a = some ad → ∀ j v, cs[j]? = some v → w.cell? (ad.add j) = some v) (hth : w.there b 0 (n * 2)) (h1 : ∀ v ∈ cs, v.oneCell' = true) :
  (Builtin.copy_ #[76, 76] ty #[.slice (some ⟨b, 0, none⟩) dLen dCap, .slice a n sCap]).run Tryz.prog w = .ok (goInt n) (w.setCells b 0 cs) := by
 obtain ⟨i0, hi, hz0, hz1, hz2⟩ := info_parts Tryz.info75
 have hst := run_storeCells_cells (P := Tryz.prog) b 0 cs 0 w (fun j hj => by simpa using (hth j (by omega)).1) (fun j hj => by simpa using (hth j (by omega)).2) h1
 have hmin : Nat.min n dLen = n := Nat.min_eq_left hle
 cases a with
 | none =>
  have h0 := ha rfl
  subst h0
  have e : cs = [] := List.length_eq_zero_iff.1 (by omega)
  subst e
  simp [Builtin.copy_, run_underlying Tryz.underlying76, Builtin.lenOf, Builtin.firstCells, sizeOf, typeInfo, hi, hz1, hmin, storeCells, World.setCells]
 | some ad =>
  have hl := run_loadCells_list (P := Tryz.prog) w ad cs (hsrc ad rfl)
  rw [hn] at hl
  simp [Builtin.copy_, run_underlying Tryz.underlying76, Builtin.lenOf, Builtin.firstCells, sizeOf, typeInfo, hi, hz1, hmin, hl, hst]
theorem Zng (ys : List IN) : ∀ u ∈ Zn ys, u.oneCell' = true := by
 intro u hu
 obtain ⟨y, _, hy⟩ := List.mem_flatMap.1 hu
 simp [IN.cells] at hy
 rcases hy with rfl | rfl <;> rfl
theorem Znh {w : World} {a : Addr} {c : Nat} {ys : List IN} (h : RowI w (.slice (some a) ys.length c) ys) : ∀ j v, (Zn ys)[j]? = some v → w.cell? (a.add j) = some v := by
 intro j v hj
 have hl := (List.getElem?_eq_some_iff.1 hj).1
 rw [Zbp ys] at hl
 rcases h with ⟨e, _⟩ | ⟨g, o, c', e, hc⟩
 ·rw [e] at hl; simp at hl
 ·cases e
  have hq : j / 2 < ys.length := by omega
  obtain ⟨y, hyi⟩ : ∃ y, ys[j / 2]? = some y := ⟨_, List.getElem?_eq_getElem hq⟩
  have hat := Zd0 ys (j / 2) y hyi (j % 2) (by omega)
  rw [show j / 2 * 2 + j % 2 = j by omega, hj] at hat
  have := hc (j / 2) y hyi (j % 2) v hat.symm
  rw [Addr.add_lit, show o + j = o + j / 2 * 2 + j % 2 by omega]
  exact this
theorem Zni (w : World) (ao : Option Addr) (c : Nat) (ys : List IN) (hv : RowI w (.slice ao ys.length c) ys) : ∃ W', (Builtin.copy_ #[76, 76] 3 #[.slice (some ⟨w.heap.size, 0, none⟩) (ys.length + 67) (ys.length + 67), .slice ao ys.length c]).run Tryz.prog (w.alloc (.cells (zin ((ys.length + 67) * 2)) 75)) = .ok (goInt ys.length) W' ∧
  LentI W' w.heap.size ys 0 ∧ Kept nF w W' := by
 have hb := heap_alloc_new w (.cells (zin ((ys.length + 67) * 2)) 75)
 have hkA : Kept nF w (w.alloc (.cells (zin ((ys.length + 67) * 2)) 75)) := (Kept.refl _ _).alloc _
 have hvA := hv.kept hkA (fun _ _ f => f)
 have hth : (w.alloc (.cells (zin ((ys.length + 67) * 2)) 75)).there w.heap.size 0 ((ys.length + 67) * 2) := fun j hj => by
  refine ⟨?_, Ze _ _ _ _ _ hb⟩
  rw [Zb _ _ _ _ _ _ hb, Array.getElem?_eq_getElem (by rw [Zr2]; omega)]
  rfl
 have hel : (Zn ys).length = ys.length * 2 := by rw [Zbp]; omega
 have hr := Znf (w.alloc (.cells (zin ((ys.length + 67) * 2)) 75)) 3 w.heap.size (ys.length + 67) (ys.length + 67) ao ys.length c (Zn ys) hel (by omega) (fun e => by
  subst e
  rcases hv with ⟨e, _⟩ | ⟨g, o, c', e, _⟩
  ·rw [e]; rfl
  ·cases e) (fun ad e => by
  subst e
  exact Znh hvA) (Zao hth (by omega)) (Zng ys)
 refine ⟨_, hr, ⟨World.there_setCells hth _ _ _, fun i y hi j u hj => ?_, fun t ht => absurd ht (by omega)⟩, hkA.step (Za4 _ _ _ _) (fun i hi e => by omega)⟩
 have hj2 : j < 2 := by
  have := (List.getElem?_eq_some_iff.1 hj).1
  simpa [IN.cells] using this
 have hs := World.rangeAt_setCells_same (w.alloc (.cells (zin ((ys.length + 67) * 2)) 75)) w.heap.size 0 (Zn ys) (Zao hth (by rw [hel]; omega)) (i * 2 + j) u (by rw [Zd0 ys i y hi j hj2, hj])
 rwa [Nat.zero_add] at hs
theorem Zpe (ao : Option Addr) (c : Nat) (ys : List IN) (w : World) (hv : RowI w (.slice ao ys.length c) ys) (hn : (ys.length + 67) * 16 ≤ 140737488355328) :
  Calls Tryz.prog 27 #[.slice ao ys.length c] w fun e w' => e = .returned (.slice (some ⟨w.heap.size, 0, none⟩) ys.length (ys.length + 67)) ∧ LentI w' w.heap.size ys 67 ∧ Kept nF w w' := by
 obtain ⟨W', hcp, hl, hk⟩ := Zni w ao c ys hv
 have mk := Zr3 w (ys.length + 67) hn
 rw [show ((ys.length + 67 : Nat) : Int) = (ys.length : Int) + 67 from by omega] at mk
 have HL := Za hl
 have HK := Za hk
 obtain ⟨n, hN⟩ := nmd (ys.length)
 have HN := Za hN
 rw [← hN] at mk hcp hn ⊢
 clear hl hk hv hN
 go_enter Tryz.func27, Tryz.ntmps27
 go_wp2
 clear mk hcp
 go_loopw [4] (fun i wr => ∃ j : Nat, j ≤ 67 ∧ i = .int .i64 ((n + j : Nat) : Int) ∧ LentI wr w.heap.size ys j ∧ Kept nF w wr) (fun i _ => (n + 67) - (intOf i).toNat)
 case atStart => exact ⟨0, by omega, by simp, HL.out, HK.out⟩
 case round =>
  obtain ⟨j, hj, rfl, hLe, hKe⟩ := hrel
  obtain ⟨m, hm⟩ := nmd (n + j)
  by_cases hlt : j < 67
  ·have hth : wr.there w.heap.size (m * 2) (#[.int .i64 (-9), .int .i64 (m : Int)] : Array Value).size := Zao hLe.there (by show m * 2 + 2 ≤ _; rw [← HN.out]; omega)
   have hLS := hLe.step hlt
   rw [← HN.out, ← hm] at hLS
   have hjI : (m : Int) < (n : Int) + 67 := by omega
   have hm0 : (0 : Int) ≤ (m : Int) := by omega
   have HREL : Hid (LentI (wr.setCells w.heap.size (m * 2) (Ze5 m).cells) w.heap.size ys (j + 1) ∧ Kept nF w (wr.setCells w.heap.size (m * 2) (Ze5 m).cells)) := ⟨hLS, hKe.step (Za4 _ _ _ _) (fun i hi e => by omega)⟩
   have HM := Za hm
   rw [← hm]
   clear hLe hKe HL HK hLS hm
   go_upto_region 5 with (refine wpList_store_mid rfl 75 _ _ rfl w.heap.size (m * 2) #[.int .i64 (-9), .int .i64 (m : Int)] rfl rfl hth size52 (Zmm _ _ rfl rfl) ?_)
   have hmj := HM.out
   have HREL2 : Hid (LentI (wr.setCells w.heap.size (m * 2) (#[.int .i64 (-9), .int .i64 (m : Int)] : Array Value).toList) w.heap.size ys (j + 1) ∧ Kept nF w (wr.setCells w.heap.size (m * 2) (#[.int .i64 (-9), .int .i64 (m : Int)] : Array Value).toList)) := HREL.out
   generalize wr.setCells w.heap.size (m * 2) (#[.int .i64 (-9), .int .i64 (m : Int)] : Array Value).toList = w3 at *
   clear hth HREL
   go_wp2
   go_roundw
   case rel => exact ⟨j + 1, by omega, by rw [show n + (j + 1) = m + 1 by omega]; go_num, HREL2.out.1, HREL2.out.2⟩
   case measure => simp [intOf]; omega
  ·obtain rfl : j = 67 := by omega
   have HLS := Za hLe
   have HKS := Za hKe
   clear hLe hKe HL HK hm
   go_wp2
   go_ret
   exact ⟨rfl, HLS.out, HKS.out⟩
def Zg8 (w wr : World) (g n : Nat) : Prop := wr.there g 0 n ∧ Kept (fun k => k = g) w wr
theorem Zpf (g : Nat) (v : Value) (ys : List IN) (w : World) (hl : LentI w g ys 67) (hx : RowI w v ys) (hn : (ys.length + 67) * 16 ≤ 140737488355328) :
  Calls Tryz.prog 36 #[.slice (some ⟨g, 0, none⟩) ys.length (ys.length + 67), v] w fun e w' => e = .returned (.bool true) ∧ Kept (fun k => k = g) w w' := by
 have hS := Zkn (.slice (some ⟨g, 0, none⟩) ys.length (ys.length + 67)) v ys ys w hl.row hx (by omega) (by omega)
 rw [Zfb] at hS
 obtain ⟨n, hN⟩ := nmd (ys.length)
 have HN := Za hN
 have HL := Za hl
 rw [← hN] at hS hn ⊢
 have HS := Za hS
 clear hl hx hS hN
 go_enter Tryz.func36, Tryz.ntmps36
 go_wp2_with fail
 refine HS.out.mono ?_
 rintro e w1 ⟨rfl, d1, rfl⟩
 have HL1 := Za (HL.out.kept (Yf (Kept.refl nF w) d1) id)
 have HK1 := Za (Yf (Kept.refl (fun k => k = g) w) d1)
 clear HS HL
 generalize w.drewN d1 = w1 at *
 have hnI : (0 : Int) ≤ (n : Int) + 67 := by omega
 go_wp2
 go_loopw [5, 7] (fun ok i wr => ok = .bool true ∧ ∃ j : Nat, j ≤ 67 ∧ i = .int .i64 ((n + j : Nat) : Int) ∧ wr = w1) (fun _ i _ => (n + 67) - (intOf i).toNat)
 case atStart => exact ⟨rfl, 0, by omega, by simp, rfl⟩
 case round =>
  obtain ⟨rfl, j, hj, rfl, rfl⟩ := hrel
  obtain ⟨m, hm⟩ := nmd (n + j)
  by_cases hlt : j < 67
  ·have hjI : (m : Int) < (n : Int) + 67 := by omega
   have hm0 : (0 : Int) ≤ (m : Int) := by omega
   have hR := HL1.out.marks j hlt
   rw [← HN.out, ← hm] at hR
   have c0 := hR 0 _ rfl
   have c1 := hR 1 _ rfl
   rw [show (Ze5 m).op = -9 from rfl, show m * 2 + 0 = m * 2 from rfl] at c0
   rw [show (Ze5 m).a = (m : Int) from rfl] at c1
   have hq : ∀ w, (binOp .eql 75 (.agg #[.int .i64 (-9), .int .i64 (m : Int)]) (.agg #[.int .i64 (-9), .int .i64 (m : Int)])).run Tryz.prog w = .ok (.bool true) w := fun w => by
    rw [Zpx]
    simp
   have HM := Za hm
   rw [← hm]
   clear hm hR HL1
   go_wp2
   have hmj := HM.out
   go_roundw
   case rel => exact ⟨rfl, j + 1, by omega, by rw [show n + (j + 1) = m + 1 by omega]; go_num, trivial⟩
   case measure => simp [intOf]; omega
  ·obtain rfl : j = 67 := by omega
   have HO : Hid (Zg8 w wr g ((n + 67) * 2)) := ⟨by rw [HN.out]; exact HL1.out.there, HK1.out⟩
   clear HL1 HK1 hm
   go_wp2
   go_loopw [8] (fun i wq => ∃ k : Nat, k ≤ n + 67 ∧ i = .int .i64 (k : Int) ∧ Zg8 w wq g ((n + 67) * 2)) (fun i _ => (n + 67) - (intOf i).toNat)
   case atStart => exact ⟨0, by omega, rfl, HO.out⟩
   case round =>
    obtain ⟨k, hk, rfl, hov⟩ := hrel
    by_cases hlt2 : k < n + 67
    ·have hth : ∀ W : World, Zg8 w W g ((n + 67) * 2) → W.there g (k * 2) (#[.int .i64 77, .int .i64 (-7)] : Array Value).size := fun W h => Zao h.1 (by show k * 2 + 2 ≤ _; omega)
     have hthk := hth _ hov
     have HOS : Hid (∀ W : World, Zg8 w W g ((n + 67) * 2) → Zg8 w (W.setCells g (k * 2) (#[.int .i64 77, .int .i64 (-7)] : Array Value).toList) g ((n + 67) * 2)) := fun W h => ⟨World.there_setCells h.1 _ _ _, h.2.trans (Za4 _ _ _ _)⟩
     have HOV := Za hov
     have hkI : (k : Int) < (n : Int) + 67 := by omega
     clear hov HO hth
     go_wp2_with (refine wpList_store_mid rfl 75 _ _ rfl g (k * 2) #[.int .i64 77, .int .i64 (-7)] rfl rfl hthk size52 (Zmm _ _ rfl rfl) ?_)
     go_roundw
     case rel => exact ⟨k + 1, by omega, by go_num, HOS.out _ HOV.out⟩
     case measure => simp [intOf]; omega
    ·have HOS := Za hov
     clear hov HO
     go_wp2
     go_ret
     exact ⟨rfl, HOS.out.2⟩
def Lent2 (w : World) (g : Nat) (xs : List Int) (j : Nat) : Prop :=
 ∃ cur : Array Value, w.heap[g]? = some (.cells cur 5 (0, 0)) ∧ cur.size = xs.length + 67 ∧ (∀ i, i < xs.length → cur[i]? = some (.int .u8 (xs.getD i 0))) ∧ (∀ i, i < j → cur[xs.length + i]? = some (.int .u8 169))
theorem Lent2.cells {w : World} {g : Nat} {xs : List Int} {j k : Nat} (h : Lent2 w g xs j) (hk : k < xs.length + 67) : (∃ u, w.cell? ⟨g, k, none⟩ = some u) ∧ w.frozen? ⟨g, k, none⟩ = false := by
 obtain ⟨cur, h0, h1, h2, h3⟩ := h
 refine ⟨⟨cur[k]'(by omega), ?_⟩, Ze _ _ _ _ _ h0⟩
 rw [Zb _ _ _ _ _ _ h0]
 exact Array.getElem?_eq_getElem (by omega)
theorem Lent2.at {w : World} {g : Nat} {xs : List Int} {j k : Nat} (h : Lent2 w g xs j) (hk : k < xs.length) : w.cell? ⟨g, k, none⟩ = some (.int .u8 (xs.getD k 0)) := by
 obtain ⟨cur, h0, h1, h2, h3⟩ := h
 rw [Zb _ _ _ _ _ _ h0]
 exact h2 k hk
theorem Lent2.mark {w : World} {g : Nat} {xs : List Int} {j k : Nat} (h : Lent2 w g xs j) (hk : k < j) : w.cell? ⟨g, xs.length + k, none⟩ = some (.int .u8 169) := by
 obtain ⟨cur, h0, h1, h2, h3⟩ := h
 rw [Zb _ _ _ _ _ _ h0]
 exact h3 k hk
theorem Lent2.step {w : World} {g : Nat} {xs : List Int} {j : Nat} (h : Lent2 w g xs j) (hj : j < 67) : Lent2 (w.setCell ⟨g, xs.length + j, none⟩ (.int .u8 169)) g xs (j + 1) := by
 obtain ⟨cur, h0, h1, h2, h3⟩ := h
 refine ⟨_, Zf _ _ _ _ _ _ h0 _, by simp [h1], fun i hi => ?_, fun i hi => ?_⟩
 ·rw [Array.getElem?_setIfInBounds, if_neg (by omega)]
  exact h2 i hi
 ·rw [Array.getElem?_setIfInBounds]
  by_cases e : i = j
  ·subst e
   rw [if_pos rfl, if_pos (by omega)]
  ·rw [if_neg (by omega)]
   exact h3 i (by omega)
theorem Lent2.kept {S : Nat → Prop} {w w' : World} {g : Nat} {xs : List Int} {j : Nat} (h : Lent2 w g xs j) (hk : Kept S w w') (hs : ¬ S g) : Lent2 w' g xs j := by
 obtain ⟨cur, h0, h1⟩ := h
 exact ⟨cur, (hk.block g (Array.getElem?_eq_some_iff.1 h0).1 hs).trans h0, h1⟩
theorem Lent2.bin {w : World} {g : Nat} {xs : List Int} {j : Nat} (h : Lent2 w g xs j) : IsB w (.slice (some ⟨g, 0, none⟩) xs.length (xs.length + 67)) xs :=
 .inr ⟨g, 0, _, rfl, fun i hi => by rw [Nat.zero_add]; exact h.at hi⟩
theorem Zxb {w : World} {g o : Nat} {xs : List Int} (h : ∀ i, i < xs.length → w.cell? ⟨g, o + i, none⟩ = some (.int .u8 (xs.getD i 0))) : ∀ j u, (xs.map (Value.int .u8))[j]? = some u → w.cell? ((⟨g, o, none⟩ : Addr).add j) = some u := by
 intro j u hj
 have hl : j < xs.length := by
  have := (List.getElem?_eq_some_iff.1 hj).1
  simpa using this
 rw [Addr.add_lit, h j hl]
 rw [List.getElem?_map, List.getElem?_eq_getElem hl] at hj
 simpa [List.getD, List.getElem?_eq_getElem hl] using hj
theorem Znj (w : World) (v : Value) (xs : List Int) (hx : IsB w v xs) (ty : TypeId) : ∃ W', (Builtin.copy_ #[23, 23] ty #[.slice (some ⟨w.heap.size, 0, none⟩) (xs.length + 67) (xs.length + 67), v]).run Tryz.prog (w.alloc (.cells (zer (xs.length + 67)) 5)) = .ok (goInt xs.length) W' ∧
  Lent2 W' w.heap.size xs 0 ∧ Kept nF w W' := by
 have hg : (w.alloc (.cells (zer (xs.length + 67)) 5)).heap[w.heap.size]? = some (.cells (zer (xs.length + 67)) 5) := heap_alloc_new _ _
 rcases hx with ⟨rfl, ao, c, rfl⟩ | ⟨b, o, c, rfl, hx⟩
 ·refine ⟨_, run_copy_none (P := Tryz.prog) _ 23 23 ty 5 _ _ _ _ _ _ Tryz.underlying23 Zh7 (by simp), ⟨_, hg, by rw [Zgk], fun i hi => absurd hi (by simp), fun i hi => absurd hi (by omega)⟩, (Kept.refl _ _).alloc _⟩
 ·have hr := run_copy_row (P := Tryz.prog) (w.alloc (.cells (zer (xs.length + 67)) 5)) 23 23 ty 5 w.heap.size 0 (xs.length + 67) (xs.length + 67) ⟨b, o, none⟩ xs.length c (zer (xs.length + 67)) 5 (xs.map (Value.int .u8)) Tryz.underlying23 Zh7 hg (by simp) (fun j u hj => ((Kept.refl nF w).alloc _).cell (Zxb hx j u hj) id) (by simp [Zgk]) (Zeg xs)
  rw [List.length_map] at hr
  refine ⟨_, hr, ⟨_, setRow_heap _ _ _ _ _ _ hg, ?_, fun i hi => ?_, fun i hi => absurd hi (by omega)⟩, ?_⟩
  ·simp [Zgk]
  ·simp [List.getElem?_append, hi, List.getD]
  ·refine ⟨rfl, rfl, rfl, by simp, fun k hk _ => ?_⟩
   rw [setRow_other _ _ _ _ (by omega)]
   exact Below.heap_alloc _ _ _ hk
set_option maxRecDepth 100000 in
theorem Zpg (v : Value) (xs : List Int) (w : World) (hx : IsB w v xs) (hn : xs.length ≤ 140737488355261) :
  Calls Tryz.prog 26 #[v] w fun e w' => e = .returned (.slice (some ⟨w.heap.size, 0, none⟩) xs.length (xs.length + 67)) ∧ Lent2 w' w.heap.size xs 67 ∧ Kept nF w w' := by
 obtain ⟨ao, c, rfl⟩ := hx.shape
 obtain ⟨W', hcp, hl, hk⟩ := Znj w _ xs hx 3
 have mk := Zjn w (xs.length + 67) (by omega)
 rw [show ((xs.length + 67 : Nat) : Int) = (xs.length : Int) + 67 from by omega] at mk
 have HL := Za hl
 have HK := Za hk
 clear hl hk hx
 go_enter Tryz.func26, Tryz.ntmps26
 go_wp2
 clear mk hcp
 generalize hN : xs.length = n at *
 have HN := Za hN
 clear hN
 go_loopw [4] (fun i wr => ∃ j : Nat, j ≤ 67 ∧ i = .int .i64 ((n : Int) + (j : Int)) ∧ Lent2 wr w.heap.size xs j ∧ Kept nF w wr) (fun i _ => (n + 67) - (intOf i).toNat)
 case atStart => exact ⟨0, by omega, by simp, HL.out, HK.out⟩
 case round =>
  obtain ⟨j, hj, rfl, hLe, hKe⟩ := hrel
  by_cases hlt : j < 67
  ·obtain ⟨⟨u, hu⟩, hfz⟩ := hLe.cells (k := n + j) (by rw [HN.out]; omega)
   have HLS := Za (hLe.step hlt)
   rw [HN.out] at HLS
   have HKS : Hid (Kept nF w (wr.setCell ⟨w.heap.size, n + j, none⟩ (.int .u8 169))) := hKe.setCell (.inl (Nat.le_refl _)) _
   have hjI : (n : Int) + (j : Int) < (n : Int) + 67 := by omega
   clear hLe hKe HL HK
   go_wp2
   go_roundw
   case rel => exact ⟨j + 1, by omega, by go_num, HLS.out, HKS.out⟩
   case measure => simp [intOf]; omega
  ·obtain rfl : j = 67 := by omega
   have HLS := Za hLe
   have HKS := Za hKe
   clear hLe hKe HL HK
   go_wp2
   go_ret
   refine ⟨?_, HLS.out, HKS.out⟩
   rw [HN.out]
   rfl
def Over2 (w wr : World) (g n : Nat) : Prop := (∃ cur : Array Value, wr.heap[g]? = some (.cells cur 5 (0, 0)) ∧ cur.size = n) ∧ Kept (fun k => k = g) w wr
theorem Over2.cells {w wr : World} {g n k : Nat} (h : Over2 w wr g n) (hk : k < n) : (∃ u, wr.cell? ⟨g, k, none⟩ = some u) ∧ wr.frozen? ⟨g, k, none⟩ = false := by
 obtain ⟨⟨cur, h0, h1⟩, _⟩ := h
 refine ⟨⟨cur[k]'(by omega), ?_⟩, Ze _ _ _ _ _ h0⟩
 rw [Zb _ _ _ _ _ _ h0]
 exact Array.getElem?_eq_getElem (by omega)
theorem Over2.step {w wr : World} {g n : Nat} (h : Over2 w wr g n) (k : Nat) (u : Value) : Over2 w (wr.setCell ⟨g, k, none⟩ u) g n := by
 obtain ⟨⟨cur, h0, h1⟩, h2⟩ := h
 exact ⟨⟨_, Zf _ _ _ _ _ _ h0 _, by simp [h1]⟩, h2.trans (Zg wr g k u)⟩
set_option maxRecDepth 100000 in
theorem Zph (g : Nat) (v : Value) (xs : List Int) (w : World) (hl : Lent2 w g xs 67) (hx : IsB w v xs) (hn : xs.length ≤ 140737488355261) :
  Calls Tryz.prog 35 #[.slice (some ⟨g, 0, none⟩) xs.length (xs.length + 67), v] w fun e w' => e = .returned (.bool true) ∧ Kept (fun k => k = g) w w' := by
 have hs1 := Zaf w _ xs hl.bin
 have hs2 := Zaf w v xs hx
 have HM : Hid (∀ j, j < 67 → w.cell? ⟨g, xs.length + j, none⟩ = some (.int .u8 169)) := fun j hj => hl.mark hj
 have HO : Hid (Over2 w w g (xs.length + 67)) := by
  obtain ⟨cur, h0, h1, h2, h3⟩ := hl
  exact ⟨⟨cur, h0, h1⟩, Kept.refl _ _⟩
 obtain ⟨ao, c, rfl⟩ := hx.shape
 clear hl hx
 generalize str xs = st at *
 generalize xs.length = n at *
 go_enter Tryz.func35, Tryz.ntmps35
 go_wp2
 clear hs1 hs2
 go_loop [5, 7] (fun ok i => ok = .bool true ∧ ∃ j : Nat, j ≤ 67 ∧ i = .int .i64 ((n : Int) + (j : Int))) (fun _ i => (n + 67) - (intOf i).toNat)
 case atStart => exact ⟨rfl, 0, by omega, by simp⟩
 case round =>
  obtain ⟨rfl, j, hj, rfl⟩ := hrel
  by_cases hlt : j < 67
  ·have hu := HM.out j hlt
   have hjI : (n : Int) + (j : Int) < (n : Int) + 67 := by omega
   clear HM HO
   go_wp2
   go_round
   case rel => exact ⟨rfl, j + 1, by omega, by go_num⟩
   case measure => simp [intOf]; omega
  ·obtain rfl : j = 67 := by omega
   clear HM
   go_wp2
   go_loopw [8] (fun i wr => ∃ k : Nat, k ≤ n + 67 ∧ i = .int .i64 k ∧ Over2 w wr g (n + 67)) (fun i _ => (n + 67) - (intOf i).toNat)
   case atStart => exact ⟨0, by omega, rfl, HO.out⟩
   case round =>
    obtain ⟨k, hk, rfl, hov⟩ := hrel
    by_cases hlt2 : k < n + 67
    ·obtain ⟨⟨u, hu⟩, hfz⟩ := hov.cells hlt2
     have HOS := Za (hov.step k (.int .u8 94))
     have hkI : (k : Int) < (n : Int) + 67 := by omega
     clear hov HO
     go_wp2
     go_roundw
     case rel => exact ⟨k + 1, by omega, by go_num, HOS.out⟩
     case measure => simp [intOf]; omega
    ·have HOS := Za hov
     clear hov HO
     go_wp2
     go_ret
     exact ⟨rfl, HOS.out.2⟩
end Go.Proofs.YtgoabnehdmdikaaGreatDoor
