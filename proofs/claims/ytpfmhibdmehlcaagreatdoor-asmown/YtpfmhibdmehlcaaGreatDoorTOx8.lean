import Derived.Test.YtpfmhibdmehlcaaGreatDoorTOx7
namespace Go.Proofs.YtpfmhibdmehlcaaGreatDoor
open Go.RowKit
set_option linter.unusedVariables false
set_option linter.unusedSimpArgs false
set_option maxRecDepth 100000
theorem letter_yes (r : Int) (w : World) (h1 : 97 ≤ r) (h2 : r ≤ 122) :
  Calls Tryz.prog 121 #[.int .i32 r] w fun e w' => e = .returned (.bool true) ∧ w' = w := by
 go_enter Tryz.func121, Tryz.ntmps121
 go_wp2
 go_ret
 exact ⟨rfl, rfl⟩
theorem digit_yes (r : Int) (w : World) (h1 : 48 ≤ r) (h2 : r ≤ 57) :
  Calls Tryz.prog 122 #[.int .i32 r] w fun e w' => e = .returned (.bool true) ∧ w' = w := by
 go_enter Tryz.func122, Tryz.ntmps122
 go_wp2
 go_ret
 exact ⟨rfl, rfl⟩
abbrev dgs : ByteArray := ⟨#[48, 49, 50, 51, 52, 53, 54, 55, 56, 57]⟩
def z211 : Array Value := Array.replicate 256 (.bool false)
theorem zero211 : ∀ w, (zeroValue 237).run Tryz.prog w = .ok (.agg (Array.replicate 256 (.bool false))) w := fun w => by kernel_rfl
def dset : Array Value := Lib.setCells dgs.data.toList
attribute [irreducible] dset z211
structure Gl (w : World) : Prop where
 tab : Lib.TabIs Tryz.prog w "internal/strconv.uint64pow10" .u64 Lib.pow10Tab
 len : ∃ m, w.cell? ⟨0, 0, none⟩ = some (.int .i64 m)
 err : ∃ tp pv, w.cell? ⟨1, 0, none⟩ = some (.iface tp pv)
 lo : 8 ≤ w.heap.size
theorem var_block {P : Program} {w w' : World} {n : String} {g : Nat} (hg : P.globalNamed n = some g) (hb : w'.heap[g]? = w.heap[g]?) : w'.var? P n = w.var? P n := by
 unfold World.var?
 rw [hg]
 simp only [Option.bind_some, hb]
theorem pow_named : Tryz.prog.globalNamed "internal/strconv.uint64pow10" = some 2 := by kernel_rfl
theorem Gl.kept {S : Nat → Prop} {w w' : World} (h : Gl w) (hk : Kept S w w') (hS : ∀ q, q < 5 → ¬ S q) : Gl w' := by
 obtain ⟨m, hm⟩ := h.len
 obtain ⟨tp, pv, he⟩ := h.err
 have := h.lo
 refine ⟨?_, ⟨m, hk.cell hm (hS 0 (by decide))⟩, ⟨tp, pv, hk.cell he (hS 1 (by decide))⟩, Nat.le_trans h.lo hk.size⟩
 unfold Lib.TabIs
 rw [var_block pow_named (hk.block 2 (by omega) (hS 2 (by decide)))]
 exact h.tab
theorem Gl.same {w w' : World} (h : Gl w) (hk : Kept (fun _ => False) w w') : Gl w' := h.kept hk (fun _ _ f => f)
theorem kept_bytes (w : World) (t : ByteArray) : Kept (fun _ => False) w (Lib.bytesWorld w 5 t) := by
 refine ⟨rfl, rfl, rfl, ?_, fun k hk _ => ?_⟩
 ·simp [Lib.bytesWorld, World.freeze]
 ·show ((w.drew.alloc _).heap.modify _ _)[k]? = _
  rw [Array.getElem?_modify, if_neg (show ¬ w.heap.size = k by omega)]
  exact Below.heap_alloc w.drew _ _ hk
theorem size82 : (Tryz.prog.info? 125).map (·.size) = some 4 := by kernel_rfl
theorem take_snoc1 {α : Type} (l : List α) (k : Nat) (h : k < l.length) : l.take (k + 1) = l.take k ++ [l[k]] := by
 rw [List.take_add_one, List.getElem?_eq_getElem h]
 rfl
def FsAt (w : World) (g o : Nat) (ps : List Pf) : Prop := ∀ i p, ps[i]? = some p → w.rangeAt g (o + i * 4) p.cells
theorem FsAt.kept {S : Nat → Prop} {w w' : World} {g o : Nat} {ps : List Pf} (h : FsAt w g o ps) (hk : Kept S w w') (hn : ¬ S g) : FsAt w' g o ps := fun i p hp j v hv => hk.cell (h i p hp j v hv) hn
theorem fcells_at (ps : List Pf) : ∀ (i : Nat) (p : Pf), ps[i]? = some p → ∀ (j : Nat), j < 4 → (fcells ps)[i * 4 + j]? = p.cells[j]? := by
 induction ps with
 | nil => intro i p h; simp at h
 | cons q qs ih =>
  intro i p h j hj
  have e : fcells (q :: qs) = q.cells ++ fcells qs := rfl
  have hl : q.cells.length = 4 := rfl
  rw [e]
  cases i with
  | zero =>
   simp at h
   subst h
   rw [List.getElem?_append_left (by rw [hl]; omega)]
   simp
  | succ i =>
   rw [List.getElem?_append_right (by rw [hl]; omega), hl, show (i + 1) * 4 + j - 4 = i * 4 + j by omega]
   exact ih i p (by simpa using h) j hj
theorem fsAt_own {w : World} {B g c n : Nat} {ps : List Pf} (h : w.ownsRow B 125 4 (.slice (some ⟨g, 0, none⟩) n c) ps.length (fcells ps)) : FsAt w g 0 ps := fun i p hp j v hv => by
 have hj : j < 4 := by
  have := (List.getElem?_eq_some_iff.1 hv).1
  exact this
 have := h.cells (g := g) rfl (i * 4 + j) v (by rw [fcells_at ps i p hp j hj]; exact hv)
 rw [Addr.add_lit, Nat.zero_add] at this
 show w.cell? ⟨g, 0 + i * 4 + j, none⟩ = _
 rw [Nat.zero_add]
 exact this
theorem FsAt.drop {w : World} {g o : Nat} {ps : List Pf} (h : FsAt w g o ps) (k : Nat) : FsAt w g (o + k * 4) (ps.drop k) := fun i p hp => by
 have := h (k + i) p (by rw [List.getElem?_drop] at hp; exact hp)
 rw [show o + k * 4 + i * 4 = o + (k + i) * 4 by omega]
 exact this
set_option maxHeartbeats 4000000 in
theorem kindF (k : Int) (s : ByteArray) (n : Int) (f : Bool) (x : Int) (w : World) : Calls Tryz.prog 101 #[.agg #[.int .i64 k, .string s, .int .i64 n, .bool f], .int .i64 x] w fun e w' => e = .returned (.bool (k == x)) ∧ Kept (fun _ => False) w w' := by
 have hk : Kept (fun _ => False) w (w.alloc (.cells #[.int .i64 k, .string s, .int .i64 n, .bool f] 125)) := (Kept.refl _ _).alloc _
 have c0 := cell_block _ _ 0 _ _ _ (heap_alloc_new w (.cells #[.int .i64 k, .string s, .int .i64 n, .bool f] 125))
 have HK := hid_of hk
 clear hk
 go_enter Tryz.func101, Tryz.ntmps101
 go_wp2
 go_ret
 exact ⟨rfl, HK.out⟩
set_option maxHeartbeats 4000000 in
theorem farF (k : Int) (s : ByteArray) (n : Int) (f : Bool) (w : World) : Calls Tryz.prog 105 #[.agg #[.int .i64 k, .string s, .int .i64 n, .bool f]] w fun e w' => e = .returned (.bool f) ∧ Kept (fun _ => False) w w' := by
 have hk : Kept (fun _ => False) w (w.alloc (.cells #[.int .i64 k, .string s, .int .i64 n, .bool f] 125)) := (Kept.refl _ _).alloc _
 have c0 := cell_block _ _ 3 _ _ _ (heap_alloc_new w (.cells #[.int .i64 k, .string s, .int .i64 n, .bool f] 125))
 have HK := hid_of hk
 clear hk
 go_enter Tryz.func105, Tryz.ntmps105
 go_wp2
 go_ret
 exact ⟨rfl, HK.out⟩
set_option maxHeartbeats 8000000 in
theorem eqfG (g o n c gk m ck : Nat) (ps : List Pf) (ks : List Int) (w : World) (hP : FsAt w g o ps) (hK : ∀ i x, ks[i]? = some x → w.cell? ⟨gk, i, none⟩ = some (.int .i64 x)) (hn : n = ps.length) (hm : m = ks.length) (hl : n ≤ 90000) (hl2 : m ≤ 90000) :
  Calls Tryz.prog 100 #[.slice (some ⟨g, o, none⟩) n c, .slice (some ⟨gk, 0, none⟩) m ck, .func (.func 101) #[] #[]] w fun e w' => e = .returned (.bool (decide (ps.map Pf.k = ks))) ∧ Kept (fun _ => False) w w' := by
 have HP := hid_of hP
 have HKS := hid_of hK
 have HN := hid_of hn
 have HM := hid_of hm
 by_cases hnm : n = m
 ·subst hnm
  clear hP hK hn hm hl2
  go_enter Tryz.func100, Tryz.ntmps100
  go_wp2_with fail
  go_loopw [17] (fun iv wr => ∃ k : Nat, k ≤ n ∧ iv = .int .i64 (k : Int) ∧ Hid (Kept (fun _ => False) w wr) ∧ Hid ((ps.take k).map Pf.k = ks.take k)) (fun iv _ => n - (intOf iv).toNat)
  case atStart => exact ⟨0, by omega, rfl, Kept.refl _ _, by simp [Hid]⟩
  case round =>
   obtain ⟨k, hk, rfl, HK, HE⟩ := hrel
   by_cases hlt : k < n
   ·have hltI : (k : Int) < (n : Int) := by omega
    have hkp : k < ps.length := by rw [← HN.out]; exact hlt
    have hkk : k < ks.length := by rw [← HM.out]; exact hlt
    have hrg0 := (HP.out.kept HK.out id) k ps[k] (List.getElem?_eq_getElem hkp)
    have q1 := HK.out.cell (HKS.out k ks[k] (List.getElem?_eq_getElem hkk)) id
    have HS : Hid ((ps.take (k + 1)).map Pf.k = (ps.take k).map Pf.k ++ [ps[k].k] ∧ ks.take (k + 1) = ks.take k ++ [ks[k]]) := by
     unfold Hid
     rw [take_snoc1 ps k hkp, take_snoc1 ks k hkk, List.map_append]
     exact ⟨rfl, rfl⟩
    have HNE : Hid (ps[k].k ≠ ks[k] → ps.map Pf.k ≠ ks) := fun hne e => hne (by
     have := congrArg (fun l => l[k]?) e
     simp [List.getElem?_eq_getElem hkp, List.getElem?_eq_getElem hkk] at this
     exact this)
    generalize hpk : ps[k] = p at *
    generalize hxk : ks[k] = x at *
    clear hpk hxk hkp hkk
    obtain ⟨pk, pt, pn, pf⟩ := p
    have hrg : wr.rangeAt g (o + k * 4) [.int .i64 pk, .string pt, .int .i64 pn, .bool pf] := hrg0
    have r0 := hrg 0 _ rfl
    have r1 := hrg 1 _ rfl
    have r2 := hrg 2 _ rfl
    have r3 := hrg 3 _ rfl
    simp only [Nat.add_zero] at r0
    have hka : Kept (fun _ => False) wr (wr.alloc (.cells #[.int .i64 pk, .string pt, .int .i64 pn, .bool pf] 125)) := (Kept.refl _ _).alloc _
    have HB := hid_of (heap_alloc_new wr (.cells #[.int .i64 pk, .string pt, .int .i64 pn, .bool pf] 125))
    have q2 := hka.cell q1 id
    have HKA := hid_of (HK.out.trans hka)
    clear hrg0 hrg hka q1
    go_upto_region 6 with fail
    clear r0 r1 r2 r3
    generalize wr.alloc (.cells #[.int .i64 pk, .string pt, .int .i64 pn, .bool pf] 125) = W1 at *
    generalize wr.heap.size = gx at *
    obtain ⟨c0, c1, c2, c3, _⟩ := look4 HB.out
    have HC := hid_of (kindF pk pt pn pf x W1)
    go_wp2_with fail
    refine HC.out.mono ?_
    rintro e W2 ⟨rfl, hk2⟩
    have HK2 := hid_of (HKA.out.trans hk2)
    clear hk2 HC HKA HK HB c0 c1 c2 c3 q2
    by_cases hpx : pk = x
    ·have hb : (pk == x) = true := by simp [hpx]
     rw [hb]
     have HE2 : Hid ((ps.take (k + 1)).map Pf.k = ks.take (k + 1)) := by
      unfold Hid
      rw [HS.out.1, HS.out.2, HE.out, hpx]
     clear hb hpx
     go_wp2
     go_roundw
     case rel => exact ⟨k + 1, by omega, by go_num, HK2, HE2⟩
     case measure => simp [intOf]; omega
    ·have hb : (pk == x) = false := by simp [hpx]
     rw [hb]
     have HR : Hid (decide (ps.map Pf.k = ks) = false) := decide_eq_false (HNE.out hpx)
     clear hb hpx
     go_wp2
     go_ret
     exact ⟨by rw [HR.out]; rfl, HK2.out⟩
   ·have e : k = n := by omega
    subst e
    have HR : Hid (decide (ps.map Pf.k = ks) = true) := by
     unfold Hid
     apply decide_eq_true
     have := HE.out
     rw [List.take_of_length_le (by rw [← HN.out]; omega), List.take_of_length_le (by rw [← HM.out]; omega)] at this
     exact this
    have hkI : ¬ ((k : Int) < (k : Int)) := by omega
    go_wp2
    go_ret
    exact ⟨by rw [HR.out]; rfl, HK.out⟩
 ·have hbq : ((n : Int) != (m : Int)) = true := by simp; omega
  have HR : Hid (decide (ps.map Pf.k = ks) = false) := by
   unfold Hid
   apply decide_eq_false
   intro e
   have := congrArg List.length e
   rw [List.length_map] at this
   omega
  clear hP hK hn hm hnm
  go_enter Tryz.func100, Tryz.ntmps100
  go_wp2
  go_ret
  exact ⟨by rw [HR.out]; rfl, Kept.refl _ _⟩
set_option maxHeartbeats 4000000 in
theorem fitsG (g o n c gk m ck : Nat) (ps : List Pf) (ks : List Int) (w : World) (hP : FsAt w g o ps) (hK : ∀ i x, ks[i]? = some x → w.cell? ⟨gk, i, none⟩ = some (.int .i64 x)) (hn : n = ps.length) (hm : m = ks.length) (hl : n ≤ 90000) (hl2 : m ≤ 90000) :
  Calls Tryz.prog 73 #[.slice (some ⟨g, o, none⟩) n c, .slice (some ⟨gk, 0, none⟩) m ck] w fun e w' => e = .returned (.bool (decide (ps.map Pf.k = ks))) ∧ Kept (fun _ => False) w w' := by
 have HC := hid_of (eqfG g o n c gk m ck ps ks w hP hK hn hm hl hl2)
 generalize decide (ps.map Pf.k = ks) = q at *
 clear hP hK hn hm hl hl2
 go_enter Tryz.func73, Tryz.ntmps73
 go_wp2_with fail
 refine HC.out.mono ?_
 rintro e W2 ⟨rfl, hk2⟩
 have HK2 := hid_of hk2
 clear hk2 HC
 go_wp2
 go_ret
 exact ⟨rfl, HK2.out⟩
set_option maxHeartbeats 8000000 in
theorem indexFarG (g o n c : Nat) (ps : List Pf) (w : World) (hP : FsAt w g o ps) (hn : n = ps.length) (hl : n ≤ 90000) :
  Calls Tryz.prog 131 #[.slice (some ⟨g, o, none⟩) n c, .func (.func 105) #[] #[]] w fun e w' => ∃ i : Int, e = .returned (.int .i64 i) ∧ decide (0 ≤ i) = ps.any Pf.f ∧ Kept (fun _ => False) w w' := by
 have HP := hid_of hP
 have HN := hid_of hn
 clear hP hn
 go_enter Tryz.func131, Tryz.ntmps131
 go_wp2_with fail
 go_loopw [8] (fun iv wr => ∃ k : Nat, k ≤ n ∧ iv = .int .i64 (k : Int) ∧ Hid (Kept (fun _ => False) w wr) ∧ Hid ((ps.take k).any Pf.f = false)) (fun iv _ => n - (intOf iv).toNat)
 case atStart => exact ⟨0, by omega, rfl, Kept.refl _ _, by simp [Hid]⟩
 case round =>
  obtain ⟨k, hk, rfl, HK, HA⟩ := hrel
  by_cases hlt : k < n
  ·have hltI : (k : Int) < (n : Int) := by omega
   have hkp : k < ps.length := by rw [← HN.out]; exact hlt
   have hrg0 := (HP.out.kept HK.out id) k ps[k] (List.getElem?_eq_getElem hkp)
   have HYES : Hid (ps[k].f = true → ps.any Pf.f = true) := fun h => List.any_eq_true.2 ⟨ps[k], List.getElem_mem _, h⟩
   have HNO : Hid (ps[k].f = false → (ps.take (k + 1)).any Pf.f = false) := fun h => by
    rw [take_snoc1 ps k hkp, List.any_append, HA.out]
    simp [h]
   generalize hpk : ps[k] = p at *
   clear hpk hkp
   obtain ⟨pk, pt, pn, pf⟩ := p
   have hrg : wr.rangeAt g (o + k * 4) [.int .i64 pk, .string pt, .int .i64 pn, .bool pf] := hrg0
   have r0 := hrg 0 _ rfl
   have r1 := hrg 1 _ rfl
   have r2 := hrg 2 _ rfl
   have r3 := hrg 3 _ rfl
   simp only [Nat.add_zero] at r0
   have HC := hid_of (farF pk pt pn pf wr)
   clear hrg0 hrg
   go_wp2_with fail
   refine HC.out.mono ?_
   rintro e W2 ⟨rfl, hk2⟩
   have HK2 := hid_of (HK.out.trans hk2)
   clear hk2 HC HK r0 r1 r2 r3
   cases pf
   ·have HA2 := hid_of (HNO.out rfl)
    clear HNO HYES
    go_wp2
    go_roundw
    case rel => exact ⟨k + 1, by omega, by go_num, HK2, HA2⟩
    case measure => simp [intOf]; omega
   ·have HA2 := hid_of (HYES.out rfl)
    clear HNO HYES
    go_wp2
    go_ret
    exact ⟨_, rfl, by rw [HA2.out]; exact decide_eq_true (by omega), HK2.out⟩
  ·have e : k = n := by omega
   subst e
   have hkI : ¬ ((k : Int) < (k : Int)) := by omega
   have HA2 : Hid (ps.any Pf.f = false) := by
    have := HA.out
    rw [List.take_of_length_le (by rw [← HN.out]; omega)] at this
    exact this
   go_wp2
   go_ret
   exact ⟨_, rfl, by rw [HA2.out]; rfl, HK.out⟩
set_option maxHeartbeats 4000000 in
theorem tooFarG (g o n c : Nat) (ps : List Pf) (w : World) (hP : FsAt w g o ps) (hn : n = ps.length) (hl : n ≤ 90000) :
  Calls Tryz.prog 76 #[.slice (some ⟨g, o, none⟩) n c] w fun e w' => e = .returned (.bool (ps.any Pf.f)) ∧ Kept (fun _ => False) w w' := by
 have HC := hid_of (indexFarG g o n c ps w hP hn hl)
 generalize ps.any Pf.f = q at *
 clear hP hn hl
 go_enter Tryz.func76, Tryz.ntmps76
 go_wp2_with fail
 go_enter Tryz.func104, Tryz.ntmps104
 go_wp2_with fail
 refine HC.out.mono ?_
 rintro e W2 ⟨i, rfl, hi, hk2⟩
 have HK2 := hid_of hk2
 have HI := hid_of hi
 clear hk2 HC hi
 go_wp2
 go_ret
 exact ⟨by first | rfl | exact congrArg (fun b => Ending.returned (.bool b)) HI.out | (rw [← HI.out]; simp), HK2.out⟩
theorem lInfo9 : (Tryz.prog.info? 9).map (fun i => (i.zero, i.size, i.bytes)) = some (some (.string ⟨#[]⟩), 1, 16) := by kernel_rfl
theorem push_lab {w0 W : World} {v : Value} {k : Nat} {xs : List Value} (h : W.ownsRow w0.heap.size 9 1 v k xs) (x : Value) (hone : x.oneCell' = true) (hk : Kept (fun _ => False) w0 W) (hl : k ≤ 900000) :
  ∃ v' w', (Builtin.append_ #[94, 94] 94 #[v, .slice (some ⟨W.heap.size, 0, none⟩) 1 1]).run Tryz.prog (W.alloc (.cells #[x] 9)) = .ok v' w' ∧ w'.ownsRow w0.heap.size 9 1 v' (k + 1) (xs ++ [x]) ∧ Kept (fun _ => False) w0 w' ∧ Kept (fun q => v.ownBlock = some q) W w' ∧ NewB W v v' := by
 obtain ⟨i0, hi, hz0, hz1, hz2⟩ := info_parts lInfo9
 obtain ⟨v', w', hr, h2, h3, h4, _⟩ := append_old (P := Tryz.prog) (W.alloc (.cells #[x] 9)) w0.heap.size 94 94 9 i0 _ 1 16 Tryz.underlying94 hi hz0 hz1 hz2 rfl (by decide) v k xs (h.alloc _) ⟨W.heap.size, 0, none⟩ 1 1 [x] (by simp) (fun j u hj => by
  have hjl := (List.getElem?_eq_some_iff.1 hj).1
  have : j = 0 := by simpa using hjl
  subst this
  rw [Addr.add_lit, cell_block _ _ _ _ _ _ (heap_alloc_new W _)]
  simpa using hj) (fun u hu => by simp at hu; subst hu; exact hone) (by unfold maxLen; omega) (by omega) (by have := hk.size; simp; omega)
 have hk1 : Kept (fun k => v.ownBlock = some k) W w' := ((Kept.refl _ W).alloc _).grown h3 (fun k hk => .inr hk)
 exact ⟨v', w', hr, h2, hk.step hk1 (fun i hi e => by have := (h.lt i e).1; omega), hk1, by simpa [NewB] using h4⟩
def labs (ls : List ByteArray) : List Value := ls.map .string
def labP : List Pf → List ByteArray × List Pf
 | p :: q :: l => if p.k = 0 ∧ q.k = 3 then (p.s :: (labP l).1, (labP l).2) else ([], p :: q :: l)
 | [p] => ([], [p])
 | [] => ([], [])
def SlF (w : World) (g : Nat) (v : Value) (ps : List Pf) : Prop := ∃ o c, v = .slice (some ⟨g, o, none⟩) ps.length c ∧ ps.length ≤ c ∧ FsAt w g o ps
def LabR (g : Nat) (ps : List Pf) (w : World) (e : Ending) (w' : World) : Prop :=
 ∃ lv rv, e = .returned (.tuple #[lv, rv]) ∧ w'.ownsRow w.heap.size 9 1 lv (labP ps).1.length (labs (labP ps).1) ∧ SlF w g rv (labP ps).2 ∧ Kept (fun _ => False) w w'
theorem FsAt.take {w : World} {g o : Nat} {ps : List Pf} (h : FsAt w g o ps) (k : Nat) : FsAt w g o (ps.take k) := fun i p hp => h i p (by
 rw [List.getElem?_take] at hp
 split at hp
 ·exact hp
 ·cases hp)
def slLen : Value → Nat
 | .slice _ n _ => n
 | _ => 0
theorem labP_cons (p q : Pf) (l : List Pf) (h : p.k = 0 ∧ q.k = 3) : labP (p :: q :: l) = (p.s :: (labP l).1, (labP l).2) := by
 rw [labP, if_pos h]
theorem labP_stop (p q : Pf) (l : List Pf) (h : ¬ (p.k = 0 ∧ q.k = 3)) : labP (p :: q :: l) = ([], p :: q :: l) := by
 rw [labP, if_neg h]
set_option maxHeartbeats 8000000 in
theorem labelledG (g o n c : Nat) (ps : List Pf) (w : World) (hP : FsAt w g o ps) (hn : n = ps.length) (hl : n ≤ 90000) (hc : n ≤ c) :
  Calls Tryz.prog 53 #[.slice (some ⟨g, o, none⟩) n c] w (LabR g ps w) := by
 have HP := hid_of hP
 have HB0 : Hid (w.ownsRow w.heap.size 9 1 (.slice none 0 0) 0 []) := World.ownsRow_nil _ _ _ _
 clear hP
 go_enter Tryz.func53, Tryz.ntmps53
 go_wp2_with fail
 go_loopw [0, 4] (fun lv bv wr => ∃ (k : Nat) (ls : List ByteArray) (qs : List Pf) (o' n' c' : Nat), lv = .slice (some ⟨g, o', none⟩) n' c' ∧ Hid (FsAt w g o' qs) ∧ n' = qs.length ∧ n' ≤ c' ∧ n' + k ≤ n ∧ ls.length = k ∧ Hid (labP ps = (ls ++ (labP qs).1, (labP qs).2)) ∧ Hid (wr.ownsRow w.heap.size 9 1 bv k (labs ls)) ∧ Hid (Kept (fun _ => False) w wr)) (fun lv _ _ => slLen lv)
 case atStart => exact ⟨0, [], ps, o, n, c, rfl, HP, hn, hc, by omega, rfl, by simp [Hid], HB0, Kept.refl _ _⟩
 case round =>
  clear HP HB0 hn hc
  obtain ⟨k, ls, qs, o', n', c', rfl, HQ, hn', hc', hkn, hlk, HLP, HBV, HK⟩ := hrel
  have hown := HBV.out
  by_cases h1 : 1 < n'
  ·obtain ⟨p, q, l, rfl⟩ : ∃ p q l, qs = p :: q :: l := by
    match qs, hn' with
    | [], h => simp at h; omega
    | [p], h => simp at h; omega
    | p :: q :: l, _ => exact ⟨p, q, l, rfl⟩
   simp only [List.length_cons] at hn'
   have h1I : (1 : Int) < (n' : Int) := by omega
   have h2c : (2 : Int) ≤ (c' : Int) := by omega
   have hka : Kept (fun _ => False) wr (wr.alloc (.cells #[.int .i64 0, .int .i64 3] 3)) := (Kept.refl _ _).alloc _
   have hba := heap_alloc_new wr (.cells #[.int .i64 0, .int .i64 3] 3)
   have HF := hid_of (fitsG g o' 2 c' wr.heap.size 2 2 [p, q] [0, 3] (wr.alloc (.cells #[.int .i64 0, .int .i64 3] 3)) (((HQ.out.take 2).kept (HK.out.trans hka) id)) (fun i x hx => by
    rw [cell_block _ _ i _ _ _ hba]
    rcases i with _ | _ | i <;> simp at hx ⊢ <;> exact hx) rfl rfl (by omega) (by omega))
   have hdec : decide ([p, q].map Pf.k = [0, 3]) = decide (p.k = 0 ∧ q.k = 3) := by simp
   rw [hdec] at HF
   have HKA := hid_of (HK.out.trans hka)
   have HBA := hid_of (hka.ownsRow hown (fun _ _ f => f))
   by_cases hpq : p.k = 0 ∧ q.k = 3
   ·rw [decide_eq_true hpq] at HF
    have HL2 : Hid (labP ps = ((ls ++ [p.s]) ++ (labP l).1, (labP l).2)) := by
     have := HLP.out
     rw [labP_cons p q l hpq] at this
     show labP ps = _
     rw [this]
     simp
    obtain ⟨va, vc, hbv⟩ := ownsRow_shape hown
    subst hbv
    have HQ0 := hid_of (HQ.out 0 p rfl)
    have HQ2 : Hid (FsAt w g (o' + 8) l) := HQ.out.drop 2
    clear hba hka hown HK HBV HLP HQ hdec hpq
    go_wp2_with fail
    refine HF.out.mono ?_
    rintro e W2 ⟨rfl, hk2⟩
    have hkw := HKA.out.trans hk2
    have hown2 := hk2.ownsRow HBA.out (fun _ _ f => f)
    have hr1 : W2.cell? ⟨g, o' + 1, none⟩ = some (.string p.s) := by
     have := hkw.cell (HQ0.out 1 (.string p.s) rfl) id
     simpa using this
    obtain ⟨v', w', hr, ho, hk0, hk1, hn0⟩ := push_lab hown2 (.string p.s) rfl hkw (by omega)
    have HR := hid_of hr
    have HK3 := hid_of hk0
    have HO3 : Hid (w'.ownsRow w.heap.size 9 1 v' (k + 1) (labs (ls ++ [p.s]))) := by
     show w'.ownsRow _ _ _ _ _ _
     unfold labs
     rw [List.map_append]
     exact ho
    obtain ⟨va2, vc2, hbv2⟩ := ownsRow_shape ho
    obtain ⟨k2, hk2e⟩ := nmd (k + 1)
    rw [← hk2e] at hbv2
    subst hbv2
    rw [← hk2e] at HO3
    have HKE := hid_of hk2e
    clear hk2e
    clear hr ho hk0 hk1 hn0 hown2 hkw hk2 HF HKA HBA
    go_wp2_with (at_builtin; refine wp_app2 rfl (.tmp 14) (.tmp 19) 94 94 rfl _ _ rfl rfl _ w' HR.out ?_)
    go_roundw
    case rel => exact ⟨k2, ls ++ [p.s], l, (if c' = 2 then o' else o' + 8), n' - 2, c' - 2, by rw [show n' - 2 = l.length by omega]; split <;> rfl, (by
     split
     ·rw [show l = [] from List.length_eq_zero_iff.1 (by omega)]
      exact fun i p hp => by simp at hp
     ·exact HQ2), by omega, by omega, by have := HKE.out; omega, by have := HKE.out; simp only [List.length_append, List.length_cons, List.length_nil]; omega, HL2, HO3, HK3⟩
    case measure => simp [slLen]; omega
   ·rw [decide_eq_false hpq] at HF
    have HL2 : Hid (labP ps = (ls, p :: q :: l)) := by
     have := HLP.out
     rw [labP_stop p q l hpq] at this
     show labP ps = _
     rw [this]
     simp
    obtain ⟨va, vc, hbv⟩ := ownsRow_shape hown
    subst hbv
    clear hba hka hown HK HBV HLP hdec hpq
    go_wp2_with fail
    refine HF.out.mono ?_
    rintro e W2 ⟨rfl, hk2⟩
    have HK3 := hid_of (HKA.out.trans hk2)
    have HO3 := hid_of (hk2.ownsRow HBA.out (fun _ _ f => f))
    clear hk2 HF HKA HBA
    go_wp2
    refine bodyPost_ret (results_tmp2 rfl _ _ _) rfl ?_
    refine ⟨_, _, rfl, ?_, ?_, HK3.out⟩
    ·rw [HL2.out, hlk]; exact HO3.out
    ·rw [HL2.out]
     show SlF w g _ (p :: q :: l)
     exact ⟨o', c', by simp [hn'], by simp only [List.length_cons]; omega, HQ.out⟩
  ·have h1I : ¬ ((1 : Int) < (n' : Int)) := by omega
   have HL2 : Hid (labP ps = (ls, qs)) := by
    have := HLP.out
    have hq : labP qs = ([], qs) := by
     match qs, hn' with
     | [], h => rfl
     | [p], h => rfl
     | p :: q :: l, h => simp at h; omega
    rw [hq] at this
    show labP ps = _
    rw [this]
    simp
   obtain ⟨va, vc, hbv⟩ := ownsRow_shape hown
   subst hbv
   clear hown HLP
   go_wp2
   refine bodyPost_ret (results_tmp2 rfl _ _ _) rfl ?_
   refine ⟨_, _, rfl, ?_, ?_, HK.out⟩
   ·rw [HL2.out, hlk]; exact HBV.out
   ·rw [HL2.out]
    show SlF w g _ qs
    exact ⟨o', c', rfl, by omega, HQ.out⟩
end Go.Proofs.YtpfmhibdmehlcaaGreatDoor
