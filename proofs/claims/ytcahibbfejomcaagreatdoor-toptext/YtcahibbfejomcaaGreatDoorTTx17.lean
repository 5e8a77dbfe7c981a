import Derived.Test.YtcahibbfejomcaaGreatDoorTTx16
import Derived.Test.YtcahibbfejomcaaGreatDoorTTx8
import Derived.Lib.OthersKept
import Derived.Laws.RangeAny
import Derived.Test.YtcahibbfejomcaaGreatDoorTTx9
namespace Go.Proofs.YtcahibbfejomcaaGreatDoor
open Go.RowKit
set_option linter.unusedVariables false
set_option linter.unusedSimpArgs false
set_option maxRecDepth 100000
def mu (x : CS) : Nat := x.ps.length + (if 2 ≤ x.st then 1 else 0)
def OkS (x : CS) : Prop := 0 ≤ x.st ∧ x.st ≤ 7 ∧ (x.st = 7 → 0 ≤ x.hi ∧ x.hi < 16)
def TkOk (x y : CS) : Prop := OkS y ∧ mu y ≤ mu x + 1 ∧ y.un.length ≤ x.un.length + 1
theorem beg_ok {x y : CS} {r : Int} (h : begP x r = some y) (h0 : 0 ≤ x.st) (h1 : x.st ≤ 1) : TkOk x y := by
 obtain ⟨ps, st, un, hi⟩ := x
 simp only at h0 h1
 have e : ¬ (2 ≤ st) := by omega
 unfold begP at h
 simp only at h
 repeat' split at h
 all_goals first | (injection h with h; subst h; refine ⟨⟨?_, ?_, ?_⟩, ?_, ?_⟩ <;> simp only [mu, List.length_append, List.length_cons, List.length_nil] <;> (try simp only [if_neg e]) <;> (try split) <;> omega) | cases h
theorem tak_ok {x y : CS} {r : Int} (h : takeP x r = some y) (hx : OkS x) : TkOk x y := by
 unfold takeP at h
 by_cases h23 : x.st = 2 ∨ x.st = 3
 ·rw [if_pos h23] at h
  split at h
  ·injection h with h
   subst h
   obtain ⟨h1, h2, h3⟩ := hx
   refine ⟨⟨h1, h2, h3⟩, ?_, ?_⟩
   ·show mu _ ≤ mu _ + 1
    unfold mu
    exact Nat.le_succ _
   ·simp
  ·split at h
   ·have hes : (endS x).st = 1 ∧ (endS x).ps.length = x.ps.length + 1 ∧ (endS x).un = [] := by
     unfold endS
     rcases h23 with h2 | h3
     ·rw [if_pos h2]; simp
     ·rw [if_neg (by omega), if_pos h3]; simp
    obtain ⟨e1, e2, e3⟩ := hes
    have hb := beg_ok h (by omega) (by omega)
    refine ⟨hb.1, ?_, ?_⟩
    ·have h4 : mu (endS x) = mu x := by
      unfold mu
      rw [e1, e2, if_neg (show ¬ (2 : Int) ≤ 1 by decide), if_pos (by omega)]
     rw [← h4]
     exact hb.2.1
    ·have := hb.2.2
     rw [e3] at this
     simp only [List.length_nil] at this
     omega
   ·cases h
 ·rw [if_neg h23] at h
  split at h
  ·unfold withP at h
   obtain ⟨ps, st, un, hi⟩ := x
   simp only at *
   rename_i h4
   subst h4
   repeat' split at h
   all_goals first | (injection h with h; subst h; refine ⟨⟨?_, ?_, ?_⟩, ?_, ?_⟩ <;> simp [mu]) | cases h
  ·split at h
   ·unfold escP at h
    obtain ⟨ps, st, un, hi⟩ := x
    simp only at *
    rename_i h4 h5
    subst h5
    repeat' split at h
    all_goals first | (injection h with h; subst h; refine ⟨⟨?_, ?_, ?_⟩, ?_, ?_⟩ <;> simp [mu]) | cases h
   ·split at h
    ·unfold digP at h
     obtain ⟨ps, st, un, hi⟩ := x
     simp only at *
     rename_i h4 h5 h67
     have hl := hex_lt r
     repeat' split at h
     all_goals first | (injection h with h; subst h; refine ⟨⟨?_, ?_, ?_⟩, ?_, ?_⟩ <;> simp only [mu, List.length_append, List.length_cons, List.length_nil] <;> (try split) <;> (try split) <;> omega) | cases h
    ·obtain ⟨h1, h2, h3⟩ := hx
     exact beg_ok h h1 (by omega)
theorem beg_high (x : CS) (r : Int) (h : 128 ≤ r) : begP x r = none := by
 have hL : isLP r = false := decide_eq_false (by omega)
 have hD : isDP r = false := decide_eq_false (by omega)
 unfold begP
 rw [if_neg (by omega), if_neg (by omega)]
 split
 ·rfl
 ·rw [if_neg (by omega), if_neg (by rw [hL]; decide), if_neg (by rw [hD]; simp; omega)]
theorem take_high (x : CS) (r : Int) (h : 128 ≤ r) : takeP x r = none := by
 have hL : isLP r = false := decide_eq_false (by omega)
 have hD : isDP r = false := decide_eq_false (by omega)
 unfold takeP
 split
 ·rw [if_neg (by unfold goP; rw [hL, hD]; decide), beg_high _ _ h]
  split <;> rfl
 ·split
  ·unfold withP
   rw [if_neg (by omega), if_neg (by omega), if_pos (by omega)]
  ·split
   ·unfold escP
    rw [if_neg (by omega), if_neg (by omega)]
   ·split
    ·unfold digP
     rw [if_pos]
     unfold hexP
     rw [if_neg (by omega), if_neg (by omega)]
     decide
    ·exact beg_high x r h
def cutF : List UInt8 → CS → Option CS
 | [], x => some x
 | b :: l, x => if b.toNat = 59 ∧ x.st < 4 then some x else (match takeP x b.toNat with | none => none | some y => cutF l y)
def cutV (l : List UInt8) : Option (List Pf) := match cutF l ⟨[], 0, [], 0⟩ with | none => none | some x => if endB x = true then some (endS x).ps else none
theorem Cg.next {w wr : World} {c k pos : Nat} {s : ByteArray} {ps : List Pf} {st : Int} {un : List Int} {hi : Int} (h : Cg (k, s, pos) w wr c ps st un hi) (q : Nat) : Cg (k, s, q) w (wr.iterAt k s q) c ps st un hi := by
 have hk : Kept (fun j => j = k) wr (wr.iterAt k s q) := ⟨rfl, rfl, rfl, by simp [World.iterAt], fun j _ hn => by
  show (wr.heap.setIfInBounds k _)[j]? = _
  rw [Array.getElem?_setIfInBounds, if_neg (fun e => hn e.symm)]⟩
 obtain ⟨pv, uv, h1, h2, h3⟩ := h.ex
 have hit : wr.heap[k]? = some (.stringIter s pos) := h.it
 exact ⟨⟨pv, uv, box_kept hk h1 (fun e => box_iter h1 hit e.symm), hk.ownsRow h2 (fun g hg e => own_iter h2 hit (by rw [hg, e])), hk.ownsRow h3 (fun g hg e => own_iter h3 hit (by rw [hg, e]))⟩, h.kept.step hk (fun i hi e => by have := h.ilo; simp only at this; omega), h.lo, Lib.iterAt_heap wr k s pos q hit, h.ilo⟩
def CutG (l : List UInt8) (w : World) (e : Ending) (w' : World) : Prop :=
 ∃ (v : Value) (b : Bool), e = .returned (.tuple #[v, .bool b]) ∧ Kept (fun _ => False) w w' ∧ ((b = true ∧ ∃ ps, cutV l = some ps ∧ w'.ownsRow w.heap.size 138 4 v ps.length (fcells ps)) ∨ (b = false ∧ cutV l = none))
set_option maxHeartbeats 8000000 in
theorem cutG (s : ByteArray) (hs : s.size ≤ 65536) (w : World) (hG : Gs w) :
  Calls Tryz.prog 58 #[.string s] w (CutG s.data.toList w) := by
 have HG := hid_of hG
 have hkA : Kept (fun _ => False) w (w.alloc (.cells #[.slice none 0 0, .int .i64 0, .slice none 0 0, .int .i64 0] 158)) := (Kept.refl _ _).alloc _
 have HC0 : Hid (CgS (w.heap.size + 1, s, 0) w ((w.alloc (.cells #[.slice none 0 0, .int .i64 0, .slice none 0 0, .int .i64 0] 158)).iter s 0) w.heap.size ⟨[], 0, [], 0⟩) := by
  have hkB : Kept (fun _ => False) (w.alloc (.cells #[.slice none 0 0, .int .i64 0, .slice none 0 0, .int .i64 0] 158)) ((w.alloc (.cells #[.slice none 0 0, .int .i64 0, .slice none 0 0, .int .i64 0] 158)).iter s 0) := (Kept.refl _ _).alloc _
  refine ⟨⟨_, _, box_kept hkB (heap_alloc_new w _) id, World.ownsRow_nil _ _ _ _, World.ownsRow_nil _ _ _ _⟩, hkA.trans hkB, Nat.le_refl _, ?_, Nat.le_succ _⟩
  have h5 := World.iter_heap (w.alloc (.cells #[.slice none 0 0, .int .i64 0, .slice none 0 0, .int .i64 0] 158)) s 0
  simpa using h5
 obtain ⟨bs, hbs⟩ := nmd (s.data.toList)
 have hbl : bs.length = s.size := by rw [hbs, Lib.size_eq]
 have hbg : ∀ (j : Nat) (hj : j < s.size), bs[j]'(by omega) = s[j]'hj := fun j hj => by subst hbs; rfl
 rw [← hbs]
 have HF : Hid (cutF (bs.drop 0) ⟨[], 0, [], 0⟩ = cutF bs ⟨[], 0, [], 0⟩) := rfl
 have HBG := hid_of hbg
 clear hG hkA hbs hbg
 go_enter Tryz.func58, Tryz.ntmps58
 go_wp2
 generalize hw0 : (w.alloc (.cells #[.slice none 0 0, .int .i64 0, .slice none 0 0, .int .i64 0] 158)).iter s 0 = W0 at *
 clear hw0
 generalize w.heap.size + 1 = ik at *
 obtain ⟨c, hc⟩ := nmd (w.heap.size)
 rw [← hc] at HC0 ⊢
 have HCW := hid_of hc
 clear hc
 go_loopw [6] (fun _ wr => ∃ (pos : Nat) (y : CS), pos ≤ s.size ∧ Hid (CgS (ik, s, pos) w wr c y) ∧ Hid (cutF (bs.drop pos) y = cutF bs ⟨[], 0, [], 0⟩) ∧ OkS y ∧ mu y ≤ pos ∧ y.un.length ≤ pos) (fun _ wr => s.size - wr.iterPos ik)
 case atStart => exact ⟨0, ⟨[], 0, [], 0⟩, Nat.zero_le _, HC0, HF, ⟨by decide, by decide, fun h => absurd h (by decide)⟩, Nat.le_refl _, Nat.le_refl _⟩
 case round =>
  clear HC0 HF
  obtain ⟨pos, y, hps, HC, HF, hok, hy1, hy2⟩ := hrel
  have hit : wr.heap[ik]? = some (.stringIter s pos) := HC.out.it
  have hyl : y.ps.length ≤ pos := by unfold mu at hy1; omega
  by_cases hp : pos < s.size
  ·obtain ⟨r, wd, hnext, hr0, ht, h59, hwd⟩ : ∃ (r : Int) (wd : Nat), (∀ ty, (Instr.next (.pointer (some ⟨ik, 0, none⟩)) true ty).run Tryz.prog wr = .ok (.tuple #[.bool true, .int .i64 pos, .int .i32 r]) (wr.iterAt ik s (pos + wd))) ∧ 0 ≤ r ∧ takeP y r = takeP y ((s[pos]'hp).toNat : Int) ∧ (r = 59 ↔ (s[pos]'hp).toNat = 59) ∧ (takeP y r ≠ none → wd = 1) := by
    by_cases h128 : (s[pos]'hp).toNat < 128
    ·exact ⟨_, 1, fun ty => Lib.run_next_ascii_at wr ik s pos ty hit hp h128, by omega, rfl, by omega, fun _ => rfl⟩
    ·have hd := decode_high s pos hp (by omega)
     exact ⟨_, _, fun ty => Lib.run_next_any_at wr ik s pos ty hit hp, by omega, by rw [take_high _ _ (show (128 : Int) ≤ _ by omega), take_high _ _ (by omega)], by omega, fun h => absurd (take_high _ _ (show (128 : Int) ≤ _ by omega)) h⟩
   have hdr : bs.drop pos = (s[pos]'hp) :: bs.drop (pos + 1) := by rw [List.drop_eq_getElem_cons (show pos < bs.length by omega), HBG.out pos hp]
   have hf := HF.out
   rw [hdr, cutF, ← ht] at hf
   have HC1 := hid_of (HC.out.next (pos + wd))
   have HMU : Hid (wr.iterPos ik = pos) := by unfold Hid; simp [World.iterPos, hit]
   generalize hW1 : wr.iterAt ik s (pos + wd) = W1 at *
   clear hW1
   have hkw := HC1.out.kept
   obtain ⟨pv, uv, hb, hp1, hu1⟩ := HC1.out.ex
   obtain ⟨c0, c1, c2, c3, f0, f1, f2, f3⟩ := look4 hb
   clear hb hp1 hu1 hdr hit ht HF HC
   by_cases hsm : (s[pos]'hp).toNat = 59 ∧ y.st < 4
   ·rw [if_pos hsm] at hf
    have hr := h59.2 hsm.1
    have hst := hsm.2
    have HFX := hid_of hf
    have HT := hid_of (endG c w W1 y HC1.out (HG.out.same hkw) (by omega) (by omega) hok.1 hok.2.1)
    subst hr
    clear hf hsm h59 hwd hkw HC1 hr0
    go_wp2_with fail
    refine HT.out.mono ?_
    rintro e W2 ⟨z, rfl, h2, hz, hzl⟩
    have HV : Hid (endB y = true → cutV bs = some z.ps) := fun hb => by
     unfold cutV
     rw [← HFX.out]
     simp only
     rw [if_pos hb, hz hb]
    have HV2 : Hid (endB y = false → cutV bs = none) := fun hb => by
     unfold cutV
     rw [← HFX.out]
     simp only
     rw [if_neg (by rw [hb]; decide)]
    obtain ⟨pv2, uv2, hb2, hp2, hu2⟩ := h2.ex
    obtain ⟨k0, k1, k2, k3, _⟩ := look4 hb2
    have HP2 := hid_of hp2
    have HK2 := hid_of h2.kept
    obtain ⟨pa, pc, hpv⟩ := ownsRow_shape hp2
    subst hpv
    clear hb2 hp2 hu2 h2 hz hzl HT hnext hok hy1 hy2
    generalize endB y = eb at *
    go_wp2
    go_ret2
    refine ⟨_, eb, rfl, HK2.out, ?_⟩
    cases eb
    ·exact .inr ⟨rfl, HV2.out rfl⟩
    ·exact .inl ⟨rfl, z.ps, HV.out rfl, by rw [HCW.out]; exact HP2.out⟩
   ·rw [if_neg hsm] at hf
    have HFX := hid_of hf
    have HT := hid_of (takeG c r w W1 y HC1.out (HG.out.same hkw) hr0 (by omega) (by omega) hok.1 hok.2.1 hok.2.2)
    have HTK := hid_of (fun z (hz : takeP y r = some z) => tak_ok hz hok)
    have HWD := hid_of hwd
    have HNS : Hid (r = 59 → ¬ y.st < 4) := fun e h => hsm ⟨h59.1 e, h⟩
    clear hf hsm h59 hwd hkw HC1
    by_cases hr59 : r = 59
    ·have hst := HNS.out hr59
     subst hr59
     go_wp2_with fail
     refine HT.out.mono ?_
     clear HT
     rintro e W2 (⟨z, hz, rfl, h2⟩ | ⟨hz, rfl, hk2⟩)
     ·have hw1 := HWD.out (by rw [hz]; simp)
      subst hw1
      have hk := HTK.out z hz
      have hf := HFX.out
      rw [hz] at hf
      have HF2 := hid_of hf
      have HC2 := hid_of h2
      have hz1 : mu z ≤ pos + 1 := by have := hk.2.1; omega
      have hz2 : z.un.length ≤ pos + 1 := by have := hk.2.2; omega
      have hokz := hk.1
      clear h2 hz hf hk HTK HFX HWD HNS c0 c1 c2 c3 f0 f1 f2 f3 hnext hok
      go_wp2
      go_roundw
      case rel => exact ⟨pos + 1, z, by omega, HC2, HF2, hokz, hz1, hz2⟩
      case measure =>
       have h1 : W2.iterPos ik = pos + 1 := by simp [World.iterPos, show W2.heap[ik]? = some (.stringIter s (pos + 1)) from HC2.out.it]
       rw [HMU.out, h1]
       omega
     ·have hf := HFX.out
      rw [hz] at hf
      have HN : Hid (cutV bs = none) := by
       show cutV bs = none
       unfold cutV
       rw [← hf]
      have HK2 := hid_of hk2
      clear hf hz hk2 HTK HFX HWD HNS c0 c1 c2 c3 f0 f1 f2 f3 hnext hok
      go_wp2
      go_ret2
      exact ⟨_, _, rfl, HK2.out, .inr ⟨rfl, HN.out⟩⟩
    ·have e59 : (r == 59) = false := by simp; exact hr59
     clear hr59
     go_wp2_with fail
     refine HT.out.mono ?_
     clear HT
     rintro e W2 (⟨z, hz, rfl, h2⟩ | ⟨hz, rfl, hk2⟩)
     ·have hw1 := HWD.out (by rw [hz]; simp)
      subst hw1
      have hk := HTK.out z hz
      have hf := HFX.out
      rw [hz] at hf
      have HF2 := hid_of hf
      have HC2 := hid_of h2
      have hz1 : mu z ≤ pos + 1 := by have := hk.2.1; omega
      have hz2 : z.un.length ≤ pos + 1 := by have := hk.2.2; omega
      have hokz := hk.1
      clear h2 hz hf hk HTK HFX HWD HNS c0 c1 c2 c3 f0 f1 f2 f3 hnext hok
      go_wp2
      go_roundw
      case rel => exact ⟨pos + 1, z, by omega, HC2, HF2, hokz, hz1, hz2⟩
      case measure =>
       have h1 : W2.iterPos ik = pos + 1 := by simp [World.iterPos, show W2.heap[ik]? = some (.stringIter s (pos + 1)) from HC2.out.it]
       rw [HMU.out, h1]
       omega
     ·have hf := HFX.out
      rw [hz] at hf
      have HN : Hid (cutV bs = none) := by
       show cutV bs = none
       unfold cutV
       rw [← hf]
      have HK2 := hid_of hk2
      clear hf hz hk2 HTK HFX HWD HNS c0 c1 c2 c3 f0 f1 f2 f3 hnext hok
      go_wp2
      go_ret2
      exact ⟨_, _, rfl, HK2.out, .inr ⟨rfl, HN.out⟩⟩
  ·have hnext : ∀ ty, (Instr.next (.pointer (some ⟨ik, 0, none⟩)) true ty).run Tryz.prog wr = _ := fun ty => Lib.run_next_end_at wr ik s pos ty hit hp
   have hf := HF.out
   rw [List.drop_of_length_le (show bs.length ≤ pos by omega), cutF] at hf
   have HFX := hid_of hf
   have HT := hid_of (endG c w wr y HC.out (HG.out.same HC.out.kept) (by omega) (by omega) hok.1 hok.2.1)
   clear hf hit HF HC
   go_wp2_with fail
   refine HT.out.mono ?_
   rintro e W2 ⟨z, rfl, h2, hz, hzl⟩
   have HV : Hid (endB y = true → cutV bs = some z.ps) := fun hb => by
    unfold cutV
    rw [← HFX.out]
    simp only
    rw [if_pos hb, hz hb]
   have HV2 : Hid (endB y = false → cutV bs = none) := fun hb => by
    unfold cutV
    rw [← HFX.out]
    simp only
    rw [if_neg (by rw [hb]; decide)]
   obtain ⟨pv2, uv2, hb2, hp2, hu2⟩ := h2.ex
   obtain ⟨k0, k1, k2, k3, _⟩ := look4 hb2
   have HP2 := hid_of hp2
   have HK2 := hid_of h2.kept
   obtain ⟨pa, pc, hpv⟩ := ownsRow_shape hp2
   subst hpv
   clear hb2 hp2 hu2 h2 hz hzl HT hnext hok hy1 hy2
   generalize endB y = eb at *
   go_wp2
   go_ret2
   refine ⟨_, eb, rfl, HK2.out, ?_⟩
   cases eb
   ·exact .inr ⟨rfl, HV2.out rfl⟩
   ·exact .inl ⟨rfl, z.ps, HV.out rfl, by rw [HCW.out]; exact HP2.out⟩
structure Fnc where
 nm : ByteArray
 a : Int
 l : Int
 r : Int
 ls : List (ByteArray × Int)
 code : List IN
structure Wt where
 ln : Int
 fn : Nat
 pl : Nat
 nm : ByteArray
 jump : Bool
structure Rdr where
 mem : Int
 sized : Bool
 data : List Int
 fs : List Fnc
 ws : List Wt
def lkA : List (ByteArray × Int) → ByteArray → Option Int
 | [], _ => none
 | (k, v) :: L, s => if s = k then some v else lkA L s
theorem lkA_snoc : ∀ (L : List (ByteArray × Int)) (k : ByteArray) (v : Int) (s : ByteArray), lkA (L ++ [(k, v)]) s = match lkA L s with | some x => some x | none => if s = k then some v else none
 | [], k, v, s => rfl
 | (a, b) :: L, k, v, s => by
  rw [List.cons_append, lkA, lkA]
  split
  ·rfl
  ·exact lkA_snoc L k v s
def nmL : Nat → List Fnc → List (ByteArray × Int)
 | _, [] => []
 | k, f :: fs => (f.nm, (k : Int)) :: nmL (k + 1) fs
theorem nmL_snoc : ∀ (k : Nat) (fs : List Fnc) (f : Fnc), nmL k (fs ++ [f]) = nmL k fs ++ [(f.nm, ((k + fs.length : Nat) : Int))]
 | k, [], f => by simp [nmL]
 | k, g :: fs, f => by
  rw [List.cons_append, nmL, nmL, List.cons_append, nmL_snoc (k + 1) fs f]
  congr 4
  simp
  omega
theorem nmL_same : ∀ (k : Nat) (fs gs : List Fnc), fs.map Fnc.nm = gs.map Fnc.nm → nmL k fs = nmL k gs
 | k, [], [], _ => rfl
 | k, [], g :: gs, h => by simp at h
 | k, f :: fs, [], h => by simp at h
 | k, f :: fs, g :: gs, h => by
  simp only [List.map_cons, List.cons.injEq] at h
  rw [nmL, nmL, h.1, nmL_same (k + 1) fs gs h.2]
def ixN (L : List Sh) (s : ByteArray) : Option Nat := if nameIx L s < L.length then some (nameIx L s) else none
theorem named_ix (L : List Sh) (s : ByteArray) : namedV L s = match ixN L s with | some n => .tuple #[.int .i64 (n : Int), .bool true] | none => .tuple #[.int .i64 0, .bool false] := by
 unfold namedV ixN
 by_cases h : nameIx L s < L.length
 ·rw [if_pos h, if_pos h]
 ·rw [if_neg h, if_neg h]
theorem ixN_lt {L : List Sh} {s : ByteArray} {n : Nat} (h : ixN L s = some n) : n < L.length := by
 unfold ixN at h
 by_cases h1 : nameIx L s < L.length
 ·rw [if_pos h1] at h
  cases h
  exact h1
 ·rw [if_neg h1] at h
  cases h
def operF (n : Nat) (kd : Int) : List Pf → Option (Int × Int × ByteArray)
 | [] => if kd = 0 then some ((n : Int), 0, ⟨#[]⟩) else none
 | q :: r => if kd = 0 then none else if r = [] then (if q.k = 1 then some ((n : Int), q.n, ⟨#[]⟩) else if q.k = 0 then (if kd = 3 ∨ kd = 4 then some ((n : Int), 0, q.s) else if kd = 5 then (match ixN sysL q.s with | some c => some ((n : Int), (c : Int), ⟨#[]⟩) | none => none) else none) else none) else none
def instrF : List Pf → Option (Int × Int × ByteArray)
 | [] => none
 | p :: r => if p.k = 0 then (match ixN insL p.s with | some n => operF n (rowS insL (n : Int)).o r | none => none) else none
def labF (f : Fnc) : List ByteArray → Option Fnc
 | [] => some f
 | s :: ss => if (lkA f.ls s).isSome = true then none else labF ⟨f.nm, f.a, f.l, f.r, f.ls ++ [(s, (f.code.length : Int))], f.code⟩ ss
def addW (k : Nat) (f : Fnc) (n op : Int) (w : ByteArray) : List Wt := if w = ⟨#[]⟩ then [] else [⟨n, k, f.code.length, w, !decide (op = 17)⟩]
def addC (f : Fnc) (op a : Int) : Fnc := ⟨f.nm, f.a, f.l, f.r, f.ls, f.code ++ [⟨op, a⟩]⟩
inductive RR where
 | bad (e : Int)
 | good (R : Rdr)
def codeF (R : Rdr) (gs : List Fnc) (f : Fnc) (n : Int) (ls : List ByteArray) (l : List Pf) : RR :=
 if l ≠ [] ∧ instrF l = none then .bad 141
 else if l.any Pf.f = true then .bad 143
 else match labF f ls with
  | none => .bad 142
  | some g => if l = [] then .good ⟨R.mem, R.sized, R.data, gs ++ [g], R.ws⟩ else match instrF l with
   | none => .bad 141
   | some (op, a, w) => .good ⟨R.mem, R.sized, R.data, gs ++ [addC g op a], R.ws ++ addW gs.length g n op w⟩
def codeP (R : Rdr) (n : Int) (ls : List ByteArray) (l : List Pf) : RR := match R.fs.getLast? with | none => .bad 141 | some f => codeF R R.fs.dropLast f n ls l
theorem codeP_nil (R : Rdr) (n : Int) (ls : List ByteArray) (l : List Pf) (h : R.fs = []) : codeP R n ls l = .bad 141 := by unfold codeP; rw [h]; rfl
theorem codeP_snoc (R : Rdr) (n : Int) (ls : List ByteArray) (l : List Pf) (gs : List Fnc) (f : Fnc) (h : R.fs = gs ++ [f]) : codeP R n ls l = codeF R gs f n ls l := by unfold codeP; rw [h]; simp
def memP (R : Rdr) (l : List Pf) : RR := if R.sized = true ∨ R.fs ≠ [] ∨ l.map Pf.k ≠ [1] then .bad 141 else if l.any Pf.f = true then .bad 143 else .good ⟨(l.map Pf.n).headD 0, true, R.data, R.fs, R.ws⟩
def bytI (s : ByteArray) : List Int := s.data.toList.map (fun b => (b.toNat : Int))
def datP (R : Rdr) (l : List Pf) : RR := if R.fs ≠ [] ∨ l.map Pf.k ≠ [2] then .bad 141 else .good ⟨R.mem, R.sized, R.data ++ bytI ((l.map Pf.s).headD ⟨#[]⟩), R.fs, R.ws⟩
def funP (R : Rdr) : List Pf → RR
 | [p, q1, q2, q3] => if [p.k, q1.k, q2.k, q3.k] ≠ [0, 1, 1, 1] then .bad 141 else if (p.f || (q1.f || (q2.f || q3.f))) = true then .bad 143 else if (lkA (nmL 0 R.fs) p.s).isSome = true then .bad 142 else .good ⟨R.mem, R.sized, R.data, R.fs ++ [⟨p.s, q1.n, q2.n, q3.n, [], []⟩], R.ws⟩
 | _ => .bad 141
abbrev memB : ByteArray := ⟨#[109, 101, 109, 111, 114, 121]⟩
abbrev datB : ByteArray := ⟨#[100, 97, 116, 97]⟩
abbrev funB : ByteArray := ⟨#[102, 117, 110, 99]⟩
def headP (R : Rdr) (n : Int) : List Pf → RR
 | [] => .good R
 | p :: l => if p.k ≠ 0 then .bad 141 else if p.s = memB then memP R l else if p.s = datB then datP R l else if p.s = funB then funP R l else codeP R n [] (p :: l)
def lineP (R : Rdr) (n : Int) (o : Option (List Pf)) : RR := match o with
 | none => .bad 141
 | some ps => if (labP ps).1 = [] then headP R n (labP ps).2 else codeP R n (labP ps).1 (labP ps).2
def linesP : Rdr → Int → List (List UInt8) → (Int × Int) ⊕ Rdr
 | R, _, [] => .inr R
 | R, n, l :: ls => match lineP R n (cutV l) with | .bad e => .inl (n, e) | .good R' => linesP R' (n + 1) ls
end Go.Proofs.YtcahibbfejomcaaGreatDoor
namespace Go.Proofs.YtcahibbfejomcaaGreatDoor
open Go.RowKit
set_option linter.unusedVariables false
set_option linter.unusedSimpArgs false
set_option maxRecDepth 100000
theorem str_of (D : ByteArray) (l : List UInt8) (h : D.data.toList = l) : str (l.map fun b => (b.toNat : Int)) = D := by
 apply ByteArray.ext
 apply Array.ext'
 unfold str
 rw [fold_data, h, List.map_map]
 have e : (ByteArray.empty.data.toList : List UInt8) = [] := rfl
 rw [e, List.nil_append]
 conv => rhs; rw [← List.map_id l]
 apply List.map_congr_left
 intro b _
 show UInt8.ofNat ((b.toNat : Int)).toNat = b
 rw [Int.toNat_natCast]
 simp
variable {bs : List UInt8} {i j : Nat} {ps : List Pf} {s : Int}
end Go.Proofs.YtcahibbfejomcaaGreatDoor
