import Derived.Test.YtcahibbfejomcaaGreatDoorTTx2
import Derived.Test.YtcahibbfejomcaaGreatDoorTTx41
import Derived.Test.YtcahibbfejomcaaGreatDoorTTx5
import Derived.Deep.Strs
import Derived.Laws.IdiomStrings
import Derived.Test.YtcahibbfejomcaaGreatDoorTTx3
import Derived.Test.YtcahibbfejomcaaGreatDoorTTx4
import Derived.Test.YtcahibbfejomcaaGreatDoorTTx1
import Derived.Laws.Tables
import Derived.Laws.Rows
import Derived.Laws.ResultCell
import Derived.Deep.MidRow
import Derived.Deep.DeepCutAuto
import Derived.Deep.CutBlock
import Derived.Deep.RegionHeld3
import Derived.Deep.QuietTactic
import Derived.BigQuiet
import Derived.Deep.RegionLaw
namespace Go.Proofs.YtcahibbfejomcaaGreatDoor
open Go.RowKit
set_option linter.unusedVariables false
set_option linter.unusedSimpArgs false
theorem app_none5 (w : World) (base : Nat) (v : Value) (n : Nat) (xs : List Value) (hown : w.ownsRow base 5 1 v n xs) (c : Nat) : (Builtin.append_ #[22, 22] 22 #[v, .slice none 0 c]).run Tryz.prog w = .ok v w := by
 obtain ⟨i0, hi, hz0, hz1, hz2⟩ := info_parts Tryz.info5
 rcases hown.2 with ⟨rfl, rfl⟩ | ⟨g, cap, cur, rfl, _, _, hnc, _⟩
 ·simp [Builtin.append_, run_underlying Tryz.underlying22, sizeOf, typeInfo, hi, Builtin.lenOf, Builtin.firstCells]
 ·simp [Builtin.append_, run_underlying Tryz.underlying22, sizeOf, typeInfo, hi, Builtin.lenOf, Builtin.firstCells, hnc, storeCells]
theorem wp_app1 {w : World} {ops : Array Oper} {rest : List Oper} {o : Oper} {a : Act} {Q : Exit → Act → World → Prop} (hgd : o.guard = none) (s x : Operand) (t u : TypeId)
  (ho : o.op = .call { callee := .builtin .append, args := #[s, x], argTypes := #[t, u] }) (v bv : Value) (hs : a.eval s = v) (hx : a.eval x = bv) (v' : Value) (w' : World)
  (hr : (Builtin.append_ #[t, u] o.type #[v, bv]).run Tryz.prog w = .ok v' w') (h : wpList Tryz.prog ops Q rest (a.put o.dst v') w') : wpList Tryz.prog ops Q (o :: rest) a w := by
 refine wpList_plain hgd fun K hK => ?_
 unfold Oper.wp execOp
 simp only [ho, resolve, invoke, builtin, Sem.run_bind, Sem.run_pure, Result.andThen_ok, List.map_toArray, List.map_cons, List.map_nil, hs, hx, hr]
 exact hK _ _ h
set_option maxRecDepth 100000 in
set_option maxHeartbeats 1000000 in
theorem raw_none (a : Nat) (v : Value) (l : List Int) (c : Nat) (w : World) (hw : Wr w a v l) (hl : l.length ≤ 4194304) :
  Calls Tryz.prog 30 #[.pointer (some ⟨a, 0, none⟩), .slice none 0 c] w fun e w' => e = .returned (.tuple #[]) ∧ Wr w' a v l ∧ Kept (fun k => k = a) w w' := by
 obtain ⟨hb, hown, hne⟩ := hw
 obtain ⟨ao, cap, rfl⟩ := ownsRow_shape hown
 have h0 : w.cell? ⟨a, 0, none⟩ = some (.slice ao l.length cap) := by rw [cell_block w a 0 _ _ _ hb]; rfl
 have h1 : w.cell? ⟨a, 1, none⟩ = some (.int .i64 0) := by rw [cell_block w a 1 _ _ _ hb]; rfl
 have kf : w.frozen? ⟨a, 0, none⟩ = false := frozen_block w a 0 _ _ hb
 have hal : a < w.heap.size := (Array.getElem?_eq_some_iff.1 hb).1
 have hm1 : (l.length : Int) + (0 : Int) ≤ 4194304 := by omega
 have HR := hid_of (app_none5 w 0 _ _ _ hown c)
 have HW : Hid (Wr (w.setCell ⟨a, 0, none⟩ (.slice ao l.length cap)) a (.slice ao l.length cap) l) := ⟨by rw [set_block w a 0 _ _ _ hb]; rfl, (kept_set w a 0 _).ownsRow hown (fun g hg e => by subst e; exact hne hg), hne⟩
 have HK := hid_of (kept_set w a 0 (.slice ao l.length cap))
 have HRM := hid_of (room_ok a l.length cap ao 0 w h0 h1 (by decide) hm1)
 clear hb hown hne h1 hm1 hl
 generalize l.length = n at *
 go_enter Tryz.func30, Tryz.ntmps30
 go_wp2_with fail
 refine HRM.out.mono ?_
 rintro e w1 ⟨rfl, rfl⟩
 clear HRM
 go_wp2_with (at_builtin; refine wp_app1 rfl (.tmp 12) (.tmp 13) 22 22 rfl _ _ rfl rfl _ _ HR.out ?_)
 go_end0
 exact ⟨rfl, HW.out, HK.out⟩
theorem raw_p (a : Nat) (v : Value) (s : St) (bv : Value) (xs : List Int) (w : World) (hw : WS w a v s) (hb : IsB w bv xs) (hm : xs.length ≤ maxLen) :
  Calls Tryz.prog 30 #[.pointer (some ⟨a, 0, none⟩), bv] w (PutS a v (s.put xs) w) := by
 rcases hb with ⟨rfl, ao, c, rfl⟩ | ⟨g, o, c, rfl, hc⟩
 ·cases ao with
  | some p => exact raw_s a v s p 0 c [] w hw rfl (by decide) (fun i hi => absurd hi (by omega))
  | none =>
   cases s with
   | error e =>
    refine (raw_bad a e none 0 c w hw.1 hw.2.1 (by decide)).mono ?_
    rintro r w1 ⟨rfl, rfl⟩
    exact PutS.same hw
   | ok l =>
    refine (raw_none a v l c w hw.1 hw.2).mono ?_
    rintro r w1 ⟨rfl, h1, h2⟩
    refine ⟨rfl, v, ?_, h2.mono (fun _ _ e => .inl e), fun g hg => .inl hg⟩
    have e : St.put (.ok l) [] = .ok l := by
     have := hw.2
     show (if l.length + ([] : List Int).length ≤ 4194304 then _ else _) = _
     rw [if_pos (by simpa using this), List.append_nil]
    rw [e]
    exact ⟨h1, hw.2⟩
 ·exact raw_s a v s ⟨g, o, none⟩ xs.length c xs w hw rfl hm (fun i hi => by rw [Addr.add_lit]; exact hc i hi)
set_option maxRecDepth 100000 in
set_option maxHeartbeats 1000000 in
theorem bytes_p (a : Nat) (v : Value) (s : St) (bv : Value) (xs : List Int) (w : World) (hw : WS w a v s) (hb : IsB w bv xs) (hm : xs.length ≤ maxLen) (hoff : ∀ g, bv.ownBlock = some g → g ≠ a ∧ v.ownBlock ≠ some g) :
  Calls Tryz.prog 14 #[.pointer (some ⟨a, 0, none⟩), bv] w (PutS a v (s.put (Mth.form xs.length ++ xs)) w) := by
 have hm' := hm
 unfold maxLen at hm'
 have hn := num_s a v s xs.length w hw (by omega) (by omega)
 unfold St.num at hn
 rw [if_neg (by omega)] at hn
 obtain ⟨ao, c, rfl⟩ := hb.shape
 have HN := hid_of hn
 have HB := hid_of hb
 have HM := hid_of hm
 have HOFF := hid_of hoff
 clear hn hw hb hm hm' hoff
 obtain ⟨m, hmx⟩ := nmd (xs.length)
 rw [← hmx] at HN HB HOFF HM ⊢
 have HMX := hid_of hmx
 clear hmx
 go_enter Tryz.func14, Tryz.ntmps14
 go_wp2_with fail
 refine HN.out.mono ?_
 rintro e w1 ⟨rfl, v1, hw1, hk1, ho1⟩
 have hraw := hid_of (raw_p a v1 _ (.slice ao m c) xs w1 hw1 (HB.out.kept hk1 (fun g hg h => by
  rcases h with h | h
  ·exact (HOFF.out g hg).1 h
  ·exact (HOFF.out g hg).2 h)) (by rw [← HMX.out]; exact HM.out))
 have HK := hid_of hk1
 have HO := hid_of ho1
 clear HN HB hw1 hk1 ho1
 go_wp2_with fail
 refine hraw.out.mono ?_
 intro e w2 hp
 have HP := hid_of (PutS.next HK.out HO.out hp)
 obtain ⟨rfl, _⟩ := hp
 clear hraw HK HO
 go_wp2
 go_end0
 rw [St.put_put] at HP
 exact HP.out
end Go.Proofs.YtcahibbfejomcaaGreatDoor
namespace Go.Proofs.YtcahibbfejomcaaGreatDoor
open Go.RowKit
set_option linter.unusedVariables false
set_option linter.unusedSimpArgs false
open Go.ChangeShapes Go.WideShapes Go.ChangeAt Go.RowKit Go.Deep
set_option maxRecDepth 100000
def fnB (f : FN) : List Int := Mth.form f.a ++ Mth.form f.l ++ Mth.form f.r ++ (Mth.form (encB f.code).length ++ encB f.code)
def headB (p : PG) : List Int := Mth.form 2 ++ Mth.form p.mem ++ (Mth.form p.data.length ++ p.data) ++ Mth.form p.fns.length
def bytesP (p : PG) : List Int := headB p ++ p.fns.flatMap fnB
def encPE (p : PG) : Int := if checkP p = 0 then (if 1048576 < (bytesP p).length then 2 else 0) else checkP p
def EncPR (p : PG) (w : World) (e : Ending) (w' : World) : Prop :=
 Kept (fun _ => False) w w' ∧
 if encPE p = 0 then ∃ v', e = .returned (.tuple #[v', .int .i64 0]) ∧ w'.ownsRow w.heap.size 5 1 v' (bytesP p).length ((bytesP p).map (Value.int .u8))
 else e = .returned (.tuple #[.slice none 0 0, .int .i64 (encPE p)])
def itN (n : Int) : ItV := ⟨1, n, .slice none 0 0, []⟩
def itB (bv : Value) (xs : List Int) : ItV := ⟨4, 0, bv, xs⟩
section
variable {P : Program} {ops : Array Oper} {o : Oper} {a : Act} {w : World} {K : Act → World → Prop} {Q : Exit → Act → World → Prop} {E : Prop}
end
theorem item_num (l : List Int) (n : Int) (h0 : 0 ≤ n) (h1 : n < 9223372036854775808) (hl : l.length ≤ 4194000) : St.item (.ok l) 1 n [] = .ok (l ++ Mth.form n) := num_ok l n h0 h1 hl
theorem item_byt (l xs : List Int) (hx : xs.length ≤ 65536) (hl : l.length ≤ 4000000) : St.item (.ok l) 4 0 xs = .ok (l ++ (Mth.form xs.length ++ xs)) := by
 have := (Mth.form_length (xs.length : Int) (by omega)).2
 show St.put (.ok l) (Mth.form xs.length ++ xs) = _
 rw [put_ok _ _ (by rw [List.length_append]; omega)]
theorem run_head (p : PG) (dv : Value) (hm : 0 ≤ p.mem ∧ p.mem ≤ 65536) (hd : p.data.length ≤ 65536) (hf : p.fns.length ≤ 64) : run [itN 2, itN p.mem, itB dv p.data, itN p.fns.length] = .ok (headB p) ∧ (headB p).length ≤ 65600 := by
 have l0 := (Mth.form_length 2 (by omega)).2
 have l1 := (Mth.form_length p.mem (by omega)).2
 have l2 := (Mth.form_length (p.data.length : Int) (by omega)).2
 have l3 := (Mth.form_length (p.fns.length : Int) (by omega)).2
 constructor
 ·show St.item (St.item (St.item (St.item (.ok []) 1 2 []) 1 p.mem []) 4 0 p.data) 1 p.fns.length [] = _
  rw [item_num [] 2 (by omega) (by omega) (by simp), item_num _ p.mem hm.1 (by omega) (by rw [List.length_append]; simp; omega), item_byt _ _ hd (by rw [List.length_append, List.length_append]; simp; omega), item_num _ _ (by omega) (by omega) (by simp only [List.length_append, List.length_nil]; omega)]
  simp [headB]
 ·simp only [headB, List.length_append]; omega
theorem fnB_len {f : FN} (ha : 0 ≤ f.a ∧ f.a ≤ 16) (hll : 0 ≤ f.l ∧ f.l ≤ 64) (hr : 0 ≤ f.r ∧ f.r ≤ 1) (hb : (encB f.code).length ≤ 40960) : (fnB f).length ≤ 41000 := by
 have l1 := (Mth.form_length f.a (by omega)).2
 have l2 := (Mth.form_length f.l (by omega)).2
 have l3 := (Mth.form_length f.r (by omega)).2
 have l4 := (Mth.form_length ((encB f.code).length : Int) (by omega)).2
 simp only [fnB, List.length_append]; omega
end Go.Proofs.YtcahibbfejomcaaGreatDoor
namespace Go.Proofs.YtcahibbfejomcaaGreatDoor
open Go.RowKit
set_option linter.unusedVariables false
set_option linter.unusedSimpArgs false
set_option maxRecDepth 100000
theorem be_inj (k : Nat) (a b : Int) (ha0 : 0 ≤ a) (hb0 : 0 ≤ b) (ha : a < (256 : Int) ^ k) (hb : b < (256 : Int) ^ k) (h : Mth.be k a = Mth.be k b) : a = b := by
 have hd : a / (256 : Int) ^ k = b / (256 : Int) ^ k := by rw [Int.ediv_eq_zero_of_lt ha0 ha, Int.ediv_eq_zero_of_lt hb0 hb]
 rcases Int.lt_trichotomy a b with hlt | heq | hgt
 ·have := Mth.be_ahead k a b hd hlt
  rw [h] at this
  rw [this.1] at this
  exact absurd this.2 (by simp)
 ·exact heq
 ·have := Mth.be_ahead k b a hd.symm hgt
  rw [h] at this
  rw [this.1] at this
  exact absurd this.2 (by simp)
theorem formD_form (u : Int) (rest : List Int) (h0 : 0 ≤ u) (h1 : u < 18446744073709551616) : formD (Mth.form u ++ rest) = .ok (u, rest) := by
 unfold Mth.form
 by_cases h : u ≤ 247
 ·rw [if_pos h, List.singleton_append, formD_cons, if_pos h]
 ·rw [if_neg h, List.cons_append, formD_cons]
  have hs8 := Mth.sz_le u
  have hs1 : 1 ≤ Mth.sz u := by
   rcases Mth.sz_cases u with h2 | h2
   ·omega
   ·rcases h2 with h2 | h2 | h2 | h2 | h2 | h2 | h2 | h2 <;> omega
  have hl := Mth.be_length (Mth.sz u) u
  have hk : (247 + (Mth.sz u : Int) - 247).toNat = Mth.sz u := by omega
  have hb := be_bval (Mth.sz u) (Mth.be (Mth.sz u) u) hl (Mth.be_byte _ _)
  have hv : bval (Mth.be (Mth.sz u) u) = u := (be_inj (Mth.sz u) u _ h0 hb.1 (Mth.sz_spec u h1) hb.2.1 hb.2.2).symm
  have ht : (Mth.be (Mth.sz u) u ++ rest).take (Mth.sz u) = Mth.be (Mth.sz u) u := by
   rw [List.take_append_of_le_length (by rw [hl]; exact Nat.le_refl _), List.take_of_length_le (by rw [hl]; exact Nat.le_refl _)]
  have hdr : (Mth.be (Mth.sz u) u ++ rest).drop (Mth.sz u) = rest := by
   have := List.drop_left (l₁ := Mth.be (Mth.sz u) u) (l₂ := rest)
   rwa [hl] at this
  rw [if_neg (by omega), hk, if_neg (by rw [List.length_append, hl]; omega), ht, hdr, hv, if_neg (by omega)]
theorem numD_form (u : Int) (rest : List Int) (h0 : 0 ≤ u) (h1 : u ≤ 9223372036854775807) : numD (Mth.form u ++ rest) = .ok (u, rest) := by
 unfold numD
 rw [formD_form u rest h0 (by omega)]
 dsimp only
 rw [if_pos h1]
theorem str_eq (xs ys : List Int) (hx : ∀ x ∈ xs, 0 ≤ x ∧ x ≤ 255) (hy : ∀ x ∈ ys, 0 ≤ x ∧ x ≤ 255) : ((str xs).toList == (str ys).toList) = decide (xs = ys) := by
 rw [Bool.eq_iff_iff, beq_iff_eq, decide_eq_true_iff]
 constructor
 ·intro h
  have e1 := str_nums xs hx
  have e2 := str_nums ys hy
  have h' : (str xs).data.toList = (str ys).data.toList := by rw [ByteArray.toList_eq, ByteArray.toList_eq] at h; exact h
  rw [← e1, ← e2]
  unfold nums
  rw [h']
 ·intro h; rw [h]
theorem unfold_fold (a : Int) (h0 : -9223372036854775808 ≤ a) (h1 : a < 9223372036854775808) : unfoldI (fold a) = a := by
 unfold unfoldI fold
 split <;> split <;> omega
theorem good_of {y : IN} (h : errI y = 0) : (0 ≤ y.op ∧ y.op < 46) ∧ mayP (kOf y.op) y.a = true := by
 unfold errI at h
 split at h
 ·rename_i hr
  split at h
  ·rename_i hm
   exact ⟨of_decide_eq_true hr, hm⟩
  ·cases h
 ·cases h
theorem readK_put {m : Nat} {a : Int} (rest : List Int) (h0 : -9223372036854775808 ≤ a) (h1 : a < 9223372036854775808) (hm : mayP m a = true) : readK m (opB m a ++ rest) = .ok (a, rest) := by
 rcases (show m = 0 ∨ m = 1 ∨ 2 ≤ m by omega) with rfl | rfl | h2
 ·have : a = 0 := by simpa [mayP] using hm
  subst this
  rfl
 ·show intD (Mth.form (fold a) ++ rest) = _
  unfold intD
  rw [formD_form _ _ (fold_le a h0 h1).1 (fold_le a h0 h1).2]
  dsimp only
  rw [unfold_fold a h0 h1]
 ·rw [readK_ge h2, opB_ge h2]
  rw [may_ge h2, Bool.and_eq_true, decide_eq_true_iff] at hm
  exact numD_form a rest hm.1 (by omega)
theorem oneDI_put {y : IN} (rest : List Int) (hy : y.Ok) (h : errI y = 0) : oneDI (putI y ++ rest) = .ok (y, rest) := by
 obtain ⟨hr, hm⟩ := good_of h
 unfold oneDI putI
 rw [List.append_assoc, numD_form y.op _ hr.1 (by omega)]
 dsimp only
 rw [if_pos (row_yes hr), readK_put rest hy.2.1 hy.2.2 hm]
 dsimp only
 rw [if_pos hm]
theorem putI_pos (y : IN) : 1 ≤ (putI y).length := by
 have := form_pos y.op
 simp only [putI, List.length_append]
 omega
theorem allD_enc : ∀ (n : Nat) (ys : List IN), ys.length ≤ n → (∀ y ∈ ys, y.Ok) → (∀ y ∈ ys, errI y = 0) → allD n (encB ys) = .ok ys
 | n, [], _, _, _ => allD_end n rfl
 | 0, y :: ys, h, _, _ => by simp at h
 | n + 1, y :: ys, h, hy, he => by
  have e : encB (y :: ys) = putI y ++ encB ys := rfl
  rw [allD_succ, e, if_neg (by rw [List.length_append]; have := putI_pos y; omega), oneDI_put _ (hy y (by simp)) (he y (by simp))]
  dsimp only
  rw [allD_enc n ys (by simpa using h) (fun z hz => hy z (by simp [hz])) (fun z hz => he z (by simp [hz]))]
theorem putI_ten {y : IN} (hy : y.Ok) (h : errI y = 0) : (putI y).length ≤ 10 := by
 obtain ⟨hr, hm⟩ := good_of h
 have h1 : (Mth.form y.op).length = 1 := by unfold Mth.form; rw [if_pos (by omega)]; rfl
 have h2 := opB_len (kOf y.op) y.a hy.2.1 hy.2.2
 simp only [putI, List.length_append]
 omega
theorem encB_ten : ∀ (ys : List IN), (∀ y ∈ ys, y.Ok) → (∀ y ∈ ys, errI y = 0) → (encB ys).length ≤ 10 * ys.length
 | [], _, _ => by simp [encB]
 | y :: ys, h, he => by
  have h1 := putI_ten (h y (by simp)) (he y (by simp))
  have h2 := encB_ten ys (fun z hz => h z (by simp [hz])) (fun z hz => he z (by simp [hz]))
  have e : encB (y :: ys) = putI y ++ encB ys := rfl
  rw [e, List.length_append, List.length_cons]
  omega
theorem form_byte (u : Int) (h0 : 0 ≤ u) (h1 : u < 18446744073709551616) : ∀ x ∈ Mth.form u, 0 ≤ x ∧ x ≤ 255 := by
 intro x hx
 unfold Mth.form at hx
 split at hx
 ·simp at hx; omega
 ·rcases List.mem_cons.1 hx with rfl | hx
  ·have := Mth.sz_le u; omega
  ·exact Mth.be_byte _ _ x hx
theorem encB_byte : ∀ (ys : List IN), (∀ y ∈ ys, y.Ok) → (∀ y ∈ ys, errI y = 0) → ∀ x ∈ encB ys, 0 ≤ x ∧ x ≤ 255
 | [], _, _, x, hx => by simp [encB] at hx
 | y :: ys, h, he, x, hx => by
  have e : encB (y :: ys) = putI y ++ encB ys := rfl
  rw [e] at hx
  obtain ⟨hr, hm⟩ := good_of (he y (by simp))
  have hy := h y (by simp)
  rcases List.mem_append.1 hx with hx | hx
  ·rcases List.mem_append.1 hx with hx | hx
   ·exact form_byte _ hr.1 (by omega) x hx
   ·generalize kOf y.op = m at *
    rcases (show m = 0 ∨ m = 1 ∨ 2 ≤ m by omega) with rfl | rfl | h2
    ·simp [opB] at hx
    ·exact form_byte _ (fold_le y.a hy.2.1 hy.2.2).1 (fold_le y.a hy.2.1 hy.2.2).2 x hx
    ·rw [opB_ge h2] at hx
     rw [may_ge h2, Bool.and_eq_true, decide_eq_true_iff] at hm
     have := hy.2.2
     exact form_byte _ hm.1 (by omega) x hx
  ·exact encB_byte ys (fun z hz => h z (by simp [hz])) (fun z hz => he z (by simp [hz])) x hx
theorem encE_zero {ys : List IN} (h : encE ys = 0) : ys.length ≤ 4096 ∧ ∀ y ∈ ys, errI y = 0 := by
 unfold encE at h
 split at h
 ·cases h
 ·exact ⟨by omega, (firstBad_zero ys).1 h⟩
theorem right_bytes {ys : List IN} (hy : ∀ y ∈ ys, y.Ok) (h : encE ys = 0) : BytesOk (encB ys) ∧ (encB ys).length ≤ 40960 := by
 obtain ⟨h1, h2⟩ := encE_zero h
 have := encB_ten ys hy h2
 exact ⟨⟨encB_byte ys hy h2, by omega⟩, by omega⟩
theorem right_dec {ys : List IN} (hy : ∀ y ∈ ys, y.Ok) (h : encE ys = 0) : decD (encB ys) = .ok ys := by
 obtain ⟨h1, h2⟩ := encE_zero h
 have h3 := (right_bytes hy h).2
 unfold decD
 rw [if_neg (by omega), allD_enc 4096 ys h1 hy h2]
end Go.Proofs.YtcahibbfejomcaaGreatDoor
namespace Go.Proofs.YtcahibbfejomcaaGreatDoor
open Go.ChangeShapes Go.WideShapes Go.ChangeAt Go.RowKit Go.Deep
set_option linter.unusedVariables false
set_option linter.unusedSimpArgs false
set_option maxRecDepth 100000
theorem checkP_zero {p : PG} (h : checkP p = 0) : (0 ≤ p.mem ∧ p.mem ≤ 65536) ∧ p.data.length ≤ 65536 ∧ 1 ≤ p.fns.length ∧ p.fns.length ≤ 64 ∧ ∀ f ∈ p.fns, ((0 ≤ f.a ∧ f.a ≤ 16) ∧ (0 ≤ f.l ∧ f.l ≤ 64) ∧ (0 ≤ f.r ∧ f.r ≤ 1)) ∧ encE f.code = 0 := by
 unfold checkP at h
 rcases bad_cases p with ⟨_, hb⟩ | ⟨hb, hb2⟩
 ·rw [if_pos hb] at h; cases h
 ·rw [if_neg (by rw [hb2]; decide)] at h
  refine ⟨⟨by omega, by omega⟩, by omega, by omega, by omega, fun f hf => ?_⟩
  have he := firstF_zero _ h f hf
  rcases badF_cases f with ⟨_, h1⟩ | ⟨h1, h2⟩
  ·rw [h1] at he; cases he
  ·exact ⟨by omega, by rw [← h2]; exact he⟩
end Go.Proofs.YtcahibbfejomcaaGreatDoor
