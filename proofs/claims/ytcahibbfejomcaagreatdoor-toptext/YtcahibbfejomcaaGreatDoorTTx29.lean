import Derived.Test.YtcahibbfejomcaaGreatDoorTTx28
import Derived.Test.YtcahibbfejomcaaGreatDoorTTx8
import Derived.Lib.ItoaLen
import Derived.Test.YtcahibbfejomcaaGreatDoorTTx18
namespace Go.Proofs.YtcahibbfejomcaaGreatDoor
open Go.RowKit
set_option linter.unusedVariables false
set_option linter.unusedSimpArgs false
set_option maxRecDepth 100000
def linesL : List UInt8 → List (List UInt8)
 | [] => [[]]
 | b :: l => if b = 10 then [] :: linesL l else match linesL l with | [] => [[b]] | x :: xs => (b :: x) :: xs
theorem linesL_ne : ∀ l : List UInt8, linesL l ≠ []
 | [] => by simp [linesL]
 | b :: l => by
  rw [linesL]
  split
  ·simp
  ·split <;> simp
theorem linesL_cut : ∀ (a b : List UInt8), (10 : UInt8) ∉ a → linesL (a ++ 10 :: b) = a :: linesL b
 | [], b, _ => by rw [List.nil_append, linesL, if_pos rfl]
 | c :: a, b, h => by
  have hc : ¬ c = 10 := fun e => h (by rw [e]; exact List.mem_cons_self)
  rw [List.cons_append, linesL, if_neg hc, linesL_cut a b (fun e => h (List.mem_cons_of_mem _ e))]
theorem linesL_one : ∀ (a : List UInt8), (10 : UInt8) ∉ a → linesL a = [a]
 | [], _ => rfl
 | c :: a, h => by
  have hc : ¬ c = 10 := fun e => h (by rw [e]; exact List.mem_cons_self)
  rw [linesL, if_neg hc, linesL_one a (fun e => h (List.mem_cons_of_mem _ e))]
theorem linesL_len : ∀ (l : List UInt8), (linesL l).length ≤ l.length + 1 ∧ ∀ x ∈ linesL l, x.length ≤ l.length
 | [] => by simp [linesL]
 | b :: l => by
  obtain ⟨h1, h2⟩ := linesL_len l
  rw [linesL]
  split
  ·simp only [List.length_cons]
   refine ⟨by omega, fun x hx => ?_⟩
   rcases List.mem_cons.1 hx with rfl | hx
   ·simp
   ·have := h2 x hx; omega
  ·cases e : linesL l with
   | nil => exact absurd e (linesL_ne l)
   | cons y ys =>
    rw [e] at h1 h2
    simp only [List.length_cons] at h1 ⊢
    refine ⟨by omega, fun x hx => ?_⟩
    rcases List.mem_cons.1 hx with rfl | hx
    ·have := h2 y List.mem_cons_self
     simp only [List.length_cons]
     omega
    ·have := h2 x (List.mem_cons_of_mem _ hx)
     omega
theorem idx_spec : ∀ l : List UInt8, (Lib.index l [10] = -1 ∧ (10 : UInt8) ∉ l) ∨ ∃ a b, l = a ++ 10 :: b ∧ (10 : UInt8) ∉ a ∧ Lib.index l [10] = (a.length : Int)
 | [] => .inl ⟨rfl, by simp⟩
 | c :: l => by
  by_cases hc : c = 10
  ·subst hc
   exact .inr ⟨[], l, rfl, by simp, by rw [Lib.index]; simp [List.isPrefixOf]⟩
  ·have hp : ([10] : List UInt8).isPrefixOf (c :: l) = false := by simp [List.isPrefixOf, Ne.symm hc]
   have hix : Lib.index (c :: l) [10] = if Lib.index l [10] == -1 then -1 else Lib.index l [10] + 1 := by rw [Lib.index, hp]; simp
   rcases idx_spec l with ⟨h1, h2⟩ | ⟨a, b, h1, h2, h3⟩
   ·refine .inl ⟨by rw [hix, h1]; rfl, fun h => ?_⟩
    rcases List.mem_cons.1 h with e | e
    ·exact hc e.symm
    ·exact h2 e
   ·refine .inr ⟨c :: a, b, by rw [h1]; rfl, fun h => ?_, ?_⟩
    ·rcases List.mem_cons.1 h with e | e
     ·exact hc e.symm
     ·exact h2 e
    ·rw [hix, if_neg (by rw [beq_iff_eq]; omega), h3]
     simp
theorem ext_list (s : ByteArray) (i j : Nat) : (s.extract i j).data.toList = (s.data.toList.drop i).take (j - i) := by
 simp only [ByteArray.data_extract, Array.toList_extract, List.extract]
theorem split_lines : ∀ (k : Nat) (s : ByteArray), Lib.countB s nlB = k → (Lib.splitB nlB 0 k s).map (fun t => t.data.toList) = linesL s.data.toList
 | 0, s, hk => by
  rcases idx_spec s.data.toList with ⟨h1, h2⟩ | ⟨a, b, h1, h2, h3⟩
  ·rw [Lib.splitB_zero, linesL_one _ h2]
   rfl
  ·have := Lib.countB_hit s nlB a.length (by decide) h3
   omega
 | k + 1, s, hk => by
  rcases idx_spec s.data.toList with ⟨h1, h2⟩ | ⟨a, b, h1, h2, h3⟩
  ·have := Lib.countB_miss s nlB h1
   omega
  ·have hc := Lib.countB_hit s nlB a.length (by decide) h3
   rw [Lib.splitB_hit nlB 0 k s a.length h3, List.map_cons, split_lines k _ (by omega), h1, linesL_cut a b h2]
   have e1 : (s.extract 0 (a.length + 0)).data.toList = a := by rw [ext_list, h1]; simp
   have e2 : (s.extract (a.length + nlB.size) s.size).data.toList = b := by
    rw [ext_list, h1, show nlB.size = 1 from rfl]
    have hs : s.size = a.length + 1 + b.length := by rw [Lib.size_eq, h1]; simp; omega
    rw [show (a ++ 10 :: b).drop (a.length + 1) = b by rw [← List.drop_drop, List.drop_left]; rfl]
    exact List.take_of_length_le (by omega)
   rw [e1, e2]
def toB (l : List UInt8) : ByteArray := ⟨l.toArray⟩
theorem toB_back (s : ByteArray) : toB s.data.toList = s := by cases s; simp [toB]
theorem toB_list (l : List UInt8) : (toB l).data.toList = l := by simp [toB]
theorem split_is2 (s : ByteArray) : Lib.splitB nlB 0 (Lib.countB s nlB) s = (linesL s.data.toList).map toB := by
 rw [← split_lines _ s rfl, List.map_map]
 conv => lhs; rw [← List.map_id (Lib.splitB nlB 0 (Lib.countB s nlB) s)]
 apply List.map_congr_left
 intro t _
 exact (toB_back t).symm
theorem count_is2 (s : ByteArray) : Lib.countB s nlB + 1 = (linesL s.data.toList).length := by
 rw [← Lib.splitB_all nlB (by decide) 0 _ s rfl, split_is2, List.length_map]
def fnG (f : Fnc) : FN := ⟨f.a, f.l, f.r, f.code⟩
def pgG (R : Rdr) : PG := ⟨R.mem, R.data, R.fs.map fnG⟩
variable {w0 w : World} {r gm : Nat} {R : Rdr} {NL : List (ByteArray × Int)} {dv fv lv wv : Value} {CV : List Value} {GM : List Nat}
theorem rowI_of {B : Nat} {v : Value} {ys : List IN} (h : w.ownsRow B 72 2 v ys.length (icells ys)) : RowI w v ys := by
 rcases h.2 with ⟨rfl, h0⟩ | ⟨g, cap, cur, rfl, _⟩
 ·exact .inl ⟨List.length_eq_zero_iff.1 h0, _, _, rfl⟩
 ·refine .inr ⟨g, 0, cap, rfl, fun i y hy j v hv => ?_⟩
  have hj : j < 2 := (List.getElem?_eq_some_iff.1 hv).1
  have := h.cells (g := g) rfl (i * 2 + j) v (by rw [icells_at ys i y hy j hj]; exact hv)
  rw [Addr.add_lit, Nat.zero_add] at this
  show w.cell? ⟨g, 0 + i * 2 + j, none⟩ = _
  rw [Nat.zero_add]
  exact this
theorem RdX.pg (h : RdX w0 w r R dv fv lv wv gm CV GM) : PgIs w w.heap.size (.agg #[.int .i64 R.mem, dv, fv]) (pgG R) := by
 refine ⟨dv, fv, rfl, isB_own h.data, fun q hq => (h.data.lt q hq).2, ?_⟩
 have hf := h.fns
 by_cases h0 : R.fs = []
 ·rw [h0] at hf
  rcases hf.2 with ⟨rfl, _⟩ | ⟨g, cap, cur, rfl, _⟩
  ·exact .inl ⟨by simp [pgG, h0], _, _, rfl⟩
  ·exact .inl ⟨by simp [pgG, h0], _, _, rfl⟩
 ·obtain ⟨g, c, cs, hfv, _, _⟩ := own_is0 hf (List.length_pos_iff.2 h0)
  refine .inr ⟨g, 0, c, by rw [hfv]; simp [pgG], (hf.lt g (by rw [hfv]; rfl)).2, fun i f hi => ?_⟩
  have hi' : (R.fs.map fnG)[i]? = some f := hi
  rw [List.getElem?_map] at hi'
  cases hfi : R.fs[i]? with
  | none => rw [hfi] at hi'; cases hi'
  | some f0 =>
   rw [hfi] at hi'
   cases hi'
   have hil := (List.getElem?_eq_some_iff.1 hfi).1
   have hcl : i < CV.length := by rw [h.toRdZ.clen]; exact hil
   have hcv : CV[i]? = some (CV[i]'hcl) := List.getElem?_eq_getElem hcl
   have hco : w.ownsRow w0.heap.size 72 2 (CV[i]'hcl) f0.code.length (icells f0.code) := h.code.row i _ (codX f0) hcv (by rw [List.getElem?_map, hfi]; rfl)
   refine ⟨CV[i]'hcl, fun j v hv => ?_, rowI_of hco, fun q hq _ => (hco.lt q hq).2⟩
   have hj : j < 4 := (List.getElem?_eq_some_iff.1 hv).1
   have := hf.cells (g := g) (by rw [hfv]; rfl) (i * 4 + j) v (by rw [fnCells_at R.fs CV i f0 _ hfi hcv j hj]; exact hv)
   rw [Addr.add_lit, Nat.zero_add] at this
   show w.cell? ⟨g, 0 + i * 4 + j, none⟩ = _
   rw [Nat.zero_add]
   exact this
def I64 (x : Int) : Prop := -9223372036854775808 ≤ x ∧ x < 9223372036854775808
structure Fnc.Ok (f : Fnc) : Prop where
 a : I64 f.a
 l : I64 f.l
 r : I64 f.r
 code : ∀ y ∈ f.code, y.Ok
 ls : ∀ x ∈ f.ls, I64 x.2
structure Rdr.Nums (R : Rdr) : Prop where
 mem : I64 R.mem
 data : ∀ x ∈ R.data, 0 ≤ x ∧ x ≤ 255
 fns : ∀ f ∈ R.fs, f.Ok
theorem pgG_ok (h : R.Nums) (hok : R.Ok) : (pgG R).Ok := by
 refine ⟨h.mem, ⟨h.data, by have := hok.data; show R.data.length ≤ _; omega⟩, fun f hf => ?_, ?_⟩
 ·obtain ⟨f0, h0, rfl⟩ := List.mem_map.1 (show f ∈ R.fs.map fnG from hf)
  have h1 := h.fns f0 h0
  have h2 := hok.code f0 h0
  exact ⟨h1.a, h1.l, h1.r, h1.code, by show f0.code.length * 16 ≤ _; omega⟩
 ·show (R.fs.map fnG).length * 48 ≤ _
  rw [List.length_map]
  have := hok.fs
  omega
end Go.Proofs.YtcahibbfejomcaaGreatDoor
namespace Go.Proofs.YtcahibbfejomcaaGreatDoor
open Go.RowKit
set_option linter.unusedVariables false
set_option linter.unusedSimpArgs false
set_option maxRecDepth 100000
theorem dec_cons (u : Nat) (h : 9 < u) : Lib.decDigits u = Lib.decDigits (u / 10) ++ [UInt8.ofNat (48 + u % 10)] := by
 rw [Lib.decDigits, dif_neg (by omega)]
theorem uintM_app (M : Nat) (r : List UInt8) : ∀ (l : List UInt8) (acc v : Nat), Lib.parseUintM M acc l = .ok v → Lib.parseUintM M acc (l ++ r) = Lib.parseUintM M v r
 | [], acc, v, h => by
  rw [Lib.parseUintM] at h
  cases h
  rfl
 | c :: l, acc, v, h => by
  rw [Lib.parseUintM] at h
  rw [List.cons_append, Lib.parseUintM]
  split at h
  ·rename_i hc
   rw [if_pos hc]
   split at h
   ·cases h
   ·rename_i h1
    rw [if_neg h1]
    split at h
    ·cases h
    ·rename_i h2
     rw [if_neg h2]
     exact uintM_app M r l _ v h
  ·cases h
theorem dig8 (d : Nat) (h : d < 10) : (UInt8.ofNat (48 + d)).toNat = 48 + d := by
 rw [UInt8.toNat_ofNat']
 omega
theorem uintM_dig (acc d : Nat) (h : d < 10) (ha : acc * 10 + d ≤ 18446744073709551615) : Lib.parseUintM 18446744073709551615 acc [UInt8.ofNat (48 + d)] = .ok (acc * 10 + d) := by
 rw [Lib.parseUintM, dig8 d h, if_pos (by omega), if_neg (by omega), if_neg (by omega), Lib.parseUintM]
 congr 1
 omega
theorem uintM_decs (u : Nat) : u ≤ 18446744073709551615 → Lib.parseUintM 18446744073709551615 0 (Lib.decDigits u) = .ok u := by
 induction u using Nat.strongRecOn with
 | ind u ih =>
  intro hu
  by_cases h : u < 10
  ·rw [Lib.decDigits_one h, uintM_dig 0 u h (by omega)]
   congr 1
   omega
  ·rw [dec_cons u (by omega), uintM_app _ _ _ 0 _ (ih (u / 10) (by omega) (by omega)), uintM_dig (u / 10) (u % 10) (by omega) (by omega)]
   congr 1
   omega
theorem dec_all (u : Nat) : ∀ b ∈ Lib.decDigits u, 48 ≤ b.toNat ∧ b.toNat ≤ 57 := by
 induction u using Nat.strongRecOn with
 | ind u ih =>
  intro b hb
  by_cases h : u < 10
  ·rw [Lib.decDigits_one h] at hb
   rw [List.mem_singleton.1 hb, dig8 u h]
   omega
  ·rw [dec_cons u (by omega)] at hb
   rcases List.mem_append.1 hb with hb | hb
   ·exact ih (u / 10) (by omega) b hb
   ·rw [List.mem_singleton.1 hb, dig8 _ (by omega)]
    omega
theorem dec_ne (u : Nat) : Lib.decDigits u ≠ [] := fun e => by
 have := Lib.decDigits_length u
 rw [e] at this
 have h := Lib.nDigits_pos u
 simp at this
 omega
theorem dec_inj {u v : Nat} (hu : u ≤ 18446744073709551615) (hv : v ≤ 18446744073709551615) (h : Lib.decDigits u = Lib.decDigits v) : u = v := by
 have h1 := uintM_decs u hu
 rw [h, uintM_decs v hv] at h1
 injection h1 with h1
 exact h1.symm
theorem made_dec (u : Nat) : madeP (Lib.decDigits u) dgL = true := by
 unfold madeP
 have h1 : (Lib.decDigits u).isEmpty = false := by
  cases e : Lib.decDigits u with
  | nil => exact absurd e (dec_ne u)
  | cons x y => rfl
 rw [h1]
 simp only [Bool.not_false, Bool.true_and, List.all_eq_true]
 intro b hb
 have := dec_all u b hb
 have h2 : ∀ n : Nat, n < 10 → dgL.contains (UInt8.ofNat (48 + n)) = true := by decide
 have h3 : b = UInt8.ofNat (48 + (b.toNat - 48)) := UInt8.toNat_inj.1 (by rw [dig8 _ (by omega)]; omega)
 rw [h3]
 exact h2 _ (by omega)
theorem uintB_dec (u : Nat) (h : u ≤ 18446744073709551615) : Lib.parseUintB 64 (Lib.decDigits u) = .ok u := by
 unfold Lib.parseUintB
 rw [if_neg (dec_ne u)]
 exact uintM_decs u h
theorem itoa_num (i : Int) (h : I64 i) : okN (Lib.itoa i) = true ∧ valN (Lib.itoa i) = i ∧ farN (Lib.itoa i) = false := by
 obtain ⟨h0, h1⟩ := h
 unfold Lib.itoa
 by_cases hn : i < 0
 ·rw [if_pos hn]
  have hp : Lib.hasPrefix (45 :: Lib.decDigits i.natAbs) [48, 120] = false := by
   simp [Lib.hasPrefix, List.isPrefixOf]
  have ht : Lib.trimPrefix (45 :: Lib.decDigits i.natAbs) [45] = Lib.decDigits i.natAbs := by
   simp [Lib.trimPrefix, Lib.hasPrefix, List.isPrefixOf]
  have hv : Lib.parseIntB 64 (45 :: Lib.decDigits i.natAbs) = .ok i := by
   unfold Lib.parseIntB
   simp only
   rw [if_pos (by decide), uintB_dec _ (by omega)]
   simp only
   rw [if_neg (by intro e; exact e.1 (by decide)), if_neg (by intro e; have := e.2; omega), if_pos (by decide)]
   congr 1
   omega
  refine ⟨?_, ?_, ?_⟩
  ·unfold okN
   rw [hp, ht]
   exact made_dec _
  ·unfold valN
   rw [hp, hv]
   rfl
  ·unfold farN
   rw [hp, hv]
   rfl
 ·rw [if_neg hn]
  obtain ⟨u, rfl⟩ := Int.eq_ofNat_of_zero_le (by omega : 0 ≤ i)
  rw [Int.toNat_natCast]
  cases e : Lib.decDigits u with
  | nil => exact absurd e (dec_ne u)
  | cons c r =>
   have hc := dec_all u c (by rw [e]; exact List.mem_cons_self)
   have hp : Lib.hasPrefix (c :: r) [48, 120] = false := by
    cases r with
    | nil => simp [Lib.hasPrefix, List.isPrefixOf]
    | cons d r =>
     have hd := dec_all u d (by rw [e]; exact List.mem_cons_of_mem _ List.mem_cons_self)
     have : d ≠ 120 := fun e => by rw [e] at hd; revert hd; decide
     simp [Lib.hasPrefix, List.isPrefixOf, Ne.symm this]
   have hc45 : c ≠ 45 := fun e => by rw [e] at hc; revert hc; decide
   have ht : Lib.trimPrefix (c :: r) [45] = c :: r := by
    simp [Lib.trimPrefix, Lib.hasPrefix, List.isPrefixOf, Ne.symm hc45]
   have hv : Lib.parseIntB 64 (c :: r) = .ok (u : Int) := by
    unfold Lib.parseIntB
    simp only
    rw [if_neg (by omega), ← e, uintB_dec _ (by omega)]
    simp only
    rw [if_neg (by intro h; have := h.2; omega), if_neg (by intro h; omega), if_neg (by omega)]
   refine ⟨?_, ?_, ?_⟩
   ·unfold okN
    rw [hp, ht, ← e]
    exact made_dec _
   ·unfold valN
    rw [hp, hv]
    rfl
   ·unfold farN
    rw [hp, hv]
    rfl
theorem itoa_nat (k : Nat) : Lib.itoa (k : Int) = Lib.decDigits k := by
 unfold Lib.itoa
 rw [if_neg (by omega), Int.toNat_natCast]
theorem fin_itoa (ps : List Pf) (hi : Int) (l : List UInt8) (i : Int) (h : I64 i) (hl : ∀ b r, l = b :: r → goP b.toNat = false) : finL (Lib.itoa i ++ l) (atR ps 0 hi) = finL l (atR (ps ++ [⟨1, ⟨#[]⟩, i, false⟩]) 1 hi) := by
 obtain ⟨h1, h2, h3⟩ := itoa_num i h
 have hg : ∀ (u : Nat) (b : UInt8), b ∈ Lib.decDigits u → goP b.toNat = true ∧ isDP b.toNat = true := fun u b hb => by
  have := dec_all u b hb
  unfold goP isDP
  simp
  omega
 have hp := fin_num ps hi l (Lib.itoa i)
 rw [h2, h3] at hp
 refine hp ?_ ?_ ?_ h1 hl
 ·unfold Lib.itoa
  split
  ·simp
  ·exact dec_ne _
 ·unfold Lib.itoa
  split
  ·exact .inr rfl
  ·cases e : Lib.decDigits i.toNat with
   | nil => exact absurd e (dec_ne _)
   | cons c r => exact .inl (hg _ c (by rw [e]; exact List.mem_cons_self)).2
 ·unfold Lib.itoa
  split
  ·exact fun b hb => (hg _ b hb).1
  ·exact fun b hb => (hg _ b (List.mem_of_mem_tail hb)).1
end Go.Proofs.YtcahibbfejomcaaGreatDoor
