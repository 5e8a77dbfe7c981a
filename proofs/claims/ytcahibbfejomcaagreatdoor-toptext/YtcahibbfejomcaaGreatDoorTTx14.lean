import Derived.Test.YtcahibbfejomcaaGreatDoorTTx13
import Derived.Test.YtcahibbfejomcaaGreatDoorTTx8
import Derived.Lib.ConvBytes
import Derived.Laws.Closers25
import Derived.Laws.Closers25b
import Derived.Lib.Hide
import Derived.LaidEql
import Derived.Stop.Asserts
import Derived.RowKitTokens
import Derived.Shelf.Strconv.ToError
import Derived.Shelf.Strconv.ToErrorRange
namespace Go.Proofs.YtcahibbfejomcaaGreatDoor
open Go.RowKit
set_option linter.unusedVariables false
set_option linter.unusedSimpArgs false
set_option maxRecDepth 100000
def hexOk (bs : List UInt8) : Bool := !bs.isEmpty && decide (bs.length ≤ 16) && bs.all (fun c => decide (0 ≤ hexP c.toNat))
def hexVal (bs : List UInt8) : Int := bs.foldl (fun a c => 16 * a + hexP c.toNat) 0
theorem hexVal_snoc (bs : List UInt8) (c : UInt8) : hexVal (bs ++ [c]) = hexVal bs * 16 + hexP c.toNat := by
 unfold hexVal
 rw [List.foldl_append]
 show 16 * _ + _ = _
 omega
theorem hexVal_lt : ∀ (n : Nat) (bs : List UInt8), bs.length = n → (∀ c ∈ bs, 0 ≤ hexP c.toNat) → 0 ≤ hexVal bs ∧ hexVal bs < 16 ^ n := by
 intro n
 induction n with
 | zero => intro bs h _; rw [List.length_eq_zero_iff.1 h]; exact ⟨by decide, by decide⟩
 | succ n ih =>
  intro bs h hc
  have hne : bs ≠ [] := fun e => by rw [e] at h; simp at h
  have e := List.dropLast_concat_getLast hne
  have h1 := ih bs.dropLast (by rw [List.length_dropLast]; omega) (fun c hm => hc c ((List.dropLast_sublist bs).subset hm))
  have h2 := hc (bs.getLast hne) (List.getLast_mem hne)
  have h3 := hex_lt (bs.getLast hne).toNat
  rw [← e, hexVal_snoc, Int.pow_succ]
  omega
theorem hexOk_iff (bs : List UInt8) (h : hexOk bs = true) : bs ≠ [] ∧ bs.length ≤ 16 ∧ ∀ c ∈ bs, 0 ≤ hexP c.toNat := by
 unfold hexOk at h
 simp only [Bool.and_eq_true, Bool.not_eq_true', decide_eq_true_eq, List.all_eq_true, List.isEmpty_eq_false_iff] at h
 exact ⟨h.1.1, h.1.2, h.2⟩
theorem lowerG (x : Int) (w : World) : Calls Tryz.prog 165 #[.int .u8 x] w fun e w' => e = .returned (.int .u8 (bits .or .u8 x 32)) ∧ w' = w := by
 go_enter Tryz.func165, Tryz.ntmps165
 go_wp2
 go_ret
 exact ⟨rfl, rfl⟩
theorem lower_t1 : ∀ n : Nat, n < 256 → ¬ (48 ≤ n ∧ n ≤ 57) → 97 ≤ bits .or .u8 n 32 → bits .or .u8 n 32 ≤ 102 → (hexP n < 0 ∨ hexP n = bits .or .u8 n 32 - 87) := by decide +kernel
theorem lower_t2 : ∀ n : Nat, n < 256 → 103 ≤ bits .or .u8 n 32 → hexP n < 0 := by decide +kernel
theorem lower_t3 : ∀ n : Nat, n < 256 → ¬ (48 ≤ n ∧ n ≤ 57) → bits .or .u8 n 32 < 97 ∨ 122 < bits .or .u8 n 32 → hexP n < 0 := by decide +kernel
def UintR (bs : List UInt8) (w : World) (e : Ending) (w' : World) : Prop :=
 ∃ (u : Int) (v : Value), e = .returned (.tuple #[.int .u64 u, v]) ∧ (v = .nilIface ∨ v = .iface 231 (.int .i64 1) ∨ v = .iface 231 (.int .i64 2)) ∧ (hexOk bs = true → u = hexVal bs ∧ v = .nilIface) ∧ Kept (fun _ => False) w w'
set_option maxHeartbeats 32000000 in
set_option maxRecDepth 100000 in
theorem puint16 (t : ByteArray) (hmax : t.size ≤ 9000000) (w : World) :
  Calls Tryz.prog 154 #[.string t, .int .i64 16, .int .i64 64] w (UintR t.data.toList w) := by
 by_cases h0 : t.size = 0
 ·have ht : t = ⟨#[]⟩ := by
   obtain ⟨⟨l⟩⟩ := t
   cases l with
   | nil => rfl
   | cons _ _ => simp [ByteArray.size] at h0
  subst ht
  go_enter Tryz.func154, Tryz.ntmps154
  go_wp2
  go_ret2
  exact ⟨_, _, rfl, .inr (.inr rfl), fun h => absurd h (by decide), Kept.refl _ _⟩
 have hemp : t.toList.isEmpty = false := by
  rw [← decide_eq_emptyBytes]
  exact decide_eq_false (fun h => h0 (by rw [h]; rfl))
 have hcv := Lib.run_convert_string_bytes (P := Tryz.prog) w 9 22 5 t (u := .string) Tryz.underlying9 Tryz.underlying22 Tryz.underlying5
 have hB : ∀ j, j < t.size → (Lib.bytesWorld w 5 t).cell? ⟨w.heap.size, j, none⟩ = some (.int .u8 (t.data.toList.getD j 0).toNat) := fun j hj => Lib.bytesWorld_cell w 5 t j hj
 have HK := hid_of (kept_bytes w t)
 obtain ⟨W1, hW1⟩ := nmd (Lib.bytesWorld w 5 t)
 rw [← hW1] at hcv hB HK
 clear hW1
 obtain ⟨bs, hL⟩ := nmd (t.data.toList)
 have hLn : bs.length = t.size := by rw [hL, Lib.size_eq]
 rw [← hL] at hB ⊢
 clear hL
 have hmv : IntKind.u64.wrap (IntKind.u64.wrap 18446744073709551616 - 1) = 18446744073709551615 := by
  rw [IntKind.wrap_u64, IntKind.wrap_u64]
  decide
 go_enter Tryz.func154, Tryz.ntmps154
 go_wp2
 go_loop [12, 13, 101] (fun vu vn vi => ∃ (k : Nat) (a : Int), vu = .bool false ∧ vn = .int .u64 a ∧ vi = .int .i64 k ∧ k ≤ t.size ∧ Hid (0 ≤ a ∧ a < 18446744073709551616 ∧ (hexOk bs = true → a = hexVal (bs.take k))))
  (fun _ _ vi => t.size - (intOf vi).toNat)
 case atStart => exact ⟨0, 0, rfl, rfl, rfl, by omega, by omega, by omega, fun _ => rfl⟩
 case round =>
  obtain ⟨k, a, rfl, rfl, rfl, hk, hh⟩ := hrel
  obtain ⟨a0, a1, hval⟩ := hh.out
  clear hh
  by_cases hkn : k < t.size
  ·have hc := hB k hkn
   have hget : bs.getD k 0 = bs[k]'(by omega) := by simp [List.getD, List.getElem?_eq_getElem (show k < bs.length by omega)]
   have htk : bs.take (k + 1) = bs.take k ++ [bs[k]'(by omega)] := by rw [List.take_succ_eq_append_getElem]
   have hmem : bs[k]'(by omega) ∈ bs := List.getElem_mem _
   rw [hget] at hc
   generalize bs[k]'(by omega) = c at hc htk hmem
   have hc256 : c.toNat < 256 := c.toNat_lt
   have hgood : hexOk bs = true → 0 ≤ hexP c.toNat ∧ a < 1152921504606846976 := fun hg => by
    obtain ⟨_, h2, h3⟩ := hexOk_iff bs hg
    refine ⟨h3 c hmem, ?_⟩
    rw [hval hg]
    have h4 := (hexVal_lt k (bs.take k) (by rw [List.length_take]; omega) (fun c hm => h3 c (List.mem_of_mem_take hm))).2
    have h5 : (16 : Int) ^ k ≤ 16 ^ 15 := by
     have : (16 : Nat) ^ k ≤ 16 ^ 15 := Nat.pow_le_pow_right (by omega) (by omega)
     exact_mod_cast this
    have h6 : (16 : Int) ^ 15 = 1152921504606846976 := by decide
    omega
   have hnext : hexOk bs = true → hexVal (bs.take (k + 1)) = a * 16 + hexP c.toNat := fun hg => by rw [htk, hexVal_snoc, hval hg]
   clear hB hget htk hmem hval
   by_cases hdig : 48 ≤ c.toNat ∧ c.toNat ≤ 57
   ·have hp : hexP c.toNat = (c.toNat : Int) - 48 := if_pos (by omega)
    rw [hp] at hnext hgood
    clear hp
    obtain ⟨hd0, hd1⟩ := hdig
    generalize c.toNat = cn at *
    obtain ⟨x, hx⟩ : ∃ x : Int, x = cn := ⟨_, rfl⟩
    rw [← hx] at hc hnext hgood
    have x0 : 48 ≤ x := by omega
    have x1 : x ≤ 57 := by omega
    clear hx hd0 hd1 hc256
    by_cases hcut : 1152921504606846976 ≤ a
    ·have HE : Hid (hexOk bs = true → False) := fun hg => by have := (hgood hg).2; omega
     clear hgood hnext
     go_wp2
     go_ret2
     exact ⟨_, _, rfl, .inr (.inl rfl), fun hg => (HE.out hg).elim, HK.out⟩
    ·have HN : Hid (0 ≤ a * 16 + (x - 48) ∧ a * 16 + (x - 48) < 18446744073709551616 ∧ (hexOk bs = true → a * 16 + (x - 48) = hexVal (bs.take (k + 1)))) := ⟨by omega, by omega, fun hg => (hnext hg).symm⟩
     have icut : a < 1152921504606846976 := by omega
     have iov : a * 16 + (x - 48) < 18446744073709551616 := by omega
     clear hcut hgood hnext
     go_wp2
     refine ⟨⟨k + 1, a * 16 + (x - 48), rfl, (by first | rfl | (congr 1; omega)), (by first | rfl | (congr 1; omega)), by omega, HN⟩, by simp [intOf]; omega⟩
   ·by_cases h95 : c.toNat = 95
    ·have HE : Hid (hexOk bs = true → False) := fun hg => by have := (hgood hg).1; rw [h95] at this; exact absurd this (by decide)
     have HLow := hid_of (fun w => lowerG 95 w)
     rw [show bits .or .u8 95 32 = 127 by decide] at HLow
     rw [h95] at hc
     clear hgood hnext hdig h95 hc256
     go_wp2_with (go_at_call 165; refine (HLow.out _).mono ?_; rintro e w' ⟨rfl, rfl⟩)
     all_goals go_ret2
     all_goals exact ⟨_, _, rfl, .inr (.inr rfl), fun hg => (HE.out hg).elim, HK.out⟩
    have t1 := lower_t1 c.toNat hc256 hdig
    have t2 := lower_t2 c.toNat hc256
    have t3 := lower_t3 c.toNat hc256 hdig
    have hb0 := bits_lo_u8 .or (c.toNat : Int) 32
    have hb1 := bits_hi_u8 .or (c.toNat : Int) 32
    have hlow := fun w => lowerG (c.toNat : Int) w
    generalize hexP c.toNat = hp at *
    generalize c.toNat = cn at *
    obtain ⟨x, hx⟩ : ∃ x : Int, x = cn := ⟨_, rfl⟩
    rw [← hx] at hc t1 t2 t3 hb0 hb1 hlow
    have e95 : (x == 95) = false := by rw [beq_eq_false_iff_ne]; omega
    have x0 : ¬ (48 ≤ x ∧ x ≤ 57) := by omega
    have x2 : 0 ≤ x := by omega
    have x3 : x < 256 := by omega
    clear hx hdig hc256 h95
    generalize bits .or .u8 x 32 = L at *
    have HLow := hid_of hlow
    clear hlow
    by_cases hlet : 97 ≤ L ∧ L ≤ 122
    ·obtain ⟨l0, l1⟩ := hlet
     have t1 := t1 l0
     clear t3
     by_cases hbig : 103 ≤ L
     ·have HE : Hid (hexOk bs = true → False) := fun hg => by have := (hgood hg).1; have := t2 hbig; omega
      clear hgood hnext t1 t2
      go_wp2_with (go_at_call 165; refine (HLow.out _).mono ?_; rintro e w' ⟨rfl, rfl⟩)
      all_goals go_ret2
      all_goals exact ⟨_, _, rfl, .inr (.inr rfl), fun hg => (HE.out hg).elim, HK.out⟩
     ·have l2 : L ≤ 102 := by omega
      by_cases hcut : 1152921504606846976 ≤ a
      ·have HE : Hid (hexOk bs = true → False) := fun hg => by have := (hgood hg).2; omega
       clear hgood hnext t1 t2
       go_wp2_with (go_at_call 165; refine (HLow.out _).mono ?_; rintro e w' ⟨rfl, rfl⟩)
       all_goals go_ret2
       all_goals exact ⟨_, _, rfl, .inr (.inl rfl), fun hg => (HE.out hg).elim, HK.out⟩
      ·have HN : Hid (0 ≤ a * 16 + (L - 87) ∧ a * 16 + (L - 87) < 18446744073709551616 ∧ (hexOk bs = true → a * 16 + (L - 87) = hexVal (bs.take (k + 1)))) := ⟨by omega, by omega, fun hg => by
        rw [hnext hg]
        have := (hgood hg).1
        rcases t1 l2 with h | h
        ·omega
        ·rw [h]⟩
       have icut : a < 1152921504606846976 := by omega
       have iov : a * 16 + (L - 87) < 18446744073709551616 := by omega
       clear hcut hgood hnext t1 t2
       go_wp2_with (go_at_call 165; refine (HLow.out _).mono ?_; rintro e w' ⟨rfl, rfl⟩)
       all_goals refine ⟨⟨k + 1, a * 16 + (L - 87), rfl, (by first | rfl | (congr 1; omega)), (by first | rfl | (congr 1; omega)), by omega, HN⟩, by simp [intOf]; omega⟩
    ·have HE : Hid (hexOk bs = true → False) := fun hg => by have := (hgood hg).1; have := t3 (by omega); omega
     clear hgood hnext t1 t2 t3
     go_wp2_with (go_at_call 165; refine (HLow.out _).mono ?_; rintro e w' ⟨rfl, rfl⟩)
     all_goals go_ret2
     all_goals exact ⟨_, _, rfl, .inr (.inr rfl), fun hg => (HE.out hg).elim, HK.out⟩
  ·have hkk : k = t.size := by omega
   subst hkk
   have HE : Hid (hexOk bs = true → a = hexVal bs) := fun hg => by rw [hval hg, ← hLn, List.take_length]
   clear hval
   go_wp2
   go_ret2
   exact ⟨_, _, rfl, .inl rfl, fun hg => ⟨HE.out hg, rfl⟩, HK.out⟩
structure Gs (w : World) : Prop where
 gl : Gl w
 er : ∃ (a b : Addr) (ca cb : Array Value) (ta tb : TypeId), w.cell? ⟨2, 0, none⟩ = some (.iface 262 (.pointer (some a))) ∧ w.cell? ⟨8, 0, none⟩ = some (.iface 262 (.pointer (some b))) ∧ w.heap[a.block]? = some (.cells ca ta (0, 0)) ∧ w.heap[b.block]? = some (.cells cb tb (0, 0))
theorem Gs.same {w w' : World} (h : Gs w) (hk : Kept (fun _ => False) w w') : Gs w' := by
 obtain ⟨a, b, ca, cb, ta, tb, h1, h2, h3, h4⟩ := h.er
 exact ⟨h.gl.same hk, a, b, ca, cb, ta, tb, hk.cell h1 id, hk.cell h2 id, box_kept hk h3 id, box_kept hk h4 id⟩
theorem kept_below {w w' : World} (h : Below w.heap.size w w') : Kept (fun _ => False) w w' := ⟨h.os, h.tape, h.output, h.size, fun k hk _ => h.block k hk⟩
theorem uintP (t : ByteArray) (hmax : t.size ≤ 9000000) (w : World) (hG : Gs w) :
  Calls Tryz.prog 134 #[.string t, .int .i64 16, .int .i64 64] w fun e w' => ∃ (u : Int) (v : Value), e = .returned (.tuple #[.int .u64 u, v]) ∧ (hexOk t.data.toList = true → u = hexVal t.data.toList) ∧ Kept (fun _ => False) w w' := by
 have HU := hid_of (puint16 t hmax w)
 have HG := hid_of hG
 clear hG
 go_enter Tryz.func134, Tryz.ntmps134
 go_wp2_with fail
 refine HU.out.mono ?_
 rintro e w1 ⟨u, v, rfl, hv, hu, hk1⟩
 obtain ⟨a, b, ca, cb, ta, tb, h1, h2, h3, h4⟩ := (HG.out.same hk1).er
 have HX := hid_of hk1
 have HV := hid_of hu
 clear hk1 hu HU
 rcases hv with rfl | rfl | rfl
 ·go_wp2
  go_ret2
  exact ⟨_, _, rfl, fun h => (HV.out h).1, HX.out⟩
 ·have HT := hid_of (Any.strconv_toError_range { Tryz.laysC174 with } ⟨#[80, 97, 114, 115, 101, 85, 105, 110, 116]⟩ t 16 64 _ w1 (by omega) h1 (.inr ⟨_, _, rfl⟩))
  go_wp2_with fail
  refine HT.out.mono ?_
  rintro e w2 ⟨nb, rfl, hh1, hh2, hh3⟩
  have HK2 := hid_of (kept_below hh3)
  clear hh1 hh2 hh3 HT
  go_wp2
  go_ret2
  exact ⟨_, _, rfl, fun h => (HV.out h).1, HX.out.trans HK2.out⟩
 ·have HT := hid_of (Any.strconv_toError_syntax { Tryz.laysC174 with } ⟨#[80, 97, 114, 115, 101, 85, 105, 110, 116]⟩ t 16 64 _ w1 (by omega) h2 (.inr ⟨_, _, rfl⟩))
  go_wp2_with fail
  refine HT.out.mono ?_
  rintro e w2 ⟨nb, rfl, hh1, hh2, hh3⟩
  have HK2 := hid_of (kept_below hh3)
  clear hh1 hh2 hh3 HT
  go_wp2
  go_ret2
  exact ⟨_, _, rfl, fun h => (HV.out h).1, HX.out.trans HK2.out⟩
open Go.Extern.Stop Go.Stop Go.Extern
theorem isTypeOf (v : Value) (w : World) : (Extern.ReflectliteType.typeOf #[.iface 262 v]).run Tryz.prog w = .ok (.iface 245 (.agg #[.pointer (some ⟨9, 262, none⟩)])) w := by kernel_rfl
def cmpM : Array Value → Sem Value := Extern.ReflectliteType.method fun t => do Extern.Rtype.noPackHeld "Comparable" t; pure (.bool (← typeInfo t).comparable)
theorem isComparable (w : World) : (cmpM #[.agg #[.pointer (some ⟨9, 262, none⟩)]]).run Tryz.prog w = .ok (.bool true) w := by kernel_rfl
theorem isMethodComparable (v : Value) (w : World) : (Go.method 400 245 v "Comparable").run Tryz.prog w = .ok (214, v) w := by kernel_rfl
theorem isComp : (Tryz.prog.info? 262).map (·.comparable) = some true := by kernel_rfl
theorem isSize : (Tryz.prog.info? 264).map (·.size) = some 1 := by kernel_rfl
theorem noIsE (v : Value) (xT : TypeId) (w : World) : (Instr.typeAssert (.iface 262 v) xT 247 true).run Tryz.prog w = .ok (.tuple #[.nilIface, .bool false]) w := run_typeAssert_lacksB Tryz.underlying247 (by kernel_rfl) (by kernel_rfl) v xT w
theorem noUnwrapE (v : Value) (xT : TypeId) (w : World) : (Instr.typeAssert (.iface 262 v) xT 250 true).run Tryz.prog w = .ok (.tuple #[.nilIface, .bool false]) w := run_typeAssert_lacksB Tryz.underlying250 (by kernel_rfl) (by kernel_rfl) v xT w
theorem noUnwrapsE (v : Value) (xT : TypeId) (w : World) : (Instr.typeAssert (.iface 262 v) xT 252 true).run Tryz.prog w = .ok (.tuple #[.nilIface, .bool false]) w := run_typeAssert_lacksB Tryz.underlying252 (by kernel_rfl) (by kernel_rfl) v xT w
theorem noIsW (v : Value) (xT : TypeId) (w : World) : (Instr.typeAssert (.iface 234 v) xT 247 true).run Tryz.prog w = .ok (.tuple #[.nilIface, .bool false]) w := run_typeAssert_lacksB Tryz.underlying247 (by kernel_rfl) (by kernel_rfl) v xT w
theorem hasUnwrapW (v : Value) (xT : TypeId) (w : World) : (Instr.typeAssert (.iface 234 v) xT 250 true).run Tryz.prog w = .ok (.tuple #[.iface 234 v, .bool true]) w := run_typeAssert_hasB Tryz.underlying250 (by kernel_rfl) v xT w
theorem methodUnwrap (v : Value) (w : World) : (Go.method 400 234 v "Unwrap").run Tryz.prog w = .ok (210, v) w := by kernel_rfl
theorem errIs_nil (b : Addr) (w : World) :
  Calls Tryz.prog 137 #[.nilIface, .iface 262 (.pointer (some b))] w fun e w' => e = .returned (.bool false) ∧ w' = w := by
 have hn := run_eql_iface_nil_left (P := Tryz.prog) w 262 (.pointer (some b)) Tryz.underlying37
 go_enter Tryz.func137, Tryz.ntmps137
 go_wp2
 go_ret
 exact ⟨rfl, rfl⟩
set_option maxHeartbeats 4000000 in
theorem is_wrap_same (pb po : Nat) (b : Addr) (w : World) (h1 : w.cell? ⟨pb, po + 2, none⟩ = some (.iface 262 (.pointer (some b)))) :
  Calls Tryz.prog 137 #[.iface 234 (.pointer (some ⟨pb, po, none⟩)), .iface 262 (.pointer (some b))] w fun e w' => e = .returned (.bool true) ∧ w' = w := by
 obtain ⟨i, hi, hcmp⟩ := Option.map_eq_some_iff.1 isComp
 obtain ⟨j, hj, hjs⟩ := Option.map_eq_some_iff.1 isSize
 have h8 := @run_callFunc_extern Tryz.prog 158 _ Extern.ReflectliteType.typeOf Tryz.func158 (by kernel_rfl) (by kernel_rfl) (by kernel_rfl) (by kernel_rfl)
 have h32 := @run_callFunc_extern Tryz.prog 214 _ cmpM Tryz.func214 (by kernel_rfl) (by kernel_rfl) (by kernel_rfl) (by kernel_rfl)
 have tT := isTypeOf
 have cT := isComparable
 have mR := isMethodComparable
 have nE := noIsE
 have uE := noUnwrapE
 have vE := noUnwrapsE
 have nW := noIsW
 have uW := hasUnwrapW
 have mU := methodUnwrap
 have heq := run_eql_iface_ptr_same (P := Tryz.prog) w b Tryz.underlying37 Tryz.underlying262 hi hcmp hj
 have hty := run_eql_iface_types (P := Tryz.prog) 234 262 (.pointer (some ⟨pb, po, none⟩)) (.pointer (some b)) Tryz.underlying37 (by decide) w
 go_enter Tryz.func137, Tryz.ntmps137
 go_wp2
 refine wp_loop_rounds 2 ?_
 rw [rounds_succ]
 go_wp2
 rw [rounds_succ]
 go_wp2
 go_ret
 exact ⟨rfl, rfl⟩
set_option maxHeartbeats 4000000 in
theorem is_wrap_other (pb po : Nat) (b a : Addr) (ca cb : Array Value) (ta tb : TypeId) (w : World) (h1 : w.cell? ⟨pb, po + 2, none⟩ = some (.iface 262 (.pointer (some a)))) (hne : a ≠ b) (ha : w.heap[a.block]? = some (.cells ca ta (0, 0))) (hb : w.heap[b.block]? = some (.cells cb tb (0, 0))) :
  Calls Tryz.prog 137 #[.iface 234 (.pointer (some ⟨pb, po, none⟩)), .iface 262 (.pointer (some b))] w fun e w' => e = .returned (.bool false) ∧ w' = w := by
 obtain ⟨i, hi, hcmp⟩ := Option.map_eq_some_iff.1 isComp
 obtain ⟨j, hj, hjs⟩ := Option.map_eq_some_iff.1 isSize
 have h8 := @run_callFunc_extern Tryz.prog 158 _ Extern.ReflectliteType.typeOf Tryz.func158 (by kernel_rfl) (by kernel_rfl) (by kernel_rfl) (by kernel_rfl)
 have h32 := @run_callFunc_extern Tryz.prog 214 _ cmpM Tryz.func214 (by kernel_rfl) (by kernel_rfl) (by kernel_rfl) (by kernel_rfl)
 have tT := isTypeOf
 have cT := isComparable
 have mR := isMethodComparable
 have nE := noIsE
 have uE := noUnwrapE
 have vE := noUnwrapsE
 have nW := noIsW
 have uW := hasUnwrapW
 have mU := methodUnwrap
 have heq := run_eql_iface_ptr_other (P := Tryz.prog) w Tryz.underlying37 Tryz.underlying262 hi hcmp hj (by rw [hjs]; decide) hne ha hb
 have hty := run_eql_iface_types (P := Tryz.prog) 234 262 (.pointer (some ⟨pb, po, none⟩)) (.pointer (some b)) Tryz.underlying37 (by decide) w
 go_enter Tryz.func137, Tryz.ntmps137
 go_wp2
 refine wp_loop_rounds 2 ?_
 rw [rounds_succ]
 go_wp2
 rw [rounds_succ]
 go_wp2
 go_ret
 exact ⟨rfl, rfl⟩
end Go.Proofs.YtcahibbfejomcaaGreatDoor
