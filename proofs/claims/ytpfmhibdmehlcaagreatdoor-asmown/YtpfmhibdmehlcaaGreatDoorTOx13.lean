import Derived.Test.YtpfmhibdmehlcaaGreatDoorTOx12
import Derived.LaidEql
import Derived.Stop.Asserts
import Derived.RowKitTokens
import Derived.Shelf.Strconv.ToError
import Derived.Shelf.Strconv.ToErrorRange
import Derived.Shelf.Strings.SlTrimAscii
import Derived.Shelf.Strconv.ParseIntPublic10
import Derived.Lib.ParseIntB
namespace Go.Proofs.YtpfmhibdmehlcaaGreatDoor
open Go.RowKit
set_option linter.unusedVariables false
set_option linter.unusedSimpArgs false
set_option maxRecDepth 100000
structure Gs (w : World) : Prop where
 gl : Gl w
 er : ∃ (a b : Addr) (ca cb : Array Value) (ta tb : TypeId), w.cell? ⟨1, 0, none⟩ = some (.iface 267 (.pointer (some a))) ∧ w.cell? ⟨7, 0, none⟩ = some (.iface 267 (.pointer (some b))) ∧ w.heap[a.block]? = some (.cells ca ta (0, 0)) ∧ w.heap[b.block]? = some (.cells cb tb (0, 0))
theorem Gs.same {w w' : World} (h : Gs w) (hk : Kept (fun _ => False) w w') : Gs w' := by
 obtain ⟨a, b, ca, cb, ta, tb, h1, h2, h3, h4⟩ := h.er
 exact ⟨h.gl.same hk, a, b, ca, cb, ta, tb, hk.cell h1 id, hk.cell h2 id, box_kept hk h3 id, box_kept hk h4 id⟩
theorem kept_below {w w' : World} (h : Below w.heap.size w w') : Kept (fun _ => False) w w' := ⟨h.os, h.tape, h.output, h.size, fun k hk _ => h.block k hk⟩
theorem uintP (t : ByteArray) (hmax : t.size ≤ 9000000) (w : World) (hG : Gs w) :
  Calls Tryz.prog 125 #[.string t, .int .i64 16, .int .i64 64] w fun e w' => ∃ (u : Int) (v : Value), e = .returned (.tuple #[.int .u64 u, v]) ∧ (hexOk t.data.toList = true → u = hexVal t.data.toList) ∧ Kept (fun _ => False) w w' := by
 have HU := hid_of (puint16 t hmax w)
 have HG := hid_of hG
 clear hG
 go_enter Tryz.func125, Tryz.ntmps125
 go_wp2_with fail
 refine HU.out.mono ?_
 rintro e w1 ⟨u, v, rfl, hv, hu, hk1⟩
 obtain ⟨a, b, ca, cb, ta, tb, h1, h2, h3, h4⟩ := (HG.out.same hk1).er
 have HX := hid_of hk1
 have HV := hid_of hu
 clear hk1 hu HU
 rcases hv with rfl | rfl | rfl
 ·go_wp2
  go_ret2
  exact ⟨_, _, rfl, fun h => (HV.out h).1, HX.out⟩
 ·have HT := hid_of (Any.strconv_toError_range { Tryz.laysC174 with } ⟨#[80, 97, 114, 115, 101, 85, 105, 110, 116]⟩ t 16 64 _ w1 (by omega) h1 (.inr ⟨_, _, rfl⟩))
  go_wp2_with fail
  refine HT.out.mono ?_
  rintro e w2 ⟨nb, rfl, hh1, hh2, hh3⟩
  have HK2 := hid_of (kept_below hh3)
  clear hh1 hh2 hh3 HT
  go_wp2
  go_ret2
  exact ⟨_, _, rfl, fun h => (HV.out h).1, HX.out.trans HK2.out⟩
 ·have HT := hid_of (Any.strconv_toError_syntax { Tryz.laysC174 with } ⟨#[80, 97, 114, 115, 101, 85, 105, 110, 116]⟩ t 16 64 _ w1 (by omega) h2 (.inr ⟨_, _, rfl⟩))
  go_wp2_with fail
  refine HT.out.mono ?_
  rintro e w2 ⟨nb, rfl, hh1, hh2, hh3⟩
  have HK2 := hid_of (kept_below hh3)
  clear hh1 hh2 hh3 HT
  go_wp2
  go_ret2
  exact ⟨_, _, rfl, fun h => (HV.out h).1, HX.out.trans HK2.out⟩
open Go.Extern.Stop Go.Stop Go.Extern
theorem isTypeOf (v : Value) (w : World) : (Extern.ReflectliteType.typeOf #[.iface 267 v]).run Tryz.prog w = .ok (.iface 243 (.agg #[.pointer (some ⟨8, 267, none⟩)])) w := by kernel_rfl
def cmpM : Array Value → Sem Value := Extern.ReflectliteType.method fun t => do Extern.Rtype.noPackHeld "Comparable" t; pure (.bool (← typeInfo t).comparable)
theorem isComparable (w : World) : (cmpM #[.agg #[.pointer (some ⟨8, 267, none⟩)]]).run Tryz.prog w = .ok (.bool true) w := by kernel_rfl
theorem isMethodComparable (v : Value) (w : World) : (Go.method 403 243 v "Comparable").run Tryz.prog w = .ok (218, v) w := by kernel_rfl
theorem isComp : (Tryz.prog.info? 267).map (·.comparable) = some true := by kernel_rfl
theorem isSize : (Tryz.prog.info? 269).map (·.size) = some 1 := by kernel_rfl
theorem noIsE (v : Value) (xT : TypeId) (w : World) : (Instr.typeAssert (.iface 267 v) xT 245 true).run Tryz.prog w = .ok (.tuple #[.nilIface, .bool false]) w := run_typeAssert_lacksB Tryz.underlying245 (by kernel_rfl) (by kernel_rfl) v xT w
theorem noUnwrapE (v : Value) (xT : TypeId) (w : World) : (Instr.typeAssert (.iface 267 v) xT 248 true).run Tryz.prog w = .ok (.tuple #[.nilIface, .bool false]) w := run_typeAssert_lacksB Tryz.underlying248 (by kernel_rfl) (by kernel_rfl) v xT w
theorem noUnwrapsE (v : Value) (xT : TypeId) (w : World) : (Instr.typeAssert (.iface 267 v) xT 250 true).run Tryz.prog w = .ok (.tuple #[.nilIface, .bool false]) w := run_typeAssert_lacksB Tryz.underlying250 (by kernel_rfl) (by kernel_rfl) v xT w
theorem noIsW (v : Value) (xT : TypeId) (w : World) : (Instr.typeAssert (.iface 232 v) xT 245 true).run Tryz.prog w = .ok (.tuple #[.nilIface, .bool false]) w := run_typeAssert_lacksB Tryz.underlying245 (by kernel_rfl) (by kernel_rfl) v xT w
theorem hasUnwrapW (v : Value) (xT : TypeId) (w : World) : (Instr.typeAssert (.iface 232 v) xT 248 true).run Tryz.prog w = .ok (.tuple #[.iface 232 v, .bool true]) w := run_typeAssert_hasB Tryz.underlying248 (by kernel_rfl) v xT w
theorem methodUnwrap (v : Value) (w : World) : (Go.method 403 232 v "Unwrap").run Tryz.prog w = .ok (214, v) w := by kernel_rfl
theorem errIs_nil (b : Addr) (w : World) :
  Calls Tryz.prog 128 #[.nilIface, .iface 267 (.pointer (some b))] w fun e w' => e = .returned (.bool false) ∧ w' = w := by
 have hn := run_eql_iface_nil_left (P := Tryz.prog) w 267 (.pointer (some b)) Tryz.underlying32
 go_enter Tryz.func128, Tryz.ntmps128
 go_wp2
 go_ret
 exact ⟨rfl, rfl⟩
set_option maxHeartbeats 4000000 in
theorem is_wrap_same (pb po : Nat) (b : Addr) (w : World) (h1 : w.cell? ⟨pb, po + 2, none⟩ = some (.iface 267 (.pointer (some b)))) :
  Calls Tryz.prog 128 #[.iface 232 (.pointer (some ⟨pb, po, none⟩)), .iface 267 (.pointer (some b))] w fun e w' => e = .returned (.bool true) ∧ w' = w := by
 obtain ⟨i, hi, hcmp⟩ := Option.map_eq_some_iff.1 isComp
 obtain ⟨j, hj, hjs⟩ := Option.map_eq_some_iff.1 isSize
 have h8 := @run_callFunc_extern Tryz.prog 159 _ Extern.ReflectliteType.typeOf Tryz.func159 (by kernel_rfl) (by kernel_rfl) (by kernel_rfl) (by kernel_rfl)
 have h32 := @run_callFunc_extern Tryz.prog 218 _ cmpM Tryz.func218 (by kernel_rfl) (by kernel_rfl) (by kernel_rfl) (by kernel_rfl)
 have tT := isTypeOf
 have cT := isComparable
 have mR := isMethodComparable
 have nE := noIsE
 have uE := noUnwrapE
 have vE := noUnwrapsE
 have nW := noIsW
 have uW := hasUnwrapW
 have mU := methodUnwrap
 have heq := run_eql_iface_ptr_same (P := Tryz.prog) w b Tryz.underlying32 Tryz.underlying267 hi hcmp hj
 have hty := run_eql_iface_types (P := Tryz.prog) 232 267 (.pointer (some ⟨pb, po, none⟩)) (.pointer (some b)) Tryz.underlying32 (by decide) w
 go_enter Tryz.func128, Tryz.ntmps128
 go_wp2
 refine wp_loop_rounds 2 ?_
 rw [rounds_succ]
 go_wp2
 rw [rounds_succ]
 go_wp2
 go_ret
 exact ⟨rfl, rfl⟩
set_option maxHeartbeats 4000000 in
theorem is_wrap_other (pb po : Nat) (b a : Addr) (ca cb : Array Value) (ta tb : TypeId) (w : World) (h1 : w.cell? ⟨pb, po + 2, none⟩ = some (.iface 267 (.pointer (some a)))) (hne : a ≠ b) (ha : w.heap[a.block]? = some (.cells ca ta (0, 0))) (hb : w.heap[b.block]? = some (.cells cb tb (0, 0))) :
  Calls Tryz.prog 128 #[.iface 232 (.pointer (some ⟨pb, po, none⟩)), .iface 267 (.pointer (some b))] w fun e w' => e = .returned (.bool false) ∧ w' = w := by
 obtain ⟨i, hi, hcmp⟩ := Option.map_eq_some_iff.1 isComp
 obtain ⟨j, hj, hjs⟩ := Option.map_eq_some_iff.1 isSize
 have h8 := @run_callFunc_extern Tryz.prog 159 _ Extern.ReflectliteType.typeOf Tryz.func159 (by kernel_rfl) (by kernel_rfl) (by kernel_rfl) (by kernel_rfl)
 have h32 := @run_callFunc_extern Tryz.prog 218 _ cmpM Tryz.func218 (by kernel_rfl) (by kernel_rfl) (by kernel_rfl) (by kernel_rfl)
 have tT := isTypeOf
 have cT := isComparable
 have mR := isMethodComparable
 have nE := noIsE
 have uE := noUnwrapE
 have vE := noUnwrapsE
 have nW := noIsW
 have uW := hasUnwrapW
 have mU := methodUnwrap
 have heq := run_eql_iface_ptr_other (P := Tryz.prog) w Tryz.underlying32 Tryz.underlying267 hi hcmp hj (by rw [hjs]; decide) hne ha hb
 have hty := run_eql_iface_types (P := Tryz.prog) 232 267 (.pointer (some ⟨pb, po, none⟩)) (.pointer (some b)) Tryz.underlying32 (by decide) w
 go_enter Tryz.func128, Tryz.ntmps128
 go_wp2
 refine wp_loop_rounds 2 ?_
 rw [rounds_succ]
 go_wp2
 rw [rounds_succ]
 go_wp2
 go_ret
 exact ⟨rfl, rfl⟩
end Go.Proofs.YtpfmhibdmehlcaaGreatDoor
namespace Go.Proofs
open Go.Shelf
shelf_lay Lays.n160 Nm 160 at Tryz as Tryz.lays160
end Go.Proofs
namespace Go.Proofs.YtpfmhibdmehlcaaGreatDoor
open Go.RowKit Go.Shelf
set_option linter.unusedVariables false
set_option linter.unusedSimpArgs false
set_option maxRecDepth 100000
def madeP (l signs : List UInt8) : Bool := !l.isEmpty && l.all (signs.contains ·)
theorem dropW_nil (p : UInt8 → Bool) : ∀ l : List UInt8, l.dropWhile p = [] ↔ ∀ x ∈ l, p x = true
 | [] => by simp
 | a :: l => by
  rw [List.dropWhile_cons]
  cases h : p a with
  | false => simp [h]
  | true => simp [h, dropW_nil p l]
theorem dropW_ex (p : UInt8 → Bool) : ∀ l : List UInt8, l.dropWhile p ≠ [] → ∃ x, x ∈ l.dropWhile p ∧ p x = false
 | [], h => absurd rfl h
 | a :: l, h => by
  rw [List.dropWhile_cons] at h ⊢
  cases hp : p a with
  | false => exact ⟨a, by simp, hp⟩
  | true =>
   simp only [hp, if_true] at h ⊢
   exact dropW_ex p l h
theorem trimS_nil (l cs : List UInt8) : Lib.trimS l cs = [] ↔ l.all (cs.contains ·) = true := by
 unfold Lib.trimS Lib.trimLeftS Lib.trimRightS
 rw [dropW_nil, List.all_eq_true]
 constructor
 ·intro h x hx
  by_cases hc : (l.reverse.dropWhile (cs.contains ·)) = []
  ·rw [dropW_nil] at hc
   exact hc x (List.mem_reverse.2 hx)
  ·obtain ⟨y, hy, hyp⟩ := dropW_ex _ _ hc
   have h2 := h y (List.mem_reverse.2 hy)
   rw [hyp] at h2
   cases h2
 ·intro h x hx
  have := (List.dropWhile_sublist (l := l.reverse) (cs.contains ·)).subset (List.mem_reverse.1 hx)
  exact h x (List.mem_reverse.1 this)
set_option maxHeartbeats 4000000 in
theorem madeG (t sg : ByteArray) (hm : t.size ≤ 9000000) (hs : sg.size ≤ 1000) (hascii : ∀ (j : Nat) b, sg.data.toList[j]? = some b → b.toNat < 128) (w : World) :
  Calls Tryz.prog 126 #[.string t, .string sg] w fun e w' => e = .returned (.bool (madeP t.data.toList sg.data.toList)) ∧ Kept (fun _ => False) w w' := by
 by_cases h0 : t.size = 0
 ·have ht : t = ⟨#[]⟩ := by
   obtain ⟨⟨l⟩⟩ := t
   cases l with
   | nil => rfl
   | cons _ _ => simp [ByteArray.size] at h0
  subst ht
  go_enter Tryz.func126, Tryz.ntmps126
  go_wp2
  go_ret
  exact ⟨rfl, Kept.refl _ _⟩
 have hemp : t.toList.isEmpty = false := by
  rw [← decide_eq_emptyBytes]
  exact decide_eq_false (fun h => h0 (by rw [h]; rfl))
 have hne : t.data.toList ≠ [] := fun h => h0 (by rw [Lib.size_eq, h]; rfl)
 have HT := hid_of (Any.strings_Trim_ascii Tryz.lays160 zero211 (by kernel_rfl) t sg w (by omega) (by omega) hascii)
 have hP : madeP t.data.toList sg.data.toList = t.data.toList.all (sg.data.toList.contains ·) := by
  unfold madeP
  rw [show t.data.toList.isEmpty = false by simpa using hne]
  rfl
 have hX := trimS_nil t.data.toList sg.data.toList
 rw [← hP] at hX
 generalize madeP t.data.toList sg.data.toList = q at *
 generalize Lib.trimS t.data.toList sg.data.toList = x at *
 clear hP hascii hne
 by_cases hx : x = []
 ·have hq : q = true := hX.1 hx
  subst hx
  subst hq
  clear hX
  go_enter Tryz.func126, Tryz.ntmps126
  go_wp2_with fail
  refine HT.out.mono ?_
  rintro e w1 ⟨rfl, hb⟩
  have HK := hid_of (kept_below hb)
  clear hb HT
  go_wp2
  go_ret
  exact ⟨rfl, HK.out⟩
 ·have hq : q = false := by
   cases q with
   | false => rfl
   | true => exact absurd (hX.2 rfl) hx
  subst hq
  have hex : (⟨x.toArray⟩ : ByteArray).toList.isEmpty = false := by
   rw [← decide_eq_emptyBytes]
   exact decide_eq_false (fun h => hx (by
    have : x.toArray = #[] := congrArg ByteArray.data h
    simpa using this))
  generalize (⟨x.toArray⟩ : ByteArray) = xs at *
  clear hX hx
  go_enter Tryz.func126, Tryz.ntmps126
  go_wp2_with fail
  refine HT.out.mono ?_
  rintro e w1 ⟨rfl, hb⟩
  have HK := hid_of (kept_below hb)
  clear hb HT
  go_wp2
  go_ret
  exact ⟨rfl, HK.out⟩
def PIntR (l : List UInt8) (w : World) (e : Ending) (w' : World) : Prop :=
 ∃ (v : Int) (ev : Value), e = .returned (.tuple #[.int .i64 v, ev]) ∧ Kept (fun _ => False) w w' ∧
  ∃ (q : Bool) (tp : TypeId) (pv : Value), w'.cell? ⟨1, 0, none⟩ = some (.iface tp pv) ∧
   (Calls Tryz.prog 128 #[ev, .iface tp pv] w' fun e2 w2 => e2 = .returned (.bool q) ∧ w2 = w') ∧
   ((Lib.parseIntB 64 l = .ok v ∧ q = false) ∨ (Lib.parseIntB 64 l = .range ∧ v = Lib.intSat 64 l ∧ q = true) ∨ Lib.parseIntB 64 l = .syntax)
theorem pintG (t : ByteArray) (hmax : t.size ≤ 9000000) (w : World) (hG : Gs w) :
  Calls Tryz.prog 127 #[.string t, .int .i64 10, .int .i64 64] w (PIntR t.data.toList w) := by
 cases hp : Lib.parseIntB 64 t.data.toList with
 | ok v =>
  refine (Tryz.strconv_ParseInt_10_at64_ok t (by omega) v hp w).mono ?_
  rintro e w' ⟨rfl, hw⟩
  have hk : Kept (fun _ => False) w w' := by
   rcases hw with rfl | ⟨t, rfl⟩
   ·exact Kept.refl _ _
   ·exact kept_bytes _ _
  obtain ⟨a, b, ca, cb, ta, tb, h1, h2, h3, h4⟩ := (hG.same hk).er
  exact ⟨v, _, rfl, hk, false, _, _, h1, errIs_nil a w', .inl ⟨hp, rfl⟩⟩
 | range =>
  obtain ⟨a0, b0, _, _, _, _, g1, g2, _, _⟩ := hG.er
  refine (Any.strconv_ParseInt_10_at64_range Tryz.laysC174 t (by omega) hp _ w g1 (.inr ⟨_, _, rfl⟩)).mono ?_
  rintro e w' ⟨N, rfl, hN, hb, hbl⟩
  have hk := kept_below hbl
  obtain ⟨a, b, ca, cb, ta, tb, h1, h2, h3, h4⟩ := (hG.same hk).er
  have ea := Option.some.inj ((hk.cell g1 id).symm.trans h1)
  have ea : a0 = a := by injection ea with _ e; injection e with e; exact Option.some.inj e
  subst ea
  exact ⟨_, _, rfl, hk, true, _, _, h1, is_wrap_same N 0 a0 w' (cell_block _ _ 2 _ _ _ hb), .inr (.inl ⟨hp, rfl, rfl⟩)⟩
 | «syntax» =>
  obtain ⟨a0, b0, _, _, _, _, g1, g2, _, _⟩ := hG.er
  refine (Any.strconv_ParseInt_10_at64_syntax Tryz.laysC174 t (by omega) hp _ w g2 (.inr ⟨_, _, rfl⟩)).mono ?_
  rintro e w' ⟨N, rfl, hN, hb, hbl⟩
  have hk := kept_below hbl
  obtain ⟨a, b, ca, cb, ta, tb, h1, h2, h3, h4⟩ := (hG.same hk).er
  have eb := Option.some.inj ((hk.cell g2 id).symm.trans h2)
  have eb : b0 = b := by injection eb with _ e; injection e with e; exact Option.some.inj e
  subst eb
  by_cases hab : b0 = a
  ·subst hab
   exact ⟨_, _, rfl, hk, true, _, _, h1, is_wrap_same N 0 b0 w' (cell_block _ _ 2 _ _ _ hb), .inr (.inr hp)⟩
  ·exact ⟨_, _, rfl, hk, false, _, _, h1, is_wrap_other N 0 a b0 _ _ _ _ w' (cell_block _ _ 2 _ _ _ hb) hab h4 h3, .inr (.inr hp)⟩
end Go.Proofs.YtpfmhibdmehlcaaGreatDoor
namespace Go.Proofs.YtpfmhibdmehlcaaGreatDoor
open Go.RowKit
set_option linter.unusedVariables false
set_option linter.unusedSimpArgs false
set_option maxRecDepth 100000
def dgL : List UInt8 := [48, 49, 50, 51, 52, 53, 54, 55, 56, 57]
def okN (l : List UInt8) : Bool := if Lib.hasPrefix l [48, 120] then hexOk (Lib.trimPrefix l [48, 120]) else madeP (Lib.trimPrefix l [45]) dgL
def farN (l : List UInt8) : Bool := !Lib.hasPrefix l [48, 120] && (match Lib.parseIntB 64 l with | .range => true | _ => false)
def valN (l : List UInt8) : Int := if Lib.hasPrefix l [48, 120] then wrap64 (hexVal (Lib.trimPrefix l [48, 120])) else (match Lib.parseIntB 64 l with | .ok v => v | _ => Lib.intSat 64 l)
theorem hexOk_made (l : List UInt8) : hexOk l = (decide (l.length ≤ 16) && madeP l hexS.data.toList) := by
 have key : ∀ c : UInt8, hexS.data.toList.contains c = decide (0 ≤ hexP c.toNat) := fun c => by
  have : ∀ n : Nat, n < 256 → hexS.data.toList.contains n.toUInt8 = decide (0 ≤ hexP n) := by decide +kernel
  have e := this c.toNat (UInt8.toNat_lt c)
  rwa [show c.toNat.toUInt8 = c by simp] at e
 unfold hexOk madeP
 rw [show (hexS.data.toList.contains ·) = (fun c : UInt8 => decide (0 ≤ hexP c.toNat)) from funext key]
 cases l.isEmpty <;> cases decide (l.length ≤ 16) <;> simp
theorem uintM_syntax (M : Nat) : ∀ (l : List UInt8) (acc : Nat), Lib.parseUintM M acc l = .«syntax» → ∃ c ∈ l, dgL.contains c = false
 | [], acc, h => by simp [Lib.parseUintM] at h
 | c :: r, acc, h => by
  unfold Lib.parseUintM at h
  by_cases hd : 48 ≤ c.toNat ∧ c.toNat ≤ 57
  ·rw [if_pos hd] at h
   split at h
   ·cases h
   ·split at h
    ·cases h
    ·obtain ⟨x, hx, hn⟩ := uintM_syntax M r _ h
     exact ⟨x, List.mem_cons_of_mem _ hx, hn⟩
  ·refine ⟨c, List.mem_cons_self, ?_⟩
   have : ∀ n : Nat, n < 256 → ¬ (48 ≤ n ∧ n ≤ 57) → dgL.contains n.toUInt8 = false := by decide +kernel
   have e := this c.toNat (UInt8.toNat_lt c) hd
   rwa [show c.toNat.toUInt8 = c by simp] at e
theorem okN_parse (l : List UInt8) (h0 : Lib.hasPrefix l [48, 120] = false) (h : okN l = true) : Lib.parseIntB 64 l ≠ .«syntax» := by
 intro hs
 unfold okN at h
 rw [h0] at h
 simp only [Bool.false_eq_true, if_false] at h
 unfold madeP at h
 simp only [Bool.and_eq_true, Bool.not_eq_true', List.all_eq_true] at h
 obtain ⟨h1, h2⟩ := h
 cases l with
 | nil => simp [Lib.trimPrefix, Lib.hasPrefix] at h1
 | cons c r =>
  have e45 : Lib.hasPrefix (c :: r) [45] = decide (c.toNat = 45) := by
   simp only [Lib.hasPrefix, List.isPrefixOf, Bool.and_true]
   rw [Bool.eq_iff_iff, beq_iff_eq, decide_eq_true_eq]
   constructor
   ·rintro rfl; rfl
   ·intro e; exact (UInt8.toNat_inj.1 (by rw [e]; rfl))
  unfold Lib.parseIntB at hs
  unfold Lib.trimPrefix at h1 h2
  rw [e45] at h1 h2
  by_cases hc : c.toNat = 45
  ·simp only [hc, decide_true, if_true, List.drop_succ_cons, List.length_cons, List.length_nil, List.drop_zero, Nat.zero_add] at h1 h2
   simp only [hc, or_true, if_true] at hs
   have hr : r ≠ [] := by rintro rfl; cases h1
   cases hu : Lib.parseUintB 64 r with
   | «syntax» =>
    unfold Lib.parseUintB at hu
    rw [if_neg hr] at hu
    obtain ⟨x, hx, hn⟩ := uintM_syntax _ _ _ hu
    rw [h2 x hx] at hn
    cases hn
   | range => rw [hu] at hs; cases hs
   | ok u =>
    rw [hu] at hs
    simp only at hs
    split at hs
    ·cases hs
    ·split at hs <;> cases hs
  ·simp only [hc, decide_false, Bool.false_eq_true, if_false] at h1 h2
   have h43 : ¬ c.toNat = 43 := fun e => by
    have := h2 c List.mem_cons_self
    have e2 : c = 43 := UInt8.toNat_inj.1 (by rw [e]; rfl)
    rw [e2] at this
    exact absurd this (by decide)
   simp only [hc, h43, or_self, if_false] at hs
   cases hu : Lib.parseUintB 64 (c :: r) with
   | «syntax» =>
    unfold Lib.parseUintB at hu
    rw [if_neg (by simp)] at hu
    obtain ⟨x, hx, hn⟩ := uintM_syntax _ _ _ hu
    rw [h2 x hx] at hn
    cases hn
   | range => rw [hu] at hs; cases hs
   | ok u =>
    rw [hu] at hs
    simp only at hs
    split at hs
    ·cases hs
    ·split at hs <;> cases hs
def NumS (ok : Bool) (n0 : Int) (f0 : Bool) (w : World) (e : Ending) (w' : World) : Prop :=
 ∃ (n : Int) (f : Bool), e = .returned (.tuple #[.agg #[.int .i64 1, .string ⟨#[]⟩, .int .i64 n, .bool f], .bool ok]) ∧ (ok = true → n = n0 ∧ f = f0) ∧ Kept (fun _ => False) w w'
abbrev NumR (l : List UInt8) : World → Ending → World → Prop := NumS (okN l) (valN l) (farN l)
set_option maxHeartbeats 8000000 in
theorem numberedG (t : ByteArray) (hm : t.size ≤ 9000000) (w : World) (hG : Gs w) : Calls Tryz.prog 99 #[.string t] w (NumR t.data.toList w) := by
 have hk0 : Kept (fun _ => False) w (w.alloc (.cells #[.int .i64 0, .string ⟨#[]⟩, .int .i64 0, .bool false] 125)) := (Kept.refl _ _).alloc _
 have hb0 := heap_alloc_new w (.cells #[.int .i64 0, .string ⟨#[]⟩, .int .i64 0, .bool false] 125)
 have HG := hid_of (hG.same hk0)
 have HK := hid_of hk0
 have HB := hid_of hb0
 have htl : ∀ (l p : List UInt8), (Lib.trimPrefix l p).length ≤ l.length := fun l p => by
  unfold Lib.trimPrefix
  split
  ·rw [List.length_drop]; omega
  ·exact Nat.le_refl _
 have htm := htl t.data.toList [48, 120]
 have htm2 := htl t.data.toList [45]
 rw [← Lib.size_eq] at htm htm2
 by_cases hp : Lib.hasPrefix t.data.toList [48, 120] = true
 ·have hok : okN t.data.toList = hexOk (Lib.trimPrefix t.data.toList [48, 120]) := if_pos hp
  have hval : valN t.data.toList = wrap64 (hexVal (Lib.trimPrefix t.data.toList [48, 120])) := if_pos hp
  have hfar : farN t.data.toList = false := by unfold farN; rw [hp]; rfl
  show Calls _ _ _ _ (NumS _ _ _ w)
  rw [hok, hval, hfar, hexOk_made]
  obtain ⟨B, hB⟩ : ∃ B : ByteArray, B = ⟨(Lib.trimPrefix t.data.toList [48, 120]).toArray⟩ := ⟨_, rfl⟩
  have hBl : Lib.trimPrefix t.data.toList [48, 120] = B.data.toList := by rw [hB]
  have hCP : ∀ w, Calls Tryz.prog 124 #[.string t, .string ⟨#[48, 120]⟩] w fun e w' => e = .returned (.tuple #[.string B, .bool true]) ∧ w' = w := fun w => by
   have h := Tryz.strings_CutPrefix t ⟨#[48, 120]⟩ w
   rw [show Lib.hasPrefix t.data.toList (ByteArray.mk #[48, 120]).data.toList = true from hp] at h
   rw [hB]
   exact h
  rw [hBl] at htm ⊢
  rw [← Lib.size_eq] at htm ⊢
  have HCP := hid_of hCP
  have HU := hid_of (fun w hG => uintP B (by omega) w hG)
  have HMD := hid_of (madeG B hexS (by omega) (by decide) (fun j b hj => by
   obtain ⟨h1, h2⟩ := List.getElem?_eq_some_iff.1 hj
   have : ∀ j, (h : j < hexS.data.toList.length) → (hexS.data.toList[j]'h).toNat < 128 := by decide
   rw [← h2]; exact this j h1))
  have hok2 : decide (B.size ≤ 16) = true → madeP B.data.toList hexS.data.toList = true → hexOk B.data.toList = true := fun h1 h2 => by
   rw [hexOk_made, ← Lib.size_eq, h1, h2]; rfl
  have HOK := hid_of hok2
  generalize madeP B.data.toList hexS.data.toList = q at *
  clear hok hval hfar htm htm2 hG hk0 hb0 htl hCP hB hBl hok2 hp
  by_cases hs : B.size ≤ 16
  ·have hs' : decide (B.size ≤ 16) = true := decide_eq_true hs
   rw [hs'] at HOK
   rw [hs', Bool.true_and]
   have hsi : (B.size : Int) ≤ 16 := by omega
   clear hs hs'
   go_enter Tryz.func99, Tryz.ntmps99
   go_upto_region 1 with fail
   generalize w.alloc (.cells #[.int .i64 0, .string ⟨#[]⟩, .int .i64 0, .bool false] 125) = w1 at *
   obtain ⟨g, hg⟩ := nmd (w.heap.size)
   rw [← hg] at HB ⊢
   have HGW : Hid (w.heap.size ≤ g) := by rw [hg]; exact Nat.le_refl _
   clear hg
   go_wp2_with fail
   refine (HCP.out w1).mono ?_
   rintro e w2 ⟨rfl, hw⟩
   have hw := hw.symm
   subst hw
   clear HCP
   go_wp2_with fail
   refine (HU.out w1 HG.out).mono ?_
   rintro e w2 ⟨u, v, rfl, hu, hk2⟩
   have HUV := hid_of hu
   have HK2 := hid_of (HK.out.trans hk2)
   have HB2 := hid_of (box_kept hk2 HB.out id)
   clear hu hk2 HU HG HB HK
   go_wp2_with fail
   refine (HMD.out w2).mono ?_
   rintro e w3 ⟨rfl, hk3⟩
   have hb3 := box_kept hk3 HB2.out id
   obtain ⟨hx, hkx⟩ := set4 w3 g 125 _ _ _ _ (.int .i64 1) (.string ⟨#[]⟩) (.int .i64 (wrap64 u)) (.bool false) hb3
   obtain ⟨c0, c1, c2, c3, f0, f1, f2, f3⟩ := look4 hb3
   have HX := hid_of hx
   have HKX := hid_of ((HK2.out.trans hk3).step hkx (fun i hi e => by have := HGW.out; omega))
   clear hx hkx hb3 hk3 HMD HK2 HB2
   go_wp2
   refine bodyPost_ret (v := .tuple #[.agg #[.int .i64 1, .string ⟨#[]⟩, .int .i64 (wrap64 u), .bool false], .bool q]) ?_ rfl ⟨_, _, rfl, fun hq => ⟨?_, rfl⟩, HKX.out⟩
   ·exact results_row_tmp (by rfl) _ _ ⟨g, 0, none⟩ _ _ (by rfl) (by rfl) (run_loadVar_row _ g 125 125 _ (0, 0) _ HX.out Tryz.underlying125 rfl size82)
   ·rw [HUV.out (HOK.out (by trivial) hq)]
  ·have hs' : decide (B.size ≤ 16) = false := decide_eq_false hs
   rw [hs', Bool.false_and]
   have hsi : ¬ (B.size : Int) ≤ 16 := by omega
   clear hs hs' HMD HOK
   go_enter Tryz.func99, Tryz.ntmps99
   go_upto_region 1 with fail
   generalize w.alloc (.cells #[.int .i64 0, .string ⟨#[]⟩, .int .i64 0, .bool false] 125) = w1 at *
   obtain ⟨g, hg⟩ := nmd (w.heap.size)
   rw [← hg] at HB ⊢
   have HGW : Hid (w.heap.size ≤ g) := by rw [hg]; exact Nat.le_refl _
   clear hg
   go_wp2_with fail
   refine (HCP.out w1).mono ?_
   rintro e w2 ⟨rfl, hw⟩
   have hw := hw.symm
   subst hw
   clear HCP
   go_wp2_with fail
   refine (HU.out w1 HG.out).mono ?_
   rintro e w2 ⟨u, v, rfl, hu, hk2⟩
   have hb3 := box_kept hk2 HB.out id
   obtain ⟨hx, hkx⟩ := set4 w2 g 125 _ _ _ _ (.int .i64 1) (.string ⟨#[]⟩) (.int .i64 (wrap64 u)) (.bool false) hb3
   obtain ⟨c0, c1, c2, c3, f0, f1, f2, f3⟩ := look4 hb3
   have HX := hid_of hx
   have HKX := hid_of ((HK.out.trans hk2).step hkx (fun i hi e => by have := HGW.out; omega))
   clear hx hkx hb3 hu hk2 HU HG HB HK
   go_wp2
   refine bodyPost_ret (v := .tuple #[.agg #[.int .i64 1, .string ⟨#[]⟩, .int .i64 (wrap64 u), .bool false], .bool false]) ?_ rfl ⟨_, _, rfl, fun hq => absurd hq (by decide), HKX.out⟩
   exact results_row_tmp (by rfl) _ _ ⟨g, 0, none⟩ _ _ (by rfl) (by rfl) (run_loadVar_row _ g 125 125 _ (0, 0) _ HX.out Tryz.underlying125 rfl size82)
 ·have hpf : Lib.hasPrefix t.data.toList [48, 120] = false := by simpa using hp
  have hok : okN t.data.toList = madeP (Lib.trimPrefix t.data.toList [45]) dgL := if_neg hp
  have hend : ∀ (v : Int) (q : Bool), ((Lib.parseIntB 64 t.data.toList = .ok v ∧ q = false) ∨ (Lib.parseIntB 64 t.data.toList = .range ∧ v = Lib.intSat 64 t.data.toList ∧ q = true) ∨ Lib.parseIntB 64 t.data.toList = .«syntax») → okN t.data.toList = true → v = valN t.data.toList ∧ q = farN t.data.toList := fun v q hc hk => by
   have hns := okN_parse t.data.toList hpf hk
   unfold valN farN
   rw [hpf]
   rcases hc with ⟨h1, h2⟩ | ⟨h1, h2, h3⟩ | h1
   ·rw [h1, h2]; exact ⟨rfl, rfl⟩
   ·rw [h1, h2, h3]; exact ⟨rfl, rfl⟩
   ·exact absurd h1 hns
  have HEND := hid_of hend
  show Calls _ _ _ _ (NumS _ _ _ w)
  rw [hok] at HEND ⊢
  obtain ⟨D, hD⟩ : ∃ D : ByteArray, D = ⟨(Lib.trimPrefix t.data.toList [45]).toArray⟩ := ⟨_, rfl⟩
  have hDl : Lib.trimPrefix t.data.toList [45] = D.data.toList := by rw [hD]
  have hTP : ∀ w, Calls Tryz.prog 129 #[.string t, .string ⟨#[45]⟩] w fun e w' => e = .returned (.string D) ∧ w' = w := fun w => by
   have h := Tryz.strings_TrimPrefix t ⟨#[45]⟩ w
   rw [hD]
   exact h
  have hCP : ∀ w, ∃ B : ByteArray, Calls Tryz.prog 124 #[.string t, .string ⟨#[48, 120]⟩] w fun e w' => e = .returned (.tuple #[.string B, .bool false]) ∧ w' = w := fun w => by
   have h := Tryz.strings_CutPrefix t ⟨#[48, 120]⟩ w
   rw [show Lib.hasPrefix t.data.toList (ByteArray.mk #[48, 120]).data.toList = false from hpf] at h
   exact ⟨_, h⟩
  rw [hDl] at htm2 HEND ⊢
  rw [← Lib.size_eq] at htm2
  have HCP := hid_of hCP
  have HTP := hid_of hTP
  have HPI := hid_of (fun w hG => pintG t hm w hG)
  have HMD := hid_of (madeG D dgs (by omega) (by decide) (fun j b hj => by
   obtain ⟨h1, h2⟩ := List.getElem?_eq_some_iff.1 hj
   have : ∀ j, (h : j < dgs.data.toList.length) → (dgs.data.toList[j]'h).toNat < 128 := by decide
   rw [← h2]; exact this j h1))
  rw [show dgs.data.toList = dgL from rfl] at HMD
  generalize madeP D.data.toList dgL = q0 at *
  clear hok htm htm2 hG hk0 hb0 htl hCP hTP hD hDl hend hp hpf
  go_enter Tryz.func99, Tryz.ntmps99
  go_upto_region 1 with fail
  generalize w.alloc (.cells #[.int .i64 0, .string ⟨#[]⟩, .int .i64 0, .bool false] 125) = w1 at *
  obtain ⟨g, hg⟩ := nmd (w.heap.size)
  rw [← hg] at HB ⊢
  have HGW : Hid (w.heap.size ≤ g) := by rw [hg]; exact Nat.le_refl _
  clear hg
  go_wp2_with fail
  obtain ⟨B, hCB⟩ := HCP.out w1
  refine hCB.mono ?_
  clear hCB
  rintro e w2 ⟨rfl, hw⟩
  have hw := hw.symm
  subst hw
  clear HCP
  go_wp2_with fail
  refine (HPI.out w1 HG.out).mono ?_
  rintro e w2 ⟨v, ev, rfl, hk2, q, tp, pv, q2, hIS, hcase⟩
  have HE2 := hid_of (HEND.out v q hcase)
  have HIS := hid_of hIS
  have HK2 := hid_of (HK.out.trans hk2)
  have HB2 := hid_of (box_kept hk2 HB.out id)
  clear hk2 hIS hcase HPI HG HB HK HEND
  go_wp2_with fail
  refine HIS.out.mono ?_
  rintro e w3 ⟨rfl, hw⟩
  have hw := hw.symm
  subst hw
  clear HIS q2
  go_wp2_with fail
  refine (HTP.out w2).mono ?_
  rintro e w3 ⟨rfl, hw⟩
  have hw := hw.symm
  subst hw
  clear HTP
  go_wp2_with fail
  refine (HMD.out w2).mono ?_
  rintro e w3 ⟨rfl, hk3⟩
  have hb3 := box_kept hk3 HB2.out id
  obtain ⟨hx, hkx⟩ := set4 w3 g 125 _ _ _ _ (.int .i64 1) (.string ⟨#[]⟩) (.int .i64 v) (.bool q) hb3
  obtain ⟨c0, c1, c2, c3, f0, f1, f2, f3⟩ := look4 hb3
  have HX := hid_of hx
  have HKX := hid_of ((HK2.out.trans hk3).step hkx (fun i hi e => by have := HGW.out; omega))
  clear hx hkx hb3 hk3 HMD HK2 HB2
  go_wp2
  refine bodyPost_ret (v := .tuple #[.agg #[.int .i64 1, .string ⟨#[]⟩, .int .i64 v, .bool q], .bool q0]) ?_ rfl ⟨_, _, rfl, HE2.out, HKX.out⟩
  exact results_row_tmp (by rfl) _ _ ⟨g, 0, none⟩ _ _ (by rfl) (by rfl) (run_loadVar_row _ g 125 125 _ (0, 0) _ HX.out Tryz.underlying125 rfl size82)
end Go.Proofs.YtpfmhibdmehlcaaGreatDoor
