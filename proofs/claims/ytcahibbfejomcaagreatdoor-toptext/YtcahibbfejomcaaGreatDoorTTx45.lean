import Derived.Test.YtcahibbfejomcaaGreatDoorTTx5
import Derived.Test.YtcahibbfejomcaaGreatDoorTTx4
import Derived.Test.YtcahibbfejomcaaGreatDoorTTx41
import Derived.Test.YtcahibbfejomcaaGreatDoorTTx42
import Derived.Test.YtcahibbfejomcaaGreatDoorTTx2
import Derived.Laws.StructEq
import Derived.Test.YtcahibbfejomcaaGreatDoorTTx33
import Derived.Deep.MidRow
import Derived.Test.YtcahibbfejomcaaGreatDoorTTx35
import Derived.Test.YtcahibbfejomcaaGreatDoorTTx29
import Derived.Deep.Strs
import Derived.Laws.IdiomStrings
import Derived.Test.YtcahibbfejomcaaGreatDoorTTx3
import Derived.Test.YtcahibbfejomcaaGreatDoorTTx11
import Derived.Laws.BytesString
import Derived.Laws.IdiomCopy
import Derived.Lib.ConvBytes
import Derived.Deep.QuietTactic
import Derived.BigQuiet
import Derived.Test.YtcahibbfejomcaaGreatDoorTTx43
import Derived.Test.YtcahibbfejomcaaGreatDoorTTx44
import Derived.Test.YtcahibbfejomcaaGreatDoorTTx39
import Derived.Test.YtcahibbfejomcaaGreatDoorTTx40
import Derived.Laws.BitsAllLaws
import Derived.ProofKit
namespace Go.Proofs.YtcahibbfejomcaaGreatDoor
open Go.ChangeShapes Go.WideShapes Go.ChangeAt Go.RowKit Go.Deep
set_option linter.unusedVariables false
set_option linter.unusedSimpArgs false
set_option maxRecDepth 100000
def e_fnD (xs : List Int) : Except Int (FN × List Int) :=
 match numD xs with
 | .error f => .error f
 | .ok (a, r1) => match numD r1 with
  | .error f => .error f
  | .ok (l, r2) => match numD r2 with
   | .error f => .error f
   | .ok (r, r3) => match bytesD r3 with
    | .error f => .error f
    | .ok (bs, r4) => match decD bs with
     | .error f => .error f
     | .ok ys => .ok (⟨a, l, r, ys⟩, r4)
def e_fnsD : Nat → List Int → Except Int (List FN × List Int)
 | 0, xs => .ok ([], xs)
 | n + 1, xs => match e_fnD xs with
  | .error f => .error f
  | .ok (F, r) => match e_fnsD n r with
   | .error f => .error f
   | .ok (fs, r') => .ok (F :: fs, r')
def e_progD (xs : List Int) : Except Int (PG × List Int) :=
 match numD xs with
 | .error f => .error f
 | .ok (t, r0) => if t = 2 then match numD r0 with
   | .error f => .error f
   | .ok (mem, r1) => match bytesD r1 with
    | .error f => .error f
    | .ok (d, r2) => match numD r2 with
     | .error f => .error f
     | .ok (n, r3) => if 64 < n then .error 121 else match e_fnsD n.toNat r3 with
      | .error f => .error f
      | .ok (fs, r4) => .ok (⟨mem, d, fs⟩, r4)
  else .error 52
def decPD (xs : List Int) : Except Int PG :=
 if 1048576 < xs.length then .error 2 else match e_progD xs with
  | .error f => .error f
  | .ok (p, rest) => if rest.length = 0 then (if checkP p = 0 then .ok p else .error (checkP p)) else .error 13
end Go.Proofs.YtcahibbfejomcaaGreatDoor
namespace Go.Proofs.YtcahibbfejomcaaGreatDoor
open Go.RowKit
set_option linter.unusedVariables false
set_option linter.unusedSimpArgs false
theorem bytesD_put (bs rest : List Int) (hl : bs.length ≤ 9223372036854775807) : bytesD ((Mth.form bs.length ++ bs) ++ rest) = .ok (bs, rest) := by
 unfold bytesD
 rw [List.append_assoc, numD_form (bs.length : Int) (bs ++ rest) (by omega) (by omega)]
 dsimp only
 unfold rawD
 rw [if_neg (by omega), if_neg (by rw [List.length_append]; omega)]
 simp
theorem fnD_put {F : FN} (rest : List Int) (ha : 0 ≤ F.a ∧ F.a ≤ 16) (hl : 0 ≤ F.l ∧ F.l ≤ 64) (hr : 0 ≤ F.r ∧ F.r ≤ 1) (hc : ∀ y ∈ F.code, y.Ok) (he : encE F.code = 0) : e_fnD (fnB F ++ rest) = .ok (F, rest) := by
 have hb := right_bytes hc he
 unfold e_fnD
 rw [show fnB F ++ rest = Mth.form F.a ++ (Mth.form F.l ++ (Mth.form F.r ++ ((Mth.form (encB F.code).length ++ encB F.code) ++ rest))) by simp only [fnB, List.append_assoc]]
 rw [numD_form _ _ ha.1 (by omega)]
 dsimp only
 rw [numD_form _ _ hl.1 (by omega)]
 dsimp only
 rw [numD_form _ _ hr.1 (by omega)]
 dsimp only
 rw [bytesD_put _ _ (by omega)]
 dsimp only
 rw [right_dec hc he]
theorem fnsD_put : ∀ (fs : List FN) (rest : List Int), (∀ f ∈ fs, ((0 ≤ f.a ∧ f.a ≤ 16) ∧ (0 ≤ f.l ∧ f.l ≤ 64) ∧ (0 ≤ f.r ∧ f.r ≤ 1)) ∧ encE f.code = 0) → (∀ f ∈ fs, f.Ok) → e_fnsD fs.length (fs.flatMap fnB ++ rest) = .ok (fs, rest)
 | [], rest, _, _ => rfl
 | F :: fs, rest, h, ho => by
  obtain ⟨⟨h1, h2, h3⟩, h4⟩ := h F (by simp)
  rw [List.length_cons, e_fnsD, List.flatMap_cons, List.append_assoc, fnD_put _ h1 h2 h3 (ho F (by simp)).code h4]
  dsimp only
  rw [fnsD_put fs rest (fun f hf => h f (by simp [hf])) (fun f hf => ho f (by simp [hf]))]
theorem progD_put {p : PG} (rest : List Int) (ho : p.Ok) (h : checkP p = 0) : e_progD (bytesP p ++ rest) = .ok (p, rest) := by
 obtain ⟨hm, hd, hf1, hf2, hfs⟩ := checkP_zero h
 unfold e_progD
 rw [show bytesP p ++ rest = Mth.form 2 ++ (Mth.form p.mem ++ ((Mth.form p.data.length ++ p.data) ++ (Mth.form p.fns.length ++ (p.fns.flatMap fnB ++ rest)))) by simp only [bytesP, headB, List.append_assoc]]
 rw [numD_form 2 _ (by omega) (by omega)]
 dsimp only
 rw [if_pos rfl, numD_form _ _ hm.1 (by omega)]
 dsimp only
 rw [bytesD_put _ _ (by omega)]
 dsimp only
 rw [numD_form (p.fns.length : Int) _ (by omega) (by omega)]
 dsimp only
 rw [if_neg (by omega), Int.toNat_natCast, fnsD_put _ _ hfs ho.fns]
theorem encPE_zero {p : PG} (h : encPE p = 0) : checkP p = 0 ∧ (bytesP p).length ≤ 1048576 := by
 unfold encPE at h
 split at h
 ·rename_i hc
  split at h
  ·cases h
  ·exact ⟨hc, by omega⟩
 ·rename_i hc; exact absurd h hc
theorem right_decP {p : PG} (ho : p.Ok) (h : encPE p = 0) : decPD (bytesP p) = .ok p := by
 obtain ⟨h1, h2⟩ := encPE_zero h
 have h3 := progD_put [] ho h1
 rw [List.append_nil] at h3
 unfold decPD
 rw [if_neg (by omega), h3]
 dsimp only
 rw [if_pos (show ([] : List Int).length = 0 from rfl), if_pos h1]
theorem bytesP_ok {p : PG} (ho : p.Ok) (h : checkP p = 0) (hl : (bytesP p).length ≤ 140737488351232) : BytesOk (bytesP p) := by
 obtain ⟨hm, hd, hf1, hf2, hfs⟩ := checkP_zero h
 refine ⟨fun x hx => ?_, hl⟩
 simp only [bytesP, headB, List.mem_append] at hx
 rcases hx with (((hx | hx) | (hx | hx)) | hx) | hx
 ·exact form_byte 2 (by omega) (by omega) x hx
 ·exact form_byte _ hm.1 (by omega) x hx
 ·exact form_byte _ (by omega) (by omega) x hx
 ·exact ho.data.1 x hx
 ·exact form_byte _ (by omega) (by omega) x hx
 ·obtain ⟨F, hF, hx⟩ := List.mem_flatMap.1 hx
  obtain ⟨⟨r1, r2, r3⟩, r4⟩ := hfs F hF
  have hb := right_bytes (ho.fns F hF).code r4
  simp only [fnB, List.mem_append] at hx
  rcases hx with ((hx | hx) | hx) | (hx | hx)
  ·exact form_byte _ r1.1 (by omega) x hx
  ·exact form_byte _ r2.1 (by omega) x hx
  ·exact form_byte _ r3.1 (by omega) x hx
  ·exact form_byte _ (by omega) (by omega) x hx
  ·exact hb.1.1 x hx
theorem sameFs_eq : ∀ {fs gs : List FN}, sameFs fs gs = true → fs = gs
 | [], [], _ => rfl
 | [], _ :: _, h => by cases h
 | _ :: _, [], h => by cases h
 | f :: fs, g :: gs, h => by
  rw [sameFs, Bool.and_eq_true] at h
  obtain ⟨h1, h2⟩ := h
  rw [sameFs_eq h2]
  unfold sameF at h1
  simp only [Bool.and_eq_true, beq_iff_eq] at h1
  obtain ⟨a1, a2, a3, a4⟩ := h1
  obtain ⟨fa, fl, fr, fc⟩ := f
  obtain ⟨ga, gl, gr, gc⟩ := g
  dsimp only at a1 a2 a3 a4
  rw [a1, a2, a3, sameI_eq a4]
theorem sameP_eq {p q : PG} (hp : p.Ok) (hq : q.Ok) (h : sameP p q = true) : p = q := by
 unfold sameP at h
 rw [str_eq _ _ hp.data.1 hq.data.1] at h
 simp only [Bool.and_eq_true, beq_iff_eq, decide_eq_true_eq] at h
 obtain ⟨h1, h2, h3⟩ := h
 obtain ⟨pm, pd, pf⟩ := p
 obtain ⟨qm, qd, qf⟩ := q
 dsimp only at h1 h2 h3
 rw [h1, h2, sameFs_eq h3]
theorem right_sameP {p q : PG} (hp : p.Ok) (hq : q.Ok) (h : encPE p = 0) (h' : encPE q = 0) : ((str (bytesP p)).toList == (str (bytesP q)).toList) = sameP p q := by
 have k := encPE_zero h
 have k' := encPE_zero h'
 rw [str_eq _ _ (bytesP_ok hp k.1 (by omega)).1 (bytesP_ok hq k'.1 (by omega)).1]
 by_cases e : bytesP p = bytesP q
 ·have h1 := right_decP hp h
  rw [e, right_decP hq h'] at h1
  cases h1
  rw [sameP_refl, decide_eq_true rfl]
 ·rw [decide_eq_false e]
  cases hs : sameP p q with
  | false => rfl
  | true => exact absurd (by rw [sameP_eq hp hq hs]) e
end Go.Proofs.YtcahibbfejomcaaGreatDoor
namespace Go.Proofs.YtcahibbfejomcaaGreatDoor
open Go.RowKit
set_option linter.unusedVariables false
set_option linter.unusedSimpArgs false
set_option maxRecDepth 100000
theorem fld45 (fa : Option Addr) (fc : Nat) (w : World) : (Instr.field 45 (.agg #[.int .i64 0, .slice none 0 0, .slice fa 1 fc, .slice none 0 0, .int .i64 9, .int .i64 0, .int .i64 9, .int .i64 0, .int .i64 0, .int .i64 0, .int .i64 1, .int .i64 0, .slice none 0 0, .bool false]) 0).run Tryz.prog w = .ok (.agg #[.int .i64 0, .slice none 0 0, .slice fa 1 fc]) w := by kernel_rfl
theorem eqSt7 (w : World) : (binOp .eql 9 (.string out7) (.string out7)).run Tryz.prog w = .ok (.bool true) w := by kernel_rfl
theorem eeNil2 (w : World) : (binOp .eql 37 .nilIface .nilIface).run Tryz.prog w = .ok (.bool true) w := by kernel_rfl
set_option maxHeartbeats 16000000 in
theorem knownText_any (w : World) (hG : Gs w) : Calls Tryz.prog 4 #[] w fun e w' => e = .returned (.bool true) ∧ Kept (fun _ => False) w w' := by
 have HG := hid_of hG
 clear hG
 go_enter Tryz.func4, Tryz.ntmps4
 go_wp2_with fail
 refine (seven_any w).mono ?_
 rintro e w1 ⟨fa, fc, rfl, hp1, hk1⟩
 have hpr := print_any _ p7 _ w1 ((HG.out.same hk1).gl) (pg_seven _ _ _ hp1) (Nat.le_refl _) p7_ok
 rw [p7_printed.1, p7_printed.2] at hpr
 have HPR := hid_of hpr
 have HK1 := hid_of hk1
 clear hp1 hk1 hpr
 have hfl := fld45 fa fc
 go_wp2_with fail
 refine HPR.out.mono ?_
 rintro e w2 ⟨rfl, hk2⟩
 have hpb := parse_back p7 w2 (HG.out.same (HK1.out.trans hk2)) p7_printed.1 p7_ok
 rw [p7_printed.2] at hpb
 have HPB := hid_of hpb
 have HK2 := hid_of (HK1.out.trans hk2)
 clear hk2 HPR hpb HK1 hfl
 go_wp2_with fail
 refine HPB.out.mono ?_
 rintro e w3 ⟨hk3, ym, yda, ydn, ydc, yfa, yfn, yfc, rfl, hpy⟩
 have hkc : Kept (fun _ => False) w3 (w3.alloc (.cells #[.int .i64 ym, .slice yda ydn ydc, .slice yfa yfn yfc] 25)) := (Kept.refl _ _).alloc _
 have HY := hid_of (heap_alloc_new w3 (.cells #[.int .i64 ym, .slice yda ydn ydc, .slice yfa yfn yfc] 25))
 have HPY := hid_of (hpy.kept hkc (fun _ _ f => f))
 have HK4 := hid_of (HK2.out.trans (hk3.trans hkc))
 have HLY : Hid (w3.heap.size ≤ (w3.alloc (.cells #[.int .i64 ym, .slice yda ydn ydc, .slice yfa yfn yfc] 25)).heap.size) := hkc.size
 clear hk3 hkc hpy HPB HK2
 go_upto_region 3 with fail
 generalize w3.alloc (.cells #[.int .i64 ym, .slice yda ydn ydc, .slice yfa yfn yfc] 25) = w4 at *
 generalize w3.heap.size = gy at *
 have hKwd : Kept (fun _ => False) w4 w4.drew := (Kept.refl _ _).drew
 have HSM : Hid (∀ w', Kept (fun _ => False) w4 w' → w'.cell? ⟨gy, 0, none⟩ = some (.int .i64 ym) ∧ w'.cell? ⟨gy, 1, none⟩ = some (.slice yda ydn ydc) ∧ w'.cell? ⟨gy, 2, none⟩ = some (.slice yfa yfn yfc)) := fun w' hw =>
  ⟨hw.cell (cell_block _ _ 0 _ _ _ HY.out) id, hw.cell (cell_block _ _ 1 _ _ _ HY.out) id, hw.cell (cell_block _ _ 2 _ _ _ HY.out) id⟩
 refine wp_region_held_drew (S := fun w' => Kept (fun _ => False) w4 w') (by kernel_rfl) ((Kept.refl _ _).drew) (fun hHeld => ?_)
 generalize w4.drew = wd at *
 have HO := hid_of (seven_any wd)
 iterate 12
  refine tkn (v := ?_) 0 rfl ?_ ?_; rotate_left 1
  ·intro w hSw; obtain ⟨s0, s1, s2⟩ := HSM.out w hSw; have s3 := eeNil2 w; have s4 := eqSt7 w; go_simp; try with_reducible rfl
  try simp only [Act.put, tdy]
 refine rdy 12 rfl (fun K hK => ?_)
 go_simp
 refine HO.out.mono ?_
 rintro e w5 ⟨fa5, fc5, rfl, hp5, hk5⟩
 have hLY := HLY.out
 have HSA := hid_of (same_p _ _ p7 p7 w5 w5.heap.size ((HPY.out.kept hKwd (fun _ _ f => f)).kept hk5 (fun _ _ f => f) |>.up (by have := hKwd.size; have := hk5.size; omega)) (pg_seven _ _ _ hp5) (Nat.le_refl _) p7_ok p7_ok)
 have HK5 := hid_of (hKwd.trans hk5)
 refine hK.out _ _ (hKwd.trans hk5) (fun hHeld => ?_)
 clear hK K hp5 HO
 try simp only [Act.put, tdy]
 iterate 1
  refine tkn (v := ?_) 13 rfl ?_ ?_; rotate_left 1
  ·intro w hSw; have hfl := fld45 fa5 fc5 w; go_simp; try with_reducible rfl
  try simp only [Act.put, tdy]
 refine rdy 14 rfl (fun K hK => ?_)
 go_simp
 refine HSA.out.mono ?_
 rintro e w6 ⟨rfl, hk6⟩
 rw [sameP_refl]
 have HK6 := hid_of (HK4.out.trans (HK5.out.trans hk6))
 refine hK.out _ _ (HK5.out.trans hk6) (fun hHeld => ?_)
 clear hK K HSA
 try simp only [Act.put, tdy]
 iterate 2
  refine tkn (v := ?_) 15 rfl ?_ ?_; rotate_left 1
  ·intro w hSw; go_simp; try with_reducible rfl
  try simp only [Act.put, tdy]
 refine wpAnyH_done (by kernel_rfl) ?_ _
 clear hHeld hk6 hk5 hKwd HSM HPY HY HK4 HK5
 go_wp2
 go_ret
 exact ⟨rfl, HK6.out⟩
end Go.Proofs.YtcahibbfejomcaaGreatDoor
namespace Go.Proofs.YtcahibbfejomcaaGreatDoor
open Go.RowKit
def add (x y : Int) : Int := (x + y) % 4294967296
def ror (x : Int) (n : Nat) : Int := bits .or .u32 (x * 2 ^ (32 - n) % 4294967296) (x / 2 ^ n)
def xo (x y : Int) : Int := bits .xor .u32 x y
def an (x y : Int) : Int := bits .and .u32 x y
def nt (x : Int) : Int := bits .xor .u32 IntKind.u32.max x
def sg0 (x : Int) : Int := xo (xo (ror x 7) (ror x 18)) (x / 8)
def sg1 (x : Int) : Int := xo (xo (ror x 17) (ror x 19)) (x / 1024)
def kw : List Int := [
 1116352408, 1899447441, 3049323471, 3921009573, 961987163, 1508970993, 2453635748, 2870763221,
 3624381080, 310598401, 607225278, 1426881987, 1925078388, 2162078206, 2614888103, 3248222580,
 3835390401, 4022224774, 264347078, 604807628, 770255983, 1249150122, 1555081692, 1996064986,
 2554220882, 2821834349, 2952996808, 3210313671, 3336571891, 3584528711, 113926993, 338241895,
 666307205, 773529912, 1294757372, 1396182291, 1695183700, 1986661051, 2177026350, 2456956037,
 2730485921, 2820302411, 3259730800, 3345764771, 3516065817, 3600352804, 4094571909, 275423344,
 430227734, 506948616, 659060556, 883997877, 958139571, 1322822218, 1537002063, 1747873779,
 1955562222, 2024104815, 2227730452, 2361852424, 2428436474, 2756734187, 3204031479, 3329325298]
structure S8 where
 a : Int
 b : Int
 c : Int
 d : Int
 e : Int
 f : Int
 g : Int
 h : Int
def S8.list (s : S8) : List Int := [s.a, s.b, s.c, s.d, s.e, s.f, s.g, s.h]
def s_pw (s : S8) (k w : Int) : Int := add (add (add (add s.h (xo (xo (ror s.e 6) (ror s.e 11)) (ror s.e 25))) (xo (an s.e s.f) (an (nt s.e) s.g))) k) w
def qw (s : S8) : Int := add (xo (xo (ror s.a 2) (ror s.a 13)) (ror s.a 22)) (xo (xo (an s.a s.b) (an s.a s.c)) (an s.b s.c))
def rnd (s : S8) (k w : Int) : S8 := ⟨add (s_pw s k w) (qw s), s.a, s.b, s.c, add s.d (s_pw s k w), s.e, s.f, s.g⟩
def rnds (s : S8) (ws : List Int) : Nat → S8
 | 0 => s
 | t + 1 => rnd (rnds s ws t) (kw.getD t 0) (ws.getD t 0)
def up (x c : Int) : Int := bits .or .u32 (x * 256 % 4294967296) c
def word (bs : List Int) (i : Nat) : Int := up (up (up (up 0 (bs.getD (4 * i) 0)) (bs.getD (4 * i + 1) 0)) (bs.getD (4 * i + 2) 0)) (bs.getD (4 * i + 3) 0)
def partw (bs : List Int) (j : Nat) : Nat → Int
 | 0 => 0
 | k + 1 => up (partw bs j k) (bs.getD (4 * j + k) 0)
theorem word_part (bs : List Int) (i : Nat) : word bs i = partw bs i 4 := rfl
def first (bs : List Int) : List Int := (List.range 16).map (word bs)
def nextw (l : List Int) (i : Nat) : Int := add (add (add (l.getD i 0) (sg0 (l.getD (i + 1) 0))) (l.getD (i + 9) 0)) (sg1 (l.getD (i + 14) 0))
def grown (ws : List Int) : Nat → List Int
 | 0 => ws
 | i + 1 => grown ws i ++ [nextw (grown ws i) i]
def wide (bs : List Int) : List Int := grown (first bs) 48
def S8.add (s v : S8) : S8 := ⟨YtcahibbfejomcaaGreatDoor.add s.a v.a, YtcahibbfejomcaaGreatDoor.add s.b v.b, YtcahibbfejomcaaGreatDoor.add s.c v.c, YtcahibbfejomcaaGreatDoor.add s.d v.d, YtcahibbfejomcaaGreatDoor.add s.e v.e, YtcahibbfejomcaaGreatDoor.add s.f v.f, YtcahibbfejomcaaGreatDoor.add s.g v.g, YtcahibbfejomcaaGreatDoor.add s.h v.h⟩
def turn (s : S8) (bs : List Int) : S8 := s.add (rnds s (wide bs) 64)
def s0 : S8 := ⟨0x6a09e667, 0xbb67ae85, 0x3c6ef372, 0xa54ff53a, 0x510e527f, 0x9b05688c, 0x1f83d9ab, 0x5be0cd19⟩
def dbyte (s : S8) (i : Nat) : Int := s.list.getD (i / 4) 0 / 2 ^ (24 - i % 4 * 8) % 256
def dig (s : S8) : List Int := (List.range 32).map (dbyte s)
def blk (xs : List Int) : Nat → S8
 | 0 => s0
 | i + 1 => turn (blk xs i) ((xs.drop (64 * i)).take 64)
def zeros (n : Nat) : Nat := (119 - n % 64) % 64
def lbyte (n i : Nat) : Int := 8 * (n : Int) / 2 ^ (56 - 8 * i) % 256
def lenb (n : Nat) : List Int := (List.range 8).map (lbyte n)
def pad (n : Nat) : List Int := 128 :: (List.replicate (zeros n) 0 ++ lenb n)
def sha (xs : List Int) : List Int := dig (blk (xs ++ pad xs.length) ((xs.length + (pad xs.length).length) / 64))
theorem pad_length (n : Nat) : (pad n).length = 9 + zeros n := by simp [pad, lenb]; omega
theorem full_length (n : Nat) : (n + (pad n).length) % 64 = 0 := by rw [pad_length]; unfold zeros; omega
theorem blk_append (xs ys : List Int) : ∀ i, 64 * i ≤ xs.length → blk (xs ++ ys) i = blk xs i
 | 0, _ => rfl
 | i + 1, h => by
  rw [blk, blk, blk_append xs ys i (by omega), List.drop_append_of_le_length (by omega), List.take_append_of_le_length (by simp; omega)]
theorem grown_length (ws : List Int) : ∀ k, (grown ws k).length = ws.length + k
 | 0 => rfl
 | k + 1 => by rw [grown, List.length_append, grown_length ws k]; rfl
theorem first_length (bs : List Int) : (first bs).length = 16 := by simp [first]
theorem wide_length (bs : List Int) : (wide bs).length = 64 := by rw [wide, grown_length, first_length]
structure Hsh where
 p : S8
 t : List Int
 n : Nat
structure Hsh.Of (h : Hsh) (xs : List Int) : Prop where
 n : h.n = xs.length
 t : h.t.length = 64
 tail : h.t.take (xs.length % 64) = xs.drop (64 * (xs.length / 64))
 past : 64 ≤ xs.length → h.p = blk xs (xs.length / 64)
def Hsh.now (h : Hsh) : S8 := if h.n < 64 then s0 else h.p
theorem Hsh.Of.now {h : Hsh} {xs : List Int} (H : h.Of xs) : h.now = blk xs (xs.length / 64) := by
 unfold Hsh.now
 rw [H.n]
 split
 ·rw [show xs.length / 64 = 0 by omega]; rfl
 ·exact H.past (by omega)
def laidIn (t ys : List Int) (at_ : Nat) : List Int := t.take at_ ++ (ys ++ t.drop (at_ + ys.length))
theorem laidIn_length {t ys : List Int} {a : Nat} (h : a + ys.length ≤ t.length) : (laidIn t ys a).length = t.length := by
 simp [laidIn]; omega
theorem Hsh.Of.part {h : Hsh} {xs : List Int} (H : h.Of xs) (ys : List Int) (hk : xs.length % 64 + ys.length < 64) :
  (Hsh.mk h.p (laidIn h.t ys (xs.length % 64)) (h.n + ys.length)).Of (xs ++ ys) := by
 have ht := H.t
 have e1 : (xs.length + ys.length) % 64 = xs.length % 64 + ys.length := by omega
 have e2 : (xs.length + ys.length) / 64 = xs.length / 64 := by omega
 refine ⟨by simp [H.n], ?_, ?_, fun h64 => ?_⟩
 ·exact (laidIn_length (by omega)).trans ht
 ·show (laidIn h.t ys (xs.length % 64)).take _ = _
  rw [List.length_append, e1, e2, laidIn, List.drop_append_of_le_length (by omega), ← H.tail]
  rw [← List.append_assoc, List.take_append_of_le_length (by simp; omega)]
  exact List.take_of_length_le (by simp; omega)
 ·rw [List.length_append, e2, blk_append _ _ _ (by omega)]
  rw [List.length_append] at h64
  exact H.past (by omega)
theorem Hsh.Of.full {h : Hsh} {xs : List Int} (H : h.Of xs) (ys : List Int) (hk : xs.length % 64 + ys.length = 64) :
  (Hsh.mk (turn h.now (laidIn h.t ys (xs.length % 64))) (laidIn h.t ys (xs.length % 64)) (h.n + ys.length)).Of (xs ++ ys) := by
 have ht := H.t
 have e1 : (xs.length + ys.length) % 64 = 0 := by omega
 have e2 : (xs.length + ys.length) / 64 = xs.length / 64 + 1 := by omega
 have e3 : laidIn h.t ys (xs.length % 64) = ((xs ++ ys).drop (64 * (xs.length / 64))).take 64 := by
  rw [laidIn, List.drop_append_of_le_length (by omega), ← H.tail, List.drop_eq_nil_of_le (by omega), List.append_nil]
  rw [List.take_of_length_le (l := _ ++ _) (by simp; omega)]
 refine ⟨by simp [H.n], ?_, ?_, fun h64 => ?_⟩
 ·exact (laidIn_length (by omega)).trans ht
 ·rw [List.length_append, e1, e2, List.drop_eq_nil_of_le (by simp; omega)]; rfl
 ·rw [List.length_append, e2, blk, ← e3, blk_append _ _ _ (by omega), ← H.now]
end Go.Proofs.YtcahibbfejomcaaGreatDoor
