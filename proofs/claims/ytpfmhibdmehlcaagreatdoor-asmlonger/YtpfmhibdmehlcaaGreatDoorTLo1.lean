import Derived.Test.YtpfmhibdmehlcaaGreatDoorTBa1
import Derived.Test.YtpfmhibdmehlcaaGreatDoorTBa10
import Derived.Test.YtpfmhibdmehlcaaGreatDoorTBa11
import Derived.Test.YtpfmhibdmehlcaaGreatDoorTBa12
import Derived.Test.YtpfmhibdmehlcaaGreatDoorTBa13
import Derived.Test.YtpfmhibdmehlcaaGreatDoorTBa14
import Derived.Test.YtpfmhibdmehlcaaGreatDoorTBa15
import Derived.Test.YtpfmhibdmehlcaaGreatDoorTBa16
import Derived.Test.YtpfmhibdmehlcaaGreatDoorTBa17
import Derived.Test.YtpfmhibdmehlcaaGreatDoorTBa18
import Derived.Test.YtpfmhibdmehlcaaGreatDoorTBa19
import Derived.Test.YtpfmhibdmehlcaaGreatDoorTBa2
import Derived.Test.YtpfmhibdmehlcaaGreatDoorTBa20
import Derived.Test.YtpfmhibdmehlcaaGreatDoorTBa21
import Derived.Test.YtpfmhibdmehlcaaGreatDoorTBa22
import Derived.Test.YtpfmhibdmehlcaaGreatDoorTBa23
import Derived.Test.YtpfmhibdmehlcaaGreatDoorTBa24
import Derived.Test.YtpfmhibdmehlcaaGreatDoorTBa25
import Derived.Test.YtpfmhibdmehlcaaGreatDoorTBa26
import Derived.Test.YtpfmhibdmehlcaaGreatDoorTBa27
import Derived.Test.YtpfmhibdmehlcaaGreatDoorTBa28
import Derived.Test.YtpfmhibdmehlcaaGreatDoorTBa29
import Derived.Test.YtpfmhibdmehlcaaGreatDoorTBa3
import Derived.Test.YtpfmhibdmehlcaaGreatDoorTBa30
import Derived.Test.YtpfmhibdmehlcaaGreatDoorTBa31
import Derived.Test.YtpfmhibdmehlcaaGreatDoorTBa32
import Derived.Test.YtpfmhibdmehlcaaGreatDoorTBa33
import Derived.Test.YtpfmhibdmehlcaaGreatDoorTBa34
import Derived.Test.YtpfmhibdmehlcaaGreatDoorTBa35
import Derived.Test.YtpfmhibdmehlcaaGreatDoorTBa36
import Derived.Test.YtpfmhibdmehlcaaGreatDoorTBa37
import Derived.Test.YtpfmhibdmehlcaaGreatDoorTBa38
import Derived.Test.YtpfmhibdmehlcaaGreatDoorTBa39
import Derived.Test.YtpfmhibdmehlcaaGreatDoorTBa4
import Derived.Test.YtpfmhibdmehlcaaGreatDoorTBa40
import Derived.Test.YtpfmhibdmehlcaaGreatDoorTBa41
import Derived.Test.YtpfmhibdmehlcaaGreatDoorTBa42
import Derived.Test.YtpfmhibdmehlcaaGreatDoorTBa43
import Derived.Test.YtpfmhibdmehlcaaGreatDoorTBa44
import Derived.Test.YtpfmhibdmehlcaaGreatDoorTBa45
import Derived.Test.YtpfmhibdmehlcaaGreatDoorTBa46
import Derived.Test.YtpfmhibdmehlcaaGreatDoorTBa47
import Derived.Test.YtpfmhibdmehlcaaGreatDoorTBa48
import Derived.Test.YtpfmhibdmehlcaaGreatDoorTBa49
import Derived.Test.YtpfmhibdmehlcaaGreatDoorTBa5
import Derived.Test.YtpfmhibdmehlcaaGreatDoorTBa50
import Derived.Test.YtpfmhibdmehlcaaGreatDoorTBa51
import Derived.Test.YtpfmhibdmehlcaaGreatDoorTBa6
import Derived.Test.YtpfmhibdmehlcaaGreatDoorTBa7
import Derived.Test.YtpfmhibdmehlcaaGreatDoorTBa8
import Derived.Test.YtpfmhibdmehlcaaGreatDoorTBa9
import Derived.Test.YtpfmhibdmehlcaaGreatDoorProg
import Derived.WalkKit
import Derived.ProofKit
import Derived.Maps.AppendAt
import Derived.Deep.RegionHeld3
import Derived.Lib.SliceRun
import Derived.Laws.BitsAllLaws
import Derived.Lib.AppendStr
import Derived.Deep.QuietTactic
import Derived.BigQuiet
import Derived.WalkSmall
import Derived.Laws.CopyRow
import Derived.Laws.IdiomCopy
import Derived.Laws.Tables
import Derived.Laws.Rows
import Derived.Laws.ResultCell
import Derived.Deep.MidRow
import Derived.Deep.DeepCutAuto
import Derived.Deep.CutBlock
import Derived.Laws.BytesString
import Derived.Deep.AppendSrc
import Derived.Deep.Strs
import Derived.OpenShut
import Derived.ChangeOld
import Derived.Defers
import Derived.Recover
import Derived.Laws.Bits64
import Derived.LaidEqlPtr
import Derived.Deep.RegionLaw
import Derived.Laws.IdiomStrings
import Derived.Lib.SmallJoins
import Derived.Great.BuildSlice
import Derived.Laws.StructEq
import Derived.Laws.OwnMore
import Derived.Shelf.Lay
import Derived.Shelf.LaysM
import Derived.Shelf.LaysC
import Derived.Shelf.Small.Wraps
import Derived.Shelf.Strconv.Itoa3
import Derived.Shelf.Strconv.ParseIntPublic10
import Derived.Shelf.Strconv.AppendIntPublic10
import Derived.Shelf.Strings.Prefix
import Derived.Shelf.Strings.Split
import Derived.Shelf.Strings.AsciiSet
import Derived.MapKept
import Derived.Lib.OthersKept
import Derived.Lib.SlBytesConst
import Derived.Shelf.Lays
import Derived.Shelf.Strings.Runes
import Derived.Shelf.Small.Utf8
import Derived.WalkMore
import Derived.Laws.RangeAny
import Derived.Deep.LoopGhost
import Derived.Lib.ConvBytes
import Derived.Laws.Closers25
import Derived.Laws.Closers25b
import Derived.Lib.Hide
import Derived.LaidEql
import Derived.Stop.Asserts
import Derived.RowKitTokens
import Derived.Shelf.Strconv.ToError
import Derived.Shelf.Strconv.ToErrorRange
import Derived.Shelf.Strings.SlTrimAscii
import Derived.Lib.ParseIntB
import Derived.Lib.ItoaLen
namespace Go.Proofs.YtpfmhibdmehlcaaGreatDoor
open Go.RowKit
set_option linter.unusedVariables false
set_option linter.unusedSimpArgs false
set_option maxRecDepth 100000
theorem ta_ptr (w : World) (g : Nat) : (Instr.typeAssert (.iface 59 (.pointer (some ⟨g, 0, none⟩))) 32 59 true).run Tryz.prog w = .ok (.tuple #[.pointer (some ⟨g, 0, none⟩), .bool true]) w := by kernel_rfl
theorem ta_err (w : World) (e : Int) : (Instr.typeAssert (.iface 27 (.int .i64 e)) 32 27 true).run Tryz.prog w = .ok (.tuple #[.int .i64 e, .bool true]) w := by kernel_rfl
def ErrIs (w : World) (ev : Value) (er ln : Int) : Prop := (ev = .nilIface ∧ er = 0 ∧ ln = 0) ∨ ∃ g, ev = .iface 59 (.pointer (some ⟨g, 0, none⟩)) ∧ er ≠ 0 ∧ w.heap[g]? = some (.cells #[.int .i64 ln, .iface 27 (.int .i64 er)] 61 (0, 0))
theorem ErrIs.same {w w' : World} {ev : Value} {er ln : Int} (h : ErrIs w ev er ln) (hk : Kept (fun _ => False) w w') : ErrIs w' ev er ln := by
 rcases h with h | ⟨g, h1, h2, h3⟩
 ·exact .inl h
 ·exact .inr ⟨g, h1, h2, box_kept hk h3 id⟩
set_option maxHeartbeats 8000000 in
theorem told_any (ev : Value) (er ln : Int) (w : World) (h : ErrIs w ev er ln) : Calls Tryz.prog 14 #[ev] w fun e w' => e = .returned (.tuple #[.int .i64 er, .int .i64 ln, .bool true]) ∧ Kept (fun _ => False) w w' := by
 rcases h with ⟨rfl, rfl, rfl⟩ | ⟨g, rfl, he, hg⟩
 ·go_enter Tryz.func14, Tryz.ntmps14
  go_wp2
  refine bodyPost_ret (results_tmp3 rfl _ _ _) rfl ?_
  exact ⟨rfl, Kept.refl _ _⟩
 ·have ht1 := ta_ptr w g
  have ht2 := ta_err w er
  have c0 := cell_block _ _ 0 _ _ _ hg
  have c1 := cell_block _ _ 1 _ _ _ hg
  have e0 : (er == 0) = false := by simpa using he
  have e1 : (er != 0) = true := by simpa using he
  have HG := hid_of hg
  clear hg he
  go_enter Tryz.func14, Tryz.ntmps14
  go_upto_region 7 with fail
  clear c0 c1 ht1 ht2
  have hkd : Kept (fun _ => False) w w.drew := (Kept.refl _ _).drew
  have hgd := box_kept hkd HG.out id
  have HKD := hid_of hkd
  refine wp_region_held_drew (S := fun w' => w' = w.drew) (by kernel_rfl) rfl (fun hHeld => ?_)
  generalize w.drew = wd at *
  have c0 := cell_block _ _ 0 _ _ _ hgd
  clear hgd hkd
  iterate 4
   refine tkn (v := ?_) 0 rfl ?_ ?_; rotate_left 1
   ·intro w hSw; go_simp; try with_reducible rfl
   try simp only [Act.put, tdy]
  iterate 1
   refine tkn (v := ?_) 4 rfl ?_ ?_; rotate_left 1
   ·intro w hSw; have hSw := hSw.symm; subst hSw; go_simp; try with_reducible rfl
   try simp only [Act.put, tdy]
  iterate 8
   refine tkn (v := ?_) 5 rfl ?_ ?_; rotate_left 1
   ·intro w hSw; go_simp; try with_reducible rfl
   try simp only [Act.put, tdy]
  refine wpAnyH_done (by kernel_rfl) ?_ _
  clear c0 hHeld
  go_wp2
  refine bodyPost_ret (results_tmp3 rfl _ _ _) rfl ?_
  exact ⟨rfl, HKD.out⟩
theorem linesP_app : ∀ (a b : List (List UInt8)) (R : Rdr) (n : Int) (e : Int × Int), linesP R n a = .inl e → linesP R n (a ++ b) = .inl e
 | [], _, R, n, e, h => by simp [linesP] at h
 | l :: a, b, R, n, e, h => by
  rw [List.cons_append]
  rw [linesP] at h ⊢
  cases hl : lineP R n (cutV l) with
  | bad k => rw [hl] at h; exact h
  | good R' => rw [hl] at h; exact linesP_app a b R' (n + 1) e h
theorem linesP_line : ∀ (a : List (List UInt8)) (R : Rdr) (n ln e : Int), linesP R n a = .inl (ln, e) → n ≤ ln ∧ ln < n + (a.length : Int)
 | [], R, n, ln, e, h => by simp [linesP] at h
 | l :: a, R, n, ln, e, h => by
  rw [linesP] at h
  rw [List.length_cons]
  cases hl : lineP R n (cutV l) with
  | bad k =>
   rw [hl] at h
   simp at h
   omega
  | good R' =>
   rw [hl] at h
   have := linesP_line a R' (n + 1) ln e h
   omega
theorem codeF_ws {R R' : Rdr} {gs : List Fnc} {f : Fnc} {n : Int} {ls : List ByteArray} {l : List Pf} (h : codeF R gs f n ls l = .good R') : ∀ w ∈ R'.ws, w ∈ R.ws ∨ w.ln = n := by
 intro w hw
 unfold codeF at h
 split at h
 ·cases h
 ·split at h
  ·cases h
  ·split at h
   ·cases h
   ·split at h
    ·cases h
     exact .inl hw
    ·split at h
     ·cases h
     ·cases h
      rcases List.mem_append.1 hw with hw | hw
      ·exact .inl hw
      ·unfold addW at hw
       split at hw
       ·exact absurd hw List.not_mem_nil
       ·rw [List.mem_singleton.1 hw]
        exact .inr rfl
theorem codeP_ws {R R' : Rdr} {n : Int} {ls : List ByteArray} {l : List Pf} (h : codeP R n ls l = .good R') : ∀ w ∈ R'.ws, w ∈ R.ws ∨ w.ln = n := by
 unfold codeP at h
 split at h
 ·cases h
 ·exact codeF_ws h
theorem lineP_ws {R R' : Rdr} {n : Int} {o : Option (List Pf)} (h : lineP R n o = .good R') : ∀ w ∈ R'.ws, w ∈ R.ws ∨ w.ln = n := by
 unfold lineP at h
 split at h
 ·cases h
 ·split at h
  ·unfold headP at h
   split at h
   ·cases h
    exact fun w hw => .inl hw
   ·split at h
    ·cases h
    ·split at h
     ·unfold memP at h
      split at h
      ·cases h
      ·split at h
       ·cases h
       ·cases h
        exact fun w hw => .inl hw
     ·split at h
      ·unfold datP at h
       split at h
       ·cases h
       ·cases h
        exact fun w hw => .inl hw
      ·split at h
       ·unfold funP at h
        split at h
        ·split at h
         ·cases h
         ·split at h
          ·cases h
          ·split at h
           ·cases h
           ·cases h
            exact fun w hw => .inl hw
        ·cases h
       ·exact codeP_ws h
  ·exact codeP_ws h
theorem linesP_ws : ∀ (a : List (List UInt8)) (R R' : Rdr) (n : Int), linesP R n a = .inr R' → ∀ w ∈ R'.ws, w ∈ R.ws ∨ (n ≤ w.ln ∧ w.ln < n + (a.length : Int))
 | [], R, R', n, h, w, hw => by
  rw [linesP] at h
  cases h
  exact .inl hw
 | l :: a, R, R', n, h, w, hw => by
  rw [linesP] at h
  rw [List.length_cons]
  cases hl : lineP R n (cutV l) with
  | bad k => rw [hl] at h; cases h
  | good R1 =>
   rw [hl] at h
   rcases linesP_ws a R1 R' (n + 1) h w hw with h1 | h1
   ·rcases lineP_ws hl w h1 with h2 | h2
    ·exact .inl h2
    ·exact .inr (by omega)
   ·exact .inr (by omega)
theorem settle_line : ∀ (ws : List Wt) (fs : List Fnc) (ln : Int), settleF ws fs = .inl ln → ∃ w ∈ ws, ln = w.ln
 | [], fs, ln, h => by simp [settleF] at h
 | x :: ws, fs, ln, h => by
  rw [settleF] at h
  split at h
  ·cases h
   exact ⟨x, List.mem_cons_self, rfl⟩
  ·obtain ⟨w, hw, e⟩ := settle_line ws _ ln h
   exact ⟨w, List.mem_cons_of_mem _ hw, e⟩
theorem read_line {b : List UInt8} {ln e : Int} (h : readP b = .inl (ln, e)) : 0 ≤ ln ∧ ln ≤ ((linesL b).length : Int) := by
 unfold readP at h
 split at h
 ·cases h
  omega
 ·split at h
  ·rename_i x hx
   cases h
   have := linesP_line _ _ _ _ _ hx
   omega
  ·rename_i R hR
   split at h
   ·rename_i l hl
    cases h
    obtain ⟨w, hw, rfl⟩ := settle_line _ _ _ hl
    rcases linesP_ws _ _ _ _ hR w hw with h1 | h1
    ·exact absurd h1 List.not_mem_nil
    ·omega
   ·split at h
    ·cases h
    ·cases h
     omega
theorem lines_two : ∀ (b m : List UInt8), linesL (b ++ 10 :: m) = linesL b ++ linesL m
 | [], m => by rw [List.nil_append]; rw [show linesL (10 :: m) = [] :: linesL m from by rw [linesL, if_pos rfl]]; rfl
 | x :: b, m => by
  rw [List.cons_append, linesL, linesL, lines_two b m]
  by_cases hx : x = 10
  ·rw [if_pos hx, if_pos hx]
   rfl
  ·rw [if_neg hx, if_neg hx]
   cases hb : linesL b with
   | nil => exact absurd hb (linesL_ne b)
   | cons y ys => rfl
theorem lines_count : ∀ (b : List UInt8), (linesL b).length = b.countP (fun x => x == 10) + 1
 | [] => rfl
 | x :: b => by
  rw [linesL, List.countP_cons]
  by_cases hx : x = 10
  ·rw [if_pos hx, List.length_cons, lines_count b, if_pos (by simpa using hx)]
  ·rw [if_neg hx, if_neg (by simpa using hx)]
   have := lines_count b
   cases hb : linesL b with
   | nil => exact absurd hb (linesL_ne b)
   | cons y ys =>
    rw [hb] at this
    simpa using this
theorem read_more {b m : List UInt8} {ln e : Int} (h : readP b = .inl (ln, e)) (h0 : ln ≠ 0) (he : e ≠ 142) (hl : b.length + 1 + m.length ≤ 65536) : readP (b ++ 10 :: m) = .inl (ln, e) := by
 unfold readP at h ⊢
 rw [if_neg (by simp; omega)]
 rw [if_neg (by omega)] at h
 rw [lines_two]
 split at h
 ·rename_i x hx
  cases h
  rw [linesP_app _ _ _ _ _ hx]
 ·split at h
  ·cases h
   exact absurd rfl he
  ·split at h
   ·cases h
   ·cases h
    exact absurd rfl h0
theorem idxL (D : ByteArray) (i : Nat) (x : Int) (h : i < D.size) (hx : ((D[i]'h).toNat : Int) = x) (w : World) : (Instr.index 9 (.string D) (.int .i64 (i : Int))).run Tryz.prog w = .ok (.int .u8 x) w := by
 rw [run_index_string (P := Tryz.prog) w 9 D .i64 (i : Int) Tryz.underlying9, dif_pos ⟨by omega, by omega⟩]
 simp only [Sem.run_pure, Int.toNat_natCast]
 rw [← hx]
def nlN (D : ByteArray) (i : Nat) : Nat := (D.data.toList.take i).countP (fun x => x == 10)
theorem nlN_le (D : ByteArray) : ∀ i, nlN D i ≤ i
 | i => by
  unfold nlN
  exact Nat.le_trans List.countP_le_length (by rw [List.length_take]; omega)
theorem nlN_succ (D : ByteArray) (i : Nat) (h : i < D.size) (x : Int) (hx : ((D[i]'h).toNat : Int) = x) : nlN D (i + 1) = nlN D i + if x = 10 then 1 else 0 := by
 unfold nlN
 have hl : i < D.data.toList.length := by simpa using h
 rw [List.take_succ_eq_append_getElem hl, List.countP_append]
 congr 1
 have e : D.data.toList[i] = D[i]'h := by simp; rfl
 rw [e]
 by_cases h10 : x = 10
 ·rw [if_pos h10]
  have e2 : D[i]'h = 10 := UInt8.toNat_inj.1 (by rw [h10] at hx; have e3 : (10 : UInt8).toNat = 10 := rfl; omega)
  rw [e2]
  rfl
 ·rw [if_neg h10]
  have e2 : ¬ D[i]'h = 10 := fun e => h10 (by rw [← hx, e]; rfl)
  simp [e2]
theorem nlN_all (D : ByteArray) : ((linesL D.data.toList).length : Int) = (nlN D D.size : Int) + 1 := by
 rw [lines_count]
 unfold nlN
 rw [List.take_of_length_le (by simp)]
 omega
theorem app_data (D M : ByteArray) : (D ++ ⟨#[10]⟩ ++ M).data.toList = D.data.toList ++ 10 :: M.data.toList := by
 simp [ByteArray.data_append]
set_option maxHeartbeats 32000000 in
theorem longer_walk (D M : ByteArray) (hD : D.size ≤ 140737488351232) (hM : M.size ≤ 140737488351232) (w : World) (hG : Gs w) :
  Calls Tryz.prog 5 #[.string D, .string M] w fun e w' => e = .returned (.bool true) ∧ Kept (fun _ => False) w w' := by
 have HKN := hid_of (known_all w hG)
 have HG := hid_of hG
 have HD := hid_of hD
 have HM := hid_of hM
 obtain ⟨n, hn⟩ : ∃ n, n = D.size := ⟨_, rfl⟩
 have HNN := hid_of hn
 have hnI : (n : Int) ≤ 140737488351232 := by omega
 clear hG hD hM hn
 go_enter Tryz.func5, Tryz.ntmps5
 go_wp2_with fail
 refine HKN.out.mono ?_
 rintro e w1 ⟨rfl, hk1⟩
 have HPA := hid_of (parseG D (by have := HD.out; omega) w1 (HG.out.same hk1))
 have HK1 := hid_of hk1
 clear hk1 HKN
 go_wp2_with fail
 refine HPA.out.mono ?_
 rintro e w2 ⟨hk2, hpar⟩
 clear HPA
 rcases hpar with ⟨ln, er, g, ho, her, rfl, hgg⟩ | ⟨R, vx, ho, hck, hnum, hrok, rfl, hpg⟩
 ·have hka : Kept (fun _ => False) w2 (w2.alloc (.cells #[.int .i64 0, .slice none 0 0, .slice none 0 0] 25)) := (Kept.refl _ _).alloc _
  have hee : ErrIs w2 (.iface 59 (.pointer (some ⟨g, 0, none⟩))) er ln := .inr ⟨g, rfl, her, hgg⟩
  have HTO := hid_of (told_any _ er ln _ (hee.same hka))
  have HK2 := hid_of ((HK1.out.trans hk2).trans hka)
  have HO := hid_of ho
  have e0 : (er == 0) = false := by simpa using her
  clear hk2 hka hee hgg ho her
  go_upto_region 4 with fail
  generalize w2.alloc (.cells #[.int .i64 0, .slice none 0 0, .slice none 0 0] 25) = w3 at *
  go_wp2_with fail
  refine HTO.out.mono ?_
  rintro e w4 ⟨rfl, hk4⟩
  have HK4 := hid_of (HK2.out.trans hk4)
  clear hk4 HTO HK2
  go_wp2_with fail
  go_loopw [10, 11] (fun lv iv wr => ∃ (i : Nat), lv = .int .i64 ((nlN D i : Int) + 1) ∧ iv = .int .i64 (i : Int) ∧ Hid (i ≤ n) ∧ wr = w4) (fun _ iv _ => n - (intOf iv).toNat)
  case atStart => exact ⟨0, rfl, rfl, Nat.zero_le _, rfl⟩
  case round =>
   obtain ⟨i, rfl, rfl, HI, rfl⟩ := hrel
   have hlen : (D.size : Int) = (n : Int) := by rw [HNN.out]
   by_cases hlt : i < n
   ·have hltI : (i : Int) < (n : Int) := by omega
    have hiD : i < D.size := by rw [← HNN.out]; exact hlt
    obtain ⟨x, hx⟩ : ∃ x : Int, ((D[i]'hiD).toNat : Int) = x := ⟨_, rfl⟩
    have hix := idxL D i x hiD hx
    have hns := nlN_succ D i hiD x hx
    have hle := nlN_le D i
    have hsz : ¬ 9223372036854775807 < (nlN D i : Int) + 1 + 1 := by omega
    by_cases h10 : x = 10
    ·subst h10
     rw [if_pos rfl] at hns
     clear hx
     go_wp2
     go_roundw
     case rel => exact ⟨i + 1, by rw [hns]; go_num, by go_num, hlt, trivial⟩
     case measure => simp [intOf]; omega
    ·have h11 : (x == 10) = false := by simpa using h10
     rw [if_neg h10] at hns
     clear hx
     go_wp2
     go_roundw
     case rel => exact ⟨i + 1, by rw [hns]; go_num, by go_num, hlt, trivial⟩
     case measure => simp [intOf]; omega
   ·have hltI : ¬ (i : Int) < (n : Int) := by omega
    have hin : i = D.size := by have := HI.out; have := HNN.out; omega
    have hll := nlN_all D
    rw [← hin] at hll
    obtain ⟨l0, l1⟩ := read_line HO.out
    rw [hll] at l1
    have l2 : ¬ ln < 0 := by omega
    have l3 : ¬ (nlN D i : Int) + 1 < ln := by omega
    clear hin hll
    by_cases hl0 : ln = 0
    ·subst hl0
     go_wp2
     go_ret
     exact ⟨rfl, HK4.out⟩
    ·have hl1 : (ln == 0) = false := by simpa using hl0
     have hD2 : D.size ≤ 65536 := by
      rcases Nat.lt_or_ge 65536 D.size with h | h
      ·have := HO.out
       unfold readP at this
       rw [if_pos (by simpa using h)] at this
       cases this
       exact absurd rfl hl0
      ·exact h
     have hMz := HM.out
     by_cases hbig : (65536 : Int) < (D.size : Int) + 1 + (M.size : Int)
     ·go_wp2
      go_ret
      exact ⟨rfl, HK4.out⟩
     ·have g1 : ¬ 9223372036854775807 < D.size + 1 := by omega
      have g2 : ¬ 9223372036854775807 < D.size + 1 + M.size := by omega
      have HP2 := hid_of (parseG (D ++ ⟨#[10]⟩ ++ M) (by rw [ByteArray.size_append, ByteArray.size_append]; show D.size + 1 + M.size ≤ _; omega) wr (HG.out.same HK4.out))
      rw [app_data] at HP2
      have HRM : Hid (er ≠ 142 → readP (D.data.toList ++ 10 :: M.data.toList) = .inl (ln, er)) := fun he => read_more HO.out hl0 he (by simp; omega)
      go_wp2_with fail
      refine HP2.out.mono ?_
      rintro e w5 ⟨hk5, hpar⟩
      clear HP2
      rcases hpar with ⟨ln2, er2, g2', ho2, her2, rfl, hgg2⟩ | ⟨R2, vx2, ho2, hck2, hnum2, hrok2, rfl, hpg2⟩
      ·have hee : ErrIs w5 (.iface 59 (.pointer (some ⟨g2', 0, none⟩))) er2 ln2 := .inr ⟨g2', rfl, her2, hgg2⟩
       have HTO := hid_of (told_any _ er2 ln2 _ hee)
       have HK5 := hid_of (HK4.out.trans hk5)
       have HO2 := hid_of ho2
       clear hk5 hee hgg2 ho2
       go_wp2_with fail
       refine HTO.out.mono ?_
       rintro e w6 ⟨rfl, hk6⟩
       have HK6 := hid_of (HK5.out.trans hk6)
       clear hk6 HTO HK5
       by_cases h142 : er = 142
       ·subst h142
        go_wp2
        go_ret
        exact ⟨rfl, HK6.out⟩
       ·have h143 : (er == 142) = false := by simpa using h142
        have hro := HRM.out h142
        rw [HO2.out] at hro
        cases hro
        go_wp2
        go_ret
        exact ⟨rfl, HK6.out⟩
      ·obtain ⟨xm, xda, xdn, xdc, xfa, xfn, xfc, rfl⟩ := pg_shapeK hpg2
       have hee : ErrIs w5 .nilIface 0 0 := .inl ⟨rfl, rfl, rfl⟩
       have HTO := hid_of (told_any _ 0 0 _ hee)
       have HK5 := hid_of (HK4.out.trans hk5)
       have HO2 := hid_of ho2
       clear hk5 hee ho2 hpg2 hck2 hnum2 hrok2
       go_wp2_with fail
       refine HTO.out.mono ?_
       rintro e w6 ⟨rfl, hk6⟩
       have HK6 := hid_of (HK5.out.trans hk6)
       clear hk6 HTO HK5
       by_cases h142 : er = 142
       ·subst h142
        go_wp2
        go_ret
        exact ⟨rfl, HK6.out⟩
       ·have hro := HRM.out h142
        rw [HO2.out] at hro
        cases hro
 ·obtain ⟨xm, xda, xdn, xdc, xfa, xfn, xfc, rfl⟩ := pg_shapeK hpg
  have hka : Kept (fun _ => False) w2 (w2.alloc (.cells #[.int .i64 xm, .slice xda xdn xdc, .slice xfa xfn xfc] 25)) := (Kept.refl _ _).alloc _
  have hee : ErrIs w2 .nilIface 0 0 := .inl ⟨rfl, rfl, rfl⟩
  have HTO := hid_of (told_any _ 0 0 _ (hee.same hka))
  have HK2 := hid_of ((HK1.out.trans hk2).trans hka)
  have hn2 := eeNil
  clear hk2 hka hee ho hck hnum hrok hpg
  go_upto_region 4 with fail
  generalize w2.alloc (.cells #[.int .i64 xm, .slice xda xdn xdc, .slice xfa xfn xfc] 25) = w3 at *
  go_wp2_with fail
  refine HTO.out.mono ?_
  rintro e w4 ⟨rfl, hk4⟩
  have HK4 := hid_of (HK2.out.trans hk4)
  clear hk4 HTO HK2
  go_wp2_with fail
  go_loopw [10, 11] (fun lv iv wr => ∃ (i : Nat), lv = .int .i64 ((nlN D i : Int) + 1) ∧ iv = .int .i64 (i : Int) ∧ Hid (i ≤ n) ∧ wr = w4) (fun _ iv _ => n - (intOf iv).toNat)
  case atStart => exact ⟨0, rfl, rfl, Nat.zero_le _, rfl⟩
  case round =>
   obtain ⟨i, rfl, rfl, HI, rfl⟩ := hrel
   have hlen : (D.size : Int) = (n : Int) := by rw [HNN.out]
   by_cases hlt : i < n
   ·have hltI : (i : Int) < (n : Int) := by omega
    have hiD : i < D.size := by rw [← HNN.out]; exact hlt
    obtain ⟨x, hx⟩ : ∃ x : Int, ((D[i]'hiD).toNat : Int) = x := ⟨_, rfl⟩
    have hix := idxL D i x hiD hx
    have hns := nlN_succ D i hiD x hx
    have hle := nlN_le D i
    by_cases h10 : x = 10
    ·subst h10
     rw [if_pos rfl] at hns
     clear hx
     go_wp2
     go_roundw
     case rel => exact ⟨i + 1, by rw [hns]; go_num, by go_num, hlt, trivial⟩
     case measure => simp [intOf]; omega
    ·have h11 : (x == 10) = false := by simpa using h10
     rw [if_neg h10] at hns
     clear hx
     go_wp2
     go_roundw
     case rel => exact ⟨i + 1, by rw [hns]; go_num, by go_num, hlt, trivial⟩
     case measure => simp [intOf]; omega
   ·have hltI : ¬ (i : Int) < (n : Int) := by omega
    have l3 : ¬ (nlN D i : Int) + 1 < 0 := by omega
    have hle := nlN_le D i
    go_wp2
    go_ret
    exact ⟨rfl, HK4.out⟩
end Go.Proofs.YtpfmhibdmehlcaaGreatDoor
