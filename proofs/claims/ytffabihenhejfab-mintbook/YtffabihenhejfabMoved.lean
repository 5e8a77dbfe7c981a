/-
  moved: bytes that lie where others lay.
-/
import Derived.Test.YtffabihenhejfabBack
import Derived.Test.YtffabihenhejfabTwo
import Derived.Test.YtffabihenhejfabGrow0
import Derived.Deep.RegionHeld3
namespace Go.Proofs.Ytffabihenhejfab
open Go.ChangeShapes Go.WideShapes Go.ChangeAt Go.RowKit Go.Deep
set_option linter.unusedVariables false

/-- Bytes, of which the first are 0. -/
def zeros (j : Nat) (xs : List Int) : List Int := List.replicate j 0 ++ xs.drop j
theorem zeros_len (j : Nat) (xs : List Int) (h : j ≤ xs.length) : (zeros j xs).length = xs.length := by
  unfold zeros
  rw [List.length_append, List.length_replicate, List.length_drop]
  omega
theorem zeros_set (j : Nat) (xs : List Int) (h : j < xs.length) : (zeros j xs).set j 0 = zeros (j + 1) xs := by
  unfold zeros
  rw [List.set_append, if_neg (by rw [List.length_replicate]; omega), List.length_replicate, Nat.sub_self, List.drop_eq_getElem_cons h, List.replicate_succ', List.append_assoc]
  rfl
theorem zeros_all (xs : List Int) : zeros xs.length xs = List.replicate xs.length 0 := by
  unfold zeros
  rw [List.drop_of_length_le (Nat.le_refl _), List.append_nil]

theorem made_isB (W : World) (n : Nat) : IsB (W.alloc (.cells (zer n) 5)) (.slice (some ⟨W.heap.size, 0, none⟩) n n) (List.replicate n 0) := by
  refine .inr ⟨W.heap.size, 0, n, by rw [List.length_replicate], fun i hi => ?_⟩
  rw [List.length_replicate] at hi
  rw [cell_block _ _ _ _ _ _ (heap_alloc_new W _), Nat.zero_add]
  have : i < (zer n).size := by rw [zer_size]; exact hi
  rw [Array.getElem?_eq_getElem this]
  have e : (Value.int .u8 0).cells = #[.int .u8 0] := rfl
  simp [zer, madeCells, hi, List.getD, e, Nat.mod_one]

theorem mv_alloc {w6 W : World} {p1 p2 : Addr} {u1 u2 : Value} {o : Obj} (h : W.cell? p1 = some u1 ∧ W.cell? p2 = some u2 ∧ Kept (fun _ => False) w6 W) : (W.alloc o).cell? p1 = some u1 ∧ (W.alloc o).cell? p2 = some u2 ∧ Kept (fun _ => False) w6 (W.alloc o) :=
  ⟨((Kept.refl (fun _ => False) W).alloc o).cell h.1 (fun f => f), ((Kept.refl (fun _ => False) W).alloc o).cell h.2.1 (fun f => f), h.2.2.alloc o⟩

set_option maxRecDepth 100000 in
set_option maxHeartbeats 4000000 in
theorem moved_any (wv allv : Value) (B : Nat) (its : List ItV) (w : World) (hx : IsB w wv (encs its)) (hxl : (encs its).length ≤ 4194304) (hrow : w.ownsRow B 33 3 allv its.length (its.flatMap ItV.cells)) (hnil : its = [] → allv = .slice none 0 0)
    (hgood : ∀ i, i < its.length → Good (its.getD i ItV.default) ∧ IsB w (its.getD i ItV.default).bv (its.getD i ItV.default).xs) (hm : its.length ≤ 1000) :
    Calls Try.prog 17 #[wv, allv] w fun e w' => e = .returned (.bool true) ∧ Kept (fun _ => False) w w' := by
  obtain ⟨wao, wc, hwv⟩ := hx.shape
  obtain ⟨xs, hxs⟩ : ∃ xs, xs = encs its := ⟨_, rfl⟩
  obtain ⟨aao, ac, hav⟩ := ownsRow_shape hrow
  have hk1 : Kept (fun _ => False) w (w.alloc (.cells #[] 5)) := (Kept.refl _ _).alloc _
  have ho1 : (w.alloc (.cells #[] 5)).ownsRow w.heap.size 5 1 (.slice (some ⟨w.heap.size, 0, none⟩) 0 0) 0 (([] : List Int).map (Value.int .u8)) := World.ownsRow_lit w #[] 0 (Nat.le_refl _) (by decide) rfl
  rw [← hxs] at hx hwv hxl
  obtain ⟨v2, w2, hr, h2, h3⟩ := app_any _ _ 0 w.heap.size [] 31 wv xs ho1 (hx.kept hk1 (fun _ _ f => f)) (by simp) (by omega)
  rw [Nat.zero_add, List.nil_append] at h2
  have hk2 : Kept (fun _ => False) w w2 := hk1.grown h3 (fun g hg => .inl (ho1.lt g hg).1)
  have hown2 : Own8 w2 v2 xs := own_zero h2
  have hnew2 : ∀ q, v2.ownBlock = some q → w.heap.size ≤ q := fun q hq => (h2.lt q hq).1
  have HR := hid_of hr
  have HX := hid_of hx
  have HO2 := hid_of hown2
  have hlt2 : w.heap.size < w2.heap.size := by have h4 := h3.size; simp at h4; omega
  have HO2B := hid_of h2
  have HNEW := hid_of hnew2
  have HK2 := hid_of hk2
  have HROW := hid_of hrow
  have HG := hid_of hgood
  have HNIL := hid_of hnil
  have HXS := hid_of hxs
  obtain ⟨n, hn⟩ : ∃ n, n = xs.length := ⟨_, rfl⟩
  have HNN := hid_of hn
  rw [← hn] at hwv hxl
  obtain ⟨mao, mc, hv2⟩ := hown2.shape
  rw [← hn] at hv2
  clear hr hx hown2 hnew2 hk2 hrow hgood hnil hxs h2 h3 ho1 hk1 hn
  subst hwv
  subst hv2
  obtain ⟨il, hil⟩ : ∃ il, il = its.length := ⟨_, rfl⟩
  have HIL := hid_of hil
  rw [← hil] at hav hm
  clear hil
  subst hav
  go_enter Try.func17, Try.ntmps17
  go_wp2_with (at_builtin; refine wp_app rfl (.tmp 11) (.tmp 12) 31 31 rfl _ _ rfl rfl _ w2 HR.out ?_)
  have hkA : Kept (fun _ => False) w2 (w2.alloc (.cells #[.slice aao il ac, .slice none 0 0, .slice none 0 0, .pointer none] 40)) := (Kept.refl _ _).alloc _
  have hshA : Sh (w2.alloc (.cells #[.slice aao il ac, .slice none 0 0, .slice none 0 0, .pointer none] 40)) w2.heap.size (.slice aao il ac) (.slice none 0 0) (.slice none 0 0) (.pointer none) := heap_alloc_new w2 _
  have hszA : (w2.alloc (.cells #[.slice aao il ac, .slice none 0 0, .slice none 0 0, .pointer none] 40)).heap.size = w2.heap.size + 1 := by simp
  obtain ⟨g, hg, hir, hgd⟩ := isR_own (d := w.heap.size) HO2B.out hlt2
  have hrd := read_sheet (.slice aao il ac) B w2.heap.size g mao n mc its _ hshA ((HK2.out.trans hkA).ownsRow HROW.out (fun _ _ f => f)) HNIL.out (fun i hi => ⟨(HG.out i hi).1, (HG.out i hi).2.kept (HK2.out.trans hkA) (fun _ _ f => f)⟩) (by rw [← HIL.out]; exact hm) (by rw [← HXS.out]; exact hir.kept hkA (fun f => f)) (by omega) (by omega) (fun e => by have := (HROW.out.lt _ e).2; omega)
  have HRD := hid_of hrd
  have HKA := hid_of hkA
  have HSZA := hid_of hszA
  clear hrd hkA hszA hshA hir HR HROW HG HNIL HO2B
  go_wp2_with fail
  refine HRD.out.mono ?_
  rintro e w4 ⟨rfl, hk4, _⟩
  have HK4 : Hid (Kept (fun _ => False) w w4) := (HK2.out.trans HKA.out).step hk4 (fun q hq e => by omega)
  have HO4 : Hid (Own8 w4 (.slice mao n mc) xs) := (HO2.out.kept HKA.out (fun _ _ f => f)).kept hk4 (fun q hq e => by have := HO2.out.lt q hq; omega)
  have hs4 : w.heap.size < w4.heap.size := by have := hk4.size; rw [HSZA.out] at this; omega
  clear hk4 HRD HKA HSZA HO2
  go_wp2_with fail
  go_loopw [8] (fun i wr => ∃ k : Nat, k ≤ n ∧ i = .int .i64 k ∧ Own8 wr (.slice mao n mc) (zeros k xs) ∧ Kept (fun _ => False) w wr ∧ w.heap.size < wr.heap.size) (fun i _ => n - (intOf i).toNat)
  case atStart => exact ⟨0, Nat.zero_le _, rfl, by simpa [zeros] using HO4.out, HK4.out, hs4⟩
  case round =>
    obtain ⟨k, hk, rfl, hok, hkk, hsk⟩ := hrel
    by_cases hlt : k < n
    · have hltI : (k : Int) < (n : Int) := by omega
      obtain ⟨g2, hma⟩ : ∃ g2, mao = some ⟨g2, 0, none⟩ := by
        obtain ⟨g2, c, e⟩ := hok.at (by rw [zeros_len k xs (by rw [← HNN.out]; exact hk), ← HNN.out]; omega)
        cases e
        exact ⟨g2, rfl⟩
      subst hma
      obtain ⟨u, hu⟩ : ∃ u, (zeros k xs)[k]? = some u := ⟨_, List.getElem?_eq_getElem (by rw [zeros_len k xs (by rw [← HNN.out]; exact hk), ← HNN.out]; exact hlt)⟩
      have c1 := hok.cell (g := g2) rfl k u hu
      have f1 := hok.frozen k
      have hst := hok.set k 0
      rw [zeros_set k xs (by rw [← HNN.out]; exact hlt)] at hst
      have HS := hid_of hst
      have HKS : Hid (Kept (fun _ => False) w (wr.setCell ⟨g2, k, none⟩ (.int .u8 0))) := hkk.setCell (.inl (HNEW.out g2 rfl)) _
      clear hok hkk hst HO4 HK4
      go_wp2
      go_roundw
      case rel => exact ⟨k + 1, by omega, by go_num, HS.out, HKS.out, by simpa using hsk⟩
      case measure => simp [intOf]; omega
    · have hkn : k = n := by omega
      subst hkn
      have hkI : ¬ ((k : Int) < (k : Int)) := by omega
      have hz : zeros k xs = List.replicate k 0 := by rw [HNN.out]; exact zeros_all xs
      rw [hz] at hok
      have HO5 := hid_of hok
      have HK5 := hid_of hkk
      clear hok hkk hz HO4 HK4
      rename World => w5
      have hkB : Kept (fun _ => False) w5 ((w5.alloc (.cells #[.int .i64 6, .int .i64 0, .slice wao k wc] 33)).alloc (.cells #[.slice (some ⟨w5.heap.size, 0, none⟩) 1 1, .slice none 0 0, .slice none 0 0, .pointer none] 40)) := ((Kept.refl _ _).alloc _).alloc _
      have hszB : ((w5.alloc (.cells #[.int .i64 6, .int .i64 0, .slice wao k wc] 33)).alloc (.cells #[.slice (some ⟨w5.heap.size, 0, none⟩) 1 1, .slice none 0 0, .slice none 0 0, .pointer none] 40)).heap.size = w5.heap.size + 1 + 1 := by simp
      have hshB : Sh ((w5.alloc (.cells #[.int .i64 6, .int .i64 0, .slice wao k wc] 33)).alloc (.cells #[.slice (some ⟨w5.heap.size, 0, none⟩) 1 1, .slice none 0 0, .slice none 0 0, .pointer none] 40)) (w5.heap.size + 1) (.slice (some ⟨w5.heap.size, 0, none⟩) 1 1) (.slice none 0 0) (.slice none 0 0) (.pointer none) := by
        have := heap_alloc_new (w5.alloc (.cells #[.int .i64 6, .int .i64 0, .slice wao k wc] 33)) (.cells #[.slice (some ⟨w5.heap.size, 0, none⟩) 1 1, .slice none 0 0, .slice none 0 0, .pointer none] 40)
        rw [show (w5.alloc (.cells #[.int .i64 6, .int .i64 0, .slice wao k wc] 33)).heap.size = w5.heap.size + 1 from by simp] at this
        exact this
      obtain ⟨its2, hits2⟩ : ∃ its2 : List ItV, its2 = [⟨6, 0, .slice wao k wc, List.replicate k 0⟩] := ⟨_, rfl⟩
      have hrowB : ((w5.alloc (.cells #[.int .i64 6, .int .i64 0, .slice wao k wc] 33)).alloc (.cells #[.slice (some ⟨w5.heap.size, 0, none⟩) 1 1, .slice none 0 0, .slice none 0 0, .pointer none] 40)).ownsRow 0 33 3 (.slice (some ⟨w5.heap.size, 0, none⟩) 1 1) its2.length (its2.flatMap ItV.cells) := by
        subst hits2
        exact (World.ownsRow_lit w5 #[.int .i64 6, .int .i64 0, .slice wao k wc] 1 (Nat.zero_le _) (by decide) rfl).alloc _
      have henc : encs its2 = List.replicate k 0 := by subst hits2; simp [encs, ItV.enc, itemBytes]
      have hgd2 : ∀ i, i < its2.length → Goodr (its2.getD i ItV.default) ∧ ∃ ao c, (its2.getD i ItV.default).bv = .slice ao (its2.getD i ItV.default).xs.length c := fun i hi => by
        subst hits2
        have hi0 : i = 0 := by simpa using hi
        subst hi0
        refine ⟨show Goodr ⟨6, 0, .slice wao k wc, List.replicate k 0⟩ from ⟨(by decide : (1 : Int) ≤ 6), (by decide : (6 : Int) ≤ 6), (by decide : (-9223372036854775808 : Int) ≤ 0), (by decide : (0 : Int) < 9223372036854775808), fun h => absurd h (by decide : ¬ (6 : Int) = 1), fun h => absurd h (by decide : ¬ (6 : Int) = 3), fun y hy => ?_, by simpa using hxl⟩, wao, wc, by simp⟩
        have := List.eq_of_mem_replicate (show y ∈ List.replicate k (0 : Int) from hy)
        subst this
        decide
      have h5s := HK5.out.size
      obtain ⟨g3, hg3, hir3, hgd3⟩ := isR_own (d := w.heap.size) HO5.out (by omega)
      have hrd := read_sheet_own (.slice (some ⟨w5.heap.size, 0, none⟩) 1 1) 0 (w5.heap.size + 1) g3 mao k mc its2 _ hshB hrowB (fun h => by rw [hits2] at h; cases h) hgd2 (by rw [hits2]; exact (by decide : 1 ≤ 1000)) (by rw [henc]; exact hir3.kept hkB (fun f => f)) (by omega) (by omega) (fun e => by have := Option.some.inj e; simp at this)
      have HRD := hid_of hrd
      have HKB := hid_of hkB
      have HITS := hid_of hits2
      clear hrd hkB hszB hshB hrowB henc hgd2 hir3 hgd3 hits2
      go_wp2_with fail
      refine HRD.out.mono ?_
      rintro e w6 ⟨rfl, hk6, tv, lv, told, hsd, _, _⟩
      have HK6 : Hid (Kept (fun _ => False) w w6) := (HK5.out.trans HKB.out).step hk6 (fun q hq e => by omega)
      obtain ⟨⟨rp, hsh⟩, h6⟩ := hsd
      rcases h6 with ⟨e, _⟩ | ⟨_, gt, tc, gl, lc, e1, _, e3, e4, _, _, _, e8⟩
      · rw [HITS.out] at e; cases e
      have hl2 : its2.length = 1 := by rw [HITS.out]; rfl
      rw [hl2] at e1
      subst e1
      have c1 := hsh.cells.2.1
      have c2 := (e3 0 (by rw [e4, hl2]; omega)).2.2
      obtain ⟨t1, _, t3, t4, _⟩ := e8 0 (by rw [hl2]; omega)
      rw [t3 (by rw [HITS.out]; exact (by decide : (3 : Int) < 6)), HITS.out] at t4
      have t4' : IsB w6 (told.getD 0 ItV.default).bv (List.replicate k 0) := t4
      generalize (told.getD 0 ItV.default).bv = bv at *
      rw [Nat.zero_mul, Nat.zero_add] at c2
      have HT4 := hid_of t4'
      obtain ⟨bao, bc, hbv⟩ := t4'.shape
      rw [List.length_replicate] at hbv
      subst hbv
      clear hsh e3 e4 e8 t1 t3 t4 t4' HRD HKB hk6 HO5 HK5
      have mk := fun W => make_any W k (by omega)
      have hsame : ∀ W', Kept (fun _ => False) w6 W' → Calls Try.prog 15 #[.slice bao k bc, .slice (some ⟨W'.heap.size, 0, none⟩) k k] (W'.alloc (.cells (zer k) 5)) fun e w'' => e = .returned (.bool true) ∧ Kept (fun _ => False) w6 w'' := fun W' hk => by
        refine (same_any _ _ _ _ _ (HT4.out.kept (hk.alloc _) (fun _ _ f => f)) (made_isB W' k) (by rw [List.length_replicate]; unfold maxLen; omega)).mono ?_
        rintro e w'' ⟨rfl, d, rfl⟩
        exact ⟨by simp, kept_drewN (hk.alloc _) d⟩
      have HSAME := hid_of hsame
      clear hsame HT4
      go_wp2_with fail
      go_region_held3 (fun w' => w'.cell? ⟨w5.heap.size + 1, 1, none⟩ = some (.slice (some ⟨gt, 0, none⟩) 1 tc) ∧ w'.cell? ⟨gt, 2, none⟩ = some (.slice bao k bc) ∧ Kept (fun _ => False) w6 w') (first | exact mv_alloc (by assumption) | assumption | exact ⟨c1, c2, (Kept.refl _ _).drew⟩ | exact ⟨c1, c2, Kept.refl _ _⟩ | exact ⟨hk7.cell c1 (fun f => f), hk7.cell c2 (fun f => f), hk7⟩ | exact ⟨(((Kept.refl _ _).drew).alloc _).cell c1 (fun f => f), (((Kept.refl _ _).drew).alloc _).cell c2 (fun f => f), ((Kept.refl _ _).drew).alloc _⟩ | exact ⟨((Kept.refl _ _).alloc _).cell c1 (fun f => f), ((Kept.refl _ _).alloc _).cell c2 (fun f => f), (Kept.refl _ _).alloc _⟩) (first | (go_at_call 15; refine (HSAME.out _ (by first | exact (Kept.refl _ _).drew | exact Kept.refl _ _ | assumption | (have h := ‹_ ∧ _ ∧ Kept _ _ _›; exact h.2.2))).mono ?_; rintro e w7 ⟨rfl, hk7⟩))
      go_wp2
      go_ret
      refine ⟨rfl, HK6.out.trans ?_⟩
      first | exact hk7 | exact hk7.drew | assumption
end Go.Proofs.Ytffabihenhejfab
