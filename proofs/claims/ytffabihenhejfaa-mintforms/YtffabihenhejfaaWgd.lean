/-
  written, of items that a Reader told.
-/
import Derived.Test.YtffabihenhejfaaNone
import Derived.Test.YtffabihenhejfaaRrun
namespace Go.Proofs.Ytffabihenhejfaa
open Go.RowKit
set_option linter.unusedVariables false

theorem good_item2 (x : ItV) (hg : Gd x) (l : List Int) (hl : l.length + x.enc.length ≤ 4194304) : St.item (.ok l) x.k x.n x.xs = .ok (l ++ x.enc) := by
  rw [item_bytes _ _ _ _ hg.1 hg.2.1, if_neg (by intro h; have := hg.2.2.2.2.1 h.1; omega)]
  exact put_ok _ _ hl

theorem run_good2 (its : List ItV) (hg : ∀ i, i < its.length → Gd (its.getD i ItV.default)) (hl : (encs its).length ≤ 4194304) (k : Nat) (hk : k ≤ its.length) : run (its.take k) = .ok (encs (its.take k)) := by
  induction k with
  | zero => rfl
  | succ k ih =>
    have h2 := encs_le its (k + 1)
    rw [encs_take_succ its k (by omega), List.length_append] at h2
    rw [run_take its k (by omega), ih (by omega), encs_take_succ its k (by omega)]
    exact good_item2 _ (hg k (by omega)) _ (by omega)

set_option maxRecDepth 100000 in
set_option maxHeartbeats 4000000 in
theorem written_row2 (gw c B : Nat) (its : List ItV) (N : Nat) (w : World) (hN : its.length = N) (hm : N ≤ 1000) (hit : ItemsAt w gw its) (hgood : ∀ i, i < N → Gd (its.getD i ItV.default) ∧ IsB w (its.getD i ItV.default).bv (its.getD i ItV.default).xs) (hl : (encs its).length ≤ 4194304) :
    Calls Try.prog 22 #[.slice (some ⟨gw, 0, none⟩) N c] w fun e w' => ∃ v', e = .returned (.tuple #[v', .bool true]) ∧ w'.ownsRow w.heap.size 5 1 v' (encs its).length ((encs its).map (Value.int .u8)) ∧ Kept (fun _ => False) w w' := by
  have HN := hid_of hN
  have HIT := hid_of hit
  have HG := hid_of hgood
  have HRG := hid_of (run_good2 its (fun i hi => (hgood i (by omega)).1) hl)
  clear hN hit hgood
  go_enter Try.func22, Try.ntmps22
  go_wp2_with fail
  refine (new_any w).mono ?_
  rintro e w0 ⟨rfl, rfl⟩
  go_wp2
  go_loopw [5] (fun i wr => ∃ (k : Nat) (v : Value), k ≤ N ∧ i = .int .i64 k ∧ WS wr w.heap.size v (run (its.take k)) ∧ Kept (fun _ => False) w wr ∧ (∀ q, v.ownBlock = some q → w.heap.size ≤ q)) (fun i _ => N - (intOf i).toNat)
  case atStart => exact ⟨0, .slice none 0 0, Nat.zero_le _, rfl, wr_new_s w, (Kept.refl _ _).alloc _, fun q hq => (by cases hq)⟩
  case round =>
    obtain ⟨k, v, hk, rfl, hws, hkp, hvo⟩ := hrel
    by_cases hlt : k < N
    · have hltI : (k : Int) < (N : Int) := by omega
      obtain ⟨q0, q1, q2⟩ := HIT.out k (by rw [HN.out]; exact hlt)
      obtain ⟨hgd, hib⟩ := HG.out k hlt
      have hst := run_take its k (by rw [HN.out]; exact hlt)
      generalize its.getD k ItV.default = x at *
      obtain ⟨xk, xn, xbv, xs⟩ := x
      dsimp only at q0 q1 q2 hib hst
      have r0 := hkp.cell q0 (fun f => f)
      have r1 := hkp.cell q1 (fun f => f)
      have r2 := hkp.cell q2 (fun f => f)
      have hpt := put_big w.heap.size v _ xk xn xbv xs wr hws hgd.1 hgd.2.1 hgd.2.2.1 hgd.2.2.2.1 (hib.kept hkp (fun _ _ f => f)) hgd.2.2.2.2.2.2.1 hgd.2.2.2.2.2.2.2 (fun hne q hq => by
        have := hib.lt hne q hq
        exact ⟨by omega, fun e => by have := hvo q e; omega⟩)
      rw [← hst] at hpt
      obtain ⟨ao, bc, rfl⟩ := hib.shape
      have HPT := hid_of hpt
      have HKP := hid_of hkp
      have HVO := hid_of hvo
      clear q0 q1 q2 hgd hib hst hws hkp hvo hpt HIT HG HRG
      go_wp2_with fail
      refine HPT.out.mono ?_
      rintro e w2 ⟨rfl, v2, h1, h2, h3⟩
      have H1 := hid_of h1
      have H2 : Hid (Kept (fun _ => False) w w2) := HKP.out.step h2 (fun q hq e => by rcases e with e | e; omega; have := HVO.out q e; omega)
      have H3 : Hid (∀ q, v2.ownBlock = some q → w.heap.size ≤ q) := fun q hq => by rcases h3 q hq with e | e; exact HVO.out q e; exact Nat.le_trans HKP.out.size e
      clear HPT HKP HVO h1 h2 h3 r0 r1 r2
      go_wp2
      go_roundw
      case rel => exact ⟨k + 1, v2, by omega, by go_num, H1.out, H2.out, H3.out⟩
      case measure => simp [intOf]; omega
    · obtain rfl : k = N := by omega
      have he : its.take k = its := List.take_of_length_le (by rw [HN.out]; exact Nat.le_refl _)
      have hr := HRG.out k (by rw [HN.out]; exact Nat.le_refl _)
      rw [hr, he] at hws
      have hd := done_s w.heap.size v _ wr hws
      have HD := hid_of hd
      have HKP := hid_of hkp
      have hnl : ¬ ((k : Int) < (k : Int)) := by omega
      clear hr he hws hd hkp hvo HIT HG HRG hlt hk
      go_wp2_with fail
      refine HD.out.mono ?_
      rintro e w2 ⟨v2, rfl, ho, hbl⟩
      simp only [St.err, St.bytes] at ho ⊢
      have HO := hid_of (own_less ho HKP.out.size)
      have HK2 := hid_of (HKP.out.trans ((kept_of_below hbl).mono (fun q hq h => absurd hq (by omega))))
      clear HD ho hbl
      go_wp2
      go_ret2
      exact ⟨_, rfl, HO.out, HK2.out⟩

theorem written_all (v : Value) (its : List ItV) (w : World) (hr : Row w v its) (hg : ∀ i, i < its.length → Gd (its.getD i ItV.default) ∧ IsB w (its.getD i ItV.default).bv (its.getD i ItV.default).xs) (hm : its.length ≤ 1000) (hl : (encs its).length ≤ 4194304) (hnil : its = [] → v = .slice none 0 0) :
    Calls Try.prog 22 #[v] w fun e w' => ∃ v', e = .returned (.tuple #[v', .bool true]) ∧ w'.ownsRow w.heap.size 5 1 v' (encs its).length ((encs its).map (Value.int .u8)) ∧ Kept (fun _ => False) w w' := by
  by_cases h0 : its = []
  · subst h0
    rw [hnil rfl]
    exact written_none w
  · rcases World.ownsRow.mk' hr with ⟨_, hn⟩ | ⟨g, cap, rfl⟩
    · exact absurd (List.length_eq_zero_iff.1 hn) h0
    · exact written_row2 g cap 0 its its.length w rfl hm (Row.items hr) hg hl

/-- A sheet behind Read that met no fault: what was told makes the bytes. -/
structure FDone (w' : World) (s : Nat) (allv tv : Value) (its told : List ItV) (bs : List Int) : Prop where
  sh : ∃ lv rp, Sh w' s allv tv lv rp
  row : Row w' tv told
  len : told.length = its.length
  enc : bs = encs told
  good : ∀ i, i < told.length → Gd (told.getD i ItV.default) ∧ IsB w' (told.getD i ItV.default).bv (told.getD i ItV.default).xs
  nil : told = [] → tv = .slice none 0 0

theorem FDone.new {w' w'' : World} {s : Nat} {allv tv : Value} {its told : List ItV} {bs : List Int} (h : FDone w' s allv tv its told bs) (hk : Kept (fun _ => False) w' w'') : FDone w'' s allv tv its told bs := by
  obtain ⟨lv, rp, hs⟩ := h.sh
  exact ⟨⟨lv, rp, hs.kept hk (fun f => f)⟩, hk.ownsRow h.row (fun _ _ f => f), h.len, h.enc, fun i hi => ⟨(h.good i hi).1, (h.good i hi).2.kept hk (fun _ _ f => f)⟩, h.nil⟩
end Go.Proofs.Ytffabihenhejfaa
