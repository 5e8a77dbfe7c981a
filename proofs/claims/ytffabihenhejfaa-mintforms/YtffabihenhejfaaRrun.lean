/-
  sheet.run over any bytes.
-/
import Derived.Test.YtffabihenhejfaaSheet
import Derived.Test.YtffabihenhejfaaLeadt
import Derived.Deep.RegionLaw
import Derived.Deep.DeepCutAuto
import Derived.Deep.CutBlock
namespace Go.Proofs.Ytffabihenhejfaa
open Go.RowKit
set_option linter.unusedVariables false
set_option linter.unusedSimpArgs false

/-- An item that a Reader told: it may be put, and its bytes are as many as a Writer takes. -/
def Gd (x : ItV) : Prop := 1 ≤ x.k ∧ x.k ≤ 6 ∧ -9223372036854775808 ≤ x.n ∧ x.n < 9223372036854775808 ∧ (x.k = 1 → 0 ≤ x.n) ∧ (x.k = 3 → 0 ≤ x.n ∧ x.n ≤ 1) ∧ (∀ y ∈ x.xs, 0 ≤ y ∧ y ≤ 255) ∧ x.xs.length ≤ 4194304

theorem RI.swap {w0 wr : World} {s r g : Nat} {wv tv lv : Value} {its told : List ItV} {lefts rest : List Int} (h : RI w0 wr s r g wv its tv lv told lefts rest) (its' : List ItV) (he : ∀ i, i < told.length → its'.getD i ItV.default = its.getD i ItV.default) : RI w0 wr s r g wv its' tv lv told lefts rest :=
  ⟨h.sh, h.rd, h.row, h.left, fun i hi => by rw [he i hi]; exact h.all i hi, h.kept, h.ht, h.hl, h.sl, h.rl, h.gl, h.sr, h.gr, h.gs⟩

/-- Behind k calls: what was told makes the bytes that were read. -/
def Run2 (w0 wr : World) (s r g : Nat) (wv : Value) (bs : List Int) (k : Nat) (tv lv : Value) (told : List ItV) (lefts rest : List Int) : Prop :=
  RI w0 wr s r g wv told tv lv told lefts rest ∧ told.length = k ∧ lefts.length = k ∧ bs = encs told ++ rest ∧ ∀ y ∈ told, Gd y

/-- The Reader's fault was thrown out of sheet.run. -/
def RThrew (w : World) (s r : Nat) (e : Ending) (w' : World) : Prop :=
  ∃ flt : Int, flt ≠ 0 ∧ e = .panicked [{ v := thrownV r, recovered := false }] ∧ Rd w' r (.slice none 0 0) false flt ∧ Kept (fun q => q = s ∨ q = r) w w'

theorem rthrew {w wr w2 : World} {s r : Nat} {o : Obj} {e : Ending} (hk : Kept (fun q => q = s ∨ q = r) w wr) (h : Threw r (wr.alloc o) e w2) : RThrew w s r e w2 := by
  obtain ⟨flt, h0, h1, h2, h3⟩ := h
  exact ⟨flt, h0, h1, h2, (hk.alloc o).trans (h3.mono (fun _ _ e => .inr e))⟩

theorem encs_snoc (l : List ItV) (y : ItV) : encs (l ++ [y]) = encs l ++ y.enc := by simp [encs]

theorem gd_mk {k n : Int} {bv : Value} {xs : List Int} (h1 : 1 ≤ k) (h2 : k ≤ 6) (h3 : -9223372036854775808 ≤ n) (h4 : n < 9223372036854775808) (h5 : k = 1 → 0 ≤ n) (h6 : k = 3 → 0 ≤ n ∧ n ≤ 1) (h7 : ∀ y ∈ xs, 0 ≤ y ∧ y ≤ 255) (h8 : xs.length ≤ 4194304) : Gd ⟨k, n, bv, xs⟩ := ⟨h1, h2, h3, h4, h5, h6, h7, h8⟩

theorem told_self {w0 w : World} {tv lv : Value} {y : ItV} (h1 : IsB w y.bv y.xs) (h2 : ∀ q, y.bv.ownBlock = some q → w0.heap.size ≤ q ∧ q < w.heap.size ∧ tv.ownBlock ≠ some q ∧ lv.ownBlock ≠ some q) : Told w0 w tv lv y y := ⟨rfl, fun _ => rfl, fun _ => rfl, h1, h2⟩

theorem run2_next {w0 wr : World} {s r g : Nat} {wv tv lv : Value} {its' told : List ItV} {bs lefts rest rest' : List Int} {y : ItV} {n : Int} {k : Nat} (hits : its' = told ++ [y]) (h : RI w0 wr s r g wv its' tv lv (told ++ [y]) (lefts ++ [n]) rest') (ht : told.length = k) (hl : lefts.length = k) (hb : bs = encs told ++ rest) (hg : ∀ z ∈ told, Gd z) (hgy : Gd y) (hr : rest = y.enc ++ rest') :
    Run2 w0 wr s r g wv bs (k + 1) tv lv (told ++ [y]) (lefts ++ [n]) rest' := by
  subst hits
  refine ⟨h, by rw [List.length_append, ht]; rfl, by rw [List.length_append, hl]; rfl, by rw [hb, hr, encs_snoc, List.append_assoc], fun z hz => ?_⟩
  rcases List.mem_append.1 hz with h | h
  · exact hg z h
  · rw [List.mem_singleton.1 h]; exact hgy

set_option maxRecDepth 100000 in
set_option maxHeartbeats 4000000 in
theorem run_any (s r g gw c : Nat) (its : List ItV) (N : Nat) (bs : List Int) (w : World) (rv : Value) (hN : its.length = N) (hm : N ≤ 1000)
    (hsh : Sh w s (.slice (some ⟨gw, 0, none⟩) N c) (.slice none 0 0) (.slice none 0 0) rv) (hit : ItemsAt w gw its) (hbl : ∀ i, i < N → ∃ ao bc, (its.getD i ItV.default).bv = .slice ao (its.getD i ItV.default).xs.length bc)
    (hkd : ∀ i, i < N → 1 ≤ (its.getD i ItV.default).k ∧ (its.getD i ItV.default).k ≤ 6 ∧ (its.getD i ItV.default).xs.length ≤ 1000000)
    (hrd : ∃ v, Rd w r v true 0 ∧ IsR w g v bs) (hbb : ∀ x ∈ bs, 0 ≤ x ∧ x ≤ 255) (hbs : bs.length ≤ 4194304) (hsr : s ≠ r) (hgr : g ≠ r) (hgs : g ≠ s) (hg : g < w.heap.size) (hws : gw ≠ s) (hwr : gw ≠ r) :
    Calls Try.prog 23 #[.pointer (some ⟨s, 0, none⟩), .pointer (some ⟨r, 0, none⟩)] w fun e w' => (e = .returned (.tuple #[]) ∧ ∃ tv lv told lefts rest, Run2 w w' s r g (.slice (some ⟨gw, 0, none⟩) N c) bs N tv lv told lefts rest) ∨ RThrew w s r e w' := by
  obtain ⟨i27, hi27, z270, z271, z272⟩ := info_parts Try.info27
  obtain ⟨i3, hi3, z30, z31, z32⟩ := info_parts Try.info3
  have HI0 : Hid (Run2 w (w.setCell ⟨s, 3, none⟩ (.pointer (some ⟨r, 0, none⟩))) s r g (.slice (some ⟨gw, 0, none⟩) N c) bs 0 (.slice none 0 0) (.slice none 0 0) [] [] bs) := by
    obtain ⟨v, h1, h2⟩ := hrd
    have hk := kept_set w s 3 (.pointer (some ⟨r, 0, none⟩))
    exact ⟨⟨hsh.set3 _, ⟨v, h1.kept hk (fun e => hsr e.symm), h2.kept hk hgs⟩, World.ownsRow_nil _ _ _ _, World.ownsRow_nil _ _ _ _, fun i hi => absurd hi (by simp), hk.mono (fun _ _ e => .inl e), fun q hq => (by cases hq), fun q hq => (by cases hq), hsh.lt, (h1.cells).2.2.2.2.2.2, hg, hsr, hgr, hgs⟩, rfl, rfl, rfl, fun y hy => absurd hy (by simp)⟩
  obtain ⟨s0, s1, s2, s3⟩ := hsh.cells
  have sf := hsh.frozen 3
  have hsl := hsh.lt
  have HN := hid_of hN
  have HIT := hid_of hit
  have HBL := hid_of hbl
  have HKD := hid_of hkd
  have HBB := hid_of hbb
  have HBS := hid_of hbs
  clear hN hit hbl hkd hrd hsh hbb hbs
  go_enter Try.func23, Try.ntmps23
  go_wp2
  go_loopw [4] (fun i wr => ∃ (k : Nat) (tv lv : Value) (told : List ItV) (lefts rest : List Int), k ≤ N ∧ i = .int .i64 k ∧ Run2 w wr s r g (.slice (some ⟨gw, 0, none⟩) N c) bs k tv lv told lefts rest) (fun i _ => N - (intOf i).toNat)
  case atStart => exact ⟨0, _, _, _, _, _, Nat.zero_le _, rfl, HI0.out⟩
  case round =>
    obtain ⟨k, tv, lv, told, lefts, rest, hk, rfl, hinv⟩ := hrel
    have HINV := hid_of hinv
    obtain ⟨hri, htl, hll, hbe, hgd⟩ := hinv
    obtain ⟨c0, c1, c2, c3⟩ := hri.sh.cells
    by_cases hlt : k < N
    · have hltI : (k : Int) < (N : Int) := by omega
      obtain ⟨q0, q1, q2⟩ := HIT.out k (by rw [HN.out]; exact hlt)
      obtain ⟨ao, bc, hbv⟩ := HBL.out k hlt
      obtain ⟨g1, g2, g3⟩ := HKD.out k hlt
      have hkw : ∀ (p : Addr) (u : Value), p.block = gw → w.cell? p = some u → wr.cell? p = some u := fun p u hp h => hri.kept.cell h (by rw [hp]; intro h; rcases h with h | h; exact hws h; exact hwr h)
      have r0 := hkw _ _ rfl q0
      have r2 := hkw _ _ rfl q2
      rw [hbv] at r2
      generalize its.getD k ItV.default = x at *
      obtain ⟨xk, xn, xbv, xs⟩ := x
      dsimp only at r0 r2 g1 g2 g3
      obtain ⟨v, hv1, hv2⟩ := hri.rd
      have hkA : Kept (fun _ => False) wr (wr.alloc (.cells #[.int .i64 xk, .int .i64 0, .slice none 0 0] 27)) := (Kept.refl _ _).alloc _
      have hv1' := hv1.kept hkA (fun f => f)
      have hv2' := hv2.kept hkA (fun f => f)
      have hpx0 := heap_alloc_new wr (.cells #[.int .i64 xk, .int .i64 0, .slice none 0 0] 27)
      have hws := hri.kept.size
      have hrlt := hri.rl
      have hslt := hri.sl
      have hglt := hri.gl
      have hbr : ∀ x ∈ rest, 0 ≤ x ∧ x ≤ 255 := fun x hx => HBB.out x (by rw [hbe]; exact List.mem_append_right _ hx)
      have hrl : rest.length ≤ 4194304 := by have := HBS.out; rw [hbe, List.length_append] at this; omega
      have HRI := hid_of hri
      have HPX := hid_of hpx0
      have hkk : xk = 1 ∨ xk = 2 ∨ xk = 3 ∨ xk = 4 ∨ xk = 5 ∨ xk = 6 := by omega
      have hT16 : told.length ≤ 1000 := by omega
      have hL16 : lefts.length ≤ 1000 := by omega
      have HTL := hid_of htl
      have HLL := hid_of hll
      have HBE := hid_of hbe
      have HGD := hid_of hgd
      have HBR := hid_of hbr
      have HV1 := hid_of hv1'
      have HV2 := hid_of hv2'
      have HT3 : Hid (∀ q, tv.ownBlock = some q → q < wr.heap.size) := fun q hq => (World.ownsRow.lt hri.row q hq).2
      have HL3 : Hid (∀ q, lv.ownBlock = some q → q < wr.heap.size) := fun q hq => (World.ownsRow.lt hri.left q hq).2
      have px0 : (wr.alloc (.cells #[.int .i64 xk, .int .i64 0, .slice none 0 0] 27)).cell? ⟨wr.heap.size, 0, none⟩ = some (.int .i64 xk) := by rw [cell_block _ _ _ _ _ _ hpx0]; rfl
      have hgl6 : gw < wr.heap.size := World.block_lt_of_cell? _ _ r2
      have r2A : (wr.alloc (.cells #[.int .i64 xk, .int .i64 0, .slice none 0 0] 27)).cell? ⟨gw, k * 3 + 2, none⟩ = some (.slice ao xs.length bc) := hkA.cell r2 (fun f => f)
      have c0A : (wr.alloc (.cells #[.int .i64 xk, .int .i64 0, .slice none 0 0] 27)).cell? ⟨s, 0, none⟩ = some (.slice (some ⟨gw, 0, none⟩) N c) := hkA.cell c0 (fun f => f)
      clear s0 s1 s2 s3 sf q0 q1 q2 hbv hkw HIT HBL HI0 HKD hri hv1 hv2 hv1' hv2' hkA hpx0 htl hll HINV hbe hgd hbr
      have hsw : s < wr.heap.size := by omega
      go_upto_block 2 with fail
      generalize hwA : wr.alloc (.cells #[.int .i64 xk, .int .i64 0, .slice none 0 0] 27) = wA at *
      go_cut [5] (fun xv wx => xv = .pointer (some ⟨wr.heap.size, 0, none⟩) ∧ ∃ (y : ItV) (rest' : List Int), wx.heap[wr.heap.size]? = some (.cells #[.int .i64 y.k, .int .i64 y.n, y.bv] 27 (0, 0)) ∧ RI w wx s r g (.slice (some ⟨gw, 0, none⟩) N c) told tv lv told lefts rest' ∧ Told w wx tv lv y y ∧ Gd y ∧ rest = y.enc ++ rest')
      case first =>
        clear r0 r2 c0 c1 c2 c3
        rcases hkk with rfl | rfl | rfl | rfl | rfl | rfl
        · have hcall := hid_of (num_any r g v rest wA 0 HV1.out HV2.out hgr HBR.out)
          go_wp2_with fail
          refine hcall.out.mono ?_
          rintro e w2 (⟨u, rest', hsp, h0, h1, rfl, v2, h21, h22, h23⟩ | hth)
          · have hb2 := (h23.block wr.heap.size (by rw [← hwA]; simp) (by omega)).trans HPX.out
            have p1 : w2.cell? ⟨wr.heap.size, 1, none⟩ = some (.int .i64 0) := by rw [cell_block _ _ _ _ _ _ hb2]; rfl
            have pf := frozen_block _ _ 1 _ _ hb2
            have HRI3 : Hid (RI w (w2.setCell ⟨wr.heap.size, 1, none⟩ (.int .i64 u)) s r g (.slice (some ⟨gw, 0, none⟩) N c) told tv lv told lefts rest') :=
              HRI.out.read (o := (.cells #[.int .i64 1, .int .i64 0, .slice none 0 0] 27)) (by rw [hwA]; exact (h23.mono (fun _ _ e => .inl e)).setCell (.inr (.inr rfl)) _) ⟨v2, h21.kept (kept_set _ _ _ _) (by omega), h22.kept (kept_set _ _ _ _) (by omega)⟩
            have HM : Hid (∃ (y : ItV) (rest' : List Int), (w2.setCell ⟨wr.heap.size, 1, none⟩ (.int .i64 u)).heap[wr.heap.size]? = some (.cells #[.int .i64 y.k, .int .i64 y.n, y.bv] 27 (0, 0)) ∧ RI w (w2.setCell ⟨wr.heap.size, 1, none⟩ (.int .i64 u)) s r g (.slice (some ⟨gw, 0, none⟩) N c) told tv lv told lefts rest' ∧ Told w (w2.setCell ⟨wr.heap.size, 1, none⟩ (.int .i64 u)) tv lv y y ∧ Gd y ∧ rest = y.enc ++ rest') :=
              ⟨⟨1, u, .slice none 0 0, []⟩, rest', by rw [set_block _ _ _ _ _ _ hb2]; rfl, HRI3.out, told_self (.inl ⟨rfl, _, _, rfl⟩) (fun q hq => (by cases hq)), gd_mk (by decide) (by decide) (by omega) (by omega) (fun _ => h0) (fun h => absurd h (by decide)) (fun y hy => absurd hy (by simp)) (by simp), by rw [hsp]; simp [ItV.enc, itemBytes]⟩
            clear hcall h21 h22 h23 hb2 HRI HPX HRI3 hsp
            go_wp2_with fail
            go_meet
            exact ⟨rfl, HM.out⟩
          · obtain ⟨flt, f0, rfl, f2, f3⟩ := hth
            exact ⟨rfl, .inr (rthrew HRI.out.kept (by rw [hwA]; exact ⟨flt, f0, rfl, f2, f3⟩))⟩
        · have hcall := hid_of (int_any r g v rest wA 0 HV1.out HV2.out hgr HBR.out)
          go_wp2_with fail
          refine hcall.out.mono ?_
          rintro e w2 (⟨u, rest', hsp, h0, h1, rfl, v2, h21, h22, h23⟩ | hth)
          · have hb2 := (h23.block wr.heap.size (by rw [← hwA]; simp) (by omega)).trans HPX.out
            have p1 : w2.cell? ⟨wr.heap.size, 1, none⟩ = some (.int .i64 0) := by rw [cell_block _ _ _ _ _ _ hb2]; rfl
            have pf := frozen_block _ _ 1 _ _ hb2
            have HRI3 : Hid (RI w (w2.setCell ⟨wr.heap.size, 1, none⟩ (.int .i64 u)) s r g (.slice (some ⟨gw, 0, none⟩) N c) told tv lv told lefts rest') :=
              HRI.out.read (o := (.cells #[.int .i64 2, .int .i64 0, .slice none 0 0] 27)) (by rw [hwA]; exact (h23.mono (fun _ _ e => .inl e)).setCell (.inr (.inr rfl)) _) ⟨v2, h21.kept (kept_set _ _ _ _) (by omega), h22.kept (kept_set _ _ _ _) (by omega)⟩
            have HM : Hid (∃ (y : ItV) (rest' : List Int), (w2.setCell ⟨wr.heap.size, 1, none⟩ (.int .i64 u)).heap[wr.heap.size]? = some (.cells #[.int .i64 y.k, .int .i64 y.n, y.bv] 27 (0, 0)) ∧ RI w (w2.setCell ⟨wr.heap.size, 1, none⟩ (.int .i64 u)) s r g (.slice (some ⟨gw, 0, none⟩) N c) told tv lv told lefts rest' ∧ Told w (w2.setCell ⟨wr.heap.size, 1, none⟩ (.int .i64 u)) tv lv y y ∧ Gd y ∧ rest = y.enc ++ rest') :=
              ⟨⟨2, u, .slice none 0 0, []⟩, rest', by rw [set_block _ _ _ _ _ _ hb2]; rfl, HRI3.out, told_self (.inl ⟨rfl, _, _, rfl⟩) (fun q hq => (by cases hq)), gd_mk (by decide) (by decide) h0 h1 (fun h => absurd h (by decide)) (fun h => absurd h (by decide)) (fun y hy => absurd hy (by simp)) (by simp), by rw [hsp]; simp [ItV.enc, itemBytes]⟩
            clear hcall h21 h22 h23 hb2 HRI HPX HRI3 hsp
            go_wp2_with fail
            go_meet
            exact ⟨rfl, HM.out⟩
          · obtain ⟨flt, f0, rfl, f2, f3⟩ := hth
            exact ⟨rfl, .inr (rthrew HRI.out.kept (by rw [hwA]; exact ⟨flt, f0, rfl, f2, f3⟩))⟩
        · have hcall := hid_of (bool_any r g v rest wA 0 HV1.out HV2.out hgr HBR.out)
          go_wp2_with fail
          refine hcall.out.mono ?_
          rintro e w2 (⟨u, rest', hsp, h0, h1, rfl, v2, h21, h22, h23⟩ | hth)
          · have hb2 := (h23.block wr.heap.size (by rw [← hwA]; simp) (by omega)).trans HPX.out
            have p1 : w2.cell? ⟨wr.heap.size, 1, none⟩ = some (.int .i64 0) := by rw [cell_block _ _ _ _ _ _ hb2]; rfl
            have pf := frozen_block _ _ 1 _ _ hb2
            have hu01 : u = 0 ∨ u = 1 := by omega
            rcases hu01 with rfl | rfl
            · have HRI3 : Hid (RI w w2 s r g (.slice (some ⟨gw, 0, none⟩) N c) told tv lv told lefts rest') :=
                HRI.out.read (o := (.cells #[.int .i64 3, .int .i64 0, .slice none 0 0] 27)) (by rw [hwA]; exact h23.mono (fun _ _ e => .inl e)) ⟨v2, h21, h22⟩
              have HM : Hid (∃ (y : ItV) (rest' : List Int), w2.heap[wr.heap.size]? = some (.cells #[.int .i64 y.k, .int .i64 y.n, y.bv] 27 (0, 0)) ∧ RI w w2 s r g (.slice (some ⟨gw, 0, none⟩) N c) told tv lv told lefts rest' ∧ Told w w2 tv lv y y ∧ Gd y ∧ rest = y.enc ++ rest') :=
                ⟨⟨3, 0, .slice none 0 0, []⟩, rest', hb2, HRI3.out, told_self (.inl ⟨rfl, _, _, rfl⟩) (fun q hq => (by cases hq)), gd_mk (by decide) (by decide) (by decide) (by decide) (fun h => absurd h (by decide)) (fun _ => ⟨Int.le_refl _, by decide⟩) (fun y hy => absurd hy (by simp)) (by simp), by rw [hsp]; simp [ItV.enc, itemBytes]⟩
              clear hcall h21 h22 h23 hb2 HRI HPX HRI3 hsp
              go_wp2_with fail
              go_meet
              exact ⟨rfl, HM.out⟩
            · have HRI3 : Hid (RI w (w2.setCell ⟨wr.heap.size, 1, none⟩ (.int .i64 1)) s r g (.slice (some ⟨gw, 0, none⟩) N c) told tv lv told lefts rest') :=
                HRI.out.read (o := (.cells #[.int .i64 3, .int .i64 0, .slice none 0 0] 27)) (by rw [hwA]; exact (h23.mono (fun _ _ e => .inl e)).setCell (.inr (.inr rfl)) _) ⟨v2, h21.kept (kept_set _ _ _ _) (by omega), h22.kept (kept_set _ _ _ _) (by omega)⟩
              have HM : Hid (∃ (y : ItV) (rest' : List Int), (w2.setCell ⟨wr.heap.size, 1, none⟩ (.int .i64 1)).heap[wr.heap.size]? = some (.cells #[.int .i64 y.k, .int .i64 y.n, y.bv] 27 (0, 0)) ∧ RI w (w2.setCell ⟨wr.heap.size, 1, none⟩ (.int .i64 1)) s r g (.slice (some ⟨gw, 0, none⟩) N c) told tv lv told lefts rest' ∧ Told w (w2.setCell ⟨wr.heap.size, 1, none⟩ (.int .i64 1)) tv lv y y ∧ Gd y ∧ rest = y.enc ++ rest') :=
                ⟨⟨3, 1, .slice none 0 0, []⟩, rest', by rw [set_block _ _ _ _ _ _ hb2]; rfl, HRI3.out, told_self (.inl ⟨rfl, _, _, rfl⟩) (fun q hq => (by cases hq)), gd_mk (by decide) (by decide) (by decide) (by decide) (fun h => absurd h (by decide)) (fun _ => ⟨by decide, Int.le_refl _⟩) (fun y hy => absurd hy (by simp)) (by simp), by rw [hsp]; simp [ItV.enc, itemBytes]⟩
              clear hcall h21 h22 h23 hb2 HRI HPX HRI3 hsp
              go_wp2_with fail
              go_meet
              exact ⟨rfl, HM.out⟩
          · obtain ⟨flt, f0, rfl, f2, f3⟩ := hth
            exact ⟨rfl, .inr (rthrew HRI.out.kept (by rw [hwA]; exact ⟨flt, f0, rfl, f2, f3⟩))⟩
        · have hcall := hid_of (bytes_any r g v rest wA 0 HV1.out HV2.out hgr (by rw [← hwA]; simp; omega) hrl HBR.out)
          go_wp2_with fail
          refine hcall.out.mono ?_
          rintro e w2 (⟨ys, rest', hsp, ⟨b2v, rfl, ho2⟩, v2, h21, h22, h23⟩ | hth)
          · have hb2 := (h23.block wr.heap.size (by rw [← hwA]; simp) (by omega)).trans HPX.out
            have p1 : w2.cell? ⟨wr.heap.size, 2, none⟩ = some (.slice none 0 0) := by rw [cell_block _ _ _ _ _ _ hb2]; rfl
            have pf := frozen_block _ _ 2 _ _ hb2
            have ho3 : w2.ownsRow (wr.heap.size + 1) 5 1 b2v ys.length (ys.map (Value.int .u8)) := by rw [← hwA] at ho2; simpa using ho2
            obtain ⟨bao2, bc2, rfl⟩ := ownsRow_shape ho3
            skip
            have hyb : ∀ y ∈ ys, 0 ≤ y ∧ y ≤ 255 := fun y hy => HBR.out y (by rw [hsp]; simp [hy])
            have hyl : ys.length ≤ 4194304 := by rw [hsp] at hrl; simp at hrl; omega
            have HRI3 : Hid (RI w (w2.setCell ⟨wr.heap.size, 2, none⟩ (.slice bao2 ys.length bc2)) s r g (.slice (some ⟨gw, 0, none⟩) N c) told tv lv told lefts rest') :=
              HRI.out.read (o := (.cells #[.int .i64 4, .int .i64 0, .slice none 0 0] 27)) (by rw [hwA]; exact (h23.mono (fun _ _ e => .inl e)).setCell (.inr (.inr rfl)) _) ⟨v2, h21.kept (kept_set _ _ _ _) (by omega), h22.kept (kept_set _ _ _ _) (by omega)⟩
            have HM : Hid (∃ (y : ItV) (rest' : List Int), (w2.setCell ⟨wr.heap.size, 2, none⟩ (.slice bao2 ys.length bc2)).heap[wr.heap.size]? = some (.cells #[.int .i64 y.k, .int .i64 y.n, y.bv] 27 (0, 0)) ∧ RI w (w2.setCell ⟨wr.heap.size, 2, none⟩ (.slice bao2 ys.length bc2)) s r g (.slice (some ⟨gw, 0, none⟩) N c) told tv lv told lefts rest' ∧ Told w (w2.setCell ⟨wr.heap.size, 2, none⟩ (.slice bao2 ys.length bc2)) tv lv y y ∧ Gd y ∧ rest = y.enc ++ rest') := by
              refine ⟨⟨4, 0, .slice bao2 ys.length bc2, ys⟩, rest', by rw [set_block _ _ _ _ _ _ hb2]; rfl, HRI3.out, told_self (isB_own ((kept_set _ _ _ _).ownsRow ho3 (fun q hq e => by have := (ho3.lt q hq).1; omega))) (fun q hq => ?_), gd_mk (by decide) (by decide) (by decide) (by decide) (fun h => absurd h (by decide)) (fun h => absurd h (by decide)) hyb hyl, by rw [hsp]; simp [ItV.enc, itemBytes]⟩
              have hq1 := ho3.lt q hq
              refine ⟨by omega, Nat.lt_of_lt_of_le hq1.2 (kept_set w2 _ _ _).size, fun e => ?_, fun e => ?_⟩
              · have := HT3.out q e; omega
              · have := HL3.out q e; omega
            clear hcall h21 h22 h23 hb2 HRI HPX HRI3 hsp ho2 ho3
            go_wp2_with fail
            go_meet
            exact ⟨rfl, HM.out⟩
          · obtain ⟨flt, f0, rfl, f2, f3⟩ := hth
            exact ⟨rfl, .inr (rthrew HRI.out.kept (by rw [hwA]; exact ⟨flt, f0, rfl, f2, f3⟩))⟩
        · have hcall := hid_of (text_any r g v rest wA 0 HV1.out HV2.out hgr hrl HBR.out)
          go_wp2_with fail
          refine hcall.out.mono ?_
          rintro e w2 (⟨ys, rest', hsp, rfl, v2, h21, h22, h23⟩ | hth)
          · have hyb : ∀ y ∈ ys, 0 ≤ y ∧ y ≤ 255 := fun y hy => HBR.out y (by rw [hsp]; simp [hy])
            have hyl : ys.length ≤ 4194304 := by rw [hsp] at hrl; simp at hrl; omega
            obtain ⟨cp, wv, hcv, hkv, hbv, hszv⟩ := conv_back w2 ys hyb
            have hs23 := h23.size
            rw [← hwA, show (wr.alloc (.cells #[.int .i64 5, .int .i64 0, .slice none 0 0] 27)).heap.size = wr.heap.size + 1 from by simp] at hs23
            have hb2 := (hkv.block wr.heap.size (by omega) (fun f => f)).trans ((h23.block wr.heap.size (by rw [← hwA]; simp) (by omega)).trans HPX.out)
            have p1 : wv.cell? ⟨wr.heap.size, 2, none⟩ = some (.slice none 0 0) := by rw [cell_block _ _ _ _ _ _ hb2]; rfl
            have pf := frozen_block _ _ 2 _ _ hb2
            have HRI3 : Hid (RI w (wv.setCell ⟨wr.heap.size, 2, none⟩ (.slice (some ⟨w2.heap.size, 0, none⟩) ys.length cp)) s r g (.slice (some ⟨gw, 0, none⟩) N c) told tv lv told lefts rest') :=
              HRI.out.read (o := (.cells #[.int .i64 5, .int .i64 0, .slice none 0 0] 27)) (by rw [hwA]; exact ((h23.mono (fun _ _ e => .inl e)).step hkv (fun _ _ f => f.elim)).setCell (.inr (.inr rfl)) _) ⟨v2, (h21.kept hkv (fun f => f)).kept (kept_set _ _ _ _) (by omega), (h22.kept hkv (fun f => f)).kept (kept_set _ _ _ _) (by omega)⟩
            have HM : Hid (∃ (y : ItV) (rest' : List Int), (wv.setCell ⟨wr.heap.size, 2, none⟩ (.slice (some ⟨w2.heap.size, 0, none⟩) ys.length cp)).heap[wr.heap.size]? = some (.cells #[.int .i64 y.k, .int .i64 y.n, y.bv] 27 (0, 0)) ∧ RI w (wv.setCell ⟨wr.heap.size, 2, none⟩ (.slice (some ⟨w2.heap.size, 0, none⟩) ys.length cp)) s r g (.slice (some ⟨gw, 0, none⟩) N c) told tv lv told lefts rest' ∧ Told w (wv.setCell ⟨wr.heap.size, 2, none⟩ (.slice (some ⟨w2.heap.size, 0, none⟩) ys.length cp)) tv lv y y ∧ Gd y ∧ rest = y.enc ++ rest') := by
              refine ⟨⟨5, 0, .slice (some ⟨w2.heap.size, 0, none⟩) ys.length cp, ys⟩, rest', by rw [set_block _ _ _ _ _ _ hb2]; rfl, HRI3.out, told_self (hbv.kept (kept_set _ _ _ _) (fun q hq e => by have := Option.some.inj hq; simp at this; omega)) (fun q hq => ?_), gd_mk (by decide) (by decide) (by decide) (by decide) (fun h => absurd h (by decide)) (fun h => absurd h (by decide)) hyb hyl, by rw [hsp]; simp [ItV.enc, itemBytes]⟩
              have hq1 : w2.heap.size = q := Option.some.inj hq
              refine ⟨by omega, by have := (kept_set wv wr.heap.size 2 (.slice (some ⟨w2.heap.size, 0, none⟩) ys.length cp)).size; omega, fun e => ?_, fun e => ?_⟩
              · have := HT3.out q e; omega
              · have := HL3.out q e; omega
            clear hcall h21 h22 h23 hb2 HRI HPX HRI3 hsp hkv hbv hszv hs23
            go_wp2_with fail
            go_meet
            exact ⟨rfl, HM.out⟩
          · obtain ⟨flt, f0, rfl, f2, f3⟩ := hth
            exact ⟨rfl, .inr (rthrew HRI.out.kept (by rw [hwA]; exact ⟨flt, f0, rfl, f2, f3⟩))⟩
        · have hcall := hid_of (raw_all r g xs.length v rest wA 0 HV1.out HV2.out hgr (by rw [← hwA]; simp; omega) (by omega) (by omega))
          go_wp2_with fail
          refine hcall.out.mono ?_
          rintro e w2 (⟨ys, rest', hsp, hyn, ⟨b2v, rfl, ho2⟩, v2, h21, h22, h23⟩ | hth)
          · have hb2 := (h23.block wr.heap.size (by rw [← hwA]; simp) (by omega)).trans HPX.out
            have p1 : w2.cell? ⟨wr.heap.size, 2, none⟩ = some (.slice none 0 0) := by rw [cell_block _ _ _ _ _ _ hb2]; rfl
            have pf := frozen_block _ _ 2 _ _ hb2
            have ho3 : w2.ownsRow (wr.heap.size + 1) 5 1 b2v ys.length (ys.map (Value.int .u8)) := by rw [← hwA] at ho2; simpa [← hyn] using ho2
            obtain ⟨bao2, bc2, rfl⟩ := ownsRow_shape ho3
            clear hyn
            have hyb : ∀ y ∈ ys, 0 ≤ y ∧ y ≤ 255 := fun y hy => HBR.out y (by rw [hsp]; simp [hy])
            have hyl : ys.length ≤ 4194304 := by rw [hsp] at hrl; simp at hrl; omega
            have HRI3 : Hid (RI w (w2.setCell ⟨wr.heap.size, 2, none⟩ (.slice bao2 ys.length bc2)) s r g (.slice (some ⟨gw, 0, none⟩) N c) told tv lv told lefts rest') :=
              HRI.out.read (o := (.cells #[.int .i64 6, .int .i64 0, .slice none 0 0] 27)) (by rw [hwA]; exact (h23.mono (fun _ _ e => .inl e)).setCell (.inr (.inr rfl)) _) ⟨v2, h21.kept (kept_set _ _ _ _) (by omega), h22.kept (kept_set _ _ _ _) (by omega)⟩
            have HM : Hid (∃ (y : ItV) (rest' : List Int), (w2.setCell ⟨wr.heap.size, 2, none⟩ (.slice bao2 ys.length bc2)).heap[wr.heap.size]? = some (.cells #[.int .i64 y.k, .int .i64 y.n, y.bv] 27 (0, 0)) ∧ RI w (w2.setCell ⟨wr.heap.size, 2, none⟩ (.slice bao2 ys.length bc2)) s r g (.slice (some ⟨gw, 0, none⟩) N c) told tv lv told lefts rest' ∧ Told w (w2.setCell ⟨wr.heap.size, 2, none⟩ (.slice bao2 ys.length bc2)) tv lv y y ∧ Gd y ∧ rest = y.enc ++ rest') := by
              refine ⟨⟨6, 0, .slice bao2 ys.length bc2, ys⟩, rest', by rw [set_block _ _ _ _ _ _ hb2]; rfl, HRI3.out, told_self (isB_own ((kept_set _ _ _ _).ownsRow ho3 (fun q hq e => by have := (ho3.lt q hq).1; omega))) (fun q hq => ?_), gd_mk (by decide) (by decide) (by decide) (by decide) (fun h => absurd h (by decide)) (fun h => absurd h (by decide)) hyb hyl, by rw [hsp]; simp [ItV.enc, itemBytes]⟩
              have hq1 := ho3.lt q hq
              refine ⟨by omega, Nat.lt_of_lt_of_le hq1.2 (kept_set w2 _ _ _).size, fun e => ?_, fun e => ?_⟩
              · have := HT3.out q e; omega
              · have := HL3.out q e; omega
            clear hcall h21 h22 h23 hb2 HRI HPX HRI3 hsp ho2 ho3
            go_wp2_with fail
            go_meet
            exact ⟨rfl, HM.out⟩
          · obtain ⟨flt, f0, rfl, f2, f3⟩ := hth
            exact ⟨rfl, .inr (rthrew HRI.out.kept (by rw [hwA]; exact ⟨flt, f0, rfl, f2, f3⟩))⟩
      case rest =>
        obtain ⟨hx5, ⟨yk, yn, ybv, yxs⟩, rest', hpb, hri3, hy, hgy, hre⟩ := hcut
        subst hx5
        obtain ⟨yao, yc, hyb⟩ := hy.2.2.2.1.shape
        dsimp only at hyb hpb
        subst hyb
        rename World => w3
        obtain ⟨its', hits'⟩ : ∃ its' : List ItV, its' = told ++ [⟨yk, yn, .slice yao yxs.length yc, yxs⟩] := ⟨_, rfl⟩
        have HITS := hid_of hits'
        have HRI3 := hid_of (hri3.swap its' (fun i hi => by rw [hits', getD_snoc _ _ _ (by omega), if_neg (by omega)]))
        have HY : Hid (Told w w3 tv lv (its'.getD told.length ItV.default) ⟨yk, yn, .slice yao yxs.length yc, yxs⟩) := by
          rw [hits', getD_snoc _ _ _ (by omega), if_pos rfl]
          exact hy
        have HGY := hid_of hgy
        have HRE := hid_of hre
        clear hits' hri3 hy hgy hre HRI HPX HV1 HV2 HBR r0 r2 c0 c1 c2 c3 px0 r2A c0A HT3 HL3 hwA
        have p0 : w3.cell? ⟨wr.heap.size, 0, none⟩ = some (.int .i64 yk) := by rw [cell_block _ _ _ _ _ _ hpb]; rfl
        have p1 : w3.cell? ⟨wr.heap.size, 1, none⟩ = some (.int .i64 yn) := by rw [cell_block _ _ _ _ _ _ hpb]; rfl
        have p2 : w3.cell? ⟨wr.heap.size, 2, none⟩ = some (.slice yao yxs.length yc) := by rw [cell_block _ _ _ _ _ _ hpb]; rfl
        have hpl : wr.heap.size < w3.heap.size := (Array.getElem?_eq_some_iff.1 hpb).1
        obtain ⟨_, d1, _, _⟩ := HRI3.out.sh.cells
        have hs3 := HRI3.out.sh.lt
        have HROW := hid_of HRI3.out.row
        have HTS : Hid (∀ w5 : World, Kept (fun q => tv.ownBlock = some q) w3 w5 → w5.cell? ⟨s, 1, none⟩ = some tv ∧ w5.frozen? ⟨s, 1, none⟩ = false) := fun w5 hk5 => by
          have h5 := HRI3.out.sh.kept hk5 (fun e => by have := (HRI3.out.ht s e).1; omega)
          exact ⟨h5.cells.2.1, h5.frozen 1⟩
        clear hpb
        go_wp2_with fail
        go_cut [5] (fun _ wx => ∃ (tv' : Value), RI w wx s r g (.slice (some ⟨gw, 0, none⟩) N c) its' tv' lv (told ++ [⟨yk, yn, .slice yao yxs.length yc, yxs⟩]) lefts rest')
        case first =>
          go_region_law (first | (refine step_own_at rfl (.tmp 74) (.tmp 76) 22 rfl 0 27 i27 (.agg #[.int .i64 0, .int .i64 0, .slice none 0 0]) 3 40 Try.underlying22 hi27 z270 z271 z272 rfl (by decide) tv told.length (told.flatMap ItV.cells) rfl (by exact HROW.out.alloc _) ⟨w3.heap.size, 0, none⟩ 1 1 [.int .i64 yk, .int .i64 yn, .slice yao yxs.length yc] rfl rfl (by intro j u hj; simpa using cell_three_new w3 _ _ _ 27 j u hj) (by intro u hu; simp at hu; rcases hu with rfl | rfl | rfl <;> rfl) (by unfold maxLen; omega) (by omega) (Nat.zero_le _) ?_; intro tv' w5 hown' hgrow hat; have hk5 := kept_app (w3 := w3) hgrow (by first | exact (Kept.refl _ w3).alloc _ | exact ((Kept.refl _ w3).alloc _).drew | exact ((Kept.refl _ w3).drew).alloc _); obtain ⟨k1, k2⟩ := HTS.out w5 hk5; have HR6 := hid_of (HRI3.out.told (y := ⟨yk, yn, .slice yao yxs.length yc, yxs⟩) hown' hk5 (hat_of hat (by simp)) HY.out); obtain ⟨tao, tcap, rfl⟩ := ownsRow_shape hown'; clear hown' hgrow hat hk5))
          all_goals (try go_wp2_with fail)
          all_goals go_meet
          all_goals exact ⟨_, HR6.out⟩
        case rest =>
          obtain ⟨tv', hr6⟩ := hcut
          have HR6 := hid_of hr6
          clear HROW HTS HY HRI3 d1 p0 p1 p2 hr6
          rename World => w6
          go_wp2_with fail
          obtain ⟨v6, hv61, hv62⟩ := HR6.out.rd
          have HLF := hid_of (rleft r g v6 rest' w6.drew true 0 hv61 hv62)
          obtain ⟨_, _, e2, _⟩ := HR6.out.sh.cells
          have HLR := hid_of HR6.out.left
          have hs6 := HR6.out.sh.lt
          have HLS : Hid (∀ w8 : World, Kept (fun q => lv.ownBlock = some q) w6 w8 → w8.cell? ⟨s, 2, none⟩ = some lv ∧ w8.frozen? ⟨s, 2, none⟩ = false) := fun w8 hk8 => by
            have h8 := HR6.out.sh.kept hk8 (fun e => by have := HR6.out.hl s e; omega)
            exact ⟨h8.cells.2.2.1, h8.frozen 2⟩
          clear hv61 hv62
          go_region_law (first | (refine step_call1 rfl 49 (.tmp 85) 56 rfl _ rfl _ (ent49 _ _) HLF.out ?_) | (refine step_own_at rfl (.tmp 84) (.tmp 87) 49 rfl 0 3 i3 (.int .i64 0) 1 8 Try.underlying49 hi3 z30 z31 z32 rfl (by decide) lv lefts.length (lefts.map (Value.int .i64)) (by simp [Act.eval, Act.put]) (by exact HLR.out.alloc _) ⟨w6.heap.size, 0, none⟩ 1 1 [.int .i64 rest'.length] (by simp [Act.eval, Act.put]) rfl (by intro j u hj; simpa using cell_one_new w6 _ 3 j u hj) (by intro u hu; simp at hu; subst hu; rfl) (by unfold maxLen; omega) (by omega) (Nat.zero_le _) ?_; intro lv' w8 hown' hgrow hat; have hk8 := kept_app (w3 := w6) hgrow (by first | exact (Kept.refl _ w6).alloc _ | exact ((Kept.refl _ w6).alloc _).drew | exact ((Kept.refl _ w6).drew).alloc _); obtain ⟨k1, k2⟩ := HLS.out w8 hk8; have HR9 := hid_of (HR6.out.lefts hown' hk8 (hat_of hat (by simp))); obtain ⟨lao, lcap, rfl⟩ := ownsRow_shape hown'; clear hown' hgrow hat hk8))
          all_goals
            have HREL := hid_of (run2_next HITS.out HR9.out HTL.out HLL.out HBE.out HGD.out HGY.out HRE.out)
            clear HLF HLS HLR HR6 e2 HR9
            generalize hw9 : World.setCell _ _ _ = w9 at *
            clear hw9 k1 k2
            go_wp2
            go_roundw
            case rel => exact ⟨k + 1, _, _, _, _, _, by omega, by go_num, HREL.out⟩
            case measure => simp [intOf]; omega
    · have hkN : k = N := by omega
      have HK := hid_of hkN
      have hnl : ¬ ((k : Int) < (N : Int)) := by omega
      clear hlt HIT HBL HI0 HKD hkN htl hll hri hbe hgd
      go_wp2
      go_end0
      refine .inl ⟨rfl, tv, lv, told, lefts, rest, ?_⟩
      have := HINV.out
      rw [HK.out] at this
      exact this
end Go.Proofs.Ytffabihenhejfaa
