import Derived.Test.YtcaadgcfceommaaGreatTJn
namespace Go.Proofs.YtcaadgcfceommaaGreat
open Go.RowKit
set_option linter.unusedVariables false
set_option linter.unusedSimpArgs false
set_option maxRecDepth 100000
def KnT (nf : Nat) (bs : List BD) (ts : List Int) (ws : List Bool) : Prop := ∀ i, i < nf → ws.getD i false = true → ts.getD i 0 = capM ((tuL bs).getD i 0)
structure Rk (w0 w1 wr : World) (g gC gT gI gW nf : Nat) (C : Array Value) (cs is' : List Int) (is : List Bool) (ts : List Int) (ws : List Bool) (go gf n : Nat) (outs ofs : List Int) : Prop where
 sm : Sm w0 wr g gC gT gI gW nf C cs ts is ws
 oo : wr.ownsRow w1.heap.size 3 1 (.slice (some ⟨go, 0, none⟩) n n) n (ints outs)
 ff : wr.ownsRow w1.heap.size 3 1 (.slice (some ⟨gf, 0, none⟩) nf nf) nf (ints ofs)
 ap : go ≠ gf
 lo : outs.length = n
 lf : ofs.length = nf
 lt : g < w1.heap.size ∧ gC < w1.heap.size ∧ gT < w1.heap.size ∧ gI < w1.heap.size ∧ gW < w1.heap.size ∧ w0.heap.size ≤ w1.heap.size
 kept : Kept (fun k => k = gT ∨ k = gW) w1 wr
section
variable {w0 w1 wr w' : World} {g gC gT gI gW nf : Nat} {C : Array Value} {cs is' : List Int} {is : List Bool} {ts : List Int} {ws : List Bool} {go gf n : Nat} {outs ofs : List Int}
theorem Rk.ge (h : Rk w0 w1 wr g gC gT gI gW nf C cs is' is ts ws go gf n outs ofs) : w1.heap.size ≤ go ∧ w1.heap.size ≤ gf := ⟨(h.oo.lt go rfl).1, (h.ff.lt gf rfl).1⟩
theorem Rk.same (h : Rk w0 w1 wr g gC gT gI gW nf C cs is' is ts ws go gf n outs ofs) (hk : KF wr w') : Rk w0 w1 w' g gC gT gI gW nf C cs is' is ts ws go gf n outs ofs :=
 ⟨h.sm.same hk, hk.ownsRow h.oo (fun _ _ f => f), hk.ownsRow h.ff (fun _ _ f => f), h.ap, h.lo, h.lf, h.lt, h.kept.trans (hk.mono (fun _ _ f => f.elim))⟩
theorem Sm.other (h : Sm w0 wr g gC gT gI gW nf C cs ts is ws) {k : Nat} (hk : Kept (fun q => q = k) wr w') (h0 : k ≠ g ∧ k ≠ gC ∧ k ≠ gT ∧ k ≠ gI ∧ k ≠ gW) (hl : w0.heap.size ≤ k) : Sm w0 w' g gC gT gI gW nf C cs ts is ws :=
 ⟨box_kept hk h.box (fun e => h0.1 e.symm), hk.ownsRow h.cc (fun q hq e => by simp [Value.ownBlock] at hq; omega), hk.ownsRow h.tt (fun q hq e => by simp [Value.ownBlock] at hq; omega), hk.ownsRow h.ii (fun q hq e => by simp [Value.ownBlock] at hq; omega), hk.ownsRow h.ww (fun q hq e => by simp [Value.ownBlock] at hq; omega), h.ap, h.ln, h.kept.step hk (fun j hj e => by omega)⟩
theorem Rk.setO (h : Rk w0 w1 wr g gC gT gI gW nf C cs is' is ts ws go gf n outs ofs) (i : Nat) (x : Int) : Rk w0 w1 (wr.setCell ⟨go, i, none⟩ (.int .i64 x)) g gC gT gI gW nf C cs is' is ts ws go gf n (outs.set i x) ofs := by
 obtain ⟨g1, g2⟩ := h.ge
 have l := h.lt
 have hk := kept_set wr go i (.int .i64 x)
 refine ⟨h.sm.other hk (by omega) (by omega), ?_, hk.ownsRow h.ff (fun q hq e => by simp [Value.ownBlock] at hq; have := h.ap; omega), h.ap, by rw [List.length_set]; exact h.lo, h.lf, h.lt, h.kept.step hk (fun j hj e => by omega)⟩
 rw [show ints (outs.set i x) = (ints outs).set i (.int .i64 x) by simp [ints, List.map_set]]
 exact (World.ownsRow.stored h.oo i (.int .i64 x)).1
theorem Rk.setF (h : Rk w0 w1 wr g gC gT gI gW nf C cs is' is ts ws go gf n outs ofs) (i : Nat) (x : Int) : Rk w0 w1 (wr.setCell ⟨gf, i, none⟩ (.int .i64 x)) g gC gT gI gW nf C cs is' is ts ws go gf n outs (ofs.set i x) := by
 obtain ⟨g1, g2⟩ := h.ge
 have l := h.lt
 have hk := kept_set wr gf i (.int .i64 x)
 refine ⟨h.sm.other hk (by omega) (by omega), hk.ownsRow h.oo (fun q hq e => by simp [Value.ownBlock] at hq; have := h.ap; omega), ?_, h.ap, h.lo, by rw [List.length_set]; exact h.lf, h.lt, h.kept.step hk (fun j hj e => by omega)⟩
 rw [show ints (ofs.set i x) = (ints ofs).set i (.int .i64 x) by simp [ints, List.map_set]]
 exact (World.ownsRow.stored h.ff i (.int .i64 x)).1
theorem Rk.call (h : Rk w0 w1 wr g gC gT gI gW nf C cs is' is ts ws go gf n outs ofs) {ts' : List Int} {ws' : List Bool} (hk : Kept (fun k => k = gT ∨ k = gW) wr w') (hs : Sm w0 w' g gC gT gI gW nf C cs ts' is ws') : Rk w0 w1 w' g gC gT gI gW nf C cs is' is ts' ws' go gf n outs ofs := by
 obtain ⟨g1, g2⟩ := h.ge
 have l := h.lt
 exact ⟨hs, hk.ownsRow h.oo (fun q hq e => by simp [Value.ownBlock] at hq; omega), hk.ownsRow h.ff (fun q hq e => by simp [Value.ownBlock] at hq; omega), h.ap, h.lo, h.lf, h.lt, h.kept.trans hk⟩
theorem Rk.w0k (h : Rk w0 w1 wr g gC gT gI gW nf C cs is' is ts ws go gf n outs ofs) : KF w0 wr := h.sm.kept
end
def fil (n k : Nat) : List Int := List.replicate k (-1) ++ List.replicate (n - k) 0
theorem fil_len {n k : Nat} (h : k ≤ n) : (fil n k).length = n := by unfold fil; simp; omega
theorem fil_set {n k : Nat} (h : k < n) : (fil n k).set k (-1) = fil n (k + 1) := by
 unfold fil
 rw [List.set_append_right _ _ (by simp)]
 simp only [List.length_replicate, Nat.sub_self]
 rw [show n - k = (n - (k + 1)) + 1 by omega, List.replicate_succ, List.set_cons_zero, List.replicate_succ', List.append_assoc]
 rfl
theorem fil_zero (n : Nat) : fil n 0 = List.replicate n 0 := by simp [fil]
theorem fil_all (n : Nat) : fil n n = List.replicate n (-1) := by simp [fil]
def OfI (bs : List BD) (nf : Nat) (ofs : List Int) : Prop := ∀ j, j < nf → ofs.getD j 0 = -1 ∨ (ofs.getD j 0 = (tuL bs).getD j 0 ∧ (tuL bs).getD j 0 ≤ 1099511627776)
def OutI (bs : List BD) (q : Nat) (b : BD) (n : Nat) (outs : List Int) : Prop := ∀ j, j < n → outs.getD j 0 = -1 ∨ ((j : Int) ∈ b.order ∧ outs.getD j 0 = (tuR bs q).getD j 0 ∧ (tuR bs q).getD j 0 ≤ 1099511627776)
def Stk (b : BD) (n k : Nat) (outs : List Int) : Prop := ∀ j, k ≤ j → j < n → b.hs.getD j 0 ≠ -1 → outs.getD j 0 ≠ -1 ∨ ∃ m ∈ nxOf b.ss j, outs.getD m.toNat 0 = -1
theorem stk_all {p : PG} {bs : List BD} {q : Nat} {f : FN} {b : BD} (hb : BAt p bs q f b) (hl : b.loops = []) {outs : List Int} (hs : Stk b f.code.length 0 outs) : ∀ j : Nat, (j : Int) ∈ b.order → outs.getD j 0 ≠ -1 := by
 obtain ⟨_, t2, _⟩ := body_tour hb.ok hb.bd
 have hod := order_iff hb.ok hb.bd
 have key : ∀ (k : Nat) (pre post : List Int), pre.length = k → b.order = pre ++ post → ∀ j : Nat, (j : Int) ∈ pre → outs.getD j 0 ≠ -1 := by
  intro k
  induction k using Nat.strongRecOn with
  | ind k ih =>
   intro pre post hn he j hj
   obtain ⟨p1, p2, hp⟩ := List.append_of_mem hj
   have he' : b.order = p1 ++ (j : Int) :: (p2 ++ post) := by rw [he, hp]; simp
   have hjo := hod.1 (j : Int) (by rw [he']; simp)
   rw [Int.toNat_natCast] at hjo
   rcases hs j (by omega) (by omega) hjo.2.2 with h1 | ⟨m, hm, h1⟩
   ·exact h1
   ·exfalso
    have hm1 := t2 hl p1 j (p2 ++ post) he' m (by rw [← hb.ss]; exact hm)
    have hm0 := (hod.1 m (by rw [he']; simp [hm1])).1
    exact ih p1.length (by rw [← hn, hp]; simp) p1 ((j : Int) :: (p2 ++ post)) rfl he' m.toNat (by rw [Int.toNat_of_nonneg hm0]; exact hm1) h1
 exact fun j hj => key _ b.order [] rfl (by simp) j hj
theorem count_setI {l : List Int} {i : Nat} {x : Int} (hi : i < l.length) (h : l.getD i 0 = -1) (hx : x ≠ -1) : (l.set i x).count (-1) + 1 = l.count (-1) := by
 have hg : l[i] = -1 := by rw [← h]; simp [List.getD, List.getElem?_eq_getElem hi]
 have hpos : 0 < l.count (-1) := List.count_pos_iff.2 (by rw [← hg]; exact List.getElem_mem hi)
 rw [List.count_set hi, hg]
 simp [hx]
 omega
def CostC (bs : List BD) (w0 : World) (g gC gT gI gW nf : Nat) (C : Array Value) (cs : List Int) (is : List Bool) (q : Nat) : Prop := ∀ (w : World) (ts : List Int) (ws : List Bool), Sm w0 w g gC gT gI gW nf C cs ts is ws → KnT nf bs ts ws →
 Calls Tryz.prog 44 #[.pointer (some ⟨g, 0, none⟩), .int .i64 (q : Int)] w fun e w' => ∃ ts' ws', e = .returned (.int .i64 (capM ((tuL bs).getD q 0))) ∧ Sm w0 w' g gC gT gI gW nf C cs ts' is ws' ∧ KnT nf bs ts' ws' ∧ Kept (fun k => k = gT ∨ k = gW) w w'
set_option maxHeartbeats 40000000 in
theorem reck_ref {p : PG} {bs : List BD} {w0 : World} {B nd dc nf fc hg hc tg tc pg po : Nat} {mem : Int} {dao : Option Addr} (hS : SmB p bs w0 B nd dc nf fc hg hc tg tc pg po mem dao) (hQ : CostQ p bs) (lvv liv : Value) (g gC gT gI gW : Nat) (cs : List Int) (is : List Bool)
  (q : Nat) (hq : (q : Int) ∈ ordF bs) (ih : ∀ m ∈ leadP bs q, CostC bs w0 g gC gT gI gW nf #[.int .i64 mem, .slice dao nd dc, .slice (some ⟨pg, po, none⟩) nf fc, .slice (some ⟨hg, 0, none⟩) nf hc, .slice (some ⟨tg, 0, none⟩) nf tc, lvv, liv, .int .i64 0, .int .i64 0, .slice (some ⟨gC, 0, none⟩) nf nf, .slice (some ⟨gT, 0, none⟩) nf nf, .slice (some ⟨gI, 0, none⟩) nf nf, .slice (some ⟨gW, 0, none⟩) nf nf] cs is m.toNat) (w : World) (ts : List Int) (ws : List Bool) (hSm : Sm w0 w g gC gT gI gW nf #[.int .i64 mem, .slice dao nd dc, .slice (some ⟨pg, po, none⟩) nf fc, .slice (some ⟨hg, 0, none⟩) nf hc, .slice (some ⟨tg, 0, none⟩) nf tc, lvv, liv, .int .i64 0, .int .i64 0, .slice (some ⟨gC, 0, none⟩) nf nf, .slice (some ⟨gT, 0, none⟩) nf nf, .slice (some ⟨gI, 0, none⟩) nf nf, .slice (some ⟨gW, 0, none⟩) nf nf] cs ts is ws) (hKn : KnT nf bs ts ws) :
   Calls Tryz.prog 72 #[.pointer (some ⟨g, 0, none⟩), .int .i64 (q : Int)] w fun e w' => ∃ ts' ws', e = .returned (.int .i64 (capM ((tuL bs).getD q 0))) ∧ Sm w0 w' g gC gT gI gW nf #[.int .i64 mem, .slice dao nd dc, .slice (some ⟨pg, po, none⟩) nf fc, .slice (some ⟨hg, 0, none⟩) nf hc, .slice (some ⟨tg, 0, none⟩) nf tc, lvv, liv, .int .i64 0, .int .i64 0, .slice (some ⟨gC, 0, none⟩) nf nf, .slice (some ⟨gT, 0, none⟩) nf nf, .slice (some ⟨gI, 0, none⟩) nf nf, .slice (some ⟨gW, 0, none⟩) nf nf] cs ts' is ws' ∧ KnT nf bs ts' ws' ∧ Kept (fun k => k = gT ∨ k = gW) w w' := by
 obtain ⟨l1, l2, l3, _⟩ := lead_tour hS.hbs
 have hql := l2 _ hq
 have hqb : q < bs.length := by omega
 have hbl := hS.hbs.len
 obtain ⟨f, b, hb⟩ := hS.hbs.in' hqb
 obtain ⟨e1, e2, e3⟩ := hs_at hb hqb
 have hqn : q < nf := by have := hS.hnf; omega
 have hqI : (q : Int) < (nf : Int) := by omega
 have hF := heights_fit _ _ hb.ok b.hs (body_shape hb.bd).2.2.2
 obtain ⟨hn64, hall⟩ := plain_ok p hS.hbs.pl
 have hod := order_iff hb.ok hb.bd
 obtain ⟨n, hn⟩ := nmd (f.code.length)
 have hn1 : 1 ≤ n := by rw [hn]; exact hb.fo.n.1
 have hn4 : n ≤ 4096 := by rw [hn]; exact hb.fo.n.2
 have hnf1 : 1 ≤ nf := by have := hS.hnf; omega
 have hnf4 : nf ≤ 64 := by have := hS.hnf; omega
 obtain ⟨dv, fv, epv, hd, hdl, hfr⟩ := hS.hpg
 have efv : fv = .slice (some ⟨pg, po, none⟩) nf fc := by
  simp only [Value.agg.injEq, Array.mk.injEq, List.cons.injEq, and_true] at epv
  exact epv.2.2.symm
 subst efv
 obtain ⟨y0, y1, cg, co, cc, y3, hri⟩ := rowF_cells hfr hb.fn (by omega)
 rw [← hn] at y3 hri
 have HCD : Hid (∀ w' (i : Nat) (x : IN), f.code[i]? = some x → KF w0 w' → w'.cell? ⟨cg, co + i * 2, none⟩ = some (.int .i64 x.op) ∧ w'.cell? ⟨cg, co + i * 2 + 1, none⟩ = some (.int .i64 x.a)) := fun w' i x hx hw => by
  obtain ⟨z0, z1⟩ := rowI_cell hri hx
  exact ⟨hw.cell z0 id, hw.cell z1 id⟩
 have v3 : w.cell? ⟨pg, po + q * 4 + 3, none⟩ = some (.slice (some ⟨cg, co, none⟩) n cc) := hSm.kept.cell y3 id
 obtain ⟨hg', hc', ehv, HL⟩ := hS.hhh.look (by omega)
 cases ehv
 obtain ⟨u, hu0, hu1⟩ := HL w0 (Kept.refl _ _) q hqn
 rw [e1] at hu1
 have HUO : Hid (∀ w', KF w0 w' → OwnN w' 0 u b.hs) := fun w' hw => hw.ownsRow hu1 (fun _ _ f => f)
 obtain ⟨ug, uc, hus, _⟩ := own_look hu1 (show 0 < b.hs.length by rw [hF.len]; omega)
 rw [hF.len, ← hn] at hus
 subst hus
 have HHS : Hid (∀ w' (i : Nat), i < n → KF w0 w' → w'.cell? ⟨ug, i, none⟩ = some (.int .i64 (b.hs.getD i 0))) := fun w' i hi hw => hw.cell (own_int hu1 (by rw [hF.len, ← hn]) hi) id
 have HHU : Hid (∀ w', KF w0 w' → w'.cell? ⟨hg, q, none⟩ = some (.slice (some ⟨ug, 0, none⟩) n uc)) := fun w' hw => hw.cell hu0 id
 -- the calls
 have hpg0 := hS.hpg
 have HCL : Hid (∀ w', KF w0 w' → Calls Tryz.prog 71 #[.agg #[.int .i64 mem, .slice dao nd dc, .slice (some ⟨pg, po, none⟩) nf fc], .int .i64 (q : Int), .slice (some ⟨ug, 0, none⟩) n uc] w' fun e w2 => ∃ v', e = .returned v' ∧ OwnN w2 w'.heap.size v' (callsK f b.hs n) ∧ KF w' w2) := fun w' hw => by
  rw [hn]
  exact calls_ref _ p B w' (hpg0.kept hw (fun _ _ f => f)) q f hb.fn hb.fo _ b.hs (by rw [← hn]; exact hw.ownsRow hu1 (fun _ _ f => f)) hF.len
 have hlo0 := hS.hlo
 have hpo := hS.hok
 have HNX : Hid (∀ (j : Nat) w', (j : Int) ∈ b.order → KF w0 w' → Calls Tryz.prog 19 #[.agg #[.int .i64 mem, .slice dao nd dc, .slice (some ⟨pg, po, none⟩) nf fc], .agg #[.int .i64 (q : Int), .int .i64 (j : Int)]] w' fun e w2 => ∃ v', e = .returned v' ∧ OwnN w2 w'.heap.size v' (nxOf b.ss j) ∧ KF w' w2) := fun j w' hj hw => by
  rw [← next_nx hb hj]
  exact rnext_any _ p w' B (hpg0.kept hw (fun _ _ f => f)) (Nat.le_trans hlo0 hw.size) hpo (q : Int) (j : Int)
 have HMEM : Hid (∀ y, y ∈ callsK f b.hs n → ∃ a : Nat, y = (a : Int) ∧ a < nf ∧ (tuL bs).getD a 0 < (tuL bs).getD q 0 ∧ 1 ≤ (tuL bs).getD a 0 ∧ CostC bs w0 g gC gT gI gW nf #[.int .i64 mem, .slice dao nd dc, .slice (some ⟨pg, po, none⟩) nf fc, .slice (some ⟨hg, 0, none⟩) nf hc, .slice (some ⟨tg, 0, none⟩) nf tc, lvv, liv, .int .i64 0, .int .i64 0, .slice (some ⟨gC, 0, none⟩) nf nf, .slice (some ⟨gT, 0, none⟩) nf nf, .slice (some ⟨gI, 0, none⟩) nf nf, .slice (some ⟨gW, 0, none⟩) nf nf] cs is a) := fun y hy => by
  have hm : y ∈ leadP bs q := by
   rw [calls_lead hS.hbs hqb, cnx_at hb.fn, e1, ← hn]
   exact hy
  have hr := lead_rng hS.hbs q hqb _ hm
  have ho := l3 q hq _ hm
  obtain ⟨a, ha⟩ : ∃ a : Nat, y = (a : Int) := ⟨y.toNat, by omega⟩
  have h9 := ih _ hm
  have h8 := hQ.lead hS.hbs hq hm
  rw [ha, Int.toNat_natCast] at h9 h8
  rw [ha] at ho
  have hab : a < bs.length := by omega
  obtain ⟨fa, ba, hba⟩ := hS.hbs.in' hab
  have h7 := hQ.one a fa ba ho hba 0 (zero_ord hba.ok hba.bd)
  rw [← hQ.z a ho] at h7
  exact ⟨a, ha, by have := hS.hnf; omega, h8, h7, h9⟩
 have HCM : Hid (∀ (i : Nat) (x : IN), f.code[i]? = some x → x.op = 17 → b.hs.getD i 0 ≠ -1 → x.a ∈ callsK f b.hs n) := fun i x hx h17 hne => by
  rw [callsK_mem]
  exact ⟨i, x, by rw [hn]; exact (List.getElem?_eq_some_iff.1 hx).1, hx, h17, hne, rfl⟩
 have HCLN := hid_of (callsK_len f b.hs n)
 have HEQ : Hid (∀ (i : Nat) (x : IN), f.code[i]? = some x → (i : Int) ∈ b.order → (tuR bs q).getD i 0 = 1 + (if x.op = 17 then (tuL bs).getD x.a.toNat 0 else 0) + costM (tuR bs q) (nxOf b.ss i) 0) := fun i x hx hi => by
  have h9 := hQ.eq q f b hq hb i hi
  rw [h9, hb.ss, getD_some (steps_at (p := p) hx)]
  rfl
 have HONE : Hid (∀ i : Nat, (i : Int) ∈ b.order → 1 ≤ (tuR bs q).getD i 0 ∧ (tuR bs q).getD i 0 ≤ (tuL bs).getD q 0) := fun i hi => ⟨hQ.one q f b hq hb i hi, hQ.le0 hq hb hi⟩
 have HZ : Hid ((tuL bs).getD q 0 = (tuR bs q).getD 0 0) := hQ.z q hq
 have HOD : Hid (∀ i, i < n → b.hs.getD i 0 ≠ -1 → (i : Int) ∈ b.order) := fun i hi hne => hod.2 i (by rw [← hn]; exact hi) hne
 have HNR : Hid (∀ i : Nat, (i : Int) ∈ b.order → (nxOf b.ss i).length ≤ 10000 ∧ ∀ m ∈ nxOf b.ss i, 0 ≤ m ∧ m < n) := fun i hi => by
  refine ⟨?_, fun m hm => by have := nx_order hb hi m hm; rw [hn]; exact ⟨this.1, this.2.1⟩⟩
  have h9 : (nextD p (q : Int) (i : Int)).length ≤ 2 := (next_ok hb.fn i (by have := (hod.1 _ hi).2.1; omega)).2
  rw [next_nx hb hi] at h9
  omega
 have hlp := hQ.lp q hq
 rw [hb.gd] at hlp
 have HSTK : Hid (∀ outs, Stk b n 0 outs → ∀ j : Nat, (j : Int) ∈ b.order → outs.getD j 0 ≠ -1) := fun outs hs => by
  rw [hn] at hs
  exact stk_all hb hlp hs
 have HZO : Hid ((0 : Int) ∈ b.order) := zero_ord hb.ok hb.bd
 have HN := hid_of hn
 have HQN := hid_of hqn
 have HSM := hid_of hSm
 have HKN := hid_of hKn
 have HCX : Hid (∀ i, i < n → ∃ x, f.code[i]? = some x) := fun i hi => ⟨_, List.getElem?_eq_getElem (by rw [← hn]; exact hi)⟩
 obtain ⟨T, hT⟩ := nmd ((tuL bs).getD q 0)
 rw [← hT] at HMEM HONE HZ ⊢
 obtain ⟨c0, c1, c2, c3, c4, c9, c10, c11, c12⟩ := look13 hSm.box
 have hmk := makeInt w n (by omega)
 obtain ⟨go, hgo⟩ := nmd (w.heap.size)
 obtain ⟨W1, hW1⟩ := nmd (w.alloc (.cells (zint n) 3))
 have kW1 : KF w W1 := by rw [hW1]; exact (Kept.refl _ _).alloc _
 have bW1 : W1.heap[go]? = some (.cells (zint n) 3 (0, 0)) := by rw [hW1, hgo]; exact heap_alloc_new w _
 have HO0 := hid_of (own_zint W1 w.heap.size go n bW1 (by omega) (by omega))
 have HKW1 := hid_of kW1
 have HGO := hid_of hgo
 clear ih l1 l2 l3 hq hql hqb hbl e1 e2 e3 hF hn64 hall hd hdl hfr epv y0 y1 y3 hri HL hu0 hu1 hn hS hSm hKn hpg0 hpo hlo0 hlp hod hb hQ bW1 kW1
 go_enter Tryz.func72, Tryz.ntmps72
 go_upto_region 3 with fail
 rw [← hW1, ← hgo]
 rw [← hW1] at hmk
 clear hmk hW1 hgo v3 c0 c1 c2 c3 c4 c9 c10 c11 c12
 go_wp2_with fail
 go_loopw [7] (fun iv wr => ∃ k : Nat, k ≤ n ∧ iv = .int .i64 (k : Int) ∧ Hid (wr.ownsRow w.heap.size 3 1 (.slice (some ⟨go, 0, none⟩) n n) n (ints (fil n k))) ∧ Hid (KF w wr)) (fun iv _ => n - (intOf iv).toNat)
 case atStart => exact ⟨0, by omega, rfl, by unfold Hid; rw [fil_zero]; exact HO0.out, HKW1⟩
 case round =>
  clear HO0 HKW1
  obtain ⟨k, hk, rfl, HO, HKW⟩ := hrel
  by_cases hlt : k < n
  ·as_aux_lemma =>
    have hltI : (k : Int) < (n : Int) := by omega
    obtain ⟨d0, d1⟩ := rowN_at HO.out (fil_len hk) hlt
    have h9 := (World.ownsRow.stored HO.out k (.int .i64 (-1))).1
    rw [show (ints (fil n k)).set k (.int .i64 (-1)) = ints (fil n (k + 1)) by rw [← fil_set hlt]; simp [ints, List.map_set]] at h9
    have HO2 := hid_of h9
    have HK2 : Hid (KF w (wr.setCell ⟨go, k, none⟩ (.int .i64 (-1)))) := HKW.out.step (kept_set wr go k (.int .i64 (-1))) (fun i hi e => by have := HGO.out; omega)
    clear h9 HO HKW HMEM HNX HCL HEQ HONE HCD HHS HHU HSTK HCM HOD HNR HCX HUO
    go_wp2
    go_roundw
    case rel => exact ⟨k + 1, by omega, by go_num, HO2, HK2⟩
    case measure => (simp [intOf]; try omega)
  ·as_aux_lemma =>
    have e : k = n := by omega
    subst e
    have hltI : ¬ ((k : Int) < (k : Int)) := by omega
    obtain ⟨w3, hw3⟩ := nmd (wr)
    subst hw3
    have hS3 := HSM.out.same HKW.out
    obtain ⟨c0, c1, c2, c3, c4, c9, c10, c11, c12⟩ := look13 hS3.box
    have hmk := makeInt w3 nf (by omega)
    obtain ⟨gf, hgf⟩ := nmd (w3.heap.size)
    obtain ⟨W2, hW2⟩ := nmd (w3.alloc (.cells (zint nf) 3))
    have kW2 : KF w3 W2 := by rw [hW2]; exact (Kept.refl _ _).alloc _
    have bW2 : W2.heap[gf]? = some (.cells (zint nf) 3 (0, 0)) := by rw [hW2, hgf]; exact heap_alloc_new w3 _
    have HF0 := hid_of (own_zint W2 w.heap.size gf nf bW2 (by rw [hgf]; exact HKW.out.size) (by omega))
    have hO2 := kW2.ownsRow HO.out (fun _ _ f => f)
    rw [fil_all] at hO2
    have hgog : go < gf := by rw [hgf]; exact (HO.out.lt go rfl).2
    have HRK0 : Hid (Rk w0 w W2 g gC gT gI gW nf #[.int .i64 mem, .slice dao nd dc, .slice (some ⟨pg, po, none⟩) nf fc, .slice (some ⟨hg, 0, none⟩) nf hc, .slice (some ⟨tg, 0, none⟩) nf tc, lvv, liv, .int .i64 0, .int .i64 0, .slice (some ⟨gC, 0, none⟩) nf nf, .slice (some ⟨gT, 0, none⟩) nf nf, .slice (some ⟨gI, 0, none⟩) nf nf, .slice (some ⟨gW, 0, none⟩) nf nf] cs [] is ts ws go gf k (List.replicate k (-1)) (List.replicate nf 0)) := by
     have hs := HSM.out
     have hbx : g < w.heap.size := by
      have := hs.box
      exact (Array.getElem?_eq_some_iff.1 this).1
     exact ⟨hS3.same kW2, hO2, HF0.out, by omega, by simp, by simp, ⟨hbx, (hs.cc.lt gC rfl).2, (hs.tt.lt gT rfl).2, (hs.ii.lt gI rfl).2, (hs.ww.lt gW rfl).2, hs.kept.size⟩, (HKW.out.trans kW2).mono (fun _ _ f => f.elim)⟩
    clear HSM hS3 HO HKW kW2 bW2 HF0 hO2 hgog
    go_upto_region 8 with fail
    rw [← hW2, ← hgf]
    rw [← hW2] at hmk
    clear hmk hW2 hgf hltI c0 c1 c2 c3 c4 c9 c10 c11 c12
    go_wp2_with fail
    go_loopw [9] (fun iv wr => ∃ k2 : Nat, k2 ≤ nf ∧ iv = .int .i64 (k2 : Int) ∧ Hid (Rk w0 w wr g gC gT gI gW nf #[.int .i64 mem, .slice dao nd dc, .slice (some ⟨pg, po, none⟩) nf fc, .slice (some ⟨hg, 0, none⟩) nf hc, .slice (some ⟨tg, 0, none⟩) nf tc, lvv, liv, .int .i64 0, .int .i64 0, .slice (some ⟨gC, 0, none⟩) nf nf, .slice (some ⟨gT, 0, none⟩) nf nf, .slice (some ⟨gI, 0, none⟩) nf nf, .slice (some ⟨gW, 0, none⟩) nf nf] cs [] is ts ws go gf k (List.replicate k (-1)) (fil nf k2))) (fun iv _ => nf - (intOf iv).toNat)
    case atStart => exact ⟨0, by omega, rfl, by rw [fil_zero]; exact HRK0⟩
    case round =>
     clear HRK0
     obtain ⟨k2, hk2, rfl, HRK⟩ := hrel
     by_cases hlt2 : k2 < nf
     ·as_aux_lemma =>
       have hltI : (k2 : Int) < (nf : Int) := by omega
       obtain ⟨d0, d1⟩ := rowN_at HRK.out.ff (fil_len hk2) hlt2
       have h9 := HRK.out.setF k2 (-1)
       rw [fil_set hlt2] at h9
       have HR2 := hid_of h9
       clear h9 HRK HMEM HNX HCL HEQ HONE HCD HHS HHU HSTK HCM HOD HNR HCX HUO
       go_wp2
       go_roundw
       case rel => exact ⟨k2 + 1, by omega, by go_num, HR2⟩
       case measure => (simp [intOf]; try omega)
     ·as_aux_lemma =>
       have e : k2 = nf := by omega
       subst e
       have hltI : ¬ ((k2 : Int) < (k2 : Int)) := by omega
       rw [fil_all] at HRK
       obtain ⟨w4, hw4⟩ := nmd (wr)
       subst hw4
       go_upto_region 12 with fail
       clear hltI
       have HRA : Hid (∀ w', KF w4 w' → w'.cell? ⟨g, 0, none⟩ = some (.int .i64 mem) ∧ w'.cell? ⟨g, 1, none⟩ = some (.slice dao nd dc) ∧ w'.cell? ⟨g, 2, none⟩ = some (.slice (some ⟨pg, po, none⟩) k2 fc) ∧ w'.cell? ⟨g, 3, none⟩ = some (.slice (some ⟨hg, 0, none⟩) k2 hc) ∧ w'.cell? ⟨hg, q, none⟩ = some (.slice (some ⟨ug, 0, none⟩) k uc)) := fun w' hw => by
        obtain ⟨c0, c1, c2, c3, _⟩ := look13 (HRK.out.same hw).sm.box
        exact ⟨c0, c1, c2, c3, HHU.out w' (HRK.out.w0k.trans hw)⟩
       refine wp_region_held_drew (S := fun w' => KF w4 w') (by kernel_rfl) ((Kept.refl _ _).drew) (fun hHeld => ?_)
       generalize w4.drew = wd at *
       iterate 13
        refine tkn (v := ?_) 0 rfl ?_ ?_; rotate_left 1
        ·intro w hSw; obtain ⟨z0, z1, z2, z3, z4⟩ := HRA.out w hSw; go_simp; try with_reducible rfl
        try simp only [Act.put, tdy]
       refine rdy 13 rfl (fun K hK => ?_)
       go_simp
       refine (HCL.out _ (HRK.out.w0k.trans hHeld)).mono ?_
       rintro e w5 ⟨lv, rfl, hlv, hk5⟩
       have hkk := hHeld.trans hk5
       have hsz := hHeld.size
       refine hK.out _ _ hkk (fun hHeld => ?_)
       clear hK K
       try simp only [Act.put, tdy]
       iterate 1
        refine tkn (v := ?_) 14 rfl ?_ ?_; rotate_left 1
        ·intro w hSw; go_simp; try with_reducible rfl
        try simp only [Act.put, tdy]
       refine wpAnyH_done (by kernel_rfl) ?_ _
       have HR5 := hid_of (HRK.out.same hkk)
       have hge := HRK.out.ge
       obtain ⟨lao, lc, hls⟩ := ownsRow_shape hlv
       obtain ⟨L, hL⟩ := nmd (callsK f b.hs k)
       rw [← hL] at hls hlv HMEM HCLN HCM
       obtain ⟨ll, hll⟩ := nmd (L.length)
       rw [← hll] at hls HCLN
       subst hls
       have HLL := hid_of hll
       have HLO : Hid (∀ i, i < ll → ∃ g2, lao = some ⟨g2, 0, none⟩ ∧ gf < g2 ∧ ∀ w', Kept (fun q => q = gT ∨ q = gW ∨ q = gf) w5 w' → w'.cell? ⟨g2, i, none⟩ = some (.int .i64 (L.getD i 0))) := fun i hi => by
        obtain ⟨g2, c2, e, h9⟩ := own_look hlv (by rw [← hll]; exact hi)
        cases e
        have hg2 := (hlv.lt g2 rfl).1
        have hgf2 := (HRK.out.ff.lt gf rfl).2
        have hl := HRK.out.lt
        refine ⟨g2, rfl, by omega, fun w' hw => hw.cell h9 (fun e => ?_)⟩
        have e2 : g2 = gT ∨ g2 = gW ∨ g2 = gf := e
        omega
       have HOF0 : Hid (OfI bs k2 (List.replicate k2 (-1))) := fun j hj => .inl (by simp [List.getD, hj])
       clear hkk hk5 hlv hHeld HRK HRA hsz hge hL hll HCL
       obtain ⟨w6, hw6⟩ := nmd (w5)
       subst hw6
       have hcl := HCLN.out
       go_wp2_with fail
       go_loopw [11] (fun iv wr => ∃ (i : Nat) (ofs : List Int) (ts' : List Int) (ws' : List Bool), i ≤ ll ∧ iv = .int .i64 (i : Int) ∧ Hid (Rk w0 w wr g gC gT gI gW k2 #[.int .i64 mem, .slice dao nd dc, .slice (some ⟨pg, po, none⟩) k2 fc, .slice (some ⟨hg, 0, none⟩) k2 hc, .slice (some ⟨tg, 0, none⟩) k2 tc, lvv, liv, .int .i64 0, .int .i64 0, .slice (some ⟨gC, 0, none⟩) k2 k2, .slice (some ⟨gT, 0, none⟩) k2 k2, .slice (some ⟨gI, 0, none⟩) k2 k2, .slice (some ⟨gW, 0, none⟩) k2 k2] cs [] is ts' ws' go gf k (List.replicate k (-1)) ofs) ∧ Hid (KnT k2 bs ts' ws') ∧ Hid (OfI bs k2 ofs) ∧ Hid (∀ j, j < i → ofs.getD (L.getD j 0).toNat 0 ≠ -1) ∧ Hid (Kept (fun q => q = gT ∨ q = gW ∨ q = gf) w6 wr)) (fun iv _ => ll - (intOf iv).toNat)
       case atStart => exact ⟨0, _, ts, ws, by omega, rfl, HR5, HKN, HOF0, fun j hj => by omega, Kept.refl _ _⟩
       case round =>
        clear HR5 HKN HOF0
        obtain ⟨i, ofs, ts', ws', hi, rfl, HRK, HKN, HOF, HKL, HKB⟩ := hrel
        by_cases hlt : i < ll
        ·as_aux_lemma =>
          have hltI : (i : Int) < (ll : Int) := by omega
          obtain ⟨g2, eg2, hg2, HLC0⟩ := HLO.out i hlt
          subst eg2
          have HLC := hid_of HLC0
          obtain ⟨a, ea, ha, haT, ha1, HCC0⟩ := HMEM.out (L.getD i 0) (getD_mem (by rw [← HLL.out]; exact hlt))
          have HEA := hid_of ea
          rw [ea] at HLC
          have HCC := hid_of HCC0
          have haI : (a : Int) < (k2 : Int) := by omega
          have d0 := HLC.out wr HKB.out
          obtain ⟨o0, o1⟩ := rowN_at HRK.out.ff HRK.out.lf ha
          have HA := hid_of ha
          have hoc := HOF.out a ha
          obtain ⟨A, hA⟩ := nmd ((tuL bs).getD a 0)
          rw [← hA] at haT ha1 hoc
          have HAT := hid_of haT
          have HA1 := hid_of ha1
          have HAE := hid_of hA
          generalize hoa : ofs.getD a 0 = oa at *
          have HOA := hid_of hoa
          clear HCC0 HLC0 ea ha haT ha1 hA hoa HMEM HNX HEQ HONE HCD HHS HHU HSTK HCM HOD HNR HCX HUO HLO
          by_cases hm1 : oa = -1
          ·as_aux_lemma =>
            subst hm1
            go_upto_region 17 with fail
            clear d0 o0 o1 hoc
            refine wp_region_held_drew (S := fun w' => Kept (fun q => q = gT ∨ q = gW ∨ q = gf) wr w') (by kernel_rfl) ((Kept.refl _ _).drew) (fun hHeld => ?_)
            have hKd : KF wr wr.drew := (Kept.refl _ _).drew
            generalize wr.drew = wd at *
            iterate 10
             refine tkn (v := ?_) 0 rfl ?_ ?_; rotate_left 1
             ·intro w hSw; have z0 := HLC.out w (HKB.out.trans hSw); go_simp; try with_reducible rfl
             try simp only [Act.put, tdy]
            refine rdy 10 rfl (fun K hK => ?_)
            go_simp
            refine (HCC.out wd ts' ws' (HRK.out.sm.same hKd) HKN.out).mono ?_
            rintro e w7 ⟨ts2, ws2, rfl, hS7, hK7, hk7⟩
            rw [← HAE.out]
            have hk8 : Kept (fun q => q = gT ∨ q = gW) wr w7 := (hKd.mono (fun _ _ f => f.elim)).trans hk7
            have hkk : Kept (fun q => q = gT ∨ q = gW ∨ q = gf) wr w7 := hk8.mono (fun _ _ e => by omega)
            refine hK.out _ _ hkk (fun hHeld => ?_)
            clear hK K
            try simp only [Act.put, tdy]
            iterate 1
             refine tkn (v := ?_) 11 rfl ?_ ?_; rotate_left 1
             ·intro w hSw; go_simp; try with_reducible rfl
             try simp only [Act.put, tdy]
            have hR7 := HRK.out.call hk8 hS7
            obtain ⟨o0, o1⟩ := rowN_at hR7.ff hR7.lf HA.out
            have hk9 := kept_set w7 gf a (.int .i64 (capM A))
            have hkS := hkk.trans (hk9.mono (fun _ _ e => by right; right; exact e))
            refine rdy 12 rfl (fun K hK => ?_)
            go_simp
            refine hK.out _ _ hkS (fun hHeld => ?_)
            clear hK K
            try simp only [Act.put, tdy]
            refine wpAnyH_done (by kernel_rfl) ?_ _
            have hR8 := hR7.setF a (capM A)
            have HR8 := hid_of hR8
            have HKB8 := hid_of (HKB.out.trans hkS)
            have HK7 := hid_of hK7
            have hcell := (rowN_at hR8.ff hR8.lf HA.out).1
            have hofl : a < ofs.length := by rw [HRK.out.lf]; exact HA.out
            rw [getD_set_eq _ hofl] at hcell
            have hR8s := hR8.sm
            have hR8k := hR8.kept
            have HKT : Hid (Kept (fun q => q = gT ∨ q = gW) w (w7.setCell ⟨gf, a, none⟩ (.int .i64 (capM A)))) := hR8k
            have HSM8 := hid_of hR8s
            have HOL := hid_of hofl
            clear hHeld hKd hk8 hkk hR7 hR8 hkS hk9 hS7 hK7 hk7 o0 o1 hR8s hR8k hofl HRK HKN HCC
            generalize w7.setCell ⟨gf, a, none⟩ (.int .i64 (capM A)) = w8 at *
            have d0 := HLC.out w8 HKB8.out
            by_cases hcap : 1099511627776 < A
            ·as_aux_lemma =>
              have hc2 : capM A = -1 := by unfold capM; rw [if_pos hcap]
              have HTC : Hid (capM T = -1) := by unfold Hid capM; rw [if_pos (by have := HAT.out; omega)]
              rw [hc2] at hcell
              clear hc2 HKB8 HLC HOF HKL
              go_wp2_with fail
              go_ret
              exact ⟨ts2, ws2, (by rw [HTC.out]; try rfl), HSM8.out, HK7.out, HKT.out⟩
            ·as_aux_lemma =>
              have hc2 : capM A = A := by unfold capM; rw [if_neg hcap]
              rw [hc2] at hcell HR8
              have hm2 : (A == -1) = false := by simp; have := HA1.out; omega
              have HOF2 : Hid (OfI bs k2 (ofs.set a A)) := fun j hj => by
               by_cases e : a = j
               ·subst e
                rw [getD_set_eq _ HOL.out]
                exact .inr ⟨HAE.out, by rw [← HAE.out]; omega⟩
               ·rw [getD_set_ne _ e]
                exact HOF.out j hj
              have HKL2 : Hid (∀ j, j < i + 1 → (ofs.set a A).getD (L.getD j 0).toNat 0 ≠ -1) := fun j hj => by
               by_cases e : a = (L.getD j 0).toNat
               ·rw [← e, getD_set_eq _ HOL.out]
                have := HA1.out
                omega
               ·rw [getD_set_ne _ e]
                refine HKL.out j ?_
                by_cases e2 : j = i
                ·subst e2
                 rw [HEA.out, Int.toNat_natCast] at e
                 exact absurd rfl e
                ·omega
              clear hc2 HLC HOF HKL
              go_wp2_with fail
              go_roundw
              case rel => exact ⟨i + 1, _, ts2, ws2, by omega, by go_num, HR8, HK7, HOF2, HKL2, HKB8⟩
              case measure => (simp [intOf]; try omega)
          ·as_aux_lemma =>
            have hm2 : (oa == -1) = false := by simpa using hm1
            have HKL2 : Hid (∀ j, j < i + 1 → ofs.getD (L.getD j 0).toNat 0 ≠ -1) := fun j hj => by
             by_cases e : j = i
             ·subst e
              rw [HEA.out, Int.toNat_natCast, HOA.out]
              exact hm1
             ·exact HKL.out j (by omega)
            clear hm1 HKL HCC
            go_wp2
            go_roundw
            case rel => exact ⟨i + 1, ofs, ts', ws', by omega, by go_num, HRK, HKN, HOF, HKL2, HKB⟩
            case measure => (simp [intOf]; try omega)
        ·as_aux_lemma =>
          have e9 : i = ll := by omega
          have hltI : ¬ ((i : Int) < (ll : Int)) := by omega
          have HOA : Hid (∀ y ∈ L, ofs.getD y.toNat 0 ≠ -1) := fun y hy => by
           obtain ⟨j, hj, e⟩ := List.getElem_of_mem hy
           have := HKL.out j (by rw [e9, HLL.out]; exact hj)
           have e3 : L.getD j 0 = y := by simp [List.getD, List.getElem?_eq_getElem hj, e]
           rwa [e3] at this
          clear HKL HKB HLO e9
          obtain ⟨w9, hw9⟩ := nmd (wr)
          subst hw9
          have HOI0 : Hid (OutI bs q b k (List.replicate k (-1))) := fun j hj => .inl (by simp [List.getD, hj])
          go_upto_region 20 with fail
          clear hltI hlt hi
          go_wp2_with fail
          go_loopg [12] (k + 1) (fun gk av wr => ∃ (ag : Bool) (outs : List Int), av = .bool ag ∧ Hid (Rk w0 w wr g gC gT gI gW k2 #[.int .i64 mem, .slice dao nd dc, .slice (some ⟨pg, po, none⟩) k2 fc, .slice (some ⟨hg, 0, none⟩) k2 hc, .slice (some ⟨tg, 0, none⟩) k2 tc, lvv, liv, .int .i64 0, .int .i64 0, .slice (some ⟨gC, 0, none⟩) k2 k2, .slice (some ⟨gT, 0, none⟩) k2 k2, .slice (some ⟨gI, 0, none⟩) k2 k2, .slice (some ⟨gW, 0, none⟩) k2 k2] cs [] is ts' ws' go gf k outs ofs) ∧ Hid (OutI bs q b k outs) ∧ Hid (outs.count (-1) + (if ag then 1 else 0) ≤ gk) ∧ Hid (ag = false → Stk b k 0 outs))
          case atStart => exact ⟨true, _, rfl, HRK, HOI0, by unfold Hid; simp, fun h => by cases h⟩
          case round =>
           clear HRK HOI0
           obtain ⟨ag, outs0, rfl, HRK, HOI, HMC, HST⟩ := hrel
           cases ag with
           | false =>
            as_aux_lemma =>
             have hz := HSTK.out outs0 (HST.out rfl) 0 HZO.out
             have ho := HOI.out 0 (by omega)
             have hzr := HZ.out
             obtain ⟨o0, o1⟩ := rowN_at HRK.out.oo HRK.out.lo (show 0 < k by omega)
             have HTE : Hid (capM T = outs0.getD 0 0) := by
              rcases ho with h1 | ⟨_, h1, h2⟩
              ·exact absurd h1 hz
              ·unfold Hid capM
               rw [h1, ← hzr, if_neg (by omega)]
             have hk0I : (0 : Int) < (k : Int) := by omega
             generalize outs0.getD 0 0 = oz at *
             have HSM := hid_of HRK.out.sm
             have HKT := hid_of HRK.out.kept
             clear hz ho hzr HRK HOI HMC HST HMEM HNX HEQ HONE HCD HHS HHU HSTK HCM HOD HNR HCX HUO
             go_wp2
             go_ret
             exact ⟨ts', ws', (by rw [HTE.out]; try rfl), HSM.out, HKN.out, HKT.out⟩
           | true =>
            as_aux_lemma =>
             have HMC2 : Hid (outs0.count (-1) + 1 ≤ gk) := HMC.out
             have HST0 : Hid (Stk b k k outs0) := fun j h1 h2 => by omega
             clear HMC HST
             go_wp2_with fail
             go_loopw [12, 13] (fun av iv wr => ∃ (ag : Bool) (j : Nat) (outs : List Int), av = .bool ag ∧ j ≤ k ∧ iv = .int .i64 ((j : Int) - 1) ∧ Hid (Rk w0 w wr g gC gT gI gW k2 #[.int .i64 mem, .slice dao nd dc, .slice (some ⟨pg, po, none⟩) k2 fc, .slice (some ⟨hg, 0, none⟩) k2 hc, .slice (some ⟨tg, 0, none⟩) k2 tc, lvv, liv, .int .i64 0, .int .i64 0, .slice (some ⟨gC, 0, none⟩) k2 k2, .slice (some ⟨gT, 0, none⟩) k2 k2, .slice (some ⟨gI, 0, none⟩) k2 k2, .slice (some ⟨gW, 0, none⟩) k2 k2] cs [] is ts' ws' go gf k outs ofs) ∧ Hid (OutI bs q b k outs) ∧ Hid (ag = false → Stk b k j outs) ∧ Hid (outs.count (-1) + (if ag then 1 else 0) ≤ outs0.count (-1))) (fun _ iv _ => (intOf iv + 1).toNat)
             case atStart => exact ⟨false, k, outs0, rfl, by omega, rfl, HRK, HOI, fun _ => HST0.out, by unfold Hid; simp⟩
             case round =>
              clear HRK HOI HST0
              obtain ⟨ag, j, outs, rfl, hj, rfl, HRK, HOI, HST, HCT⟩ := hrel
              by_cases hj0 : j = 0
              ·as_aux_lemma =>
                subst hj0
                have HGK : Hid (1 ≤ gk ∧ outs.count (-1) + (if ag then 1 else 0) ≤ gk - 1) := by
                 have h1 := HMC2.out
                 have h2 := HCT.out
                 unfold Hid
                 omega
                clear HMEM HNX HEQ HONE HCD HHS HHU HSTK HCM HOD HNR HCX HUO HCT HMC2
                go_wp2
                go_roundg (gk - 1)
                case measure => have := HGK.out; omega
                case rel => exact ⟨ag, outs, rfl, HRK, HOI, HGK.out.2, HST⟩
              ·obtain ⟨i, hij⟩ : ∃ i, j = i + 1 := ⟨j - 1, by omega⟩
               subst hij
               have hik : i < k := by omega
               have hiI : (i : Int) < (k : Int) := by omega
               have hsub : ((i + 1 : Nat) : Int) - 1 = (i : Int) := by omega
               rw [hsub]
               obtain ⟨o0, o1⟩ := rowN_at HRK.out.oo HRK.out.lo hik
               obtain ⟨c0, c1, c2, c3, c4, c9, c10, c11, c12⟩ := look13 HRK.out.sm.box
               have v1 := HHU.out wr HRK.out.w0k
               have v2 := HHS.out wr i hik HRK.out.w0k
               have hoi := HOI.out i hik
               have HIK := hid_of hik
               have HSN : Hid (ag = false → (b.hs.getD i 0 ≠ -1 → outs.getD i 0 ≠ -1 ∨ ∃ m ∈ nxOf b.ss i, outs.getD m.toNat 0 = -1) → Stk b k i outs) := fun ha hh j2 h1 h2 hne => by
                by_cases e : j2 = i
                ·subst e; exact hh hne
                ·exact HST.out ha j2 (by omega) h2 hne
               obtain ⟨oi, hoie⟩ := nmd (outs.getD i 0)
               obtain ⟨hh, hhe⟩ := nmd (b.hs.getD i 0)
               rw [← hoie] at o0 HSN hoi
               rw [← hhe] at v2 HSN
               have HOE := hid_of hoie
               have HHE := hid_of hhe
               clear hoie hhe c4 c9 c10 c11 c12 HST hj hj0 hsub
               by_cases hom : oi = -1
               ·by_cases hhm : hh = -1
                ·as_aux_lemma =>
                  have HS2 : Hid (ag = false → Stk b k i outs) := fun ha => HSN.out ha (fun h => absurd hhm h)
                  have hm2 : (oi != -1) = false := by simpa using hom
                  subst hhm
                  clear hom hoi HSN HMEM HNX HEQ HONE HCD HHS HHU HSTK HCM HOD HNR HCX HUO
                  go_wp2
                  go_roundw
                  case rel => exact ⟨ag, i, outs, rfl, by omega, by go_num, HRK, HOI, HS2, HCT⟩
                  case measure => (simp [intOf]; try omega)
                ·as_aux_lemma =>
                  have HIO : Hid ((i : Int) ∈ b.order) := HOD.out i HIK.out (by rw [← HHE.out]; exact hhm)
                  have hm2 : (oi != -1) = false := by simpa using hom
                  have hm3 : (hh == -1) = false := by simpa using hhm
                  obtain ⟨x, hx⟩ := HCX.out i HIK.out
                  have HEQ2 := hid_of (HEQ.out i x hx HIO.out)
                  have HOR := hid_of (HONE.out i HIO.out)
                  have HNL := hid_of (HNR.out i HIO.out)
                  have HCD2 : Hid (∀ w', KF w0 w' → w'.cell? ⟨cg, co + i * 2, none⟩ = some (.int .i64 x.op) ∧ w'.cell? ⟨cg, co + i * 2 + 1, none⟩ = some (.int .i64 x.a)) := fun w' hw => HCD.out w' i x hx hw
                  have HNX2 : Hid (∀ w', KF w0 w' → Calls Tryz.prog 19 #[.agg #[.int .i64 mem, .slice dao nd dc, .slice (some ⟨pg, po, none⟩) k2 fc], .agg #[.int .i64 (q : Int), .int .i64 (i : Int)]] w' fun e w2 => ∃ v', e = .returned v' ∧ OwnN w2 w'.heap.size v' (nxOf b.ss i) ∧ KF w' w2) := fun w' hw => HNX.out i w' HIO.out hw
                  have HCA : Hid (x.op = 17 → ∃ a : Nat, x.a = (a : Int) ∧ a < k2 ∧ ofs.getD a 0 = (tuL bs).getD a 0 ∧ 1 ≤ (tuL bs).getD a 0 ∧ (tuL bs).getD a 0 ≤ 1099511627776) := fun h17 => by
                   have hm := HCM.out i x hx h17 (by rw [← HHE.out]; exact hhm)
                   obtain ⟨a, ea, ha, _, ha1, _⟩ := HMEM.out _ hm
                   have h9 := HOA.out _ hm
                   rw [ea, Int.toNat_natCast] at h9
                   rcases HOF.out a ha with h8 | ⟨h8, h7⟩
                   ·exact absurd h8 h9
                   ·exact ⟨a, ea, ha, h8, ha1, h7⟩
                  subst hom
                  clear hoi hhm HMEM HNX HEQ HONE HCD HHS HHU HSTK HCM HOD HNR HCX HUO hx
                  go_upto_region 27 with fail
                  clear o0 o1 v1 v2 hm2 hm3
                  go_wp2_with fail
                  refine (HNX2.out wr HRK.out.w0k).mono ?_
                  rintro e w5 ⟨lv2, rfl, hlv2, hk5⟩
                  have hR5 := HRK.out.same hk5
                  have HKD := hid_of (known_ref w5 w.heap.size go k k outs hR5.oo hR5.lo lv2 (nxOf b.ss i) wr.heap.size hlv2 HNL.out.2 HNL.out.1)
                  have HR5 := hid_of hR5
                  clear hR5 hlv2 hk5 HNX2 c0 c1 c2 c3 HRK
                  go_wp2_with fail
                  refine HKD.out.mono ?_
                  rintro e w6' ⟨hw6, he⟩
                  subst hw6
                  clear HKD
                  cases hkd : knownD outs (nxOf b.ss i) 0 with
                  | none =>
                   as_aux_lemma =>
                    rw [hkd] at he
                    subst he
                    have HS2 : Hid (ag = false → Stk b k i outs) := fun ha => HSN.out ha (fun _ => .inr (knownD_none outs _ _ hkd))
                    clear hkd HSN
                    go_wp2
                    go_roundw
                    case rel => exact ⟨ag, i, outs, rfl, by omega, by go_num, HR5, HOI, HS2, HCT⟩
                    case measure => (simp [intOf]; try omega)
                  | some mx =>
                   as_aux_lemma =>
                    rw [hkd] at he
                    subst he
                    have hkk := knownD_some outs (tuR bs q) (nxOf b.ss i) 0 mx (fun y hy => by
                     have h1 := HNL.out.2 y hy
                     rcases HOI.out y.toNat (by omega) with h2 | h2
                     ·exact .inl h2
                     ·exact .inr h2.2.1) hkd
                    obtain ⟨Ri, hRi⟩ := nmd ((tuR bs q).getD i 0)
                    have heq := HEQ2.out
                    rw [← hkk.1, ← hRi] at heq
                    have hor := HOR.out
                    rw [← hRi] at hor
                    have hmx0 : 0 ≤ mx := by rw [hkk.1]; exact (costM_ge _ _ 0).1
                    have hmxM : mx ≤ 1099511627776 := by
                     rw [hkk.1]
                     refine (costM_ge (tuR bs q) (nxOf b.ss i) 0).2.2 _ (by omega) (fun y hy => ?_)
                     have h1 := HNL.out.2 y hy
                     rcases HOI.out y.toNat (by omega) with h2 | h2
                     ·exact absurd h2 (hkk.2 y hy)
                     ·exact h2.2.2
                    have HRE := hid_of hRi
                    clear hkd hkk HEQ2 HOR HSN hRi
                    obtain ⟨o0, o1⟩ := rowN_at HR5.out.oo HR5.out.lo HIK.out
                    have hw1 : IntKind.i64.wrap (1 + mx) = 1 + mx := by simp [IntKind.wrap, IntKind.bits, IntKind.signed]; omega
                    have HR6 := hid_of (HR5.out.setO i (1 + mx))
                    have HOUL : Hid (i < outs.length) := by unfold Hid; rw [HR5.out.lo]; exact HIK.out
                    have hc6 := (rowN_at HR6.out.oo HR6.out.lo HIK.out)
                    rw [getD_set_eq _ HOUL.out] at hc6
                    obtain ⟨q0, q1⟩ := hc6
                    have HFIN : Hid (Ri ≤ 1099511627776 → OutI bs q b k (outs.set i Ri) ∧ (outs.set i Ri).count (-1) + (if true then 1 else 0) ≤ outs0.count (-1)) := fun hle => by
                     refine ⟨fun j2 hj2 => ?_, ?_⟩
                     ·by_cases e : i = j2
                      ·subst e
                       rw [getD_set_eq _ HOUL.out]
                       exact .inr ⟨HIO.out, HRE.out, by rw [← HRE.out]; exact hle⟩
                      ·rw [getD_set_ne _ e]
                       exact HOI.out j2 hj2
                     ·have h1 := count_setI HOUL.out HOE.out.symm (show Ri ≠ -1 by omega)
                      have h2 := HCT.out
                      simp only [if_true]
                      omega
                    have HOV : Hid (1099511627776 < Ri → capM T = -1) := fun h => by unfold capM; rw [if_pos (by omega)]
                    have HKE5 := hid_of HR5.out.w0k
                    obtain ⟨d1, d2⟩ := HCD2.out w6' HKE5.out
                    go_upto_region 30 with fail
                    clear o0 o1 d1 d2
                    have hW6 := HR6.out
                    generalize w6'.setCell ⟨go, i, none⟩ (.int .i64 (1 + mx)) = w7 at *
                    obtain ⟨d1, d2⟩ := HCD2.out w7 HR6.out.w0k
                    clear hW6 HR5 HKE5 hw1
                    by_cases h17 : x.op = 17
                    ·as_aux_lemma =>
                      obtain ⟨a, ea, ha, hoa, ha1, haM⟩ := HCA.out h17
                      rw [if_pos h17, ea, Int.toNat_natCast] at heq
                      obtain ⟨A, hA⟩ := nmd ((tuL bs).getD a 0)
                      rw [← hA] at heq hoa ha1 haM
                      rw [ea] at HCD2 d2
                      rw [h17] at HCD2 d1
                      have haI : (a : Int) < (k2 : Int) := by omega
                      have HA := hid_of ha
                      have HRF : Hid (∀ w', Kept (fun q => q = go) w7 w' → w'.cell? ⟨gf, a, none⟩ = some (.int .i64 A) ∧ w'.cell? ⟨cg, co + i * 2 + 1, none⟩ = some (.int .i64 (a : Int))) := fun w' hw => by
                       have hge := HR6.out.ge
                       have hlt := HR6.out.lt
                       have hw0 : KF w0 w' := HR6.out.w0k.step hw (fun j hj e => by omega)
                       have h1 := (rowN_at HR6.out.ff HR6.out.lf HA.out).1
                       rw [hoa] at h1
                       exact ⟨hw.cell h1 (fun e => HR6.out.ap e.symm), (HCD2.out w' hw0).2⟩
                      have hRm : 1 + mx + A = Ri := by omega
                      have hw1 : IntKind.i64.wrap (1 + mx + A) = Ri := by rw [hRm]; simp [IntKind.wrap, IntKind.bits, IntKind.signed]; omega
                      have HRM := hid_of hRm
                      have HRB : Hid (1 ≤ Ri ∧ Ri ≤ 4000000000000) := by unfold Hid; omega
                      clear heq ea h17 ha hoa ha1 haM hA HCA hRm
                      go_upto_region 31 with fail
                      clear d1 d2
                      refine wp_region_held_drew (S := fun w' => Kept (fun q => q = go) w7 w') (by kernel_rfl) ((Kept.refl _ _).drew) (fun hHeld => ?_)
                      have hKd : KF w7 w7.drew := (Kept.refl _ _).drew
                      generalize w7.drew = wd at *
                      iterate 5
                       refine tkn (v := ?_) 0 rfl ?_ ?_; rotate_left 1
                       ·intro w hSw; obtain ⟨z0, z1⟩ := HRF.out w hSw; go_simp; try with_reducible rfl
                       try simp only [Act.put, tdy]
                      iterate 8
                       refine tkn (v := ?_) 6 rfl ?_ ?_; rotate_left 1
                       ·intro w hSw; obtain ⟨z0, z1⟩ := HRF.out w hSw; go_simp; try with_reducible rfl
                       try simp only [Act.put, tdy]
                      have hR8 := HR6.out.same hKd
                      obtain ⟨o0, o1⟩ := rowN_at hR8.oo hR8.lo HIK.out
                      rw [getD_set_eq _ HOUL.out] at o0
                      refine rdy 5 rfl (fun K hK => ?_)
                      go_simp
                      refine hK.out _ _ hHeld (fun hHeld => ?_)
                      clear hK K
                      try simp only [Act.put, tdy]
                      iterate 2
                       refine tkn (v := ?_) 14 rfl ?_ ?_; rotate_left 1
                       ·intro w hSw; obtain ⟨z0, z1⟩ := HRF.out w hSw; go_simp; try with_reducible rfl
                       try simp only [Act.put, tdy]
                      have hk9 := kept_set wd go i (.int .i64 Ri)
                      have hkS := (hKd.mono (fun _ _ f => f.elim) : Kept (fun q => q = go) w7 wd).trans hk9
                      refine rdy 16 rfl (fun K hK => ?_)
                      go_simp
                      refine hK.out _ _ hkS (fun hHeld => ?_)
                      clear hK K
                      try simp only [Act.put, tdy]
                      refine wpAnyH_done (by kernel_rfl) ?_ _
                      have hR9 := hR8.setO i Ri
                      rw [List.set_set] at hR9
                      have HR9 := hid_of hR9
                      obtain ⟨q2, q3⟩ := rowN_at hR9.oo hR9.lo HIK.out
                      rw [getD_set_eq _ HOUL.out] at q2
                      clear hR9 hR8 hHeld hKd hkS hk9 o0 o1 HR6 HRF q0 q1
                      generalize wd.setCell ⟨go, i, none⟩ (.int .i64 Ri) = w8 at *
                      by_cases hbig : 1099511627776 < Ri
                      ·as_aux_lemma =>
                        have HTC := hid_of (HOV.out hbig)
                        have HSM := hid_of HR9.out.sm
                        have HKT := hid_of HR9.out.kept
                        clear HOV HFIN HR9
                        go_wp2
                        go_ret
                        exact ⟨ts', ws', (by rw [HTC.out]; try rfl), HSM.out, HKN.out, HKT.out⟩
                      ·as_aux_lemma =>
                        have HF2 := hid_of (HFIN.out (by omega))
                        clear HOV HFIN
                        go_wp2
                        go_roundw
                        case rel => exact ⟨true, i, _, rfl, by omega, by go_num, HR9, HF2.out.1, (fun h => by cases h), HF2.out.2⟩
                        case measure => (simp [intOf]; try omega)
                    ·as_aux_lemma =>
                      rw [if_neg h17] at heq
                      have hRm : 1 + mx = Ri := by omega
                      have h17b : (x.op == 17) = false := by simpa using h17
                      generalize x.op = xo at *
                      rw [hRm] at HR6 q0
                      clear heq hRm HCA h17
                      by_cases hbig : 1099511627776 < Ri
                      ·as_aux_lemma =>
                        have HTC := hid_of (HOV.out hbig)
                        have HSM := hid_of HR6.out.sm
                        have HKT := hid_of HR6.out.kept
                        clear HOV HFIN HR6
                        go_wp2
                        go_ret
                        exact ⟨ts', ws', (by rw [HTC.out]; try rfl), HSM.out, HKN.out, HKT.out⟩
                      ·as_aux_lemma =>
                        have HF2 := hid_of (HFIN.out (by omega))
                        clear HOV HFIN
                        go_wp2
                        go_roundw
                        case rel => exact ⟨true, i, _, rfl, by omega, by go_num, HR6, HF2.out.1, (fun h => by cases h), HF2.out.2⟩
                        case measure => (simp [intOf]; try omega)
               ·as_aux_lemma =>
                 have HS2 : Hid (ag = false → Stk b k i outs) := fun ha => HSN.out ha (fun _ => .inl hom)
                 have hm2 : (oi != -1) = true := by simpa using hom
                 clear hom hoi HSN HMEM HNX HEQ HONE HCD HHS HHU HSTK HCM HOD HNR HCX HUO
                 go_wp2
                 go_roundw
                 case rel => exact ⟨ag, i, outs, rfl, by omega, by go_num, HRK, HOI, HS2, HCT⟩
                 case measure => (simp [intOf]; try omega)
set_option maxHeartbeats 40000000 in
theorem cost_ref {p : PG} {bs : List BD} {w0 : World} {B nd dc nf fc hg hc tg tc pg po : Nat} {mem : Int} {dao : Option Addr} (hS : SmB p bs w0 B nd dc nf fc hg hc tg tc pg po mem dao) (hno : true ∉ (tourP (leadP bs) bs.length).again) (hQ : CostQ p bs) (lvv liv : Value) (g gC gT gI gW : Nat) (cs : List Int) (is : List Bool) :
  ∀ q : Nat, (q : Int) ∈ ordF bs → CostC bs w0 g gC gT gI gW nf #[.int .i64 mem, .slice dao nd dc, .slice (some ⟨pg, po, none⟩) nf fc, .slice (some ⟨hg, 0, none⟩) nf hc, .slice (some ⟨tg, 0, none⟩) nf tc, lvv, liv, .int .i64 0, .int .i64 0, .slice (some ⟨gC, 0, none⟩) nf nf, .slice (some ⟨gT, 0, none⟩) nf nf, .slice (some ⟨gI, 0, none⟩) nf nf, .slice (some ⟨gW, 0, none⟩) nf nf] cs is q := by
 refine ord_ind hS.hbs hno _ ?_
 intro q hq ih w ts ws hSm hKn
 have HRC := hid_of (fun w ts ws hSm hKn => reck_ref hS hQ lvv liv g gC gT gI gW cs is q hq ih w ts ws hSm hKn)
 obtain ⟨l1, l2, l3, _⟩ := lead_tour hS.hbs
 have hql := l2 _ hq
 have hbl := hS.hbs.len
 have hqn : q < nf := by have := hS.hnf; omega
 have hqI : (q : Int) < (nf : Int) := by omega
 obtain ⟨T, hT⟩ := nmd (capM ((tuL bs).getD q 0))
 have HTE := hid_of hT
 rw [← hT] at HRC ⊢
 have HQN := hid_of hqn
 have HSM := hid_of hSm
 have HKN := hid_of hKn
 obtain ⟨c0, c1, c2, c3, c4, c9, c10, c11, c12⟩ := look13 hSm.box
 obtain ⟨i0, i1⟩ := rowB_at hSm.ww hSm.ln.2.2.2 hqn
 obtain ⟨k0, k1⟩ := rowN_at hSm.tt hSm.ln.2.1 hqn
 clear ih l1 l2 l3 hq hql hbl hSm hKn hT hS hQ hno
 go_enter Tryz.func44, Tryz.ntmps44
 cases hI : ws.getD q false with
 | true =>
  as_aux_lemma =>
   rw [hI] at i0
   have hkq := HKN.out q HQN.out hI
   rw [← HTE.out] at hkq
   rw [hkq] at k0
   clear hI hkq HRC c0 c1 c2 c3 c4 c9 c11
   go_wp2_with fail
   go_ret
   exact ⟨ts, ws, rfl, HSM.out, HKN.out, Kept.refl _ _⟩
 | false =>
  as_aux_lemma =>
   rw [hI] at i0
   clear hI k0 k1 c0 c1 c2 c3 c4 c9 c11
   go_upto_region 2 with fail
   clear i0 i1 c10 c12
   have HRA : Hid (∀ w', Kept (fun k => k = gT ∨ k = gW) w w' → w'.cell? ⟨g, 10, none⟩ = some (.slice (some ⟨gT, 0, none⟩) nf nf)) := fun w' hw => by
    obtain ⟨⟨a1, a2, a3, a4⟩, _, b1, b2, b3, b4⟩ := HSM.out.apart
    obtain ⟨c0, c1, c2, c3, c4, c9, c10, _⟩ := look13 (box_kept hw HSM.out.box (fun e => by
     have e2 : g = gT ∨ g = gW := e
     omega))
    exact c10
   refine wp_region_held_drew (S := fun w' => Kept (fun k => k = gT ∨ k = gW) w w') (by kernel_rfl) ((Kept.refl _ _).drew) (fun hHeld => ?_)
   have hKd : KF w w.drew := (Kept.refl _ _).drew
   generalize w.drew = wd at *
   iterate 7
    refine tkn (v := ?_) 0 rfl ?_ ?_; rotate_left 1
    ·intro w hSw; have z0 := HRA.out w hSw; go_simp; try with_reducible rfl
    try simp only [Act.put, tdy]
   refine rdy 7 rfl (fun K hK => ?_)
   go_simp
   refine (HRC.out wd ts ws (HSM.out.same hKd) HKN.out).mono ?_
   rintro e w3 ⟨ts2, ws2, rfl, hS3, hK3, hk3⟩
   have hkk := (hKd.mono (fun _ _ f => f.elim)).trans hk3
   refine hK.out _ _ hkk (fun hHeld => ?_)
   clear hK K
   try simp only [Act.put, tdy]
   iterate 1
    refine tkn (v := ?_) 8 rfl ?_ ?_; rotate_left 1
    ·intro w hSw; go_simp; try with_reducible rfl
    try simp only [Act.put, tdy]
   obtain ⟨k0, k1⟩ := rowN_at hS3.tt hS3.ln.2.1 HQN.out
   have hk4 := kept_set w3 gT q (.int .i64 T)
   have hkS := hkk.trans (hk4.mono (fun _ _ e => .inl e))
   refine rdy 9 rfl (fun K hK => ?_)
   go_simp
   refine hK.out _ _ hkS (fun hHeld => ?_)
   clear hK K
   try simp only [Act.put, tdy]
   refine wpAnyH_done (by kernel_rfl) ?_ _
   have hS4 := hS3.setT q T
   have HS5 := hid_of (hS4.setW q true)
   have hk5 := kept_set (w3.setCell ⟨gT, q, none⟩ (.int .i64 T)) gW q (.bool true)
   have HKW5 := hid_of (hkS.trans (hk5.mono (fun _ _ e => .inr e)))
   have HK5 : Hid (KnT nf bs (ts2.set q T) (ws2.set q true)) := fun i hi ht => by
    by_cases e : q = i
    ·subst e
     rw [getD_set_eq _ (by rw [hS3.ln.2.1]; exact hi)]
     exact HTE.out
    ·rw [getD_set_ne _ e]
     refine hK3 i hi ?_
     rw [getD_set _ _ _ (by rw [hS3.ln.2.2.2]; exact HQN.out), if_neg e] at ht
     exact ht
   obtain ⟨c0, c1, c2, c3, c4, c9, c10, c11, c12⟩ := look13 hS4.box
   obtain ⟨i0, i1⟩ := rowB_at hS4.ww hS4.ln.2.2.2 HQN.out
   obtain ⟨d0, d1, d2, d3, d4, d9, d10, d11, d12⟩ := look13 HS5.out.box
   obtain ⟨k2, k3⟩ := rowN_at HS5.out.tt HS5.out.ln.2.1 HQN.out
   rw [getD_set_eq _ (by rw [hS3.ln.2.1]; exact HQN.out)] at k2
   clear hS3 hS4 hHeld hKd k0 k1 hk4 hk5 hkS hkk hk3 hK3 HRA HRC HKN HSM c0 c1 c2 c3 c4 c9 c10 c11 d0 d1 d2 d3 d4 d9 d11 d12
   generalize w3.setCell ⟨gT, q, none⟩ (.int .i64 T) = w4 at *
   go_upto_region 4 with fail
   clear c12 i0 i1
   generalize w4.setCell ⟨gW, q, none⟩ (.bool true) = w5 at *
   go_wp2_with fail
   go_ret
   exact ⟨_, _, rfl, HS5.out, HK5.out, HKW5.out⟩
theorem runH_err (ss : List ST) (n : Nat) : ∀ (f : Nat) (hs l : List Int) (z : Int × Int), runH ss n f hs l = .error z → z.2 ≠ 0
 | 0, hs, l, z, h => by cases h
 | f + 1, hs, l, z, h => by
  rw [runH] at h
  split at h
  ·cases h
  ·split at h
   ·cases h
   ·split at h
    ·rename_i hne
     cases h
     exact hne
    ·split at h
     ·cases h
      show (136 : Int) ≠ 0
      omega
     ·exact runH_err ss n f _ _ z h
theorem heights_err {ss : List ST} {n : Nat} {x y : Int} (h : heightsD ss n = .error (x, y)) : y ≠ 0 := runH_err ss n _ _ _ (x, y) h
structure FacQ (w wr : World) (gF : Nat) (c3 c4 c5 : Value) (Hs Ls : List (List Int)) (Ts : List Int) (hvv tvv lvv : Value) (HV LV : List Value) : Prop where
 box : wr.heap[gF]? = some (.cells #[hvv, tvv, lvv, c3, c4, c5] 33 (0, 0))
 hv : wr.ownsRow w.heap.size 30 1 hvv Hs.length HV
 hr : ∀ (i : Nat) (l : List Int), Hs[i]? = some l → ∃ u, HV[i]? = some u ∧ OwnN wr w.heap.size u l ∧ ∀ q, tvv.ownBlock = some q → u.ownBlock ≠ some q
 tv : OwnN wr w.heap.size tvv Ts
 lv : wr.ownsRow w.heap.size 30 1 lvv Ls.length LV
 lr : ∀ (i : Nat) (l : List Int), Ls[i]? = some l → ∃ u, LV[i]? = some u ∧ OwnN wr w.heap.size u l ∧ ∀ q, tvv.ownBlock = some q → u.ownBlock ≠ some q
 ap : ∀ q, hvv.ownBlock = some q → lvv.ownBlock ≠ some q
 kept : KF w wr
 lo : w.heap.size ≤ gF
section
variable {w wr w' : World} {gF : Nat} {c3 c4 c5 : Value} {Hs Ls : List (List Int)} {Ts : List Int} {hvv tvv lvv : Value} {HV LV : List Value}
theorem FacQ.over {S : Nat → Prop} (h : FacQ w wr gF c3 c4 c5 Hs Ls Ts hvv tvv lvv HV LV) (hk : Kept S wr w') (hS : ∀ q, S q → w.heap.size ≤ q ∧ ∃ cs t, wr.heap[q]? = some (.cells cs t (0, 0)) ∧ t ≠ 30 ∧ t ≠ 3 ∧ t ≠ 33) : FacQ w w' gF c3 c4 c5 Hs Ls Ts hvv tvv lvv HV LV := by
 have hr : ∀ {b e s n : Nat} {u : Value} {xs : List Value}, wr.ownsRow b e s u n xs → (e = 30 ∨ e = 3) → w'.ownsRow b e s u n xs := fun hr he => hk.ownsRow hr (fun q hq hs => by
  obtain ⟨_, cs, t, hbx, t1, t2, t3⟩ := hS q hs
  exact own_box2 hr hbx (by rcases he with rfl | rfl <;> assumption) hq)
 refine ⟨box_kept hk h.box (fun e => ?_), hr h.hv (by decide), fun i l hl => ?_, hr h.tv (by decide), hr h.lv (by decide), fun i l hl => ?_, h.ap, h.kept.step hk (fun i hi e => by have := (hS i e).1; omega), h.lo⟩
 ·obtain ⟨_, cs, t, hbx, t1, t2, t3⟩ := hS _ e
  rw [h.box] at hbx
  cases hbx
  exact t3 rfl
 ·obtain ⟨u, a, b, c⟩ := h.hr i l hl
  exact ⟨u, a, hr b (by decide), c⟩
 ·obtain ⟨u, a, b, c⟩ := h.lr i l hl
  exact ⟨u, a, hr b (by decide), c⟩
theorem FacQ.same (h : FacQ w wr gF c3 c4 c5 Hs Ls Ts hvv tvv lvv HV LV) (hk : KF wr w') : FacQ w w' gF c3 c4 c5 Hs Ls Ts hvv tvv lvv HV LV := h.over hk (fun _ f => f.elim)
theorem FacQ.put (h : FacQ w wr gF c3 c4 c5 Hs Ls Ts hvv tvv lvv HV LV) (hk : Kept (fun q => q = gF) wr w') {c3' c4' c5' : Value} (hb : w'.heap[gF]? = some (.cells #[hvv, tvv, lvv, c3', c4', c5'] 33 (0, 0))) : FacQ w w' gF c3' c4' c5' Hs Ls Ts hvv tvv lvv HV LV := by
 have hr : ∀ {b e s n : Nat} {u : Value} {xs : List Value}, wr.ownsRow b e s u n xs → 33 ≠ e → w'.ownsRow b e s u n xs := fun hr he => hk.ownsRow hr (fun q hq hs => own_box2 hr h.box he (by rw [hq, hs]))
 refine ⟨hb, hr h.hv (by decide), fun i l hl => ?_, hr h.tv (by decide), hr h.lv (by decide), fun i l hl => ?_, h.ap, h.kept.step hk (fun i hi e => by have := h.lo; omega), h.lo⟩
 ·obtain ⟨u, a, b, c⟩ := h.hr i l hl
  exact ⟨u, a, hr b (by decide), c⟩
 ·obtain ⟨u, a, b, c⟩ := h.lr i l hl
  exact ⟨u, a, hr b (by decide), c⟩
theorem snoc_at {α : Type} {l : List α} {a : α} {i : Nat} {x : α} (h : (l ++ [a])[i]? = some x) : l[i]? = some x ∨ (i = l.length ∧ x = a) := by
 by_cases hi : i < l.length
 ·rw [List.getElem?_append_left hi] at h
  exact .inl h
 ·rw [List.getElem?_append_right (by omega)] at h
  have h2 := (List.getElem?_eq_some_iff.1 h).1
  simp at h2
  have e : i = l.length := by omega
  subst e
  simp at h
  exact .inr ⟨rfl, h.symm⟩
theorem FacQ.stepH (h : FacQ w wr gF c3 c4 c5 Hs Ls Ts hvv tvv lvv HV LV) {u v' : Value} {l : List Int} (hu : OwnN wr w.heap.size u l) (hut : ∀ q, tvv.ownBlock = some q → u.ownBlock ≠ some q) (ho : w'.ownsRow w.heap.size 30 1 v' (Hs.length + 1) (HV ++ [u])) (hk0 : KF w w') (hk1 : Kept (fun q => hvv.ownBlock = some q) wr w') (hb : NewB wr hvv v') :
  FacQ w (w'.setCell ⟨gF, 0, none⟩ v') gF c3 c4 c5 (Hs ++ [l]) Ls Ts v' tvv lvv (HV ++ [u]) LV := by
 have hbx := box_kept hk1 h.box (fun e => own_box2 h.hv h.box (by decide) e)
 have hks := kept_set w' gF 0 v'
 have hr : ∀ {b e s n : Nat} {u : Value} {xs : List Value}, w'.ownsRow b e s u n xs → 33 ≠ e → (w'.setCell ⟨gF, 0, none⟩ v').ownsRow b e s u n xs := fun hr he => hks.ownsRow hr (fun q hq hs => own_box2 hr hbx he (by rw [hq, hs]))
 have hi : ∀ {u : Value} {l : List Int}, OwnN wr w.heap.size u l → OwnN (w'.setCell ⟨gF, 0, none⟩ v') w.heap.size u l := fun h9 => hr (hk1.ownsRow h9 (fun q hq e => own_two h.hv h9 (by decide) q e hq)) (by decide)
 have hHV : HV.length = Hs.length := by have := h.hv.1; omega
 refine ⟨set_block _ _ 0 _ _ _ hbx v', ?_, fun i l' hl => ?_, hi h.tv, hr (hk1.ownsRow h.lv (fun q hq e => h.ap q e hq)) (by decide), fun i l' hl => ?_, fun q hq e => ?_, hk0.setCell (.inl h.lo) _, h.lo⟩
 ·rw [List.length_append]; exact hr ho (by decide)
 ·rcases snoc_at hl with hl | ⟨rfl, rfl⟩
  ·obtain ⟨u', a, b, c⟩ := h.hr i l' hl
   refine ⟨u', ?_, hi b, c⟩
   rw [List.getElem?_append_left (List.getElem?_eq_some_iff.1 a).1]; exact a
  ·refine ⟨u, ?_, hi hu, hut⟩
   rw [List.getElem?_append_right (by omega), ← hHV]
   simp
 ·obtain ⟨u', a, b, c⟩ := h.lr i l' hl
  exact ⟨u', a, hi b, c⟩
 ·rcases hb with hb | hb
  ·exact h.ap q (by rw [← hb]; exact hq) e
  ·rw [hb] at hq
   have := (h.lv.lt q e).2
   simp at hq
   omega
theorem FacQ.stepL (h : FacQ w wr gF c3 c4 c5 Hs Ls Ts hvv tvv lvv HV LV) {u v' : Value} {l : List Int} (hu : OwnN wr w.heap.size u l) (hut : ∀ q, tvv.ownBlock = some q → u.ownBlock ≠ some q) (ho : w'.ownsRow w.heap.size 30 1 v' (Ls.length + 1) (LV ++ [u])) (hk0 : KF w w') (hk1 : Kept (fun q => lvv.ownBlock = some q) wr w') (hb : NewB wr lvv v') :
  FacQ w (w'.setCell ⟨gF, 2, none⟩ v') gF c3 c4 c5 Hs (Ls ++ [l]) Ts hvv tvv v' HV (LV ++ [u]) := by
 have hbx := box_kept hk1 h.box (fun e => own_box2 h.lv h.box (by decide) e)
 have hks := kept_set w' gF 2 v'
 have hr : ∀ {b e s n : Nat} {u : Value} {xs : List Value}, w'.ownsRow b e s u n xs → 33 ≠ e → (w'.setCell ⟨gF, 2, none⟩ v').ownsRow b e s u n xs := fun hr he => hks.ownsRow hr (fun q hq hs => own_box2 hr hbx he (by rw [hq, hs]))
 have hi : ∀ {u : Value} {l : List Int}, OwnN wr w.heap.size u l → OwnN (w'.setCell ⟨gF, 2, none⟩ v') w.heap.size u l := fun h9 => hr (hk1.ownsRow h9 (fun q hq e => own_two h.lv h9 (by decide) q e hq)) (by decide)
 have hLV : LV.length = Ls.length := by have := h.lv.1; omega
 refine ⟨set_block _ _ 2 _ _ _ hbx v', hr (hk1.ownsRow h.hv (fun q hq e => h.ap q hq e)) (by decide), fun i l' hl => ?_, hi h.tv, ?_, fun i l' hl => ?_, fun q hq e => ?_, hk0.setCell (.inl h.lo) _, h.lo⟩
 ·obtain ⟨u', a, b, c⟩ := h.hr i l' hl
  exact ⟨u', a, hi b, c⟩
 ·rw [List.length_append]; exact hr ho (by decide)
 ·rcases snoc_at hl with hl | ⟨rfl, rfl⟩
  ·obtain ⟨u', a, b, c⟩ := h.lr i l' hl
   refine ⟨u', ?_, hi b, c⟩
   rw [List.getElem?_append_left (List.getElem?_eq_some_iff.1 a).1]; exact a
  ·refine ⟨u, ?_, hi hu, hut⟩
   rw [List.getElem?_append_right (by omega), ← hLV]
   simp
 ·rcases hb with hb | hb
  ·exact h.ap q hq (by rw [← hb]; exact e)
  ·rw [hb] at e
   have := (h.hv.lt q hq).2
   simp at e
   omega
theorem FacQ.stepT (h : FacQ w wr gF c3 c4 c5 Hs Ls Ts hvv tvv lvv HV LV) {v' : Value} {x : Int} (ho : OwnN w' w.heap.size v' (Ts ++ [x])) (hk0 : KF w w') (hk1 : Kept (fun q => tvv.ownBlock = some q) wr w') (hb : NewB wr tvv v') :
  FacQ w (w'.setCell ⟨gF, 1, none⟩ v') gF c3 c4 c5 Hs Ls (Ts ++ [x]) hvv v' lvv HV LV := by
 have hbx := box_kept hk1 h.box (fun e => own_box2 h.tv h.box (by decide) e)
 have hks := kept_set w' gF 1 v'
 have hr : ∀ {b e s n : Nat} {u : Value} {xs : List Value}, w'.ownsRow b e s u n xs → 33 ≠ e → (w'.setCell ⟨gF, 1, none⟩ v').ownsRow b e s u n xs := fun hr he => hks.ownsRow hr (fun q hq hs => own_box2 hr hbx he (by rw [hq, hs]))
 have hi : ∀ {u : Value} {l : List Int}, OwnN wr w.heap.size u l → (∀ q, tvv.ownBlock = some q → u.ownBlock ≠ some q) → OwnN (w'.setCell ⟨gF, 1, none⟩ v') w.heap.size u l ∧ ∀ q, v'.ownBlock = some q → u.ownBlock ≠ some q := fun h9 hap => by
  refine ⟨hr (hk1.ownsRow h9 (fun q hq e => hap q e hq)) (by decide), fun q hq e => ?_⟩
  rcases hb with hb | hb
  ·exact hap q (by rw [← hb]; exact hq) e
  ·rw [hb] at hq
   have := (h9.lt q e).2
   simp at hq
   omega
 refine ⟨set_block _ _ 1 _ _ _ hbx v', hr (hk1.ownsRow h.hv (fun q hq e => own_two h.tv h.hv (by decide) q e hq)) (by decide), fun i l' hl => ?_, hr ho (by decide), hr (hk1.ownsRow h.lv (fun q hq e => own_two h.tv h.lv (by decide) q e hq)) (by decide), fun i l' hl => ?_, h.ap, hk0.setCell (.inl h.lo) _, h.lo⟩
 ·obtain ⟨u', a, b, c⟩ := h.hr i l' hl
  exact ⟨u', a, hi b c⟩
 ·obtain ⟨u', a, b, c⟩ := h.lr i l' hl
  exact ⟨u', a, hi b c⟩
theorem FacQ.rows (h : FacQ w wr gF c3 c4 c5 Hs Ls Ts hvv tvv lvv HV LV) : RwN wr hvv Hs.length Hs ∧ RwN wr lvv Ls.length Ls :=
 ⟨⟨HV, own_mono h.hv (Nat.zero_le _), rfl, fun i l hl => by
  obtain ⟨u, a, b, _⟩ := h.hr i l hl
  exact ⟨u, a, own_mono b (Nat.zero_le _)⟩⟩, ⟨LV, own_mono h.lv (Nat.zero_le _), rfl, fun i l hl => by
  obtain ⟨u, a, b, _⟩ := h.lr i l hl
  exact ⟨u, a, own_mono b (Nat.zero_le _)⟩⟩⟩
end
theorem kept_both {w0 w : World} (hk : KF w0 w) {g o : Nat} {C : Array Value} {t : TypeId} (h : w0.heap[g]? = some (.cells C t (0, 0))) (v : Value) : KF (w0.setCell ⟨g, o, none⟩ v) (w.setCell ⟨g, o, none⟩ v) := by
 have h1 := set_block _ _ o _ _ _ h v
 have h2 := set_block _ _ o _ _ _ (box_kept hk h id) v
 have k0 := kept_set w0 g o v
 have k1 := kept_set w g o v
 obtain ⟨a1, a2, a3, a4, a5⟩ := hk
 obtain ⟨b1, b2, b3, b4, b5⟩ := k0
 obtain ⟨d1, d2, d3, d4, d5⟩ := k1
 have s0 : (w0.setCell ⟨g, o, none⟩ v).heap.size = w0.heap.size := by simp
 have s1 : (w.setCell ⟨g, o, none⟩ v).heap.size = w.heap.size := by simp
 refine ⟨?_, ?_, ?_, by omega, fun i hi hn => ?_⟩
 ·rw [d1, a1, b1]
 ·rw [d2, a2, b2]
 ·rw [d3, a3, b3]
 ·by_cases e : i = g
  ·subst e
   rw [h1, h2]
  ·rw [d5 i (by omega) e, b5 i (by omega) e, a5 i (by omega) id]
theorem Sm.reb {w0 w : World} {g gC gT gI gW nf : Nat} {C : Array Value} {cs ts : List Int} {is ws : List Bool} (h : Sm w0 w g gC gT gI gW nf C cs ts is ws) {gF o : Nat} {D : Array Value} (hb : w0.heap[gF]? = some (.cells D 33 (0, 0))) (v : Value) : Sm (w0.setCell ⟨gF, o, none⟩ v) (w.setCell ⟨gF, o, none⟩ v) g gC gT gI gW nf C cs ts is ws := by
 have hbw := box_kept h.kept hb id
 have hk := kept_set w gF o v
 have hs : (w0.setCell ⟨gF, o, none⟩ v).heap.size = w0.heap.size := by simp
 have hr : ∀ {b e s n : Nat} {u : Value} {xs : List Value}, w.ownsRow b e s u n xs → 33 ≠ e → (w.setCell ⟨gF, o, none⟩ v).ownsRow b e s u n xs := fun hr he => hk.ownsRow hr (fun q hq hs => own_box2 hr hbw he (by rw [hq, hs]))
 refine ⟨box_kept hk h.box (fun e => by have e2 : g = gF := e; have h9 := h.box; rw [e2, hbw] at h9; cases h9), ?_, ?_, ?_, ?_, h.ap, h.ln, kept_both h.kept hb v⟩
 ·rw [hs]; exact hr h.cc (by decide)
 ·rw [hs]; exact hr h.tt (by decide)
 ·rw [hs]; exact hr h.ii (by decide)
 ·rw [hs]; exact hr h.ww (by decide)
theorem SmB.reb {p : PG} {bs : List BD} {w0 : World} {B nd dc nf fc hg hc tg tc pg po : Nat} {mem : Int} {dao : Option Addr} (h : SmB p bs w0 B nd dc nf fc hg hc tg tc pg po mem dao) {gF o : Nat} {D : Array Value} (hb : w0.heap[gF]? = some (.cells D 33 (0, 0))) (hlo : B ≤ gF) (v : Value) : SmB p bs (w0.setCell ⟨gF, o, none⟩ v) B nd dc nf fc hg hc tg tc pg po mem dao := by
 have hk := kept_set w0 gF o v
 have hr : ∀ {b e s n : Nat} {u : Value} {xs : List Value}, w0.ownsRow b e s u n xs → 33 ≠ e → (w0.setCell ⟨gF, o, none⟩ v).ownsRow b e s u n xs := fun hr he => hk.ownsRow hr (fun q hq hs => own_box2 hr hb he (by rw [hq, hs]))
 obtain ⟨HV, h1, h2, h3⟩ := h.hhh
 refine ⟨h.hbs, h.hok, h.hnf, h.hpg.kept hk (fun q hq e => by omega), by simp; exact h.hlo, ⟨HV, hr h1 (by decide), h2, fun i l hl => ?_⟩, hr h.htt (by decide)⟩
 obtain ⟨u, a, b⟩ := h3 i l hl
 exact ⟨u, a, hr b (by decide)⟩
theorem sums_new {wA w : World} {g gC gT gI gW nf : Nat} {C : Array Value} (hn : nf ≤ 10000) (hC : w.heap[gC]? = some (.cells (zint nf) 3 (0, 0))) (hT : w.heap[gT]? = some (.cells (zint nf) 3 (0, 0))) (hI : w.heap[gI]? = some (.cells (zbool nf) 4 (0, 0))) (hW : w.heap[gW]? = some (.cells (zbool nf) 4 (0, 0))) (hg : w.heap[g]? = some (.cells C 88 (0, 0))) (ap : gC ≠ gT ∧ gI ≠ gW) (lo : wA.heap.size ≤ gC ∧ wA.heap.size ≤ gT ∧ wA.heap.size ≤ gI ∧ wA.heap.size ≤ gW) (hk : KF wA w) :
  Sm wA w g gC gT gI gW nf C (List.replicate nf 0) (List.replicate nf 0) (List.replicate nf false) (List.replicate nf false) :=
 ⟨hg, own_zint _ _ _ _ hC lo.1 hn, own_zint _ _ _ _ hT lo.2.1 hn, own_zbool _ _ _ _ hI lo.2.2.1 hn, own_zbool _ _ _ _ hW lo.2.2.2 hn, ap, by simp, hk⟩
theorem live_eq {p : PG} {bs : List BD} (h : Bs p bs) {cs : List Bool} (hl : cs.length = p.fns.length) (hc : ∀ i, i < p.fns.length → (cs.getD i false = true ↔ Plus (cnx p (bs.map BD.hs)) 0 i)) : cs.set 0 true = (factsP p bs).live := by
 obtain ⟨hn, _⟩ := plain_ok p h.pl
 have hN : 0 < bs.length := by rw [h.len]; omega
 have hll := live_length p bs
 apply List.ext_getElem
 ·rw [List.length_set, hll, h.len, hl]
 ·intro i h1 h2
  have hi : i < bs.length := by rw [← hll]; exact h2
  have e1 : (cs.set 0 true)[i] = (cs.set 0 true).getD i false := by simp [List.getD, List.getElem?_eq_getElem h1]
  have e2 : (factsP p bs).live[i] = (factsP p bs).live.getD i false := by simp [List.getD, List.getElem?_eq_getElem h2]
  rw [e1, e2, Bool.eq_iff_iff, live_iff h hi, ordF_iff h, getD_set _ _ _ (by rw [hl, ← h.len]; exact hN)]
  by_cases e : 0 = i
  ·rw [if_pos e]
   exact ⟨fun _ => .inl e.symm, fun _ => rfl⟩
  ·rw [if_neg e, hc i (by rw [← h.len]; exact hi), ← lead_plus h hN]
   exact ⟨fun h => .inr h, fun h => h.resolve_left (Ne.symm e)⟩
end Go.Proofs.YtcaadgcfceommaaGreat
