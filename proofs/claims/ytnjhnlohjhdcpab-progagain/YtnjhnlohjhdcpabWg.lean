/-
  ProgAgain: the walk.
-/
import Derived.Test.YtnjhnlohjhdcpabRtw
import Derived.Test.YtnjhnlohjhdcpabInn
import Derived.Test.YtnjhnlohjhdcpabBp
import Derived.Test.YtnjhnlohjhdcpabOxz
namespace Go.Proofs.Ytnjhnlohjhdcpab
open Go.ChangeShapes Go.WideShapes Go.ChangeAt Go.RowKit Go.Deep
set_option linter.unusedVariables false
set_option linter.unusedSimpArgs false
set_option maxRecDepth 100000

/-- What Decode answers. -/
def pOf (xs : List Int) : PG := match decPD xs with | .error _ => noneP | .ok p => p
def eOf (xs : List Int) : Int := match decPD xs with | .error f => f | .ok _ => 0
def Dec2 (xs : List Int) (w : World) (e : Ending) (w' : World) : Prop :=
  ∃ (mem : Int) (dao : Option Addr) (nd dc : Nat) (fao : Option Addr) (nf fc : Nat), e = .returned (.tuple #[.agg #[.int .i64 mem, .slice dao nd dc, .slice fao nf fc], .int .i64 (eOf xs)]) ∧
    PgIs w' w'.heap.size (.agg #[.int .i64 mem, .slice dao nd dc, .slice fao nf fc]) (pOf xs) ∧ (pOf xs).Ok ∧ Kept (fun _ => False) w w'
theorem DecPR.two {xs : List Int} {w w' : World} {e : Ending} (h : DecPR xs w e w') : Dec2 xs w e w' := by
  obtain ⟨hk, h⟩ := h
  cases hd : decPD xs with
  | error f =>
    rw [hd] at h
    subst h
    have e1 : pOf xs = noneP := by unfold pOf; rw [hd]
    have e2 : eOf xs = f := by unfold eOf; rw [hd]
    refine ⟨_, _, _, _, _, _, _, by rw [e2], ?_, by rw [e1]; exact noneP_ok, hk⟩
    rw [e1]
    exact noneP_is _ _
  | ok p =>
    rw [hd] at h
    obtain ⟨⟨dv, fv, cvs, rfl, hop⟩, hok⟩ := h
    have hp := hop.pg
    obtain ⟨dao, dc, rfl⟩ := ownsRow_shape hop.dat
    obtain ⟨fao, fc, rfl⟩ := ownsRow_shape hop.fns.row
    have e1 : pOf xs = p := by unfold pOf; rw [hd]
    have e2 : eOf xs = 0 := by unfold eOf; rw [hd]
    refine ⟨_, _, _, _, _, _, _, by rw [e2], ?_, by rw [e1]; exact hok, hk⟩
    rw [e1]
    exact hp
theorem srcR_own {w : World} {base : Nat} {v : Value} {n : Nat} {xs : List Int} (h : w.ownsRow base 5 1 v n (xs.map (Value.int .u8))) : SrcR w v xs := by
  have h0 := h
  have hn : xs.length = n := by have := h.1; simpa using this
  rcases h.2 with ⟨rfl, h0⟩ | ⟨g, cap, cur, rfl, hb, hg, hc, hm, hs, ht⟩
  · exact .inl ⟨rfl, List.length_eq_zero_iff.1 (by omega)⟩
  · have hgl := (Array.getElem?_eq_some_iff.1 hg).1
    refine .inr ⟨g, hgl, ?_, by simp [Value.ownBlock]⟩
    obtain ⟨g', _, h2⟩ := isR_own2 h0 hgl
    rcases h2 with ⟨rfl, ao, hao, e⟩ | ⟨o, c, e, r⟩
    · cases e
      exact .inl ⟨rfl, some ⟨g, 0, none⟩, .inr ⟨0, rfl⟩, rfl⟩
    · cases e
      exact .inr ⟨_, _, rfl, r⟩
/-- What Encode answers. -/
def EB (p : PG) : List Int := if encPE p = 0 then bytesP p else []
theorem EncPR.two {p : PG} {w w' : World} {e : Ending} (h : EncPR p w e w') : ∃ (ao : Option Addr) (c : Nat), e = .returned (.tuple #[.slice ao (EB p).length c, .int .i64 (encPE p)]) ∧ w'.ownsRow w.heap.size 5 1 (.slice ao (EB p).length c) (EB p).length ((EB p).map (Value.int .u8)) ∧ Kept (fun _ => False) w w' := by
  obtain ⟨hk, h⟩ := h
  by_cases h0 : encPE p = 0
  · rw [if_pos h0] at h
    obtain ⟨v', h1, h2⟩ := h
    have e1 : EB p = bytesP p := by unfold EB; rw [if_pos h0]
    obtain ⟨ao, c, rfl⟩ := ownsRow_shape h2
    rw [e1, h0]
    exact ⟨ao, c, h1, h2, hk⟩
  · rw [if_neg h0] at h
    have e1 : EB p = [] := by unfold EB; rw [if_neg h0]
    rw [e1]
    exact ⟨none, 0, h, World.ownsRow_nil _ _ _ _, hk⟩
theorem EB_ok {p : PG} (h : p.Ok) : BytesOk (EB p) := by
  unfold EB
  split
  · rename_i h0
    have h1 := encPE_zero h0
    exact bytesP_ok h h1.1 (by omega)
  · exact ⟨fun x hx => by simp at hx, by simp⟩
/-- What holds of the program that is changed. -/
structure AgK (w W : World) (base B ga gm : Nat) (pc : Array Value) (mem : Int) (da : Option Addr) (nd dc : Nat) (fa : Option Addr) (nf fc : Nat) (cvs : List Value) (p q : PG) : Prop where
  own : OwnP base W (.slice da nd dc) (.slice fa nf fc) cvs q
  ok : q.Ok
  me : mem = q.mem ∧ nd = q.data.length ∧ nf = q.fns.length
  bm : W.heap[gm]? = some (.cells #[.int .i64 mem, .slice da nd dc, .slice fa nf fc] 25 (0, 0))
  ba : W.heap[ga]? = some (.cells pc 25 (0, 0))
  pg : PgIs W B (.agg pc) p
  kept : Kept (fun _ => False) w W
  off : ga < base ∧ w.heap.size ≤ base ∧ B ≤ base ∧ base ≤ W.heap.size
section
variable {S : Nat → Prop} {w W W' : World} {base B ga gm : Nat} {pc : Array Value} {mem : Int} {da : Option Addr} {nd dc : Nat} {fa : Option Addr} {nf fc : Nat} {cvs : List Value} {p q q' : PG}
theorem AgK.step (h : AgK w W base B ga gm pc mem da nd dc fa nf fc cvs p q) (hk : Kept S W W') (hown : OwnP base W' (.slice da nd dc) (.slice fa nf fc) cvs q') (hok : q'.Ok) (hme : mem = q'.mem ∧ nd = q'.data.length ∧ nf = q'.fns.length) (h1 : ¬ S gm) (h2 : ∀ i, i < base → ¬ S i) : AgK w W' base B ga gm pc mem da nd dc fa nf fc cvs p q' :=
  ⟨hown, hok, hme, box_kept hk h.bm h1, box_kept hk h.ba (h2 _ h.off.1), h.pg.kept hk (fun q hq => h2 q (Nat.lt_of_lt_of_le hq h.off.2.2.1)), h.kept.step hk (fun i hi e => h2 i (Nat.lt_of_lt_of_le hi h.off.2.1) e), ⟨h.off.1, h.off.2.1, h.off.2.2.1, Nat.le_trans h.off.2.2.2 hk.size⟩⟩
theorem AgK.same (h : AgK w W base B ga gm pc mem da nd dc fa nf fc cvs p q) (hk : Kept (fun _ => False) W W') : AgK w W' base B ga gm pc mem da nd dc fa nf fc cvs p q :=
  h.step hk (h.own.kept hk (fun _ _ f => f)) h.ok h.me (fun f => f) (fun _ _ f => f)
theorem AgK.mine (h : AgK w W base B ga gm pc mem da nd dc fa nf fc cvs p q) : PgIs W W.heap.size (.agg #[.int .i64 mem, .slice da nd dc, .slice fa nf fc]) q := by
  have := h.own.pg
  rw [← h.me.1] at this
  exact this
theorem AgK.old (h : AgK w W base B ga gm pc mem da nd dc fa nf fc cvs p q) : PgIs W W.heap.size (.agg pc) p := h.pg.up (Nat.le_trans h.off.2.2.1 h.off.2.2.2)
theorem AgK.dat {g : Nat} (h : AgK w W base B ga gm pc mem (some ⟨g, 0, none⟩) nd dc fa nf fc cvs p q) (k : Nat) (x : Int) (hx : 0 ≤ x ∧ x ≤ 255) : AgK w (W.setCell ⟨g, k, none⟩ (.int .u8 x)) base B ga gm pc mem (some ⟨g, 0, none⟩) nd dc fa nf fc cvs p { q with data := q.data.set k x } := by
  refine h.step (kept_set W g k (.int .u8 x)) (h.own.setDat h.me.2.1 k x) (h.ok.setDat k x hx) ⟨h.me.1, ?_, h.me.2.2⟩ (fun e => own_box h.own.dat h.bm (by decide) (by rw [e]; rfl)) (fun i hi e => by have := (h.own.dat.lt g rfl).1; omega)
  show nd = (q.data.set k x).length
  rw [List.length_set]
  exact h.me.2.1
theorem AgK.res {g i : Nat} {f : FN} (h : AgK w W base B ga gm pc mem da nd dc (some ⟨g, 0, none⟩) nf fc cvs p q) (hf : q.fns[i]? = some f) (x : Int) (hx : -9223372036854775808 ≤ x ∧ x < 9223372036854775808) : AgK w (W.setCell ⟨g, i * 4 + 2, none⟩ (.int .i64 x)) base B ga gm pc mem da nd dc (some ⟨g, 0, none⟩) nf fc cvs p { q with fns := q.fns.set i { f with r := x } } := by
  have hfo := h.ok.fns f (List.mem_of_getElem? hf)
  refine h.step (kept_set W g (i * 4 + 2) (.int .i64 x)) (h.own.setRes h.me.2.2 hf x) (h.ok.setFn i _ ⟨hfo.a, hfo.l, hx, hfo.code, hfo.len⟩) ⟨h.me.1, h.me.2.1, ?_⟩ (fun e => own_box h.own.fns.row h.bm (by decide) (by rw [e]; rfl)) (fun i hi e => by have := (h.own.fns.row.lt g rfl).1; omega)
  show nf = (q.fns.set i _).length
  rw [List.length_set]
  exact h.me.2.2
theorem AgK.code {g n c i k : Nat} {f : FN} (h : AgK w W base B ga gm pc mem da nd dc fa nf fc cvs p q) (hf : q.fns[i]? = some f) (hc : cvs[i]? = some (.slice (some ⟨g, 0, none⟩) n c)) (hn : n = f.code.length) (hk : k < f.code.length) (y : IN) (hy : y.Ok) : AgK w ((W.setCell ⟨g, k * 2, none⟩ (.int .i64 y.op)).setCell ⟨g, k * 2 + 1, none⟩ (.int .i64 y.a)) base B ga gm pc mem da nd dc fa nf fc cvs p { q with fns := q.fns.set i { f with code := f.code.set k y } } := by
  have hfo := h.ok.fns f (List.mem_of_getElem? hf)
  have ho := h.own.fns.at' i f _ hf hc
  refine h.step ((kept_set W g (k * 2) (.int .i64 y.op)).trans (kept_set _ g (k * 2 + 1) (.int .i64 y.a))) (h.own.setCode hf hc hn hk y) (h.ok.setFn i _ ⟨hfo.a, hfo.l, hfo.r, fun z hz => ?_, ?_⟩) ⟨h.me.1, h.me.2.1, ?_⟩ (fun e => own_box ho h.bm (by decide) (by rw [e]; rfl)) (fun i hi e => by have := (ho.lt g rfl).1; omega)
  · rcases List.mem_or_eq_of_mem_set hz with hz | rfl
    · exact hfo.code z hz
    · exact hy
  · show (f.code.set k y).length * 16 ≤ _
    rw [List.length_set]
    exact hfo.len
  · show nf = (q.fns.set i _).length
    rw [List.length_set]
    exact h.me.2.2
end

theorem wrap_i64 (x : Int) : -9223372036854775808 ≤ IntKind.i64.wrap x ∧ IntKind.i64.wrap x < 9223372036854775808 := by
  simp [IntKind.wrap, IntKind.bits, IntKind.signed]
  omega
theorem wrap_u8 (x : Int) : 0 ≤ IntKind.u8.wrap x ∧ IntKind.u8.wrap x ≤ 255 := by
  simp [IntKind.wrap, IntKind.bits, IntKind.signed]
  omega
theorem bits_u8 (x y : Int) : 0 ≤ bits .xor .u8 x y ∧ bits .xor .u8 x y ≤ 255 := wrap_u8 _
set_option maxHeartbeats 64000000 in
theorem again_walk (u : Value) (ax nx : Int) (p : PG) (w : World) (B : Nat) (ha : PgIs w B u p) (hB : B ≤ w.heap.size) (hoa : p.Ok) (ha0 : -9223372036854775808 ≤ ax) (ha1 : ax < 9223372036854775808) (hn0 : -9223372036854775808 ≤ nx) (hn1 : nx < 9223372036854775808) : Calls Try.prog 4 #[u, .int .i64 ax, .int .i64 nx] w fun e w' => e = .returned (.bool true) ∧ Kept (fun _ => False) w w' := by
  have hag := ha
  obtain ⟨dv, fv, rfl, hd, hdl, hf⟩ := ha
  obtain ⟨pda, pdc, rfl⟩ := hd.shape
  obtain ⟨pfa, pfc, rfl⟩ := hf.shape
  obtain ⟨pnd, hpnd⟩ : ∃ n, n = p.data.length := ⟨_, rfl⟩
  obtain ⟨pnf, hpnf⟩ : ∃ n, n = p.fns.length := ⟨_, rfl⟩
  obtain ⟨mp, hmp⟩ : ∃ m, m = p.mem := ⟨_, rfl⟩
  rw [← hmp, ← hpnd, ← hpnf] at hag ⊢
  have hkA : Kept (fun _ => False) w (w.alloc (.cells #[.int .i64 mp, .slice pda pnd pdc, .slice pfa pnf pfc] 25)) := (Kept.refl _ _).alloc _
  have hbA := heap_alloc_new w (.cells #[.int .i64 mp, .slice pda pnd pdc, .slice pfa pnf pfc] 25)
  have HGA := hid_of (hag.kept hkA (fun _ _ f => f))
  have HBA := hid_of hbA
  have HKA := hid_of hkA
  have HOA := hid_of hoa
  have HB0 := hid_of hB
  clear hag hd hdl hf hkA hbA hB hpnd hpnf hmp
  go_enter Try.func4, Try.ntmps4
  go_upto_region 1 with fail
  generalize w.alloc (.cells #[.int .i64 mp, .slice pda pnd pdc, .slice pfa pnf pfc] 25) = w0 at *
  obtain ⟨ga, hga⟩ : ∃ g, g = w.heap.size := ⟨_, rfl⟩
  rw [← hga] at HBA ⊢
  have HGAE := hid_of hga
  clear hga
  go_wp2_with fail
  refine (known_any w0).mono ?_
  rintro e w1 ⟨rfl, hk1⟩
  have HB1 := hid_of (box_kept hk1 HBA.out (fun f => f))
  have HG1 := hid_of (HGA.out.kept hk1 (fun _ _ f => f))
  have HK1 := hid_of (HKA.out.trans hk1)
  have c0 := cell_block _ ga 0 _ _ _ HB1.out
  have c1 := cell_block _ ga 1 _ _ _ HB1.out
  have c2 := cell_block _ ga 2 _ _ _ HB1.out
  clear hk1 HBA HGA HKA
  have HTW := hid_of (rtwin_p _ p w1 B HG1.out (Nat.le_trans HB0.out HK1.out.size) HOA.out)
  go_wp2_with fail
  refine HTW.out.mono ?_
  rintro e w2 ⟨⟨tdv, tfv, cvs, rfl, hop⟩, hk2⟩
  obtain ⟨da, dc, hds⟩ := ownsRow_shape hop.dat
  obtain ⟨fa, fc, hfs⟩ := ownsRow_shape hop.fns.row
  obtain ⟨nd, hnd⟩ : ∃ n, n = p.data.length := ⟨_, rfl⟩
  obtain ⟨nf, hnf⟩ : ∃ n, n = p.fns.length := ⟨_, rfl⟩
  obtain ⟨mem, hmem⟩ : ∃ m, m = p.mem := ⟨_, rfl⟩
  rw [← hnd] at hds
  rw [← hnf] at hfs
  rw [← hmem]
  subst hds
  subst hfs
  have hkM : Kept (fun _ => False) w2 (w2.alloc (.cells #[.int .i64 mem, .slice da nd dc, .slice fa nf fc] 25)) := (Kept.refl _ _).alloc _
  have hbM := heap_alloc_new w2 (.cells #[.int .i64 mem, .slice da nd dc, .slice fa nf fc] 25)
  obtain ⟨base, hbase⟩ : ∃ b, b = w1.heap.size := ⟨_, rfl⟩
  have hga1 := (Array.getElem?_eq_some_iff.1 HB1.out).1
  have hk12 := hk2.trans hkM
  rw [← hbase] at hop
  have hA2 : AgK w (w2.alloc (.cells #[.int .i64 mem, .slice da nd dc, .slice fa nf fc] 25)) base B ga w2.heap.size #[.int .i64 mp, .slice pda pnd pdc, .slice pfa pnf pfc] mem da nd dc fa nf fc cvs p p := ⟨hop.kept hkM (fun _ _ f => f), HOA.out, ⟨hmem, hnd, hnf⟩, hbM, box_kept hk12 HB1.out (fun f => f), HG1.out.kept hk12 (fun _ _ f => f), HK1.out.trans hk12, ⟨by omega, by rw [hbase]; exact HK1.out.size, by rw [hbase]; exact Nat.le_trans HB0.out HK1.out.size, by rw [hbase]; exact hk12.size⟩⟩
  have HA2 := hid_of hA2
  have d0 := cell_block _ w2.heap.size 0 _ _ _ hbM
  have d1 := cell_block _ w2.heap.size 1 _ _ _ hbM
  have d2 := cell_block _ w2.heap.size 2 _ _ _ hbM
  have HCK := hid_of (check_p _ p _ _ hA2.mine (Nat.le_refl _) HOA.out)
  clear hkM hbM hop hk2 hk12 hA2 hnd hnf hmem hbase hga1 HTW c0 c1 c2 HB1 HG1 HK1
  go_wp2_with fail
  generalize w2.alloc (.cells #[.int .i64 mem, .slice da nd dc, .slice fa nf fc] 25) = w2b at *
  generalize w2.heap.size = gm at *
  refine HCK.out.mono ?_
  rintro e w3 ⟨rfl, hk3⟩
  have HA3 := hid_of (HA2.out.same hk3)
  clear HCK hk3 HA2 d0 d1 d2
  have d0 := cell_block _ gm 0 _ _ _ HA3.out.bm
  have d1 := cell_block _ gm 1 _ _ _ HA3.out.bm
  have d2 := cell_block _ gm 2 _ _ _ HA3.out.bm
  have HEN := hid_of (encode_p _ p w3 _ HA3.out.mine (Nat.le_refl _) HOA.out)
  go_wp2_with fail
  refine HEN.out.mono ?_
  intro e w4 h4
  obtain ⟨xao, xc, rfl, _, hk4⟩ := h4.two
  have HA4 := hid_of (HA3.out.same hk4)
  clear HEN hk4 h4 HA3 d0 d1 d2
  have d0 := cell_block _ gm 0 _ _ _ HA4.out.bm
  have d1 := cell_block _ gm 1 _ _ _ HA4.out.bm
  have d2 := cell_block _ gm 2 _ _ _ HA4.out.bm
  have c0 := cell_block _ ga 0 _ _ _ HA4.out.ba
  have c1 := cell_block _ ga 1 _ _ _ HA4.out.ba
  have c2 := cell_block _ ga 2 _ _ _ HA4.out.ba
  have HSM := hid_of (same_p _ _ p p w4 _ HA4.out.mine HA4.out.old (Nat.le_refl _) HOA.out HOA.out)
  go_wp2_with fail
  refine HSM.out.mono ?_
  rintro e w5 ⟨rfl, hk5⟩
  have HA5 := hid_of (HA4.out.same hk5)
  clear HSM hk5 HA4 d0 d1 d2 c0 c1 c2
  generalize (EB p).length = xn at *
  generalize encPE p = xe at *
  generalize checkP p = xk at *
  generalize sameP p p = xs at *
  have d0 := cell_block _ gm 0 _ _ _ HA5.out.bm
  have d1 := cell_block _ gm 1 _ _ _ HA5.out.bm
  have d2 := cell_block _ gm 2 _ _ _ HA5.out.bm
  have HA0 := hid_of ha0
  have HA1 := hid_of ha1
  have HN0 := hid_of hn0
  have HN1 := hid_of hn1
  have hnfI : (nf : Int) ≤ 140737488351232 := by have := HA5.out.ok.len; have := HA5.out.me.2.2; omega
  have hndI : (nd : Int) ≤ 140737488351232 := by have := HA5.out.ok.data.2; have := HA5.out.me.2.1; omega
  obtain ⟨qq, hqq⟩ : ∃ q, AgK w w5 base B ga gm #[.int .i64 mp, .slice pda pnd pdc, .slice pfa pnf pfc] mem da nd dc fa nf fc cvs p q := ⟨_, HA5.out⟩
  clear HA5
  have HA5 := hid_of hqq
  clear hqq
  by_cases hz : nf = 0
  · subst hz
    go_upto_region 13 with fail
    by_cases hdz : nd = 0
    · subst hdz
      go_upto_region 15 with fail
      have HTW := hid_of (rtwin_p _ _ w5 _ HA5.out.mine (Nat.le_refl _) HA5.out.ok)
      go_wp2_with fail
      refine HTW.out.mono ?_
      rintro e y1 ⟨⟨odv, ofv, ocv, rfl, hop⟩, hky⟩
      obtain ⟨oa, oc, hds⟩ := ownsRow_shape hop.dat
      obtain ⟨oe, of, hfs⟩ := ownsRow_shape hop.fns.row
      have hpo := hop.pg
      rw [← HA5.out.me.2.1] at hds
      rw [← HA5.out.me.2.2] at hfs
      rw [← HA5.out.me.1] at hpo ⊢
      subst hds
      subst hfs
      have hkM : Kept (fun _ => False) y1 (y1.alloc (.cells #[.int .i64 mem, .slice oa 0 oc, .slice oe 0 of] 25)) := (Kept.refl _ _).alloc _
      have hbO := heap_alloc_new y1 (.cells #[.int .i64 mem, .slice oa 0 oc, .slice oe 0 of] 25)
      have HAy := hid_of (HA5.out.same (hky.trans hkM))
      have HOP2 := hid_of ((hpo.kept hkM (fun _ _ f => f)).up hkM.size)
      have HBO2 := hid_of hbO
      have HQK := hid_of HA5.out.ok
      clear HTW hop hky hkM hbO hpo d0 d1 d2
      go_upto_region 16 with fail
      generalize y1.alloc (.cells #[.int .i64 mem, .slice oa 0 oc, .slice oe 0 of] 25) = y2 at *
      generalize y1.heap.size = gw at *
      have HWY := hid_of HAy.out.kept.size
      have d0 := cell_block _ gm 0 _ _ _ HAy.out.bm
      have d1 := cell_block _ gm 1 _ _ _ HAy.out.bm
      have d2 := cell_block _ gm 2 _ _ _ HAy.out.bm
      have HEN := hid_of (encode_p _ _ y2 _ HAy.out.mine (Nat.le_refl _) HQK.out)
      go_wp2_with fail
      refine HEN.out.mono ?_
      intro e y3 h3
      obtain ⟨ao, ac, rfl, ho3, hk3⟩ := h3.two
      have HA3 := hid_of (HAy.out.same hk3)
      have HOP3 := hid_of ((HOP2.out.kept hk3 (fun _ _ f => f)).up hk3.size)
      have HBO3 := hid_of (box_kept hk3 HBO2.out (fun f => f))
      have HO3 := hid_of ho3
      clear HEN h3 ho3 hk3 HAy HOP2 HBO2 d0 d1 d2
      have d0 := cell_block _ gw 0 _ _ _ HBO3.out
      have d1 := cell_block _ gw 1 _ _ _ HBO3.out
      have d2 := cell_block _ gw 2 _ _ _ HBO3.out
      have HEN := hid_of (encode_p _ _ y3 _ HOP3.out (Nat.le_refl _) HQK.out)
      go_wp2_with fail
      refine HEN.out.mono ?_
      intro e y4 h4
      obtain ⟨bo, bc, rfl, ho4, hk4⟩ := h4.two
      have HA4 := hid_of (HA3.out.same hk4)
      have HOP4 := hid_of ((HOP3.out.kept hk4 (fun _ _ f => f)).up hk4.size)
      have HBO4 := hid_of (box_kept hk4 HBO3.out (fun f => f))
      have HO4 := hid_of (hk4.ownsRow HO3.out (fun _ _ f => f))
      have HB4 := hid_of ho4
      have HEBK := hid_of (EB_ok HQK.out)
      clear HEN h4 ho4 hk4 HA3 HOP3 HBO3 HO3 d0 d1 d2
      go_upto_region 18 with fail
      obtain ⟨Q, hQ⟩ : ∃ Q, Q = qq := ⟨_, rfl⟩
      rw [← hQ] at HA4 HOP4 HO4 HB4 HEBK HQK ⊢
      clear hQ
      obtain ⟨bs, hbs⟩ : ∃ b, b = EB Q := ⟨_, rfl⟩
      rw [← hbs] at HO4 HB4 HEBK ⊢
      clear hbs
      obtain ⟨nb, hnb⟩ : ∃ n, n = bs.length := ⟨_, rfl⟩
      rw [← hnb] at HO4 HB4 ⊢
      have HNB := hid_of hnb
      clear hnb
      obtain ⟨er, her⟩ : ∃ r, r = encPE Q := ⟨_, rfl⟩
      rw [← her]
      clear her
      obtain ⟨ck, hck⟩ : ∃ r, r = checkP Q := ⟨_, rfl⟩
      obtain ⟨sq, hsq⟩ : ∃ r, r = sameP Q p := ⟨_, rfl⟩
      obtain ⟨sa, hsa⟩ : ∃ s, s = str bs := ⟨_, rfl⟩
      have HV1 : Hid (∀ W, Kept (fun _ => False) y4 W → (convert 22 9 (.slice ao nb ac)).run Try.prog W = .ok (.string sa) W) := fun W hW => by rw [hsa]; exact conv_str W _ bs ((isB_own HO4.out).kept hW (fun _ _ f => f))
      have HV2 : Hid (∀ W, Kept (fun _ => False) y4 W → (convert 22 9 (.slice bo nb bc)).run Try.prog W = .ok (.string sa) W) := fun W hW => by rw [hsa]; exact conv_str W _ bs ((isB_own HB4.out).kept hW (fun _ _ f => f))
      have HC1 : Hid (∀ W, Kept (fun _ => False) y4 W → Calls Try.prog 15 #[.agg #[.int .i64 mem, .slice da 0 dc, .slice fa 0 fc]] W fun e w' => e = .returned (.int .i64 ck) ∧ Kept (fun _ => False) W w') := fun W hW => by rw [hck]; exact check_p _ Q W _ (HA4.out.same hW).mine (Nat.le_refl _) HQK.out
      have HC2 : Hid (∀ W, Kept (fun _ => False) y4 W → Calls Try.prog 15 #[.agg #[.int .i64 mem, .slice oa 0 oc, .slice oe 0 of]] W fun e w' => e = .returned (.int .i64 ck) ∧ Kept (fun _ => False) W w') := fun W hW => by rw [hck]; exact check_p _ Q W _ ((HOP4.out.kept hW (fun _ _ f => f)).up hW.size) (Nat.le_refl _) HQK.out
      have HC3 : Hid (∀ W, Kept (fun _ => False) y4 W → Calls Try.prog 16 #[.agg #[.int .i64 mem, .slice da 0 dc, .slice fa 0 fc], .agg #[.int .i64 mp, .slice pda pnd pdc, .slice pfa pnf pfc]] W fun e w' => e = .returned (.bool sq) ∧ Kept (fun _ => False) W w') := fun W hW => by rw [hsq]; exact same_p _ _ Q p W _ (HA4.out.same hW).mine (HA4.out.same hW).old (Nat.le_refl _) HQK.out HOA.out
      have HC4 : Hid (∀ W, Kept (fun _ => False) y4 W → Calls Try.prog 8 #[.agg #[.int .i64 mem, .slice oa 0 oc, .slice oe 0 of], .agg #[.int .i64 mp, .slice pda pnd pdc, .slice pfa pnf pfc]] W fun e w' => e = .returned (.bool sq) ∧ Kept (fun _ => False) W w') := fun W hW => by rw [hsq]; exact rsame_any _ _ Q p W _ ((HOP4.out.kept hW (fun _ _ f => f)).up hW.size) (HA4.out.same hW).old (Nat.le_refl _) HQK.out HOA.out
      clear hck hsq hsa
      have HX0 := hid_of (show y4.cell? ⟨ga, 0, none⟩ = some (.int .i64 mp) from cell_block _ ga 0 _ _ _ HA4.out.ba)
      have HX1 := hid_of (show y4.cell? ⟨ga, 1, none⟩ = some (.slice pda pnd pdc) from cell_block _ ga 1 _ _ _ HA4.out.ba)
      have HX2 := hid_of (show y4.cell? ⟨ga, 2, none⟩ = some (.slice pfa pnf pfc) from cell_block _ ga 2 _ _ _ HA4.out.ba)
      have HY0 := hid_of (show y4.cell? ⟨gm, 0, none⟩ = some (.int .i64 mem) from cell_block _ gm 0 _ _ _ HA4.out.bm)
      have HY1 := hid_of (show y4.cell? ⟨gm, 1, none⟩ = some (.slice da 0 dc) from cell_block _ gm 1 _ _ _ HA4.out.bm)
      have HY2 := hid_of (show y4.cell? ⟨gm, 2, none⟩ = some (.slice fa 0 fc) from cell_block _ gm 2 _ _ _ HA4.out.bm)
      have HZ0 := hid_of (show y4.cell? ⟨gw, 0, none⟩ = some (.int .i64 mem) from cell_block _ gw 0 _ _ _ HBO4.out)
      have HZ1 := hid_of (show y4.cell? ⟨gw, 1, none⟩ = some (.slice oa 0 oc) from cell_block _ gw 1 _ _ _ HBO4.out)
      have HZ2 := hid_of (show y4.cell? ⟨gw, 2, none⟩ = some (.slice oe 0 of) from cell_block _ gw 2 _ _ _ HBO4.out)
      refine wp_region_held_drew (S := fun w' => Kept (fun _ => False) y4 w') (by kernel_rfl) (Kept.refl _ _).drew (fun hHeld => ?_)
      refine wpAnyH_take (i := 0) (v := ?_) rfl (by kernel_rfl) (by kernel_rfl) (by kernel_rfl) (fun _ _ _ h => h) (Or.inl ⟨by rfl, ?_⟩) (by assumption) ?_
      rotate_left 1
      · intro w hSw
        go_simp
        try with_reducible rfl
      try simp only [Act.put, List.getElem_toArray, List.getElem_cons_zero, List.getElem_cons_succ, List.setIfInBounds_toArray, List.set_cons_zero, List.set_cons_succ]
      refine wpAnyH_take (i := 1) (v := ?_) rfl (by kernel_rfl) (by kernel_rfl) (by kernel_rfl) (fun _ _ _ h => h) (Or.inl ⟨by rfl, ?_⟩) (by assumption) ?_
      rotate_left 1
      · intro w hSw
        have q1 := HV1.out w hSw
        go_simp
        try with_reducible rfl
      try simp only [Act.put, List.getElem_toArray, List.getElem_cons_zero, List.getElem_cons_succ, List.setIfInBounds_toArray, List.set_cons_zero, List.set_cons_succ]
      refine wpAnyH_take (i := 2) (v := ?_) rfl (by kernel_rfl) (by kernel_rfl) (by kernel_rfl) (fun _ _ _ h => h) (Or.inl ⟨by rfl, ?_⟩) (by assumption) ?_
      rotate_left 1
      · intro w hSw
        go_simp
        try with_reducible rfl
      try simp only [Act.put, List.getElem_toArray, List.getElem_cons_zero, List.getElem_cons_succ, List.setIfInBounds_toArray, List.set_cons_zero, List.set_cons_succ]
      refine wpAnyH_take (i := 3) (v := ?_) rfl (by kernel_rfl) (by kernel_rfl) (by kernel_rfl) (fun _ _ _ h => h) (Or.inl ⟨by rfl, ?_⟩) (by assumption) ?_
      rotate_left 1
      · intro w hSw
        have q1 := HV2.out w hSw
        go_simp
        try with_reducible rfl
      try simp only [Act.put, List.getElem_toArray, List.getElem_cons_zero, List.getElem_cons_succ, List.setIfInBounds_toArray, List.set_cons_zero, List.set_cons_succ]
      refine wpAnyH_take (i := 4) (v := (.bool false)) rfl (by kernel_rfl) (by kernel_rfl) (by kernel_rfl) (fun _ _ _ h => h) (Or.inl ⟨by rfl, ?_⟩) (by assumption) ?_
      · intro w hSw
        go_simp
      try simp only [Act.put, List.getElem_toArray, List.getElem_cons_zero, List.getElem_cons_succ, List.setIfInBounds_toArray, List.set_cons_zero, List.set_cons_succ]
      refine wpAnyH_take (i := 5) (v := ?_) rfl (by kernel_rfl) (by kernel_rfl) (by kernel_rfl) (fun _ _ _ h => h) (Or.inl ⟨by rfl, ?_⟩) (by assumption) ?_
      rotate_left 1
      · intro w hSw
        go_simp
        try with_reducible rfl
      try simp only [Act.put, List.getElem_toArray, List.getElem_cons_zero, List.getElem_cons_succ, List.setIfInBounds_toArray, List.set_cons_zero, List.set_cons_succ]
      refine wpAnyH_take (i := 6) (v := ?_) rfl (by kernel_rfl) (by kernel_rfl) (by kernel_rfl) (fun _ _ _ h => h) (Or.inl ⟨by rfl, ?_⟩) (by assumption) ?_
      rotate_left 1
      · intro w hSw
        go_simp
        try with_reducible rfl
      try simp only [Act.put, List.getElem_toArray, List.getElem_cons_zero, List.getElem_cons_succ, List.setIfInBounds_toArray, List.set_cons_zero, List.set_cons_succ]
      refine wpAnyH_take (i := 7) (v := ?_) rfl (by kernel_rfl) (by kernel_rfl) (by kernel_rfl) (fun _ _ _ h => h) (Or.inl ⟨by rfl, ?_⟩) (by assumption) ?_
      rotate_left 1
      · intro w hSw
        go_simp
        try with_reducible rfl
      try simp only [Act.put, List.getElem_toArray, List.getElem_cons_zero, List.getElem_cons_succ, List.setIfInBounds_toArray, List.set_cons_zero, List.set_cons_succ]
      refine wpAnyH_take (i := 8) (v := (.bool false)) rfl (by kernel_rfl) (by kernel_rfl) (by kernel_rfl) (fun _ _ _ h => h) (Or.inl ⟨by rfl, ?_⟩) (by assumption) ?_
      · intro w hSw
        go_simp
      try simp only [Act.put, List.getElem_toArray, List.getElem_cons_zero, List.getElem_cons_succ, List.setIfInBounds_toArray, List.set_cons_zero, List.set_cons_succ]
      refine wpAnyH_take (i := 9) (v := ?_) rfl (by kernel_rfl) (by kernel_rfl) (by kernel_rfl) (fun _ _ _ h => h) (Or.inl ⟨by rfl, ?_⟩) (by assumption) ?_
      rotate_left 1
      · intro w hSw
        go_simp
        try with_reducible rfl
      try simp only [Act.put, List.getElem_toArray, List.getElem_cons_zero, List.getElem_cons_succ, List.setIfInBounds_toArray, List.set_cons_zero, List.set_cons_succ]
      refine wpAnyH_take (i := 10) (v := ?_) rfl (by kernel_rfl) (by kernel_rfl) (by kernel_rfl) (fun _ _ _ h => h) (Or.inl ⟨by rfl, ?_⟩) (by assumption) ?_
      rotate_left 1
      · intro w hSw
        go_simp
        try with_reducible rfl
      try simp only [Act.put, List.getElem_toArray, List.getElem_cons_zero, List.getElem_cons_succ, List.setIfInBounds_toArray, List.set_cons_zero, List.set_cons_succ]
      refine wpAnyH_take (i := 11) (v := ?_) rfl (by kernel_rfl) (by kernel_rfl) (by kernel_rfl) (fun _ _ _ h => h) (Or.inl ⟨by rfl, ?_⟩) (by assumption) ?_
      rotate_left 1
      · intro w hSw
        have q0 := Kept.cell hSw HY0.out (fun f => f)
        have q1 := Kept.cell hSw HY1.out (fun f => f)
        have q2 := Kept.cell hSw HY2.out (fun f => f)
        go_simp
        try with_reducible rfl
      try simp only [Act.put, List.getElem_toArray, List.getElem_cons_zero, List.getElem_cons_succ, List.setIfInBounds_toArray, List.set_cons_zero, List.set_cons_succ]
      refine wpAnyH_take (i := 13) (v := ?_) rfl (by kernel_rfl) (by kernel_rfl) (by kernel_rfl) (fun _ _ _ h => h) (Or.inl ⟨by rfl, ?_⟩) (by assumption) ?_
      rotate_left 1
      · intro w hSw
        have q0 := Kept.cell hSw HZ0.out (fun f => f)
        have q1 := Kept.cell hSw HZ1.out (fun f => f)
        have q2 := Kept.cell hSw HZ2.out (fun f => f)
        go_simp
        try with_reducible rfl
      try simp only [Act.put, List.getElem_toArray, List.getElem_cons_zero, List.getElem_cons_succ, List.setIfInBounds_toArray, List.set_cons_zero, List.set_cons_succ]
      refine wpAnyH_ready (rs := [12]) (by kernel_rfl) (by simp) ?_
      refine AllReadyH.cons rfl (fun K hK => ?_) AllReadyH.nil
      go_simp
      refine (HC1.out _ hHeld).mono ?_
      rintro e wn ⟨rfl, hkn⟩
      refine hK.out _ _ (Kept.trans hHeld hkn) (fun hHeld => ?_)
      clear hK K hkn
      try simp only [Act.put, List.getElem_toArray, List.getElem_cons_zero, List.getElem_cons_succ, List.setIfInBounds_toArray, List.set_cons_zero, List.set_cons_succ]
      refine wpAnyH_ready (rs := [14]) (by kernel_rfl) (by simp) ?_
      refine AllReadyH.cons rfl (fun K hK => ?_) AllReadyH.nil
      go_simp
      refine (HC2.out _ hHeld).mono ?_
      rintro e wn ⟨rfl, hkn⟩
      refine hK.out _ _ (Kept.trans hHeld hkn) (fun hHeld => ?_)
      clear hK K hkn
      try simp only [Act.put, List.getElem_toArray, List.getElem_cons_zero, List.getElem_cons_succ, List.setIfInBounds_toArray, List.set_cons_zero, List.set_cons_succ]
      refine wpAnyH_take (i := 15) (v := (.bool false)) rfl (by kernel_rfl) (by kernel_rfl) (by kernel_rfl) (fun _ _ _ h => h) (Or.inl ⟨by rfl, ?_⟩) (by assumption) ?_
      · intro w hSw
        go_simp
      try simp only [Act.put, List.getElem_toArray, List.getElem_cons_zero, List.getElem_cons_succ, List.setIfInBounds_toArray, List.set_cons_zero, List.set_cons_succ]
      refine wpAnyH_take (i := 16) (v := ?_) rfl (by kernel_rfl) (by kernel_rfl) (by kernel_rfl) (fun _ _ _ h => h) (Or.inl ⟨by rfl, ?_⟩) (by assumption) ?_
      rotate_left 1
      · intro w hSw
        go_simp
        try with_reducible rfl
      try simp only [Act.put, List.getElem_toArray, List.getElem_cons_zero, List.getElem_cons_succ, List.setIfInBounds_toArray, List.set_cons_zero, List.set_cons_succ]
      refine wpAnyH_take (i := 17) (v := ?_) rfl (by kernel_rfl) (by kernel_rfl) (by kernel_rfl) (fun _ _ _ h => h) (Or.inl ⟨by rfl, ?_⟩) (by assumption) ?_
      rotate_left 1
      · intro w hSw
        go_simp
        try with_reducible rfl
      try simp only [Act.put, List.getElem_toArray, List.getElem_cons_zero, List.getElem_cons_succ, List.setIfInBounds_toArray, List.set_cons_zero, List.set_cons_succ]
      refine wpAnyH_take (i := 18) (v := ?_) rfl (by kernel_rfl) (by kernel_rfl) (by kernel_rfl) (fun _ _ _ h => h) (Or.inl ⟨by rfl, ?_⟩) (by assumption) ?_
      rotate_left 1
      · intro w hSw
        have q0 := Kept.cell hSw HY0.out (fun f => f)
        have q1 := Kept.cell hSw HY1.out (fun f => f)
        have q2 := Kept.cell hSw HY2.out (fun f => f)
        go_simp
        try with_reducible rfl
      try simp only [Act.put, List.getElem_toArray, List.getElem_cons_zero, List.getElem_cons_succ, List.setIfInBounds_toArray, List.set_cons_zero, List.set_cons_succ]
      refine wpAnyH_take (i := 19) (v := ?_) rfl (by kernel_rfl) (by kernel_rfl) (by kernel_rfl) (fun _ _ _ h => h) (Or.inl ⟨by rfl, ?_⟩) (by assumption) ?_
      rotate_left 1
      · intro w hSw
        have q0 := Kept.cell hSw HX0.out (fun f => f)
        have q1 := Kept.cell hSw HX1.out (fun f => f)
        have q2 := Kept.cell hSw HX2.out (fun f => f)
        go_simp
        try with_reducible rfl
      try simp only [Act.put, List.getElem_toArray, List.getElem_cons_zero, List.getElem_cons_succ, List.setIfInBounds_toArray, List.set_cons_zero, List.set_cons_succ]
      refine wpAnyH_take (i := 21) (v := ?_) rfl (by kernel_rfl) (by kernel_rfl) (by kernel_rfl) (fun _ _ _ h => h) (Or.inl ⟨by rfl, ?_⟩) (by assumption) ?_
      rotate_left 1
      · intro w hSw
        have q0 := Kept.cell hSw HZ0.out (fun f => f)
        have q1 := Kept.cell hSw HZ1.out (fun f => f)
        have q2 := Kept.cell hSw HZ2.out (fun f => f)
        go_simp
        try with_reducible rfl
      try simp only [Act.put, List.getElem_toArray, List.getElem_cons_zero, List.getElem_cons_succ, List.setIfInBounds_toArray, List.set_cons_zero, List.set_cons_succ]
      refine wpAnyH_take (i := 22) (v := ?_) rfl (by kernel_rfl) (by kernel_rfl) (by kernel_rfl) (fun _ _ _ h => h) (Or.inl ⟨by rfl, ?_⟩) (by assumption) ?_
      rotate_left 1
      · intro w hSw
        have q0 := Kept.cell hSw HX0.out (fun f => f)
        have q1 := Kept.cell hSw HX1.out (fun f => f)
        have q2 := Kept.cell hSw HX2.out (fun f => f)
        go_simp
        try with_reducible rfl
      try simp only [Act.put, List.getElem_toArray, List.getElem_cons_zero, List.getElem_cons_succ, List.setIfInBounds_toArray, List.set_cons_zero, List.set_cons_succ]
      refine wpAnyH_ready (rs := [20]) (by kernel_rfl) (by simp) ?_
      refine AllReadyH.cons rfl (fun K hK => ?_) AllReadyH.nil
      go_simp
      refine (HC3.out _ hHeld).mono ?_
      rintro e wn ⟨rfl, hkn⟩
      refine hK.out _ _ (Kept.trans hHeld hkn) (fun hHeld => ?_)
      clear hK K hkn
      try simp only [Act.put, List.getElem_toArray, List.getElem_cons_zero, List.getElem_cons_succ, List.setIfInBounds_toArray, List.set_cons_zero, List.set_cons_succ]
      refine wpAnyH_ready (rs := [23]) (by kernel_rfl) (by simp) ?_
      refine AllReadyH.cons rfl (fun K hK => ?_) AllReadyH.nil
      go_simp
      refine (HC4.out _ hHeld).mono ?_
      rintro e wn ⟨rfl, hkn⟩
      refine hK.out _ _ (Kept.trans hHeld hkn) (fun hHeld => ?_)
      clear hK K hkn
      try simp only [Act.put, List.getElem_toArray, List.getElem_cons_zero, List.getElem_cons_succ, List.setIfInBounds_toArray, List.set_cons_zero, List.set_cons_succ]
      refine wpAnyH_take (i := 24) (v := (.bool false)) rfl (by kernel_rfl) (by kernel_rfl) (by kernel_rfl) (fun _ _ _ h => h) (Or.inl ⟨by rfl, ?_⟩) (by assumption) ?_
      · intro w hSw
        go_simp
        try (cases sq <;> rfl)
      try simp only [Act.put, List.getElem_toArray, List.getElem_cons_zero, List.getElem_cons_succ, List.setIfInBounds_toArray, List.set_cons_zero, List.set_cons_succ]
      refine wpAnyH_take (i := 25) (v := ?_) rfl (by kernel_rfl) (by kernel_rfl) (by kernel_rfl) (fun _ _ _ h => h) (Or.inl ⟨by rfl, ?_⟩) (by assumption) ?_
      rotate_left 1
      · intro w hSw
        go_simp
        try with_reducible rfl
      try simp only [Act.put, List.getElem_toArray, List.getElem_cons_zero, List.getElem_cons_succ, List.setIfInBounds_toArray, List.set_cons_zero, List.set_cons_succ]
      refine wpAnyH_done (by kernel_rfl) ?_ _
      have HWN := hid_of hHeld
      clear hHeld HV1 HV2 HC1 HC2 HC3 HC4 HX0 HX1 HX2 HY0 HY1 HY2 HZ0 HZ1 HZ2
      have HKN := hid_of (HA4.out.kept.trans HWN.out)
      have HO5 := hid_of (HWN.out.ownsRow HO4.out (fun _ _ f => f))
      have hpos : 0 < wn.heap.size := Nat.lt_of_le_of_lt (Nat.zero_le _) (Nat.lt_of_lt_of_le (Array.getElem?_eq_some_iff.1 HA4.out.bm).1 HWN.out.size)
      clear HA4 HOP4 HBO4 HO4 HB4 HWN
      obtain ⟨gz, hgz, hri⟩ := (srcR_own HO5.out).at (Kept.refl _ _) hpos
      have hD := decode_p gz ao ac bs wn (by rw [← HNB.out]; exact hri) hgz HEBK.out
      rw [← HNB.out] at hD
      have HD := hid_of hD
      clear hD hri hgz hpos
      go_wp2_with fail
      refine HD.out.mono ?_
      intro e y6 h6
      obtain ⟨mx, xda, xnd, xdc, xfa, xnf, xfc, rfl, _, _, hk6⟩ := h6.two
      have HK6 := hid_of (HKN.out.trans hk6)
      have HO6 := hid_of (hk6.ownsRow HO5.out (fun _ _ f => f))
      clear HD h6 hk6 HO5 HKN
      generalize eOf bs = ex at *
      by_cases hb0 : nb = 0
      · subst hb0
        go_wp2
        go_ret
        exact ⟨rfl, HK6.out⟩
      · have hbN : 0 < nb := by omega
        have hbI : (0 : Int) < (nb : Int) := by omega
        have hbe : ((nb : Int) == 0) = false := by simp; omega
        have hnbI : (nb : Int) ≤ 140737488351232 := by have := HEBK.out.2; have := HNB.out; omega
        go_wp2_with fail
        refine (in_any ax nb y6 HA0.out HA1.out hbN (by omega)).mono ?_
        rintro e y7 ⟨⟨j, hj, rfl⟩, rfl⟩
        have hjI : (j : Int) < (nb : Int) := by omega
        obtain ⟨g1, hg1⟩ : ∃ g, ao = some ⟨g, 0, none⟩ := by
          obtain ⟨g, c, e⟩ := own_at0 HO6.out hbN
          simp only [Value.slice.injEq] at e
          exact ⟨g, e.1⟩
        subst hg1
        obtain ⟨x1, hx1⟩ : ∃ x, bs[j]? = some x := ⟨_, List.getElem?_eq_getElem (by have := HNB.out; omega)⟩
        have t0 : y7.cell? ⟨g1, j, none⟩ = some (.int .u8 x1) := by
          rw [HO6.out.cellAt _ (by omega), List.getElem?_map, hx1]
          rfl
        have tf : y7.frozen? ⟨g1, j, none⟩ = false := World.ownsRow.frozenAt HO6.out _
        clear hx1
        go_upto_region 25 with fail
        have hzb := bits_u8 x1 1
        generalize bits .xor .u8 x1 1 = z at *
        have hst := (World.ownsRow.stored HO6.out j (.int .u8 z)).1
        rw [← List.map_set] at hst
        have hks := kept_set y7 g1 j (.int .u8 z)
        have HK7 := hid_of (HK6.out.step hks (fun i hi e => by have := (HO6.out.lt g1 rfl).1; have := HWY.out; omega))
        have hbs2 : BytesOk (bs.set j z) := ⟨fun x hx => by
          rcases List.mem_or_eq_of_mem_set hx with h | rfl
          · exact HEBK.out.1 x h
          · exact hzb, by rw [List.length_set]; exact HEBK.out.2⟩
        obtain ⟨cs, hcs⟩ : ∃ c, c = bs.set j z := ⟨_, rfl⟩
        rw [← hcs] at hst hbs2
        have hncs : nb = cs.length := by rw [hcs, List.length_set]; exact HNB.out
        clear hks hcs hzb HO6 HK6 t0 tf
        generalize y7.setCell ⟨g1, j, none⟩ (.int .u8 z) = y8 at *
        have hE := heap_alloc_new y8 (.cells #[] 5)
        have hkE : Kept (fun _ => False) y8 (y8.alloc (.cells #[] 5)) := (Kept.refl _ _).alloc _
        obtain ⟨v9, y9, hr9, ho9, h39⟩ := app_any (y8.alloc (.cells #[] 5)) (.slice (some ⟨y8.heap.size, 0, none⟩) 0 0) 0 y8.heap.size [] 22 (.slice (some ⟨g1, 0, none⟩) nb ac) cs (own_zero hE (Nat.le_refl _)) ((isB_own hst).kept hkE (fun _ _ f => f)) hkE.size (by have := hbs2.2; omega)
        rw [Nat.zero_add, List.nil_append, ← hncs] at ho9
        obtain ⟨co, cc9, hv9⟩ := ownsRow_shape ho9
        subst hv9
        have hk9 : Kept (fun _ => False) y8 y9 := hkE.grown h39 (fun k hk => .inl (by simp [Value.ownBlock] at hk; omega))
        have HR9 := hid_of hr9
        have HO9 := hid_of ho9
        have HA9 := hid_of (hk9.ownsRow hst (fun _ _ f => f))
        have HK9 := hid_of (HK7.out.trans hk9)
        have HBZ := hid_of hbs2
        have HNC9 := hid_of hncs
        clear hE hkE hr9 ho9 h39 hk9 hst hbs2 hncs HK7
        go_upto_region 26 with (at_builtin; refine wp_app rfl (.tmp 147) (.tmp 148) 22 22 rfl _ _ rfl rfl _ y9 HR9.out ?_)
        obtain ⟨gz, hgz, hri⟩ := (srcR_own HA9.out).at (Kept.refl _ _) (Nat.lt_of_le_of_lt (Nat.zero_le _) (HA9.out.lt g1 rfl).2)
        have hD := decode_p gz (some ⟨g1, 0, none⟩) ac cs y9 (by rw [← HNC9.out]; exact hri) hgz HBZ.out
        rw [← HNC9.out] at hD
        have HD := hid_of hD
        clear hD hri hgz HR9
        go_wp2_with fail
        refine HD.out.mono ?_
        intro e y10 h10
        obtain ⟨m1, a1, n1, c1, b1, k1, e1, rfl, hp10, hpk, hk10⟩ := h10.two
        have hkA : Kept (fun _ => False) y10 (y10.alloc (.cells #[.int .i64 m1, .slice a1 n1 c1, .slice b1 k1 e1] 25)) := (Kept.refl _ _).alloc _
        have hbA := heap_alloc_new y10 (.cells #[.int .i64 m1, .slice a1 n1 c1, .slice b1 k1 e1] 25)
        have HP10 := hid_of (hp10.kept hkA (fun _ _ f => f))
        have HO11 := hid_of ((hk10.trans hkA).ownsRow HO9.out (fun _ _ f => f))
        have HB11 := hid_of hbA
        have HK11 := hid_of (HK9.out.trans (hk10.trans hkA))
        have HPK := hid_of hpk
        obtain ⟨gy, hgy, hry⟩ := (srcR_own HO11.out).at (Kept.refl _ _) (Nat.lt_of_le_of_lt (Nat.zero_le _) (Array.getElem?_eq_some_iff.1 hbA).1)
        have hD := decode_p gy co cc9 cs _ (by rw [← HNC9.out]; exact hry) hgy HBZ.out
        rw [← HNC9.out] at hD
        have HD2 := hid_of hD
        clear hD hry hgy h10 HD hk10 hkA hbA hp10 hpk HA9 HO9 HK9
        go_upto_region 27 with fail
        generalize y10.alloc (.cells #[.int .i64 m1, .slice a1 n1 c1, .slice b1 k1 e1] 25) = y11 at *
        generalize y10.heap.size = gp1 at *
        go_wp2_with fail
        refine HD2.out.mono ?_
        intro e y12 h12
        obtain ⟨m2, a2, n2, c2, b2, k2, e2, rfl, hp12, _, hk12⟩ := h12.two
        have hkB : Kept (fun _ => False) y12 (y12.alloc (.cells #[.int .i64 m2, .slice a2 n2 c2, .slice b2 k2 e2] 25)) := (Kept.refl _ _).alloc _
        have hbB := heap_alloc_new y12 (.cells #[.int .i64 m2, .slice a2 n2 c2, .slice b2 k2 e2] 25)
        have hbP := box_kept (hk12.trans hkB) HB11.out (fun f => f)
        have hP1 := HP10.out.kept (hk12.trans hkB) (fun _ _ f => f)
        have hP2 := hp12.kept hkB (fun _ _ f => f)
        have hgl : gp1 < y12.heap.size := Nat.lt_of_lt_of_le (Array.getElem?_eq_some_iff.1 HB11.out).1 hk12.size
        have hSM := rsame_any _ _ (pOf cs) (pOf cs) _ y12.heap.size (hP1.up (Nat.le_of_lt hgl)) hP2 hkB.size HPK.out HPK.out
        rw [sameP_refl] at hSM
        have HSM := hid_of hSM
        have HK13 := hid_of (HK11.out.trans (hk12.trans hkB))
        have p0 := cell_block _ gp1 0 _ _ _ hbP
        have p1 := cell_block _ gp1 1 _ _ _ hbP
        have p2 := cell_block _ gp1 2 _ _ _ hbP
        have r0 := cell_block _ y12.heap.size 0 _ _ _ hbB
        have r1 := cell_block _ y12.heap.size 1 _ _ _ hbB
        have r2 := cell_block _ y12.heap.size 2 _ _ _ hbB
        clear hkB hbB hbP hP1 hP2 hgl hSM h12 hk12 hp12 HD2 HP10 HO11 HB11 HK11
        go_wp2_with fail
        generalize y12.alloc (.cells #[.int .i64 m2, .slice a2 n2 c2, .slice b2 k2 e2] 25) = y13 at *
        generalize y12.heap.size = gp2 at *
        refine HSM.out.mono ?_
        rintro e y14 ⟨rfl, hk14⟩
        have HK14 := hid_of (HK13.out.trans hk14)
        clear HSM hk14 HK13 p0 p1 p2 r0 r1 r2
        generalize eOf cs = ez at *
        go_wp2
        go_ret
        exact ⟨rfl, HK14.out⟩
    · have hdI : (0 : Int) < (nd : Int) := by omega
      obtain ⟨gd, hgd⟩ : ∃ g, da = some ⟨g, 0, none⟩ := by
        obtain ⟨g, c, e⟩ := own_at0 HA5.out.own.dat (by have := HA5.out.me.2.1; omega)
        simp only [Value.slice.injEq] at e
        exact ⟨g, e.1⟩
      subst hgd
      have hdr := HA5.out.own.dat
      rw [← HA5.out.me.2.1] at hdr
      obtain ⟨x0, hx0⟩ : ∃ x, (qq).data[0]? = some x := ⟨_, List.getElem?_eq_getElem (by have := HA5.out.me.2.1; omega)⟩
      have r0 : (w5).drew.cell? ⟨gd, 0, none⟩ = some (.int .u8 x0) := by
        show (w5).cell? _ = _
        rw [hdr.cellAt _ (by omega), List.getElem?_map, hx0]
        rfl
      have rf : (w5).drew.frozen? ⟨gd, 0, none⟩ = false := World.ownsRow.frozenAt hdr _
      have HGD : Hid (¬ gm = gd) := fun e => own_box hdr HA5.out.bm (by decide) (by rw [e]; rfl)
      have HBMD : Hid ((w5).drew.heap[gm]? = some (.cells #[.int .i64 mem, .slice (some ⟨gd, 0, none⟩) nd dc, .slice fa 0 fc] 25 (0, 0))) := HA5.out.bm
      clear hdr hx0
      go_upto_region 14 with fail
      clear d0 d1 d2
      refine wp_region_held_drew (S := fun w' => w'.heap[gm]? = some (.cells #[.int .i64 mem, .slice (some ⟨gd, 0, none⟩) nd dc, .slice fa 0 fc] 25 (0, 0))) (by kernel_rfl) HBMD.out (fun hHeld => ?_)
      refine wpAnyH_take (i := 0) (v := ?_) rfl (by kernel_rfl) (by kernel_rfl) (by kernel_rfl) (fun _ _ _ h => h) (Or.inl ⟨by rfl, ?_⟩) (by assumption) ?_
      rotate_left 1
      · intro w hSw
        go_simp
        try with_reducible rfl
      try simp only [Act.put, List.getElem_toArray, List.getElem_cons_zero, List.getElem_cons_succ, List.setIfInBounds_toArray, List.set_cons_zero, List.set_cons_succ]
      refine wpAnyH_take (i := 1) (v := ?_) rfl (by kernel_rfl) (by kernel_rfl) (by kernel_rfl) (fun _ _ _ h => h) (Or.inl ⟨by rfl, ?_⟩) (by assumption) ?_
      rotate_left 1
      · intro w hSw
        have q2 := cell_block _ gm 1 _ _ _ hSw
        go_simp
        try with_reducible rfl
      try simp only [Act.put, List.getElem_toArray, List.getElem_cons_zero, List.getElem_cons_succ, List.setIfInBounds_toArray, List.set_cons_zero, List.set_cons_succ]
      refine wpAnyH_take (i := 2) (v := ?_) rfl (by kernel_rfl) (by kernel_rfl) (by kernel_rfl) (fun _ _ _ h => h) (Or.inl ⟨by rfl, ?_⟩) (by assumption) ?_
      rotate_left 1
      · intro w hSw
        go_simp
        try with_reducible rfl
      try simp only [Act.put, List.getElem_toArray, List.getElem_cons_zero, List.getElem_cons_succ, List.setIfInBounds_toArray, List.set_cons_zero, List.set_cons_succ]
      refine wpAnyH_take (i := 3) (v := ?_) rfl (by kernel_rfl) (by kernel_rfl) (by kernel_rfl) (fun _ _ _ h => h) (Or.inl ⟨by rfl, ?_⟩) (by assumption) ?_
      rotate_left 1
      · intro w hSw
        have q2 := cell_block _ gm 1 _ _ _ hSw
        go_simp
        try with_reducible rfl
      try simp only [Act.put, List.getElem_toArray, List.getElem_cons_zero, List.getElem_cons_succ, List.setIfInBounds_toArray, List.set_cons_zero, List.set_cons_succ]
      refine wpAnyH_take (i := 4) (v := ?_) rfl (by kernel_rfl) (by kernel_rfl) (by kernel_rfl) (fun _ _ _ h => h) (Or.inl ⟨by rfl, ?_⟩) (by assumption) ?_
      rotate_left 1
      · intro w hSw
        go_simp
        try with_reducible rfl
      try simp only [Act.put, List.getElem_toArray, List.getElem_cons_zero, List.getElem_cons_succ, List.setIfInBounds_toArray, List.set_cons_zero, List.set_cons_succ]
      refine wpAnyH_ready (rs := [5]) (by kernel_rfl) (by simp) ?_
      refine AllReadyH.cons rfl (fun K hK => ?_) AllReadyH.nil
      go_simp
      refine hK.out _ _ hHeld (fun hHeld => ?_)
      clear hK K
      try simp only [Act.put, List.getElem_toArray, List.getElem_cons_zero, List.getElem_cons_succ, List.setIfInBounds_toArray, List.set_cons_zero, List.set_cons_succ]
      refine wpAnyH_take (i := 6) (v := ?_) rfl (by kernel_rfl) (by kernel_rfl) (by kernel_rfl) (fun _ _ _ h => h) (Or.inl ⟨by rfl, ?_⟩) (by assumption) ?_
      rotate_left 1
      · intro w hSw
        go_simp
        try with_reducible rfl
      try simp only [Act.put, List.getElem_toArray, List.getElem_cons_zero, List.getElem_cons_succ, List.setIfInBounds_toArray, List.set_cons_zero, List.set_cons_succ]
      refine wpAnyH_take (i := 7) (v := ?_) rfl (by kernel_rfl) (by kernel_rfl) (by kernel_rfl) (fun _ _ _ h => h) (Or.inl ⟨by rfl, ?_⟩) (by assumption) ?_
      rotate_left 1
      · intro w hSw
        go_simp
        try with_reducible rfl
      try simp only [Act.put, List.getElem_toArray, List.getElem_cons_zero, List.getElem_cons_succ, List.setIfInBounds_toArray, List.set_cons_zero, List.set_cons_succ]
      refine wpAnyH_ready (rs := [8]) (by kernel_rfl) (by simp) ?_
      refine AllReadyH.cons rfl (fun K hK => ?_) AllReadyH.nil
      go_simp
      refine hK.out _ _ (box_kept (kept_set _ gd 0 _) hHeld HGD.out) (fun hHeld => ?_)
      clear hK K r0 rf
      try simp only [Act.put, List.getElem_toArray, List.getElem_cons_zero, List.getElem_cons_succ, List.setIfInBounds_toArray, List.set_cons_zero, List.set_cons_succ]
      refine wpAnyH_done (by kernel_rfl) ?_ _
      obtain ⟨q2, hA10⟩ : ∃ q2, AgK w (w5.setCell ⟨gd, 0, none⟩ (.int .u8 (IntKind.u8.wrap (x0 + 1)))).drew base B ga gm #[.int .i64 mp, .slice pda pnd pdc, .slice pfa pnf pfc] mem (some ⟨gd, 0, none⟩) nd dc fa 0 fc cvs p q2 := ⟨_, (HA5.out.dat 0 _ (wrap_u8 _)).same ((Kept.refl _ _).drew)⟩
      have HA10 := hid_of hA10
      clear hA10 HA5
      generalize (w5.setCell ⟨gd, 0, none⟩ (.int .u8 (IntKind.u8.wrap (x0 + 1)))).drew = w10 at *
      have d0 := cell_block _ gm 0 _ _ _ HA10.out.bm
      have d1 := cell_block _ gm 1 _ _ _ HA10.out.bm
      have d2 := cell_block _ gm 2 _ _ _ HA10.out.bm
      clear hHeld
      have HTW := hid_of (rtwin_p _ _ w10 _ HA10.out.mine (Nat.le_refl _) HA10.out.ok)
      go_wp2_with fail
      refine HTW.out.mono ?_
      rintro e y1 ⟨⟨odv, ofv, ocv, rfl, hop⟩, hky⟩
      obtain ⟨oa, oc, hds⟩ := ownsRow_shape hop.dat
      obtain ⟨oe, of, hfs⟩ := ownsRow_shape hop.fns.row
      have hpo := hop.pg
      rw [← HA10.out.me.2.1] at hds
      rw [← HA10.out.me.2.2] at hfs
      rw [← HA10.out.me.1] at hpo ⊢
      subst hds
      subst hfs
      have hkM : Kept (fun _ => False) y1 (y1.alloc (.cells #[.int .i64 mem, .slice oa nd oc, .slice oe 0 of] 25)) := (Kept.refl _ _).alloc _
      have hbO := heap_alloc_new y1 (.cells #[.int .i64 mem, .slice oa nd oc, .slice oe 0 of] 25)
      have HAy := hid_of (HA10.out.same (hky.trans hkM))
      have HOP2 := hid_of ((hpo.kept hkM (fun _ _ f => f)).up hkM.size)
      have HBO2 := hid_of hbO
      have HQK := hid_of HA10.out.ok
      clear HTW hop hky hkM hbO hpo d0 d1 d2
      go_upto_region 16 with fail
      generalize y1.alloc (.cells #[.int .i64 mem, .slice oa nd oc, .slice oe 0 of] 25) = y2 at *
      generalize y1.heap.size = gw at *
      have HWY := hid_of HAy.out.kept.size
      have d0 := cell_block _ gm 0 _ _ _ HAy.out.bm
      have d1 := cell_block _ gm 1 _ _ _ HAy.out.bm
      have d2 := cell_block _ gm 2 _ _ _ HAy.out.bm
      have HEN := hid_of (encode_p _ _ y2 _ HAy.out.mine (Nat.le_refl _) HQK.out)
      go_wp2_with fail
      refine HEN.out.mono ?_
      intro e y3 h3
      obtain ⟨ao, ac, rfl, ho3, hk3⟩ := h3.two
      have HA3 := hid_of (HAy.out.same hk3)
      have HOP3 := hid_of ((HOP2.out.kept hk3 (fun _ _ f => f)).up hk3.size)
      have HBO3 := hid_of (box_kept hk3 HBO2.out (fun f => f))
      have HO3 := hid_of ho3
      clear HEN h3 ho3 hk3 HAy HOP2 HBO2 d0 d1 d2
      have d0 := cell_block _ gw 0 _ _ _ HBO3.out
      have d1 := cell_block _ gw 1 _ _ _ HBO3.out
      have d2 := cell_block _ gw 2 _ _ _ HBO3.out
      have HEN := hid_of (encode_p _ _ y3 _ HOP3.out (Nat.le_refl _) HQK.out)
      go_wp2_with fail
      refine HEN.out.mono ?_
      intro e y4 h4
      obtain ⟨bo, bc, rfl, ho4, hk4⟩ := h4.two
      have HA4 := hid_of (HA3.out.same hk4)
      have HOP4 := hid_of ((HOP3.out.kept hk4 (fun _ _ f => f)).up hk4.size)
      have HBO4 := hid_of (box_kept hk4 HBO3.out (fun f => f))
      have HO4 := hid_of (hk4.ownsRow HO3.out (fun _ _ f => f))
      have HB4 := hid_of ho4
      have HEBK := hid_of (EB_ok HQK.out)
      clear HEN h4 ho4 hk4 HA3 HOP3 HBO3 HO3 d0 d1 d2
      go_upto_region 18 with fail
      obtain ⟨Q, hQ⟩ : ∃ Q, Q = q2 := ⟨_, rfl⟩
      rw [← hQ] at HA4 HOP4 HO4 HB4 HEBK HQK ⊢
      clear hQ
      obtain ⟨bs, hbs⟩ : ∃ b, b = EB Q := ⟨_, rfl⟩
      rw [← hbs] at HO4 HB4 HEBK ⊢
      clear hbs
      obtain ⟨nb, hnb⟩ : ∃ n, n = bs.length := ⟨_, rfl⟩
      rw [← hnb] at HO4 HB4 ⊢
      have HNB := hid_of hnb
      clear hnb
      obtain ⟨er, her⟩ : ∃ r, r = encPE Q := ⟨_, rfl⟩
      rw [← her]
      clear her
      obtain ⟨ck, hck⟩ : ∃ r, r = checkP Q := ⟨_, rfl⟩
      obtain ⟨sq, hsq⟩ : ∃ r, r = sameP Q p := ⟨_, rfl⟩
      obtain ⟨sa, hsa⟩ : ∃ s, s = str bs := ⟨_, rfl⟩
      have HV1 : Hid (∀ W, Kept (fun _ => False) y4 W → (convert 22 9 (.slice ao nb ac)).run Try.prog W = .ok (.string sa) W) := fun W hW => by rw [hsa]; exact conv_str W _ bs ((isB_own HO4.out).kept hW (fun _ _ f => f))
      have HV2 : Hid (∀ W, Kept (fun _ => False) y4 W → (convert 22 9 (.slice bo nb bc)).run Try.prog W = .ok (.string sa) W) := fun W hW => by rw [hsa]; exact conv_str W _ bs ((isB_own HB4.out).kept hW (fun _ _ f => f))
      have HC1 : Hid (∀ W, Kept (fun _ => False) y4 W → Calls Try.prog 15 #[.agg #[.int .i64 mem, .slice (some ⟨gd, 0, none⟩) nd dc, .slice fa 0 fc]] W fun e w' => e = .returned (.int .i64 ck) ∧ Kept (fun _ => False) W w') := fun W hW => by rw [hck]; exact check_p _ Q W _ (HA4.out.same hW).mine (Nat.le_refl _) HQK.out
      have HC2 : Hid (∀ W, Kept (fun _ => False) y4 W → Calls Try.prog 15 #[.agg #[.int .i64 mem, .slice oa nd oc, .slice oe 0 of]] W fun e w' => e = .returned (.int .i64 ck) ∧ Kept (fun _ => False) W w') := fun W hW => by rw [hck]; exact check_p _ Q W _ ((HOP4.out.kept hW (fun _ _ f => f)).up hW.size) (Nat.le_refl _) HQK.out
      have HC3 : Hid (∀ W, Kept (fun _ => False) y4 W → Calls Try.prog 16 #[.agg #[.int .i64 mem, .slice (some ⟨gd, 0, none⟩) nd dc, .slice fa 0 fc], .agg #[.int .i64 mp, .slice pda pnd pdc, .slice pfa pnf pfc]] W fun e w' => e = .returned (.bool sq) ∧ Kept (fun _ => False) W w') := fun W hW => by rw [hsq]; exact same_p _ _ Q p W _ (HA4.out.same hW).mine (HA4.out.same hW).old (Nat.le_refl _) HQK.out HOA.out
      have HC4 : Hid (∀ W, Kept (fun _ => False) y4 W → Calls Try.prog 8 #[.agg #[.int .i64 mem, .slice oa nd oc, .slice oe 0 of], .agg #[.int .i64 mp, .slice pda pnd pdc, .slice pfa pnf pfc]] W fun e w' => e = .returned (.bool sq) ∧ Kept (fun _ => False) W w') := fun W hW => by rw [hsq]; exact rsame_any _ _ Q p W _ ((HOP4.out.kept hW (fun _ _ f => f)).up hW.size) (HA4.out.same hW).old (Nat.le_refl _) HQK.out HOA.out
      clear hck hsq hsa
      have HX0 := hid_of (show y4.cell? ⟨ga, 0, none⟩ = some (.int .i64 mp) from cell_block _ ga 0 _ _ _ HA4.out.ba)
      have HX1 := hid_of (show y4.cell? ⟨ga, 1, none⟩ = some (.slice pda pnd pdc) from cell_block _ ga 1 _ _ _ HA4.out.ba)
      have HX2 := hid_of (show y4.cell? ⟨ga, 2, none⟩ = some (.slice pfa pnf pfc) from cell_block _ ga 2 _ _ _ HA4.out.ba)
      have HY0 := hid_of (show y4.cell? ⟨gm, 0, none⟩ = some (.int .i64 mem) from cell_block _ gm 0 _ _ _ HA4.out.bm)
      have HY1 := hid_of (show y4.cell? ⟨gm, 1, none⟩ = some (.slice (some ⟨gd, 0, none⟩) nd dc) from cell_block _ gm 1 _ _ _ HA4.out.bm)
      have HY2 := hid_of (show y4.cell? ⟨gm, 2, none⟩ = some (.slice fa 0 fc) from cell_block _ gm 2 _ _ _ HA4.out.bm)
      have HZ0 := hid_of (show y4.cell? ⟨gw, 0, none⟩ = some (.int .i64 mem) from cell_block _ gw 0 _ _ _ HBO4.out)
      have HZ1 := hid_of (show y4.cell? ⟨gw, 1, none⟩ = some (.slice oa nd oc) from cell_block _ gw 1 _ _ _ HBO4.out)
      have HZ2 := hid_of (show y4.cell? ⟨gw, 2, none⟩ = some (.slice oe 0 of) from cell_block _ gw 2 _ _ _ HBO4.out)
      refine wp_region_held_drew (S := fun w' => Kept (fun _ => False) y4 w') (by kernel_rfl) (Kept.refl _ _).drew (fun hHeld => ?_)
      refine wpAnyH_take (i := 0) (v := ?_) rfl (by kernel_rfl) (by kernel_rfl) (by kernel_rfl) (fun _ _ _ h => h) (Or.inl ⟨by rfl, ?_⟩) (by assumption) ?_
      rotate_left 1
      · intro w hSw
        go_simp
        try with_reducible rfl
      try simp only [Act.put, List.getElem_toArray, List.getElem_cons_zero, List.getElem_cons_succ, List.setIfInBounds_toArray, List.set_cons_zero, List.set_cons_succ]
      refine wpAnyH_take (i := 1) (v := ?_) rfl (by kernel_rfl) (by kernel_rfl) (by kernel_rfl) (fun _ _ _ h => h) (Or.inl ⟨by rfl, ?_⟩) (by assumption) ?_
      rotate_left 1
      · intro w hSw
        have q1 := HV1.out w hSw
        go_simp
        try with_reducible rfl
      try simp only [Act.put, List.getElem_toArray, List.getElem_cons_zero, List.getElem_cons_succ, List.setIfInBounds_toArray, List.set_cons_zero, List.set_cons_succ]
      refine wpAnyH_take (i := 2) (v := ?_) rfl (by kernel_rfl) (by kernel_rfl) (by kernel_rfl) (fun _ _ _ h => h) (Or.inl ⟨by rfl, ?_⟩) (by assumption) ?_
      rotate_left 1
      · intro w hSw
        go_simp
        try with_reducible rfl
      try simp only [Act.put, List.getElem_toArray, List.getElem_cons_zero, List.getElem_cons_succ, List.setIfInBounds_toArray, List.set_cons_zero, List.set_cons_succ]
      refine wpAnyH_take (i := 3) (v := ?_) rfl (by kernel_rfl) (by kernel_rfl) (by kernel_rfl) (fun _ _ _ h => h) (Or.inl ⟨by rfl, ?_⟩) (by assumption) ?_
      rotate_left 1
      · intro w hSw
        have q1 := HV2.out w hSw
        go_simp
        try with_reducible rfl
      try simp only [Act.put, List.getElem_toArray, List.getElem_cons_zero, List.getElem_cons_succ, List.setIfInBounds_toArray, List.set_cons_zero, List.set_cons_succ]
      refine wpAnyH_take (i := 4) (v := (.bool false)) rfl (by kernel_rfl) (by kernel_rfl) (by kernel_rfl) (fun _ _ _ h => h) (Or.inl ⟨by rfl, ?_⟩) (by assumption) ?_
      · intro w hSw
        go_simp
      try simp only [Act.put, List.getElem_toArray, List.getElem_cons_zero, List.getElem_cons_succ, List.setIfInBounds_toArray, List.set_cons_zero, List.set_cons_succ]
      refine wpAnyH_take (i := 5) (v := ?_) rfl (by kernel_rfl) (by kernel_rfl) (by kernel_rfl) (fun _ _ _ h => h) (Or.inl ⟨by rfl, ?_⟩) (by assumption) ?_
      rotate_left 1
      · intro w hSw
        go_simp
        try with_reducible rfl
      try simp only [Act.put, List.getElem_toArray, List.getElem_cons_zero, List.getElem_cons_succ, List.setIfInBounds_toArray, List.set_cons_zero, List.set_cons_succ]
      refine wpAnyH_take (i := 6) (v := ?_) rfl (by kernel_rfl) (by kernel_rfl) (by kernel_rfl) (fun _ _ _ h => h) (Or.inl ⟨by rfl, ?_⟩) (by assumption) ?_
      rotate_left 1
      · intro w hSw
        go_simp
        try with_reducible rfl
      try simp only [Act.put, List.getElem_toArray, List.getElem_cons_zero, List.getElem_cons_succ, List.setIfInBounds_toArray, List.set_cons_zero, List.set_cons_succ]
      refine wpAnyH_take (i := 7) (v := ?_) rfl (by kernel_rfl) (by kernel_rfl) (by kernel_rfl) (fun _ _ _ h => h) (Or.inl ⟨by rfl, ?_⟩) (by assumption) ?_
      rotate_left 1
      · intro w hSw
        go_simp
        try with_reducible rfl
      try simp only [Act.put, List.getElem_toArray, List.getElem_cons_zero, List.getElem_cons_succ, List.setIfInBounds_toArray, List.set_cons_zero, List.set_cons_succ]
      refine wpAnyH_take (i := 8) (v := (.bool false)) rfl (by kernel_rfl) (by kernel_rfl) (by kernel_rfl) (fun _ _ _ h => h) (Or.inl ⟨by rfl, ?_⟩) (by assumption) ?_
      · intro w hSw
        go_simp
      try simp only [Act.put, List.getElem_toArray, List.getElem_cons_zero, List.getElem_cons_succ, List.setIfInBounds_toArray, List.set_cons_zero, List.set_cons_succ]
      refine wpAnyH_take (i := 9) (v := ?_) rfl (by kernel_rfl) (by kernel_rfl) (by kernel_rfl) (fun _ _ _ h => h) (Or.inl ⟨by rfl, ?_⟩) (by assumption) ?_
      rotate_left 1
      · intro w hSw
        go_simp
        try with_reducible rfl
      try simp only [Act.put, List.getElem_toArray, List.getElem_cons_zero, List.getElem_cons_succ, List.setIfInBounds_toArray, List.set_cons_zero, List.set_cons_succ]
      refine wpAnyH_take (i := 10) (v := ?_) rfl (by kernel_rfl) (by kernel_rfl) (by kernel_rfl) (fun _ _ _ h => h) (Or.inl ⟨by rfl, ?_⟩) (by assumption) ?_
      rotate_left 1
      · intro w hSw
        go_simp
        try with_reducible rfl
      try simp only [Act.put, List.getElem_toArray, List.getElem_cons_zero, List.getElem_cons_succ, List.setIfInBounds_toArray, List.set_cons_zero, List.set_cons_succ]
      refine wpAnyH_take (i := 11) (v := ?_) rfl (by kernel_rfl) (by kernel_rfl) (by kernel_rfl) (fun _ _ _ h => h) (Or.inl ⟨by rfl, ?_⟩) (by assumption) ?_
      rotate_left 1
      · intro w hSw
        have q0 := Kept.cell hSw HY0.out (fun f => f)
        have q1 := Kept.cell hSw HY1.out (fun f => f)
        have q2 := Kept.cell hSw HY2.out (fun f => f)
        go_simp
        try with_reducible rfl
      try simp only [Act.put, List.getElem_toArray, List.getElem_cons_zero, List.getElem_cons_succ, List.setIfInBounds_toArray, List.set_cons_zero, List.set_cons_succ]
      refine wpAnyH_take (i := 13) (v := ?_) rfl (by kernel_rfl) (by kernel_rfl) (by kernel_rfl) (fun _ _ _ h => h) (Or.inl ⟨by rfl, ?_⟩) (by assumption) ?_
      rotate_left 1
      · intro w hSw
        have q0 := Kept.cell hSw HZ0.out (fun f => f)
        have q1 := Kept.cell hSw HZ1.out (fun f => f)
        have q2 := Kept.cell hSw HZ2.out (fun f => f)
        go_simp
        try with_reducible rfl
      try simp only [Act.put, List.getElem_toArray, List.getElem_cons_zero, List.getElem_cons_succ, List.setIfInBounds_toArray, List.set_cons_zero, List.set_cons_succ]
      refine wpAnyH_ready (rs := [12]) (by kernel_rfl) (by simp) ?_
      refine AllReadyH.cons rfl (fun K hK => ?_) AllReadyH.nil
      go_simp
      refine (HC1.out _ hHeld).mono ?_
      rintro e wn ⟨rfl, hkn⟩
      refine hK.out _ _ (Kept.trans hHeld hkn) (fun hHeld => ?_)
      clear hK K hkn
      try simp only [Act.put, List.getElem_toArray, List.getElem_cons_zero, List.getElem_cons_succ, List.setIfInBounds_toArray, List.set_cons_zero, List.set_cons_succ]
      refine wpAnyH_ready (rs := [14]) (by kernel_rfl) (by simp) ?_
      refine AllReadyH.cons rfl (fun K hK => ?_) AllReadyH.nil
      go_simp
      refine (HC2.out _ hHeld).mono ?_
      rintro e wn ⟨rfl, hkn⟩
      refine hK.out _ _ (Kept.trans hHeld hkn) (fun hHeld => ?_)
      clear hK K hkn
      try simp only [Act.put, List.getElem_toArray, List.getElem_cons_zero, List.getElem_cons_succ, List.setIfInBounds_toArray, List.set_cons_zero, List.set_cons_succ]
      refine wpAnyH_take (i := 15) (v := (.bool false)) rfl (by kernel_rfl) (by kernel_rfl) (by kernel_rfl) (fun _ _ _ h => h) (Or.inl ⟨by rfl, ?_⟩) (by assumption) ?_
      · intro w hSw
        go_simp
      try simp only [Act.put, List.getElem_toArray, List.getElem_cons_zero, List.getElem_cons_succ, List.setIfInBounds_toArray, List.set_cons_zero, List.set_cons_succ]
      refine wpAnyH_take (i := 16) (v := ?_) rfl (by kernel_rfl) (by kernel_rfl) (by kernel_rfl) (fun _ _ _ h => h) (Or.inl ⟨by rfl, ?_⟩) (by assumption) ?_
      rotate_left 1
      · intro w hSw
        go_simp
        try with_reducible rfl
      try simp only [Act.put, List.getElem_toArray, List.getElem_cons_zero, List.getElem_cons_succ, List.setIfInBounds_toArray, List.set_cons_zero, List.set_cons_succ]
      refine wpAnyH_take (i := 17) (v := ?_) rfl (by kernel_rfl) (by kernel_rfl) (by kernel_rfl) (fun _ _ _ h => h) (Or.inl ⟨by rfl, ?_⟩) (by assumption) ?_
      rotate_left 1
      · intro w hSw
        go_simp
        try with_reducible rfl
      try simp only [Act.put, List.getElem_toArray, List.getElem_cons_zero, List.getElem_cons_succ, List.setIfInBounds_toArray, List.set_cons_zero, List.set_cons_succ]
      refine wpAnyH_take (i := 18) (v := ?_) rfl (by kernel_rfl) (by kernel_rfl) (by kernel_rfl) (fun _ _ _ h => h) (Or.inl ⟨by rfl, ?_⟩) (by assumption) ?_
      rotate_left 1
      · intro w hSw
        have q0 := Kept.cell hSw HY0.out (fun f => f)
        have q1 := Kept.cell hSw HY1.out (fun f => f)
        have q2 := Kept.cell hSw HY2.out (fun f => f)
        go_simp
        try with_reducible rfl
      try simp only [Act.put, List.getElem_toArray, List.getElem_cons_zero, List.getElem_cons_succ, List.setIfInBounds_toArray, List.set_cons_zero, List.set_cons_succ]
      refine wpAnyH_take (i := 19) (v := ?_) rfl (by kernel_rfl) (by kernel_rfl) (by kernel_rfl) (fun _ _ _ h => h) (Or.inl ⟨by rfl, ?_⟩) (by assumption) ?_
      rotate_left 1
      · intro w hSw
        have q0 := Kept.cell hSw HX0.out (fun f => f)
        have q1 := Kept.cell hSw HX1.out (fun f => f)
        have q2 := Kept.cell hSw HX2.out (fun f => f)
        go_simp
        try with_reducible rfl
      try simp only [Act.put, List.getElem_toArray, List.getElem_cons_zero, List.getElem_cons_succ, List.setIfInBounds_toArray, List.set_cons_zero, List.set_cons_succ]
      refine wpAnyH_take (i := 21) (v := ?_) rfl (by kernel_rfl) (by kernel_rfl) (by kernel_rfl) (fun _ _ _ h => h) (Or.inl ⟨by rfl, ?_⟩) (by assumption) ?_
      rotate_left 1
      · intro w hSw
        have q0 := Kept.cell hSw HZ0.out (fun f => f)
        have q1 := Kept.cell hSw HZ1.out (fun f => f)
        have q2 := Kept.cell hSw HZ2.out (fun f => f)
        go_simp
        try with_reducible rfl
      try simp only [Act.put, List.getElem_toArray, List.getElem_cons_zero, List.getElem_cons_succ, List.setIfInBounds_toArray, List.set_cons_zero, List.set_cons_succ]
      refine wpAnyH_take (i := 22) (v := ?_) rfl (by kernel_rfl) (by kernel_rfl) (by kernel_rfl) (fun _ _ _ h => h) (Or.inl ⟨by rfl, ?_⟩) (by assumption) ?_
      rotate_left 1
      · intro w hSw
        have q0 := Kept.cell hSw HX0.out (fun f => f)
        have q1 := Kept.cell hSw HX1.out (fun f => f)
        have q2 := Kept.cell hSw HX2.out (fun f => f)
        go_simp
        try with_reducible rfl
      try simp only [Act.put, List.getElem_toArray, List.getElem_cons_zero, List.getElem_cons_succ, List.setIfInBounds_toArray, List.set_cons_zero, List.set_cons_succ]
      refine wpAnyH_ready (rs := [20]) (by kernel_rfl) (by simp) ?_
      refine AllReadyH.cons rfl (fun K hK => ?_) AllReadyH.nil
      go_simp
      refine (HC3.out _ hHeld).mono ?_
      rintro e wn ⟨rfl, hkn⟩
      refine hK.out _ _ (Kept.trans hHeld hkn) (fun hHeld => ?_)
      clear hK K hkn
      try simp only [Act.put, List.getElem_toArray, List.getElem_cons_zero, List.getElem_cons_succ, List.setIfInBounds_toArray, List.set_cons_zero, List.set_cons_succ]
      refine wpAnyH_ready (rs := [23]) (by kernel_rfl) (by simp) ?_
      refine AllReadyH.cons rfl (fun K hK => ?_) AllReadyH.nil
      go_simp
      refine (HC4.out _ hHeld).mono ?_
      rintro e wn ⟨rfl, hkn⟩
      refine hK.out _ _ (Kept.trans hHeld hkn) (fun hHeld => ?_)
      clear hK K hkn
      try simp only [Act.put, List.getElem_toArray, List.getElem_cons_zero, List.getElem_cons_succ, List.setIfInBounds_toArray, List.set_cons_zero, List.set_cons_succ]
      refine wpAnyH_take (i := 24) (v := (.bool false)) rfl (by kernel_rfl) (by kernel_rfl) (by kernel_rfl) (fun _ _ _ h => h) (Or.inl ⟨by rfl, ?_⟩) (by assumption) ?_
      · intro w hSw
        go_simp
        try (cases sq <;> rfl)
      try simp only [Act.put, List.getElem_toArray, List.getElem_cons_zero, List.getElem_cons_succ, List.setIfInBounds_toArray, List.set_cons_zero, List.set_cons_succ]
      refine wpAnyH_take (i := 25) (v := ?_) rfl (by kernel_rfl) (by kernel_rfl) (by kernel_rfl) (fun _ _ _ h => h) (Or.inl ⟨by rfl, ?_⟩) (by assumption) ?_
      rotate_left 1
      · intro w hSw
        go_simp
        try with_reducible rfl
      try simp only [Act.put, List.getElem_toArray, List.getElem_cons_zero, List.getElem_cons_succ, List.setIfInBounds_toArray, List.set_cons_zero, List.set_cons_succ]
      refine wpAnyH_done (by kernel_rfl) ?_ _
      have HWN := hid_of hHeld
      clear hHeld HV1 HV2 HC1 HC2 HC3 HC4 HX0 HX1 HX2 HY0 HY1 HY2 HZ0 HZ1 HZ2
      have HKN := hid_of (HA4.out.kept.trans HWN.out)
      have HO5 := hid_of (HWN.out.ownsRow HO4.out (fun _ _ f => f))
      have hpos : 0 < wn.heap.size := Nat.lt_of_le_of_lt (Nat.zero_le _) (Nat.lt_of_lt_of_le (Array.getElem?_eq_some_iff.1 HA4.out.bm).1 HWN.out.size)
      clear HA4 HOP4 HBO4 HO4 HB4 HWN
      obtain ⟨gz, hgz, hri⟩ := (srcR_own HO5.out).at (Kept.refl _ _) hpos
      have hD := decode_p gz ao ac bs wn (by rw [← HNB.out]; exact hri) hgz HEBK.out
      rw [← HNB.out] at hD
      have HD := hid_of hD
      clear hD hri hgz hpos
      go_wp2_with fail
      refine HD.out.mono ?_
      intro e y6 h6
      obtain ⟨mx, xda, xnd, xdc, xfa, xnf, xfc, rfl, _, _, hk6⟩ := h6.two
      have HK6 := hid_of (HKN.out.trans hk6)
      have HO6 := hid_of (hk6.ownsRow HO5.out (fun _ _ f => f))
      clear HD h6 hk6 HO5 HKN
      generalize eOf bs = ex at *
      by_cases hb0 : nb = 0
      · subst hb0
        go_wp2
        go_ret
        exact ⟨rfl, HK6.out⟩
      · have hbN : 0 < nb := by omega
        have hbI : (0 : Int) < (nb : Int) := by omega
        have hbe : ((nb : Int) == 0) = false := by simp; omega
        have hnbI : (nb : Int) ≤ 140737488351232 := by have := HEBK.out.2; have := HNB.out; omega
        go_wp2_with fail
        refine (in_any ax nb y6 HA0.out HA1.out hbN (by omega)).mono ?_
        rintro e y7 ⟨⟨j, hj, rfl⟩, rfl⟩
        have hjI : (j : Int) < (nb : Int) := by omega
        obtain ⟨g1, hg1⟩ : ∃ g, ao = some ⟨g, 0, none⟩ := by
          obtain ⟨g, c, e⟩ := own_at0 HO6.out hbN
          simp only [Value.slice.injEq] at e
          exact ⟨g, e.1⟩
        subst hg1
        obtain ⟨x1, hx1⟩ : ∃ x, bs[j]? = some x := ⟨_, List.getElem?_eq_getElem (by have := HNB.out; omega)⟩
        have t0 : y7.cell? ⟨g1, j, none⟩ = some (.int .u8 x1) := by
          rw [HO6.out.cellAt _ (by omega), List.getElem?_map, hx1]
          rfl
        have tf : y7.frozen? ⟨g1, j, none⟩ = false := World.ownsRow.frozenAt HO6.out _
        clear hx1
        go_upto_region 25 with fail
        have hzb := bits_u8 x1 1
        generalize bits .xor .u8 x1 1 = z at *
        have hst := (World.ownsRow.stored HO6.out j (.int .u8 z)).1
        rw [← List.map_set] at hst
        have hks := kept_set y7 g1 j (.int .u8 z)
        have HK7 := hid_of (HK6.out.step hks (fun i hi e => by have := (HO6.out.lt g1 rfl).1; have := HWY.out; omega))
        have hbs2 : BytesOk (bs.set j z) := ⟨fun x hx => by
          rcases List.mem_or_eq_of_mem_set hx with h | rfl
          · exact HEBK.out.1 x h
          · exact hzb, by rw [List.length_set]; exact HEBK.out.2⟩
        obtain ⟨cs, hcs⟩ : ∃ c, c = bs.set j z := ⟨_, rfl⟩
        rw [← hcs] at hst hbs2
        have hncs : nb = cs.length := by rw [hcs, List.length_set]; exact HNB.out
        clear hks hcs hzb HO6 HK6 t0 tf
        generalize y7.setCell ⟨g1, j, none⟩ (.int .u8 z) = y8 at *
        have hE := heap_alloc_new y8 (.cells #[] 5)
        have hkE : Kept (fun _ => False) y8 (y8.alloc (.cells #[] 5)) := (Kept.refl _ _).alloc _
        obtain ⟨v9, y9, hr9, ho9, h39⟩ := app_any (y8.alloc (.cells #[] 5)) (.slice (some ⟨y8.heap.size, 0, none⟩) 0 0) 0 y8.heap.size [] 22 (.slice (some ⟨g1, 0, none⟩) nb ac) cs (own_zero hE (Nat.le_refl _)) ((isB_own hst).kept hkE (fun _ _ f => f)) hkE.size (by have := hbs2.2; omega)
        rw [Nat.zero_add, List.nil_append, ← hncs] at ho9
        obtain ⟨co, cc9, hv9⟩ := ownsRow_shape ho9
        subst hv9
        have hk9 : Kept (fun _ => False) y8 y9 := hkE.grown h39 (fun k hk => .inl (by simp [Value.ownBlock] at hk; omega))
        have HR9 := hid_of hr9
        have HO9 := hid_of ho9
        have HA9 := hid_of (hk9.ownsRow hst (fun _ _ f => f))
        have HK9 := hid_of (HK7.out.trans hk9)
        have HBZ := hid_of hbs2
        have HNC9 := hid_of hncs
        clear hE hkE hr9 ho9 h39 hk9 hst hbs2 hncs HK7
        go_upto_region 26 with (at_builtin; refine wp_app rfl (.tmp 147) (.tmp 148) 22 22 rfl _ _ rfl rfl _ y9 HR9.out ?_)
        obtain ⟨gz, hgz, hri⟩ := (srcR_own HA9.out).at (Kept.refl _ _) (Nat.lt_of_le_of_lt (Nat.zero_le _) (HA9.out.lt g1 rfl).2)
        have hD := decode_p gz (some ⟨g1, 0, none⟩) ac cs y9 (by rw [← HNC9.out]; exact hri) hgz HBZ.out
        rw [← HNC9.out] at hD
        have HD := hid_of hD
        clear hD hri hgz HR9
        go_wp2_with fail
        refine HD.out.mono ?_
        intro e y10 h10
        obtain ⟨m1, a1, n1, c1, b1, k1, e1, rfl, hp10, hpk, hk10⟩ := h10.two
        have hkA : Kept (fun _ => False) y10 (y10.alloc (.cells #[.int .i64 m1, .slice a1 n1 c1, .slice b1 k1 e1] 25)) := (Kept.refl _ _).alloc _
        have hbA := heap_alloc_new y10 (.cells #[.int .i64 m1, .slice a1 n1 c1, .slice b1 k1 e1] 25)
        have HP10 := hid_of (hp10.kept hkA (fun _ _ f => f))
        have HO11 := hid_of ((hk10.trans hkA).ownsRow HO9.out (fun _ _ f => f))
        have HB11 := hid_of hbA
        have HK11 := hid_of (HK9.out.trans (hk10.trans hkA))
        have HPK := hid_of hpk
        obtain ⟨gy, hgy, hry⟩ := (srcR_own HO11.out).at (Kept.refl _ _) (Nat.lt_of_le_of_lt (Nat.zero_le _) (Array.getElem?_eq_some_iff.1 hbA).1)
        have hD := decode_p gy co cc9 cs _ (by rw [← HNC9.out]; exact hry) hgy HBZ.out
        rw [← HNC9.out] at hD
        have HD2 := hid_of hD
        clear hD hry hgy h10 HD hk10 hkA hbA hp10 hpk HA9 HO9 HK9
        go_upto_region 27 with fail
        generalize y10.alloc (.cells #[.int .i64 m1, .slice a1 n1 c1, .slice b1 k1 e1] 25) = y11 at *
        generalize y10.heap.size = gp1 at *
        go_wp2_with fail
        refine HD2.out.mono ?_
        intro e y12 h12
        obtain ⟨m2, a2, n2, c2, b2, k2, e2, rfl, hp12, _, hk12⟩ := h12.two
        have hkB : Kept (fun _ => False) y12 (y12.alloc (.cells #[.int .i64 m2, .slice a2 n2 c2, .slice b2 k2 e2] 25)) := (Kept.refl _ _).alloc _
        have hbB := heap_alloc_new y12 (.cells #[.int .i64 m2, .slice a2 n2 c2, .slice b2 k2 e2] 25)
        have hbP := box_kept (hk12.trans hkB) HB11.out (fun f => f)
        have hP1 := HP10.out.kept (hk12.trans hkB) (fun _ _ f => f)
        have hP2 := hp12.kept hkB (fun _ _ f => f)
        have hgl : gp1 < y12.heap.size := Nat.lt_of_lt_of_le (Array.getElem?_eq_some_iff.1 HB11.out).1 hk12.size
        have hSM := rsame_any _ _ (pOf cs) (pOf cs) _ y12.heap.size (hP1.up (Nat.le_of_lt hgl)) hP2 hkB.size HPK.out HPK.out
        rw [sameP_refl] at hSM
        have HSM := hid_of hSM
        have HK13 := hid_of (HK11.out.trans (hk12.trans hkB))
        have p0 := cell_block _ gp1 0 _ _ _ hbP
        have p1 := cell_block _ gp1 1 _ _ _ hbP
        have p2 := cell_block _ gp1 2 _ _ _ hbP
        have r0 := cell_block _ y12.heap.size 0 _ _ _ hbB
        have r1 := cell_block _ y12.heap.size 1 _ _ _ hbB
        have r2 := cell_block _ y12.heap.size 2 _ _ _ hbB
        clear hkB hbB hbP hP1 hP2 hgl hSM h12 hk12 hp12 HD2 HP10 HO11 HB11 HK11
        go_wp2_with fail
        generalize y12.alloc (.cells #[.int .i64 m2, .slice a2 n2 c2, .slice b2 k2 e2] 25) = y13 at *
        generalize y12.heap.size = gp2 at *
        refine HSM.out.mono ?_
        rintro e y14 ⟨rfl, hk14⟩
        have HK14 := hid_of (HK13.out.trans hk14)
        clear HSM hk14 HK13 p0 p1 p2 r0 r1 r2
        generalize eOf cs = ez at *
        go_wp2
        go_ret
        exact ⟨rfl, HK14.out⟩
  · have hpN : 0 < nf := by omega
    have hpI : (0 : Int) < (nf : Int) := by omega
    go_wp2_with fail
    refine (in_any ax nf w5 HA0.out HA1.out hpN (by omega)).mono ?_
    rintro e w6 ⟨⟨i, hi, rfl⟩, rfl⟩
    have hiI : (i : Int) < (nf : Int) := by omega
    obtain ⟨gf, hgf⟩ : ∃ g, fa = some ⟨g, 0, none⟩ := by
      obtain ⟨g, c, e⟩ := own_at0 HA5.out.own.fns.row (by have := HA5.out.me.2.2; omega)
      simp only [Value.slice.injEq] at e
      exact ⟨g, e.1⟩
    subst hgf
    have hil : i < qq.fns.length := by have := HA5.out.me.2.2; omega
    obtain ⟨f, hfi⟩ : ∃ f, qq.fns[i]? = some f := ⟨_, List.getElem?_eq_getElem hil⟩
    obtain ⟨cv, hci⟩ : ∃ cv, cvs[i]? = some cv := ⟨_, List.getElem?_eq_getElem (by rw [HA5.out.own.fns.len]; exact hil)⟩
    have hoc := HA5.out.own.fns.at' i f cv hfi hci
    obtain ⟨cao, cc, hcs⟩ := ownsRow_shape hoc
    obtain ⟨nc, hnc⟩ : ∃ n, n = f.code.length := ⟨_, rfl⟩
    rw [← hnc] at hcs hoc
    subst hcs
    have hncI : (nc : Int) ≤ 140737488351232 := by have := (HA5.out.ok.fns f (List.mem_of_getElem? hfi)).len; omega
    have hr0 := HA5.out.own.fns.row
    rw [← HA5.out.me.2.2] at hr0
    have x3 : w6.cell? ⟨gf, i * 4 + 3, none⟩ = some (.slice cao nc cc) := by
      rw [hr0.cellAt _ (by omega), fcells_at _ cvs i _ _ hfi hci 3 (by omega)]
      rfl
    have HFI := hid_of hfi
    have HCI := hid_of hci
    have HOC := hid_of hoc
    have HNC := hid_of hnc
    have HI := hid_of hil
    clear hr0 hoc hnc hfi
    by_cases hcz : nc = 0
    · subst hcz
      have hfi := HFI.out
      have hrw := HA5.out.own.fns.row
      rw [← HA5.out.me.2.2] at hrw
      have HR2 : Hid (w6.cell? ⟨gf, i * 4 + 2, none⟩ = some (.int .i64 (f).r)) := by
        unfold Hid
        rw [hrw.cellAt _ (by omega), fcells_at _ cvs i _ _ hfi hci 2 (by omega)]
        rfl
      have HRF : Hid (w6.frozen? ⟨gf, i * 4 + 2, none⟩ = false) := World.ownsRow.frozenAt hrw _
      have HGM : Hid (¬ gm = gf) := fun e => own_box hrw HA5.out.bm (by decide) (by rw [e]; rfl)
      clear hrw hfi hci
      go_upto_region 12 with fail
      have HBMD : Hid ((w6).drew.heap[gm]? = some (.cells #[.int .i64 mem, .slice da nd dc, .slice (some ⟨gf, 0, none⟩) nf fc] 25 (0, 0))) := HA5.out.bm
      have r2 : (w6).drew.cell? ⟨gf, i * 4 + 2, none⟩ = some (.int .i64 f.r) := HR2.out
      have rf : (w6).drew.frozen? ⟨gf, i * 4 + 2, none⟩ = false := HRF.out
      generalize hfr : f.r = fr at *
      have HFR := hid_of hfr
      clear hfr
      refine wp_region_held_drew (S := fun w' => w'.heap[gm]? = some (.cells #[.int .i64 mem, .slice da nd dc, .slice (some ⟨gf, 0, none⟩) nf fc] 25 (0, 0))) (by kernel_rfl) HBMD.out (fun hHeld => ?_)
      refine wpAnyH_take (i := 0) (v := ?_) rfl (by kernel_rfl) (by kernel_rfl) (by kernel_rfl) (fun _ _ _ h => h) (Or.inl ⟨by rfl, ?_⟩) (by assumption) ?_
      rotate_left 1
      · intro w hSw
        go_simp
        try with_reducible rfl
      try simp only [Act.put, List.getElem_toArray, List.getElem_cons_zero, List.getElem_cons_succ, List.setIfInBounds_toArray, List.set_cons_zero, List.set_cons_succ]
      refine wpAnyH_take (i := 1) (v := ?_) rfl (by kernel_rfl) (by kernel_rfl) (by kernel_rfl) (fun _ _ _ h => h) (Or.inl ⟨by rfl, ?_⟩) (by assumption) ?_
      rotate_left 1
      · intro w hSw
        have q2 := cell_block _ gm 2 _ _ _ hSw
        go_simp
        try with_reducible rfl
      try simp only [Act.put, List.getElem_toArray, List.getElem_cons_zero, List.getElem_cons_succ, List.setIfInBounds_toArray, List.set_cons_zero, List.set_cons_succ]
      refine wpAnyH_take (i := 2) (v := ?_) rfl (by kernel_rfl) (by kernel_rfl) (by kernel_rfl) (fun _ _ _ h => h) (Or.inl ⟨by rfl, ?_⟩) (by assumption) ?_
      rotate_left 1
      · intro w hSw
        go_simp
        try with_reducible rfl
      try simp only [Act.put, List.getElem_toArray, List.getElem_cons_zero, List.getElem_cons_succ, List.setIfInBounds_toArray, List.set_cons_zero, List.set_cons_succ]
      refine wpAnyH_take (i := 3) (v := ?_) rfl (by kernel_rfl) (by kernel_rfl) (by kernel_rfl) (fun _ _ _ h => h) (Or.inl ⟨by rfl, ?_⟩) (by assumption) ?_
      rotate_left 1
      · intro w hSw
        go_simp
        try with_reducible rfl
      try simp only [Act.put, List.getElem_toArray, List.getElem_cons_zero, List.getElem_cons_succ, List.setIfInBounds_toArray, List.set_cons_zero, List.set_cons_succ]
      refine wpAnyH_take (i := 4) (v := ?_) rfl (by kernel_rfl) (by kernel_rfl) (by kernel_rfl) (fun _ _ _ h => h) (Or.inl ⟨by rfl, ?_⟩) (by assumption) ?_
      rotate_left 1
      · intro w hSw
        have q2 := cell_block _ gm 2 _ _ _ hSw
        go_simp
        try with_reducible rfl
      try simp only [Act.put, List.getElem_toArray, List.getElem_cons_zero, List.getElem_cons_succ, List.setIfInBounds_toArray, List.set_cons_zero, List.set_cons_succ]
      refine wpAnyH_take (i := 5) (v := ?_) rfl (by kernel_rfl) (by kernel_rfl) (by kernel_rfl) (fun _ _ _ h => h) (Or.inl ⟨by rfl, ?_⟩) (by assumption) ?_
      rotate_left 1
      · intro w hSw
        go_simp
        try with_reducible rfl
      try simp only [Act.put, List.getElem_toArray, List.getElem_cons_zero, List.getElem_cons_succ, List.setIfInBounds_toArray, List.set_cons_zero, List.set_cons_succ]
      refine wpAnyH_take (i := 6) (v := ?_) rfl (by kernel_rfl) (by kernel_rfl) (by kernel_rfl) (fun _ _ _ h => h) (Or.inl ⟨by rfl, ?_⟩) (by assumption) ?_
      rotate_left 1
      · intro w hSw
        go_simp
        try with_reducible rfl
      try simp only [Act.put, List.getElem_toArray, List.getElem_cons_zero, List.getElem_cons_succ, List.setIfInBounds_toArray, List.set_cons_zero, List.set_cons_succ]
      refine wpAnyH_take (i := 7) (v := ?_) rfl (by kernel_rfl) (by kernel_rfl) (by kernel_rfl) (fun _ _ _ h => h) (Or.inl ⟨by rfl, ?_⟩) (by assumption) ?_
      rotate_left 1
      · intro w hSw
        go_simp
        try with_reducible rfl
      try simp only [Act.put, List.getElem_toArray, List.getElem_cons_zero, List.getElem_cons_succ, List.setIfInBounds_toArray, List.set_cons_zero, List.set_cons_succ]
      refine wpAnyH_ready (rs := [8]) (by kernel_rfl) (by simp) ?_
      refine AllReadyH.cons rfl (fun K hK => ?_) AllReadyH.nil
      go_simp
      refine hK.out _ _ hHeld (fun hHeld => ?_)
      clear hK K
      try simp only [Act.put, List.getElem_toArray, List.getElem_cons_zero, List.getElem_cons_succ, List.setIfInBounds_toArray, List.set_cons_zero, List.set_cons_succ]
      refine wpAnyH_take (i := 9) (v := ?_) rfl (by kernel_rfl) (by kernel_rfl) (by kernel_rfl) (fun _ _ _ h => h) (Or.inl ⟨by rfl, ?_⟩) (by assumption) ?_
      rotate_left 1
      · intro w hSw
        go_simp
        try with_reducible rfl
      try simp only [Act.put, List.getElem_toArray, List.getElem_cons_zero, List.getElem_cons_succ, List.setIfInBounds_toArray, List.set_cons_zero, List.set_cons_succ]
      refine wpAnyH_take (i := 10) (v := ?_) rfl (by kernel_rfl) (by kernel_rfl) (by kernel_rfl) (fun _ _ _ h => h) (Or.inl ⟨by rfl, ?_⟩) (by assumption) ?_
      rotate_left 1
      · intro w hSw
        go_simp
        try with_reducible rfl
      try simp only [Act.put, List.getElem_toArray, List.getElem_cons_zero, List.getElem_cons_succ, List.setIfInBounds_toArray, List.set_cons_zero, List.set_cons_succ]
      refine wpAnyH_take (i := 11) (v := ?_) rfl (by kernel_rfl) (by kernel_rfl) (by kernel_rfl) (fun _ _ _ h => h) (Or.inl ⟨by rfl, ?_⟩) (by assumption) ?_
      rotate_left 1
      · intro w hSw
        go_simp
        try with_reducible rfl
      try simp only [Act.put, List.getElem_toArray, List.getElem_cons_zero, List.getElem_cons_succ, List.setIfInBounds_toArray, List.set_cons_zero, List.set_cons_succ]
      refine wpAnyH_ready (rs := [12]) (by kernel_rfl) (by simp) ?_
      refine AllReadyH.cons rfl (fun K hK => ?_) AllReadyH.nil
      go_simp
      refine hK.out _ _ (box_kept (kept_set _ gf (i * 4 + 2) _) hHeld HGM.out) (fun hHeld => ?_)
      clear hK K r2 rf
      try simp only [Act.put, List.getElem_toArray, List.getElem_cons_zero, List.getElem_cons_succ, List.setIfInBounds_toArray, List.set_cons_zero, List.set_cons_succ]
      refine wpAnyH_done (by kernel_rfl) ?_ _
      clear x3 d0 d1 d2
      obtain ⟨q1, hA9⟩ : ∃ q1, AgK w (w6.setCell ⟨gf, i * 4 + 2, none⟩ (.int .i64 (IntKind.i64.wrap (1 - fr)))).drew base B ga gm #[.int .i64 mp, .slice pda pnd pdc, .slice pfa pnf pfc] mem da nd dc (some ⟨gf, 0, none⟩) nf fc cvs p q1 := ⟨_, (HA5.out.res HFI.out _ (wrap_i64 _)).same ((Kept.refl _ _).drew)⟩
      have HA9 := hid_of hA9
      clear hA9 hHeld HA5
      generalize (w6.setCell ⟨gf, i * 4 + 2, none⟩ (.int .i64 (IntKind.i64.wrap (1 - fr)))).drew = w9 at *
      have d0 := cell_block _ gm 0 _ _ _ HA9.out.bm
      have d1 := cell_block _ gm 1 _ _ _ HA9.out.bm
      have d2 := cell_block _ gm 2 _ _ _ HA9.out.bm
      go_upto_region 13 with fail
      by_cases hdz : nd = 0
      · subst hdz
        go_upto_region 15 with fail
        have HTW := hid_of (rtwin_p _ _ w9 _ HA9.out.mine (Nat.le_refl _) HA9.out.ok)
        go_wp2_with fail
        refine HTW.out.mono ?_
        rintro e y1 ⟨⟨odv, ofv, ocv, rfl, hop⟩, hky⟩
        obtain ⟨oa, oc, hds⟩ := ownsRow_shape hop.dat
        obtain ⟨oe, of, hfs⟩ := ownsRow_shape hop.fns.row
        have hpo := hop.pg
        rw [← HA9.out.me.2.1] at hds
        rw [← HA9.out.me.2.2] at hfs
        rw [← HA9.out.me.1] at hpo ⊢
        subst hds
        subst hfs
        have hkM : Kept (fun _ => False) y1 (y1.alloc (.cells #[.int .i64 mem, .slice oa 0 oc, .slice oe nf of] 25)) := (Kept.refl _ _).alloc _
        have hbO := heap_alloc_new y1 (.cells #[.int .i64 mem, .slice oa 0 oc, .slice oe nf of] 25)
        have HAy := hid_of (HA9.out.same (hky.trans hkM))
        have HOP2 := hid_of ((hpo.kept hkM (fun _ _ f => f)).up hkM.size)
        have HBO2 := hid_of hbO
        have HQK := hid_of HA9.out.ok
        clear HTW hop hky hkM hbO hpo d0 d1 d2
        go_upto_region 16 with fail
        generalize y1.alloc (.cells #[.int .i64 mem, .slice oa 0 oc, .slice oe nf of] 25) = y2 at *
        generalize y1.heap.size = gw at *
        have HWY := hid_of HAy.out.kept.size
        have d0 := cell_block _ gm 0 _ _ _ HAy.out.bm
        have d1 := cell_block _ gm 1 _ _ _ HAy.out.bm
        have d2 := cell_block _ gm 2 _ _ _ HAy.out.bm
        have HEN := hid_of (encode_p _ _ y2 _ HAy.out.mine (Nat.le_refl _) HQK.out)
        go_wp2_with fail
        refine HEN.out.mono ?_
        intro e y3 h3
        obtain ⟨ao, ac, rfl, ho3, hk3⟩ := h3.two
        have HA3 := hid_of (HAy.out.same hk3)
        have HOP3 := hid_of ((HOP2.out.kept hk3 (fun _ _ f => f)).up hk3.size)
        have HBO3 := hid_of (box_kept hk3 HBO2.out (fun f => f))
        have HO3 := hid_of ho3
        clear HEN h3 ho3 hk3 HAy HOP2 HBO2 d0 d1 d2
        have d0 := cell_block _ gw 0 _ _ _ HBO3.out
        have d1 := cell_block _ gw 1 _ _ _ HBO3.out
        have d2 := cell_block _ gw 2 _ _ _ HBO3.out
        have HEN := hid_of (encode_p _ _ y3 _ HOP3.out (Nat.le_refl _) HQK.out)
        go_wp2_with fail
        refine HEN.out.mono ?_
        intro e y4 h4
        obtain ⟨bo, bc, rfl, ho4, hk4⟩ := h4.two
        have HA4 := hid_of (HA3.out.same hk4)
        have HOP4 := hid_of ((HOP3.out.kept hk4 (fun _ _ f => f)).up hk4.size)
        have HBO4 := hid_of (box_kept hk4 HBO3.out (fun f => f))
        have HO4 := hid_of (hk4.ownsRow HO3.out (fun _ _ f => f))
        have HB4 := hid_of ho4
        have HEBK := hid_of (EB_ok HQK.out)
        clear HEN h4 ho4 hk4 HA3 HOP3 HBO3 HO3 d0 d1 d2
        go_upto_region 18 with fail
        obtain ⟨Q, hQ⟩ : ∃ Q, Q = q1 := ⟨_, rfl⟩
        rw [← hQ] at HA4 HOP4 HO4 HB4 HEBK HQK ⊢
        clear hQ
        obtain ⟨bs, hbs⟩ : ∃ b, b = EB Q := ⟨_, rfl⟩
        rw [← hbs] at HO4 HB4 HEBK ⊢
        clear hbs
        obtain ⟨nb, hnb⟩ : ∃ n, n = bs.length := ⟨_, rfl⟩
        rw [← hnb] at HO4 HB4 ⊢
        have HNB := hid_of hnb
        clear hnb
        obtain ⟨er, her⟩ : ∃ r, r = encPE Q := ⟨_, rfl⟩
        rw [← her]
        clear her
        obtain ⟨ck, hck⟩ : ∃ r, r = checkP Q := ⟨_, rfl⟩
        obtain ⟨sq, hsq⟩ : ∃ r, r = sameP Q p := ⟨_, rfl⟩
        obtain ⟨sa, hsa⟩ : ∃ s, s = str bs := ⟨_, rfl⟩
        have HV1 : Hid (∀ W, Kept (fun _ => False) y4 W → (convert 22 9 (.slice ao nb ac)).run Try.prog W = .ok (.string sa) W) := fun W hW => by rw [hsa]; exact conv_str W _ bs ((isB_own HO4.out).kept hW (fun _ _ f => f))
        have HV2 : Hid (∀ W, Kept (fun _ => False) y4 W → (convert 22 9 (.slice bo nb bc)).run Try.prog W = .ok (.string sa) W) := fun W hW => by rw [hsa]; exact conv_str W _ bs ((isB_own HB4.out).kept hW (fun _ _ f => f))
        have HC1 : Hid (∀ W, Kept (fun _ => False) y4 W → Calls Try.prog 15 #[.agg #[.int .i64 mem, .slice da 0 dc, .slice (some ⟨gf, 0, none⟩) nf fc]] W fun e w' => e = .returned (.int .i64 ck) ∧ Kept (fun _ => False) W w') := fun W hW => by rw [hck]; exact check_p _ Q W _ (HA4.out.same hW).mine (Nat.le_refl _) HQK.out
        have HC2 : Hid (∀ W, Kept (fun _ => False) y4 W → Calls Try.prog 15 #[.agg #[.int .i64 mem, .slice oa 0 oc, .slice oe nf of]] W fun e w' => e = .returned (.int .i64 ck) ∧ Kept (fun _ => False) W w') := fun W hW => by rw [hck]; exact check_p _ Q W _ ((HOP4.out.kept hW (fun _ _ f => f)).up hW.size) (Nat.le_refl _) HQK.out
        have HC3 : Hid (∀ W, Kept (fun _ => False) y4 W → Calls Try.prog 16 #[.agg #[.int .i64 mem, .slice da 0 dc, .slice (some ⟨gf, 0, none⟩) nf fc], .agg #[.int .i64 mp, .slice pda pnd pdc, .slice pfa pnf pfc]] W fun e w' => e = .returned (.bool sq) ∧ Kept (fun _ => False) W w') := fun W hW => by rw [hsq]; exact same_p _ _ Q p W _ (HA4.out.same hW).mine (HA4.out.same hW).old (Nat.le_refl _) HQK.out HOA.out
        have HC4 : Hid (∀ W, Kept (fun _ => False) y4 W → Calls Try.prog 8 #[.agg #[.int .i64 mem, .slice oa 0 oc, .slice oe nf of], .agg #[.int .i64 mp, .slice pda pnd pdc, .slice pfa pnf pfc]] W fun e w' => e = .returned (.bool sq) ∧ Kept (fun _ => False) W w') := fun W hW => by rw [hsq]; exact rsame_any _ _ Q p W _ ((HOP4.out.kept hW (fun _ _ f => f)).up hW.size) (HA4.out.same hW).old (Nat.le_refl _) HQK.out HOA.out
        clear hck hsq hsa
        have HX0 := hid_of (show y4.cell? ⟨ga, 0, none⟩ = some (.int .i64 mp) from cell_block _ ga 0 _ _ _ HA4.out.ba)
        have HX1 := hid_of (show y4.cell? ⟨ga, 1, none⟩ = some (.slice pda pnd pdc) from cell_block _ ga 1 _ _ _ HA4.out.ba)
        have HX2 := hid_of (show y4.cell? ⟨ga, 2, none⟩ = some (.slice pfa pnf pfc) from cell_block _ ga 2 _ _ _ HA4.out.ba)
        have HY0 := hid_of (show y4.cell? ⟨gm, 0, none⟩ = some (.int .i64 mem) from cell_block _ gm 0 _ _ _ HA4.out.bm)
        have HY1 := hid_of (show y4.cell? ⟨gm, 1, none⟩ = some (.slice da 0 dc) from cell_block _ gm 1 _ _ _ HA4.out.bm)
        have HY2 := hid_of (show y4.cell? ⟨gm, 2, none⟩ = some (.slice (some ⟨gf, 0, none⟩) nf fc) from cell_block _ gm 2 _ _ _ HA4.out.bm)
        have HZ0 := hid_of (show y4.cell? ⟨gw, 0, none⟩ = some (.int .i64 mem) from cell_block _ gw 0 _ _ _ HBO4.out)
        have HZ1 := hid_of (show y4.cell? ⟨gw, 1, none⟩ = some (.slice oa 0 oc) from cell_block _ gw 1 _ _ _ HBO4.out)
        have HZ2 := hid_of (show y4.cell? ⟨gw, 2, none⟩ = some (.slice oe nf of) from cell_block _ gw 2 _ _ _ HBO4.out)
        refine wp_region_held_drew (S := fun w' => Kept (fun _ => False) y4 w') (by kernel_rfl) (Kept.refl _ _).drew (fun hHeld => ?_)
        refine wpAnyH_take (i := 0) (v := ?_) rfl (by kernel_rfl) (by kernel_rfl) (by kernel_rfl) (fun _ _ _ h => h) (Or.inl ⟨by rfl, ?_⟩) (by assumption) ?_
        rotate_left 1
        · intro w hSw
          go_simp
          try with_reducible rfl
        try simp only [Act.put, List.getElem_toArray, List.getElem_cons_zero, List.getElem_cons_succ, List.setIfInBounds_toArray, List.set_cons_zero, List.set_cons_succ]
        refine wpAnyH_take (i := 1) (v := ?_) rfl (by kernel_rfl) (by kernel_rfl) (by kernel_rfl) (fun _ _ _ h => h) (Or.inl ⟨by rfl, ?_⟩) (by assumption) ?_
        rotate_left 1
        · intro w hSw
          have q1 := HV1.out w hSw
          go_simp
          try with_reducible rfl
        try simp only [Act.put, List.getElem_toArray, List.getElem_cons_zero, List.getElem_cons_succ, List.setIfInBounds_toArray, List.set_cons_zero, List.set_cons_succ]
        refine wpAnyH_take (i := 2) (v := ?_) rfl (by kernel_rfl) (by kernel_rfl) (by kernel_rfl) (fun _ _ _ h => h) (Or.inl ⟨by rfl, ?_⟩) (by assumption) ?_
        rotate_left 1
        · intro w hSw
          go_simp
          try with_reducible rfl
        try simp only [Act.put, List.getElem_toArray, List.getElem_cons_zero, List.getElem_cons_succ, List.setIfInBounds_toArray, List.set_cons_zero, List.set_cons_succ]
        refine wpAnyH_take (i := 3) (v := ?_) rfl (by kernel_rfl) (by kernel_rfl) (by kernel_rfl) (fun _ _ _ h => h) (Or.inl ⟨by rfl, ?_⟩) (by assumption) ?_
        rotate_left 1
        · intro w hSw
          have q1 := HV2.out w hSw
          go_simp
          try with_reducible rfl
        try simp only [Act.put, List.getElem_toArray, List.getElem_cons_zero, List.getElem_cons_succ, List.setIfInBounds_toArray, List.set_cons_zero, List.set_cons_succ]
        refine wpAnyH_take (i := 4) (v := (.bool false)) rfl (by kernel_rfl) (by kernel_rfl) (by kernel_rfl) (fun _ _ _ h => h) (Or.inl ⟨by rfl, ?_⟩) (by assumption) ?_
        · intro w hSw
          go_simp
        try simp only [Act.put, List.getElem_toArray, List.getElem_cons_zero, List.getElem_cons_succ, List.setIfInBounds_toArray, List.set_cons_zero, List.set_cons_succ]
        refine wpAnyH_take (i := 5) (v := ?_) rfl (by kernel_rfl) (by kernel_rfl) (by kernel_rfl) (fun _ _ _ h => h) (Or.inl ⟨by rfl, ?_⟩) (by assumption) ?_
        rotate_left 1
        · intro w hSw
          go_simp
          try with_reducible rfl
        try simp only [Act.put, List.getElem_toArray, List.getElem_cons_zero, List.getElem_cons_succ, List.setIfInBounds_toArray, List.set_cons_zero, List.set_cons_succ]
        refine wpAnyH_take (i := 6) (v := ?_) rfl (by kernel_rfl) (by kernel_rfl) (by kernel_rfl) (fun _ _ _ h => h) (Or.inl ⟨by rfl, ?_⟩) (by assumption) ?_
        rotate_left 1
        · intro w hSw
          go_simp
          try with_reducible rfl
        try simp only [Act.put, List.getElem_toArray, List.getElem_cons_zero, List.getElem_cons_succ, List.setIfInBounds_toArray, List.set_cons_zero, List.set_cons_succ]
        refine wpAnyH_take (i := 7) (v := ?_) rfl (by kernel_rfl) (by kernel_rfl) (by kernel_rfl) (fun _ _ _ h => h) (Or.inl ⟨by rfl, ?_⟩) (by assumption) ?_
        rotate_left 1
        · intro w hSw
          go_simp
          try with_reducible rfl
        try simp only [Act.put, List.getElem_toArray, List.getElem_cons_zero, List.getElem_cons_succ, List.setIfInBounds_toArray, List.set_cons_zero, List.set_cons_succ]
        refine wpAnyH_take (i := 8) (v := (.bool false)) rfl (by kernel_rfl) (by kernel_rfl) (by kernel_rfl) (fun _ _ _ h => h) (Or.inl ⟨by rfl, ?_⟩) (by assumption) ?_
        · intro w hSw
          go_simp
        try simp only [Act.put, List.getElem_toArray, List.getElem_cons_zero, List.getElem_cons_succ, List.setIfInBounds_toArray, List.set_cons_zero, List.set_cons_succ]
        refine wpAnyH_take (i := 9) (v := ?_) rfl (by kernel_rfl) (by kernel_rfl) (by kernel_rfl) (fun _ _ _ h => h) (Or.inl ⟨by rfl, ?_⟩) (by assumption) ?_
        rotate_left 1
        · intro w hSw
          go_simp
          try with_reducible rfl
        try simp only [Act.put, List.getElem_toArray, List.getElem_cons_zero, List.getElem_cons_succ, List.setIfInBounds_toArray, List.set_cons_zero, List.set_cons_succ]
        refine wpAnyH_take (i := 10) (v := ?_) rfl (by kernel_rfl) (by kernel_rfl) (by kernel_rfl) (fun _ _ _ h => h) (Or.inl ⟨by rfl, ?_⟩) (by assumption) ?_
        rotate_left 1
        · intro w hSw
          go_simp
          try with_reducible rfl
        try simp only [Act.put, List.getElem_toArray, List.getElem_cons_zero, List.getElem_cons_succ, List.setIfInBounds_toArray, List.set_cons_zero, List.set_cons_succ]
        refine wpAnyH_take (i := 11) (v := ?_) rfl (by kernel_rfl) (by kernel_rfl) (by kernel_rfl) (fun _ _ _ h => h) (Or.inl ⟨by rfl, ?_⟩) (by assumption) ?_
        rotate_left 1
        · intro w hSw
          have q0 := Kept.cell hSw HY0.out (fun f => f)
          have q1 := Kept.cell hSw HY1.out (fun f => f)
          have q2 := Kept.cell hSw HY2.out (fun f => f)
          go_simp
          try with_reducible rfl
        try simp only [Act.put, List.getElem_toArray, List.getElem_cons_zero, List.getElem_cons_succ, List.setIfInBounds_toArray, List.set_cons_zero, List.set_cons_succ]
        refine wpAnyH_take (i := 13) (v := ?_) rfl (by kernel_rfl) (by kernel_rfl) (by kernel_rfl) (fun _ _ _ h => h) (Or.inl ⟨by rfl, ?_⟩) (by assumption) ?_
        rotate_left 1
        · intro w hSw
          have q0 := Kept.cell hSw HZ0.out (fun f => f)
          have q1 := Kept.cell hSw HZ1.out (fun f => f)
          have q2 := Kept.cell hSw HZ2.out (fun f => f)
          go_simp
          try with_reducible rfl
        try simp only [Act.put, List.getElem_toArray, List.getElem_cons_zero, List.getElem_cons_succ, List.setIfInBounds_toArray, List.set_cons_zero, List.set_cons_succ]
        refine wpAnyH_ready (rs := [12]) (by kernel_rfl) (by simp) ?_
        refine AllReadyH.cons rfl (fun K hK => ?_) AllReadyH.nil
        go_simp
        refine (HC1.out _ hHeld).mono ?_
        rintro e wn ⟨rfl, hkn⟩
        refine hK.out _ _ (Kept.trans hHeld hkn) (fun hHeld => ?_)
        clear hK K hkn
        try simp only [Act.put, List.getElem_toArray, List.getElem_cons_zero, List.getElem_cons_succ, List.setIfInBounds_toArray, List.set_cons_zero, List.set_cons_succ]
        refine wpAnyH_ready (rs := [14]) (by kernel_rfl) (by simp) ?_
        refine AllReadyH.cons rfl (fun K hK => ?_) AllReadyH.nil
        go_simp
        refine (HC2.out _ hHeld).mono ?_
        rintro e wn ⟨rfl, hkn⟩
        refine hK.out _ _ (Kept.trans hHeld hkn) (fun hHeld => ?_)
        clear hK K hkn
        try simp only [Act.put, List.getElem_toArray, List.getElem_cons_zero, List.getElem_cons_succ, List.setIfInBounds_toArray, List.set_cons_zero, List.set_cons_succ]
        refine wpAnyH_take (i := 15) (v := (.bool false)) rfl (by kernel_rfl) (by kernel_rfl) (by kernel_rfl) (fun _ _ _ h => h) (Or.inl ⟨by rfl, ?_⟩) (by assumption) ?_
        · intro w hSw
          go_simp
        try simp only [Act.put, List.getElem_toArray, List.getElem_cons_zero, List.getElem_cons_succ, List.setIfInBounds_toArray, List.set_cons_zero, List.set_cons_succ]
        refine wpAnyH_take (i := 16) (v := ?_) rfl (by kernel_rfl) (by kernel_rfl) (by kernel_rfl) (fun _ _ _ h => h) (Or.inl ⟨by rfl, ?_⟩) (by assumption) ?_
        rotate_left 1
        · intro w hSw
          go_simp
          try with_reducible rfl
        try simp only [Act.put, List.getElem_toArray, List.getElem_cons_zero, List.getElem_cons_succ, List.setIfInBounds_toArray, List.set_cons_zero, List.set_cons_succ]
        refine wpAnyH_take (i := 17) (v := ?_) rfl (by kernel_rfl) (by kernel_rfl) (by kernel_rfl) (fun _ _ _ h => h) (Or.inl ⟨by rfl, ?_⟩) (by assumption) ?_
        rotate_left 1
        · intro w hSw
          go_simp
          try with_reducible rfl
        try simp only [Act.put, List.getElem_toArray, List.getElem_cons_zero, List.getElem_cons_succ, List.setIfInBounds_toArray, List.set_cons_zero, List.set_cons_succ]
        refine wpAnyH_take (i := 18) (v := ?_) rfl (by kernel_rfl) (by kernel_rfl) (by kernel_rfl) (fun _ _ _ h => h) (Or.inl ⟨by rfl, ?_⟩) (by assumption) ?_
        rotate_left 1
        · intro w hSw
          have q0 := Kept.cell hSw HY0.out (fun f => f)
          have q1 := Kept.cell hSw HY1.out (fun f => f)
          have q2 := Kept.cell hSw HY2.out (fun f => f)
          go_simp
          try with_reducible rfl
        try simp only [Act.put, List.getElem_toArray, List.getElem_cons_zero, List.getElem_cons_succ, List.setIfInBounds_toArray, List.set_cons_zero, List.set_cons_succ]
        refine wpAnyH_take (i := 19) (v := ?_) rfl (by kernel_rfl) (by kernel_rfl) (by kernel_rfl) (fun _ _ _ h => h) (Or.inl ⟨by rfl, ?_⟩) (by assumption) ?_
        rotate_left 1
        · intro w hSw
          have q0 := Kept.cell hSw HX0.out (fun f => f)
          have q1 := Kept.cell hSw HX1.out (fun f => f)
          have q2 := Kept.cell hSw HX2.out (fun f => f)
          go_simp
          try with_reducible rfl
        try simp only [Act.put, List.getElem_toArray, List.getElem_cons_zero, List.getElem_cons_succ, List.setIfInBounds_toArray, List.set_cons_zero, List.set_cons_succ]
        refine wpAnyH_take (i := 21) (v := ?_) rfl (by kernel_rfl) (by kernel_rfl) (by kernel_rfl) (fun _ _ _ h => h) (Or.inl ⟨by rfl, ?_⟩) (by assumption) ?_
        rotate_left 1
        · intro w hSw
          have q0 := Kept.cell hSw HZ0.out (fun f => f)
          have q1 := Kept.cell hSw HZ1.out (fun f => f)
          have q2 := Kept.cell hSw HZ2.out (fun f => f)
          go_simp
          try with_reducible rfl
        try simp only [Act.put, List.getElem_toArray, List.getElem_cons_zero, List.getElem_cons_succ, List.setIfInBounds_toArray, List.set_cons_zero, List.set_cons_succ]
        refine wpAnyH_take (i := 22) (v := ?_) rfl (by kernel_rfl) (by kernel_rfl) (by kernel_rfl) (fun _ _ _ h => h) (Or.inl ⟨by rfl, ?_⟩) (by assumption) ?_
        rotate_left 1
        · intro w hSw
          have q0 := Kept.cell hSw HX0.out (fun f => f)
          have q1 := Kept.cell hSw HX1.out (fun f => f)
          have q2 := Kept.cell hSw HX2.out (fun f => f)
          go_simp
          try with_reducible rfl
        try simp only [Act.put, List.getElem_toArray, List.getElem_cons_zero, List.getElem_cons_succ, List.setIfInBounds_toArray, List.set_cons_zero, List.set_cons_succ]
        refine wpAnyH_ready (rs := [20]) (by kernel_rfl) (by simp) ?_
        refine AllReadyH.cons rfl (fun K hK => ?_) AllReadyH.nil
        go_simp
        refine (HC3.out _ hHeld).mono ?_
        rintro e wn ⟨rfl, hkn⟩
        refine hK.out _ _ (Kept.trans hHeld hkn) (fun hHeld => ?_)
        clear hK K hkn
        try simp only [Act.put, List.getElem_toArray, List.getElem_cons_zero, List.getElem_cons_succ, List.setIfInBounds_toArray, List.set_cons_zero, List.set_cons_succ]
        refine wpAnyH_ready (rs := [23]) (by kernel_rfl) (by simp) ?_
        refine AllReadyH.cons rfl (fun K hK => ?_) AllReadyH.nil
        go_simp
        refine (HC4.out _ hHeld).mono ?_
        rintro e wn ⟨rfl, hkn⟩
        refine hK.out _ _ (Kept.trans hHeld hkn) (fun hHeld => ?_)
        clear hK K hkn
        try simp only [Act.put, List.getElem_toArray, List.getElem_cons_zero, List.getElem_cons_succ, List.setIfInBounds_toArray, List.set_cons_zero, List.set_cons_succ]
        refine wpAnyH_take (i := 24) (v := (.bool false)) rfl (by kernel_rfl) (by kernel_rfl) (by kernel_rfl) (fun _ _ _ h => h) (Or.inl ⟨by rfl, ?_⟩) (by assumption) ?_
        · intro w hSw
          go_simp
          try (cases sq <;> rfl)
        try simp only [Act.put, List.getElem_toArray, List.getElem_cons_zero, List.getElem_cons_succ, List.setIfInBounds_toArray, List.set_cons_zero, List.set_cons_succ]
        refine wpAnyH_take (i := 25) (v := ?_) rfl (by kernel_rfl) (by kernel_rfl) (by kernel_rfl) (fun _ _ _ h => h) (Or.inl ⟨by rfl, ?_⟩) (by assumption) ?_
        rotate_left 1
        · intro w hSw
          go_simp
          try with_reducible rfl
        try simp only [Act.put, List.getElem_toArray, List.getElem_cons_zero, List.getElem_cons_succ, List.setIfInBounds_toArray, List.set_cons_zero, List.set_cons_succ]
        refine wpAnyH_done (by kernel_rfl) ?_ _
        have HWN := hid_of hHeld
        clear hHeld HV1 HV2 HC1 HC2 HC3 HC4 HX0 HX1 HX2 HY0 HY1 HY2 HZ0 HZ1 HZ2
        have HKN := hid_of (HA4.out.kept.trans HWN.out)
        have HO5 := hid_of (HWN.out.ownsRow HO4.out (fun _ _ f => f))
        have hpos : 0 < wn.heap.size := Nat.lt_of_le_of_lt (Nat.zero_le _) (Nat.lt_of_lt_of_le (Array.getElem?_eq_some_iff.1 HA4.out.bm).1 HWN.out.size)
        clear HA4 HOP4 HBO4 HO4 HB4 HWN
        obtain ⟨gz, hgz, hri⟩ := (srcR_own HO5.out).at (Kept.refl _ _) hpos
        have hD := decode_p gz ao ac bs wn (by rw [← HNB.out]; exact hri) hgz HEBK.out
        rw [← HNB.out] at hD
        have HD := hid_of hD
        clear hD hri hgz hpos
        go_wp2_with fail
        refine HD.out.mono ?_
        intro e y6 h6
        obtain ⟨mx, xda, xnd, xdc, xfa, xnf, xfc, rfl, _, _, hk6⟩ := h6.two
        have HK6 := hid_of (HKN.out.trans hk6)
        have HO6 := hid_of (hk6.ownsRow HO5.out (fun _ _ f => f))
        clear HD h6 hk6 HO5 HKN
        generalize eOf bs = ex at *
        by_cases hb0 : nb = 0
        · subst hb0
          go_wp2
          go_ret
          exact ⟨rfl, HK6.out⟩
        · have hbN : 0 < nb := by omega
          have hbI : (0 : Int) < (nb : Int) := by omega
          have hbe : ((nb : Int) == 0) = false := by simp; omega
          have hnbI : (nb : Int) ≤ 140737488351232 := by have := HEBK.out.2; have := HNB.out; omega
          go_wp2_with fail
          refine (in_any ax nb y6 HA0.out HA1.out hbN (by omega)).mono ?_
          rintro e y7 ⟨⟨j, hj, rfl⟩, rfl⟩
          have hjI : (j : Int) < (nb : Int) := by omega
          obtain ⟨g1, hg1⟩ : ∃ g, ao = some ⟨g, 0, none⟩ := by
            obtain ⟨g, c, e⟩ := own_at0 HO6.out hbN
            simp only [Value.slice.injEq] at e
            exact ⟨g, e.1⟩
          subst hg1
          obtain ⟨x1, hx1⟩ : ∃ x, bs[j]? = some x := ⟨_, List.getElem?_eq_getElem (by have := HNB.out; omega)⟩
          have t0 : y7.cell? ⟨g1, j, none⟩ = some (.int .u8 x1) := by
            rw [HO6.out.cellAt _ (by omega), List.getElem?_map, hx1]
            rfl
          have tf : y7.frozen? ⟨g1, j, none⟩ = false := World.ownsRow.frozenAt HO6.out _
          clear hx1
          go_upto_region 25 with fail
          have hzb := bits_u8 x1 1
          generalize bits .xor .u8 x1 1 = z at *
          have hst := (World.ownsRow.stored HO6.out j (.int .u8 z)).1
          rw [← List.map_set] at hst
          have hks := kept_set y7 g1 j (.int .u8 z)
          have HK7 := hid_of (HK6.out.step hks (fun i hi e => by have := (HO6.out.lt g1 rfl).1; have := HWY.out; omega))
          have hbs2 : BytesOk (bs.set j z) := ⟨fun x hx => by
            rcases List.mem_or_eq_of_mem_set hx with h | rfl
            · exact HEBK.out.1 x h
            · exact hzb, by rw [List.length_set]; exact HEBK.out.2⟩
          obtain ⟨cs, hcs⟩ : ∃ c, c = bs.set j z := ⟨_, rfl⟩
          rw [← hcs] at hst hbs2
          have hncs : nb = cs.length := by rw [hcs, List.length_set]; exact HNB.out
          clear hks hcs hzb HO6 HK6 t0 tf
          generalize y7.setCell ⟨g1, j, none⟩ (.int .u8 z) = y8 at *
          have hE := heap_alloc_new y8 (.cells #[] 5)
          have hkE : Kept (fun _ => False) y8 (y8.alloc (.cells #[] 5)) := (Kept.refl _ _).alloc _
          obtain ⟨v9, y9, hr9, ho9, h39⟩ := app_any (y8.alloc (.cells #[] 5)) (.slice (some ⟨y8.heap.size, 0, none⟩) 0 0) 0 y8.heap.size [] 22 (.slice (some ⟨g1, 0, none⟩) nb ac) cs (own_zero hE (Nat.le_refl _)) ((isB_own hst).kept hkE (fun _ _ f => f)) hkE.size (by have := hbs2.2; omega)
          rw [Nat.zero_add, List.nil_append, ← hncs] at ho9
          obtain ⟨co, cc9, hv9⟩ := ownsRow_shape ho9
          subst hv9
          have hk9 : Kept (fun _ => False) y8 y9 := hkE.grown h39 (fun k hk => .inl (by simp [Value.ownBlock] at hk; omega))
          have HR9 := hid_of hr9
          have HO9 := hid_of ho9
          have HA9 := hid_of (hk9.ownsRow hst (fun _ _ f => f))
          have HK9 := hid_of (HK7.out.trans hk9)
          have HBZ := hid_of hbs2
          have HNC9 := hid_of hncs
          clear hE hkE hr9 ho9 h39 hk9 hst hbs2 hncs HK7
          go_upto_region 26 with (at_builtin; refine wp_app rfl (.tmp 147) (.tmp 148) 22 22 rfl _ _ rfl rfl _ y9 HR9.out ?_)
          obtain ⟨gz, hgz, hri⟩ := (srcR_own HA9.out).at (Kept.refl _ _) (Nat.lt_of_le_of_lt (Nat.zero_le _) (HA9.out.lt g1 rfl).2)
          have hD := decode_p gz (some ⟨g1, 0, none⟩) ac cs y9 (by rw [← HNC9.out]; exact hri) hgz HBZ.out
          rw [← HNC9.out] at hD
          have HD := hid_of hD
          clear hD hri hgz HR9
          go_wp2_with fail
          refine HD.out.mono ?_
          intro e y10 h10
          obtain ⟨m1, a1, n1, c1, b1, k1, e1, rfl, hp10, hpk, hk10⟩ := h10.two
          have hkA : Kept (fun _ => False) y10 (y10.alloc (.cells #[.int .i64 m1, .slice a1 n1 c1, .slice b1 k1 e1] 25)) := (Kept.refl _ _).alloc _
          have hbA := heap_alloc_new y10 (.cells #[.int .i64 m1, .slice a1 n1 c1, .slice b1 k1 e1] 25)
          have HP10 := hid_of (hp10.kept hkA (fun _ _ f => f))
          have HO11 := hid_of ((hk10.trans hkA).ownsRow HO9.out (fun _ _ f => f))
          have HB11 := hid_of hbA
          have HK11 := hid_of (HK9.out.trans (hk10.trans hkA))
          have HPK := hid_of hpk
          obtain ⟨gy, hgy, hry⟩ := (srcR_own HO11.out).at (Kept.refl _ _) (Nat.lt_of_le_of_lt (Nat.zero_le _) (Array.getElem?_eq_some_iff.1 hbA).1)
          have hD := decode_p gy co cc9 cs _ (by rw [← HNC9.out]; exact hry) hgy HBZ.out
          rw [← HNC9.out] at hD
          have HD2 := hid_of hD
          clear hD hry hgy h10 HD hk10 hkA hbA hp10 hpk HA9 HO9 HK9
          go_upto_region 27 with fail
          generalize y10.alloc (.cells #[.int .i64 m1, .slice a1 n1 c1, .slice b1 k1 e1] 25) = y11 at *
          generalize y10.heap.size = gp1 at *
          go_wp2_with fail
          refine HD2.out.mono ?_
          intro e y12 h12
          obtain ⟨m2, a2, n2, c2, b2, k2, e2, rfl, hp12, _, hk12⟩ := h12.two
          have hkB : Kept (fun _ => False) y12 (y12.alloc (.cells #[.int .i64 m2, .slice a2 n2 c2, .slice b2 k2 e2] 25)) := (Kept.refl _ _).alloc _
          have hbB := heap_alloc_new y12 (.cells #[.int .i64 m2, .slice a2 n2 c2, .slice b2 k2 e2] 25)
          have hbP := box_kept (hk12.trans hkB) HB11.out (fun f => f)
          have hP1 := HP10.out.kept (hk12.trans hkB) (fun _ _ f => f)
          have hP2 := hp12.kept hkB (fun _ _ f => f)
          have hgl : gp1 < y12.heap.size := Nat.lt_of_lt_of_le (Array.getElem?_eq_some_iff.1 HB11.out).1 hk12.size
          have hSM := rsame_any _ _ (pOf cs) (pOf cs) _ y12.heap.size (hP1.up (Nat.le_of_lt hgl)) hP2 hkB.size HPK.out HPK.out
          rw [sameP_refl] at hSM
          have HSM := hid_of hSM
          have HK13 := hid_of (HK11.out.trans (hk12.trans hkB))
          have p0 := cell_block _ gp1 0 _ _ _ hbP
          have p1 := cell_block _ gp1 1 _ _ _ hbP
          have p2 := cell_block _ gp1 2 _ _ _ hbP
          have r0 := cell_block _ y12.heap.size 0 _ _ _ hbB
          have r1 := cell_block _ y12.heap.size 1 _ _ _ hbB
          have r2 := cell_block _ y12.heap.size 2 _ _ _ hbB
          clear hkB hbB hbP hP1 hP2 hgl hSM h12 hk12 hp12 HD2 HP10 HO11 HB11 HK11
          go_wp2_with fail
          generalize y12.alloc (.cells #[.int .i64 m2, .slice a2 n2 c2, .slice b2 k2 e2] 25) = y13 at *
          generalize y12.heap.size = gp2 at *
          refine HSM.out.mono ?_
          rintro e y14 ⟨rfl, hk14⟩
          have HK14 := hid_of (HK13.out.trans hk14)
          clear HSM hk14 HK13 p0 p1 p2 r0 r1 r2
          generalize eOf cs = ez at *
          go_wp2
          go_ret
          exact ⟨rfl, HK14.out⟩
      · have hdI : (0 : Int) < (nd : Int) := by omega
        obtain ⟨gd, hgd⟩ : ∃ g, da = some ⟨g, 0, none⟩ := by
          obtain ⟨g, c, e⟩ := own_at0 HA9.out.own.dat (by have := HA9.out.me.2.1; omega)
          simp only [Value.slice.injEq] at e
          exact ⟨g, e.1⟩
        subst hgd
        have hdr := HA9.out.own.dat
        rw [← HA9.out.me.2.1] at hdr
        obtain ⟨x0, hx0⟩ : ∃ x, (q1).data[0]? = some x := ⟨_, List.getElem?_eq_getElem (by have := HA9.out.me.2.1; omega)⟩
        have r0 : (w9).drew.cell? ⟨gd, 0, none⟩ = some (.int .u8 x0) := by
          show (w9).cell? _ = _
          rw [hdr.cellAt _ (by omega), List.getElem?_map, hx0]
          rfl
        have rf : (w9).drew.frozen? ⟨gd, 0, none⟩ = false := World.ownsRow.frozenAt hdr _
        have HGD : Hid (¬ gm = gd) := fun e => own_box hdr HA9.out.bm (by decide) (by rw [e]; rfl)
        have HBMD : Hid ((w9).drew.heap[gm]? = some (.cells #[.int .i64 mem, .slice (some ⟨gd, 0, none⟩) nd dc, .slice (some ⟨gf, 0, none⟩) nf fc] 25 (0, 0))) := HA9.out.bm
        clear hdr hx0
        go_upto_region 14 with fail
        clear d0 d1 d2
        refine wp_region_held_drew (S := fun w' => w'.heap[gm]? = some (.cells #[.int .i64 mem, .slice (some ⟨gd, 0, none⟩) nd dc, .slice (some ⟨gf, 0, none⟩) nf fc] 25 (0, 0))) (by kernel_rfl) HBMD.out (fun hHeld => ?_)
        refine wpAnyH_take (i := 0) (v := ?_) rfl (by kernel_rfl) (by kernel_rfl) (by kernel_rfl) (fun _ _ _ h => h) (Or.inl ⟨by rfl, ?_⟩) (by assumption) ?_
        rotate_left 1
        · intro w hSw
          go_simp
          try with_reducible rfl
        try simp only [Act.put, List.getElem_toArray, List.getElem_cons_zero, List.getElem_cons_succ, List.setIfInBounds_toArray, List.set_cons_zero, List.set_cons_succ]
        refine wpAnyH_take (i := 1) (v := ?_) rfl (by kernel_rfl) (by kernel_rfl) (by kernel_rfl) (fun _ _ _ h => h) (Or.inl ⟨by rfl, ?_⟩) (by assumption) ?_
        rotate_left 1
        · intro w hSw
          have q2 := cell_block _ gm 1 _ _ _ hSw
          go_simp
          try with_reducible rfl
        try simp only [Act.put, List.getElem_toArray, List.getElem_cons_zero, List.getElem_cons_succ, List.setIfInBounds_toArray, List.set_cons_zero, List.set_cons_succ]
        refine wpAnyH_take (i := 2) (v := ?_) rfl (by kernel_rfl) (by kernel_rfl) (by kernel_rfl) (fun _ _ _ h => h) (Or.inl ⟨by rfl, ?_⟩) (by assumption) ?_
        rotate_left 1
        · intro w hSw
          go_simp
          try with_reducible rfl
        try simp only [Act.put, List.getElem_toArray, List.getElem_cons_zero, List.getElem_cons_succ, List.setIfInBounds_toArray, List.set_cons_zero, List.set_cons_succ]
        refine wpAnyH_take (i := 3) (v := ?_) rfl (by kernel_rfl) (by kernel_rfl) (by kernel_rfl) (fun _ _ _ h => h) (Or.inl ⟨by rfl, ?_⟩) (by assumption) ?_
        rotate_left 1
        · intro w hSw
          have q2 := cell_block _ gm 1 _ _ _ hSw
          go_simp
          try with_reducible rfl
        try simp only [Act.put, List.getElem_toArray, List.getElem_cons_zero, List.getElem_cons_succ, List.setIfInBounds_toArray, List.set_cons_zero, List.set_cons_succ]
        refine wpAnyH_take (i := 4) (v := ?_) rfl (by kernel_rfl) (by kernel_rfl) (by kernel_rfl) (fun _ _ _ h => h) (Or.inl ⟨by rfl, ?_⟩) (by assumption) ?_
        rotate_left 1
        · intro w hSw
          go_simp
          try with_reducible rfl
        try simp only [Act.put, List.getElem_toArray, List.getElem_cons_zero, List.getElem_cons_succ, List.setIfInBounds_toArray, List.set_cons_zero, List.set_cons_succ]
        refine wpAnyH_ready (rs := [5]) (by kernel_rfl) (by simp) ?_
        refine AllReadyH.cons rfl (fun K hK => ?_) AllReadyH.nil
        go_simp
        refine hK.out _ _ hHeld (fun hHeld => ?_)
        clear hK K
        try simp only [Act.put, List.getElem_toArray, List.getElem_cons_zero, List.getElem_cons_succ, List.setIfInBounds_toArray, List.set_cons_zero, List.set_cons_succ]
        refine wpAnyH_take (i := 6) (v := ?_) rfl (by kernel_rfl) (by kernel_rfl) (by kernel_rfl) (fun _ _ _ h => h) (Or.inl ⟨by rfl, ?_⟩) (by assumption) ?_
        rotate_left 1
        · intro w hSw
          go_simp
          try with_reducible rfl
        try simp only [Act.put, List.getElem_toArray, List.getElem_cons_zero, List.getElem_cons_succ, List.setIfInBounds_toArray, List.set_cons_zero, List.set_cons_succ]
        refine wpAnyH_take (i := 7) (v := ?_) rfl (by kernel_rfl) (by kernel_rfl) (by kernel_rfl) (fun _ _ _ h => h) (Or.inl ⟨by rfl, ?_⟩) (by assumption) ?_
        rotate_left 1
        · intro w hSw
          go_simp
          try with_reducible rfl
        try simp only [Act.put, List.getElem_toArray, List.getElem_cons_zero, List.getElem_cons_succ, List.setIfInBounds_toArray, List.set_cons_zero, List.set_cons_succ]
        refine wpAnyH_ready (rs := [8]) (by kernel_rfl) (by simp) ?_
        refine AllReadyH.cons rfl (fun K hK => ?_) AllReadyH.nil
        go_simp
        refine hK.out _ _ (box_kept (kept_set _ gd 0 _) hHeld HGD.out) (fun hHeld => ?_)
        clear hK K r0 rf
        try simp only [Act.put, List.getElem_toArray, List.getElem_cons_zero, List.getElem_cons_succ, List.setIfInBounds_toArray, List.set_cons_zero, List.set_cons_succ]
        refine wpAnyH_done (by kernel_rfl) ?_ _
        obtain ⟨q2, hA10⟩ : ∃ q2, AgK w (w9.setCell ⟨gd, 0, none⟩ (.int .u8 (IntKind.u8.wrap (x0 + 1)))).drew base B ga gm #[.int .i64 mp, .slice pda pnd pdc, .slice pfa pnf pfc] mem (some ⟨gd, 0, none⟩) nd dc (some ⟨gf, 0, none⟩) nf fc cvs p q2 := ⟨_, (HA9.out.dat 0 _ (wrap_u8 _)).same ((Kept.refl _ _).drew)⟩
        have HA10 := hid_of hA10
        clear hA10 HA9
        generalize (w9.setCell ⟨gd, 0, none⟩ (.int .u8 (IntKind.u8.wrap (x0 + 1)))).drew = w10 at *
        have d0 := cell_block _ gm 0 _ _ _ HA10.out.bm
        have d1 := cell_block _ gm 1 _ _ _ HA10.out.bm
        have d2 := cell_block _ gm 2 _ _ _ HA10.out.bm
        clear hHeld
        have HTW := hid_of (rtwin_p _ _ w10 _ HA10.out.mine (Nat.le_refl _) HA10.out.ok)
        go_wp2_with fail
        refine HTW.out.mono ?_
        rintro e y1 ⟨⟨odv, ofv, ocv, rfl, hop⟩, hky⟩
        obtain ⟨oa, oc, hds⟩ := ownsRow_shape hop.dat
        obtain ⟨oe, of, hfs⟩ := ownsRow_shape hop.fns.row
        have hpo := hop.pg
        rw [← HA10.out.me.2.1] at hds
        rw [← HA10.out.me.2.2] at hfs
        rw [← HA10.out.me.1] at hpo ⊢
        subst hds
        subst hfs
        have hkM : Kept (fun _ => False) y1 (y1.alloc (.cells #[.int .i64 mem, .slice oa nd oc, .slice oe nf of] 25)) := (Kept.refl _ _).alloc _
        have hbO := heap_alloc_new y1 (.cells #[.int .i64 mem, .slice oa nd oc, .slice oe nf of] 25)
        have HAy := hid_of (HA10.out.same (hky.trans hkM))
        have HOP2 := hid_of ((hpo.kept hkM (fun _ _ f => f)).up hkM.size)
        have HBO2 := hid_of hbO
        have HQK := hid_of HA10.out.ok
        clear HTW hop hky hkM hbO hpo d0 d1 d2
        go_upto_region 16 with fail
        generalize y1.alloc (.cells #[.int .i64 mem, .slice oa nd oc, .slice oe nf of] 25) = y2 at *
        generalize y1.heap.size = gw at *
        have HWY := hid_of HAy.out.kept.size
        have d0 := cell_block _ gm 0 _ _ _ HAy.out.bm
        have d1 := cell_block _ gm 1 _ _ _ HAy.out.bm
        have d2 := cell_block _ gm 2 _ _ _ HAy.out.bm
        have HEN := hid_of (encode_p _ _ y2 _ HAy.out.mine (Nat.le_refl _) HQK.out)
        go_wp2_with fail
        refine HEN.out.mono ?_
        intro e y3 h3
        obtain ⟨ao, ac, rfl, ho3, hk3⟩ := h3.two
        have HA3 := hid_of (HAy.out.same hk3)
        have HOP3 := hid_of ((HOP2.out.kept hk3 (fun _ _ f => f)).up hk3.size)
        have HBO3 := hid_of (box_kept hk3 HBO2.out (fun f => f))
        have HO3 := hid_of ho3
        clear HEN h3 ho3 hk3 HAy HOP2 HBO2 d0 d1 d2
        have d0 := cell_block _ gw 0 _ _ _ HBO3.out
        have d1 := cell_block _ gw 1 _ _ _ HBO3.out
        have d2 := cell_block _ gw 2 _ _ _ HBO3.out
        have HEN := hid_of (encode_p _ _ y3 _ HOP3.out (Nat.le_refl _) HQK.out)
        go_wp2_with fail
        refine HEN.out.mono ?_
        intro e y4 h4
        obtain ⟨bo, bc, rfl, ho4, hk4⟩ := h4.two
        have HA4 := hid_of (HA3.out.same hk4)
        have HOP4 := hid_of ((HOP3.out.kept hk4 (fun _ _ f => f)).up hk4.size)
        have HBO4 := hid_of (box_kept hk4 HBO3.out (fun f => f))
        have HO4 := hid_of (hk4.ownsRow HO3.out (fun _ _ f => f))
        have HB4 := hid_of ho4
        have HEBK := hid_of (EB_ok HQK.out)
        clear HEN h4 ho4 hk4 HA3 HOP3 HBO3 HO3 d0 d1 d2
        go_upto_region 18 with fail
        obtain ⟨Q, hQ⟩ : ∃ Q, Q = q2 := ⟨_, rfl⟩
        rw [← hQ] at HA4 HOP4 HO4 HB4 HEBK HQK ⊢
        clear hQ
        obtain ⟨bs, hbs⟩ : ∃ b, b = EB Q := ⟨_, rfl⟩
        rw [← hbs] at HO4 HB4 HEBK ⊢
        clear hbs
        obtain ⟨nb, hnb⟩ : ∃ n, n = bs.length := ⟨_, rfl⟩
        rw [← hnb] at HO4 HB4 ⊢
        have HNB := hid_of hnb
        clear hnb
        obtain ⟨er, her⟩ : ∃ r, r = encPE Q := ⟨_, rfl⟩
        rw [← her]
        clear her
        obtain ⟨ck, hck⟩ : ∃ r, r = checkP Q := ⟨_, rfl⟩
        obtain ⟨sq, hsq⟩ : ∃ r, r = sameP Q p := ⟨_, rfl⟩
        obtain ⟨sa, hsa⟩ : ∃ s, s = str bs := ⟨_, rfl⟩
        have HV1 : Hid (∀ W, Kept (fun _ => False) y4 W → (convert 22 9 (.slice ao nb ac)).run Try.prog W = .ok (.string sa) W) := fun W hW => by rw [hsa]; exact conv_str W _ bs ((isB_own HO4.out).kept hW (fun _ _ f => f))
        have HV2 : Hid (∀ W, Kept (fun _ => False) y4 W → (convert 22 9 (.slice bo nb bc)).run Try.prog W = .ok (.string sa) W) := fun W hW => by rw [hsa]; exact conv_str W _ bs ((isB_own HB4.out).kept hW (fun _ _ f => f))
        have HC1 : Hid (∀ W, Kept (fun _ => False) y4 W → Calls Try.prog 15 #[.agg #[.int .i64 mem, .slice (some ⟨gd, 0, none⟩) nd dc, .slice (some ⟨gf, 0, none⟩) nf fc]] W fun e w' => e = .returned (.int .i64 ck) ∧ Kept (fun _ => False) W w') := fun W hW => by rw [hck]; exact check_p _ Q W _ (HA4.out.same hW).mine (Nat.le_refl _) HQK.out
        have HC2 : Hid (∀ W, Kept (fun _ => False) y4 W → Calls Try.prog 15 #[.agg #[.int .i64 mem, .slice oa nd oc, .slice oe nf of]] W fun e w' => e = .returned (.int .i64 ck) ∧ Kept (fun _ => False) W w') := fun W hW => by rw [hck]; exact check_p _ Q W _ ((HOP4.out.kept hW (fun _ _ f => f)).up hW.size) (Nat.le_refl _) HQK.out
        have HC3 : Hid (∀ W, Kept (fun _ => False) y4 W → Calls Try.prog 16 #[.agg #[.int .i64 mem, .slice (some ⟨gd, 0, none⟩) nd dc, .slice (some ⟨gf, 0, none⟩) nf fc], .agg #[.int .i64 mp, .slice pda pnd pdc, .slice pfa pnf pfc]] W fun e w' => e = .returned (.bool sq) ∧ Kept (fun _ => False) W w') := fun W hW => by rw [hsq]; exact same_p _ _ Q p W _ (HA4.out.same hW).mine (HA4.out.same hW).old (Nat.le_refl _) HQK.out HOA.out
        have HC4 : Hid (∀ W, Kept (fun _ => False) y4 W → Calls Try.prog 8 #[.agg #[.int .i64 mem, .slice oa nd oc, .slice oe nf of], .agg #[.int .i64 mp, .slice pda pnd pdc, .slice pfa pnf pfc]] W fun e w' => e = .returned (.bool sq) ∧ Kept (fun _ => False) W w') := fun W hW => by rw [hsq]; exact rsame_any _ _ Q p W _ ((HOP4.out.kept hW (fun _ _ f => f)).up hW.size) (HA4.out.same hW).old (Nat.le_refl _) HQK.out HOA.out
        clear hck hsq hsa
        have HX0 := hid_of (show y4.cell? ⟨ga, 0, none⟩ = some (.int .i64 mp) from cell_block _ ga 0 _ _ _ HA4.out.ba)
        have HX1 := hid_of (show y4.cell? ⟨ga, 1, none⟩ = some (.slice pda pnd pdc) from cell_block _ ga 1 _ _ _ HA4.out.ba)
        have HX2 := hid_of (show y4.cell? ⟨ga, 2, none⟩ = some (.slice pfa pnf pfc) from cell_block _ ga 2 _ _ _ HA4.out.ba)
        have HY0 := hid_of (show y4.cell? ⟨gm, 0, none⟩ = some (.int .i64 mem) from cell_block _ gm 0 _ _ _ HA4.out.bm)
        have HY1 := hid_of (show y4.cell? ⟨gm, 1, none⟩ = some (.slice (some ⟨gd, 0, none⟩) nd dc) from cell_block _ gm 1 _ _ _ HA4.out.bm)
        have HY2 := hid_of (show y4.cell? ⟨gm, 2, none⟩ = some (.slice (some ⟨gf, 0, none⟩) nf fc) from cell_block _ gm 2 _ _ _ HA4.out.bm)
        have HZ0 := hid_of (show y4.cell? ⟨gw, 0, none⟩ = some (.int .i64 mem) from cell_block _ gw 0 _ _ _ HBO4.out)
        have HZ1 := hid_of (show y4.cell? ⟨gw, 1, none⟩ = some (.slice oa nd oc) from cell_block _ gw 1 _ _ _ HBO4.out)
        have HZ2 := hid_of (show y4.cell? ⟨gw, 2, none⟩ = some (.slice oe nf of) from cell_block _ gw 2 _ _ _ HBO4.out)
        refine wp_region_held_drew (S := fun w' => Kept (fun _ => False) y4 w') (by kernel_rfl) (Kept.refl _ _).drew (fun hHeld => ?_)
        refine wpAnyH_take (i := 0) (v := ?_) rfl (by kernel_rfl) (by kernel_rfl) (by kernel_rfl) (fun _ _ _ h => h) (Or.inl ⟨by rfl, ?_⟩) (by assumption) ?_
        rotate_left 1
        · intro w hSw
          go_simp
          try with_reducible rfl
        try simp only [Act.put, List.getElem_toArray, List.getElem_cons_zero, List.getElem_cons_succ, List.setIfInBounds_toArray, List.set_cons_zero, List.set_cons_succ]
        refine wpAnyH_take (i := 1) (v := ?_) rfl (by kernel_rfl) (by kernel_rfl) (by kernel_rfl) (fun _ _ _ h => h) (Or.inl ⟨by rfl, ?_⟩) (by assumption) ?_
        rotate_left 1
        · intro w hSw
          have q1 := HV1.out w hSw
          go_simp
          try with_reducible rfl
        try simp only [Act.put, List.getElem_toArray, List.getElem_cons_zero, List.getElem_cons_succ, List.setIfInBounds_toArray, List.set_cons_zero, List.set_cons_succ]
        refine wpAnyH_take (i := 2) (v := ?_) rfl (by kernel_rfl) (by kernel_rfl) (by kernel_rfl) (fun _ _ _ h => h) (Or.inl ⟨by rfl, ?_⟩) (by assumption) ?_
        rotate_left 1
        · intro w hSw
          go_simp
          try with_reducible rfl
        try simp only [Act.put, List.getElem_toArray, List.getElem_cons_zero, List.getElem_cons_succ, List.setIfInBounds_toArray, List.set_cons_zero, List.set_cons_succ]
        refine wpAnyH_take (i := 3) (v := ?_) rfl (by kernel_rfl) (by kernel_rfl) (by kernel_rfl) (fun _ _ _ h => h) (Or.inl ⟨by rfl, ?_⟩) (by assumption) ?_
        rotate_left 1
        · intro w hSw
          have q1 := HV2.out w hSw
          go_simp
          try with_reducible rfl
        try simp only [Act.put, List.getElem_toArray, List.getElem_cons_zero, List.getElem_cons_succ, List.setIfInBounds_toArray, List.set_cons_zero, List.set_cons_succ]
        refine wpAnyH_take (i := 4) (v := (.bool false)) rfl (by kernel_rfl) (by kernel_rfl) (by kernel_rfl) (fun _ _ _ h => h) (Or.inl ⟨by rfl, ?_⟩) (by assumption) ?_
        · intro w hSw
          go_simp
        try simp only [Act.put, List.getElem_toArray, List.getElem_cons_zero, List.getElem_cons_succ, List.setIfInBounds_toArray, List.set_cons_zero, List.set_cons_succ]
        refine wpAnyH_take (i := 5) (v := ?_) rfl (by kernel_rfl) (by kernel_rfl) (by kernel_rfl) (fun _ _ _ h => h) (Or.inl ⟨by rfl, ?_⟩) (by assumption) ?_
        rotate_left 1
        · intro w hSw
          go_simp
          try with_reducible rfl
        try simp only [Act.put, List.getElem_toArray, List.getElem_cons_zero, List.getElem_cons_succ, List.setIfInBounds_toArray, List.set_cons_zero, List.set_cons_succ]
        refine wpAnyH_take (i := 6) (v := ?_) rfl (by kernel_rfl) (by kernel_rfl) (by kernel_rfl) (fun _ _ _ h => h) (Or.inl ⟨by rfl, ?_⟩) (by assumption) ?_
        rotate_left 1
        · intro w hSw
          go_simp
          try with_reducible rfl
        try simp only [Act.put, List.getElem_toArray, List.getElem_cons_zero, List.getElem_cons_succ, List.setIfInBounds_toArray, List.set_cons_zero, List.set_cons_succ]
        refine wpAnyH_take (i := 7) (v := ?_) rfl (by kernel_rfl) (by kernel_rfl) (by kernel_rfl) (fun _ _ _ h => h) (Or.inl ⟨by rfl, ?_⟩) (by assumption) ?_
        rotate_left 1
        · intro w hSw
          go_simp
          try with_reducible rfl
        try simp only [Act.put, List.getElem_toArray, List.getElem_cons_zero, List.getElem_cons_succ, List.setIfInBounds_toArray, List.set_cons_zero, List.set_cons_succ]
        refine wpAnyH_take (i := 8) (v := (.bool false)) rfl (by kernel_rfl) (by kernel_rfl) (by kernel_rfl) (fun _ _ _ h => h) (Or.inl ⟨by rfl, ?_⟩) (by assumption) ?_
        · intro w hSw
          go_simp
        try simp only [Act.put, List.getElem_toArray, List.getElem_cons_zero, List.getElem_cons_succ, List.setIfInBounds_toArray, List.set_cons_zero, List.set_cons_succ]
        refine wpAnyH_take (i := 9) (v := ?_) rfl (by kernel_rfl) (by kernel_rfl) (by kernel_rfl) (fun _ _ _ h => h) (Or.inl ⟨by rfl, ?_⟩) (by assumption) ?_
        rotate_left 1
        · intro w hSw
          go_simp
          try with_reducible rfl
        try simp only [Act.put, List.getElem_toArray, List.getElem_cons_zero, List.getElem_cons_succ, List.setIfInBounds_toArray, List.set_cons_zero, List.set_cons_succ]
        refine wpAnyH_take (i := 10) (v := ?_) rfl (by kernel_rfl) (by kernel_rfl) (by kernel_rfl) (fun _ _ _ h => h) (Or.inl ⟨by rfl, ?_⟩) (by assumption) ?_
        rotate_left 1
        · intro w hSw
          go_simp
          try with_reducible rfl
        try simp only [Act.put, List.getElem_toArray, List.getElem_cons_zero, List.getElem_cons_succ, List.setIfInBounds_toArray, List.set_cons_zero, List.set_cons_succ]
        refine wpAnyH_take (i := 11) (v := ?_) rfl (by kernel_rfl) (by kernel_rfl) (by kernel_rfl) (fun _ _ _ h => h) (Or.inl ⟨by rfl, ?_⟩) (by assumption) ?_
        rotate_left 1
        · intro w hSw
          have q0 := Kept.cell hSw HY0.out (fun f => f)
          have q1 := Kept.cell hSw HY1.out (fun f => f)
          have q2 := Kept.cell hSw HY2.out (fun f => f)
          go_simp
          try with_reducible rfl
        try simp only [Act.put, List.getElem_toArray, List.getElem_cons_zero, List.getElem_cons_succ, List.setIfInBounds_toArray, List.set_cons_zero, List.set_cons_succ]
        refine wpAnyH_take (i := 13) (v := ?_) rfl (by kernel_rfl) (by kernel_rfl) (by kernel_rfl) (fun _ _ _ h => h) (Or.inl ⟨by rfl, ?_⟩) (by assumption) ?_
        rotate_left 1
        · intro w hSw
          have q0 := Kept.cell hSw HZ0.out (fun f => f)
          have q1 := Kept.cell hSw HZ1.out (fun f => f)
          have q2 := Kept.cell hSw HZ2.out (fun f => f)
          go_simp
          try with_reducible rfl
        try simp only [Act.put, List.getElem_toArray, List.getElem_cons_zero, List.getElem_cons_succ, List.setIfInBounds_toArray, List.set_cons_zero, List.set_cons_succ]
        refine wpAnyH_ready (rs := [12]) (by kernel_rfl) (by simp) ?_
        refine AllReadyH.cons rfl (fun K hK => ?_) AllReadyH.nil
        go_simp
        refine (HC1.out _ hHeld).mono ?_
        rintro e wn ⟨rfl, hkn⟩
        refine hK.out _ _ (Kept.trans hHeld hkn) (fun hHeld => ?_)
        clear hK K hkn
        try simp only [Act.put, List.getElem_toArray, List.getElem_cons_zero, List.getElem_cons_succ, List.setIfInBounds_toArray, List.set_cons_zero, List.set_cons_succ]
        refine wpAnyH_ready (rs := [14]) (by kernel_rfl) (by simp) ?_
        refine AllReadyH.cons rfl (fun K hK => ?_) AllReadyH.nil
        go_simp
        refine (HC2.out _ hHeld).mono ?_
        rintro e wn ⟨rfl, hkn⟩
        refine hK.out _ _ (Kept.trans hHeld hkn) (fun hHeld => ?_)
        clear hK K hkn
        try simp only [Act.put, List.getElem_toArray, List.getElem_cons_zero, List.getElem_cons_succ, List.setIfInBounds_toArray, List.set_cons_zero, List.set_cons_succ]
        refine wpAnyH_take (i := 15) (v := (.bool false)) rfl (by kernel_rfl) (by kernel_rfl) (by kernel_rfl) (fun _ _ _ h => h) (Or.inl ⟨by rfl, ?_⟩) (by assumption) ?_
        · intro w hSw
          go_simp
        try simp only [Act.put, List.getElem_toArray, List.getElem_cons_zero, List.getElem_cons_succ, List.setIfInBounds_toArray, List.set_cons_zero, List.set_cons_succ]
        refine wpAnyH_take (i := 16) (v := ?_) rfl (by kernel_rfl) (by kernel_rfl) (by kernel_rfl) (fun _ _ _ h => h) (Or.inl ⟨by rfl, ?_⟩) (by assumption) ?_
        rotate_left 1
        · intro w hSw
          go_simp
          try with_reducible rfl
        try simp only [Act.put, List.getElem_toArray, List.getElem_cons_zero, List.getElem_cons_succ, List.setIfInBounds_toArray, List.set_cons_zero, List.set_cons_succ]
        refine wpAnyH_take (i := 17) (v := ?_) rfl (by kernel_rfl) (by kernel_rfl) (by kernel_rfl) (fun _ _ _ h => h) (Or.inl ⟨by rfl, ?_⟩) (by assumption) ?_
        rotate_left 1
        · intro w hSw
          go_simp
          try with_reducible rfl
        try simp only [Act.put, List.getElem_toArray, List.getElem_cons_zero, List.getElem_cons_succ, List.setIfInBounds_toArray, List.set_cons_zero, List.set_cons_succ]
        refine wpAnyH_take (i := 18) (v := ?_) rfl (by kernel_rfl) (by kernel_rfl) (by kernel_rfl) (fun _ _ _ h => h) (Or.inl ⟨by rfl, ?_⟩) (by assumption) ?_
        rotate_left 1
        · intro w hSw
          have q0 := Kept.cell hSw HY0.out (fun f => f)
          have q1 := Kept.cell hSw HY1.out (fun f => f)
          have q2 := Kept.cell hSw HY2.out (fun f => f)
          go_simp
          try with_reducible rfl
        try simp only [Act.put, List.getElem_toArray, List.getElem_cons_zero, List.getElem_cons_succ, List.setIfInBounds_toArray, List.set_cons_zero, List.set_cons_succ]
        refine wpAnyH_take (i := 19) (v := ?_) rfl (by kernel_rfl) (by kernel_rfl) (by kernel_rfl) (fun _ _ _ h => h) (Or.inl ⟨by rfl, ?_⟩) (by assumption) ?_
        rotate_left 1
        · intro w hSw
          have q0 := Kept.cell hSw HX0.out (fun f => f)
          have q1 := Kept.cell hSw HX1.out (fun f => f)
          have q2 := Kept.cell hSw HX2.out (fun f => f)
          go_simp
          try with_reducible rfl
        try simp only [Act.put, List.getElem_toArray, List.getElem_cons_zero, List.getElem_cons_succ, List.setIfInBounds_toArray, List.set_cons_zero, List.set_cons_succ]
        refine wpAnyH_take (i := 21) (v := ?_) rfl (by kernel_rfl) (by kernel_rfl) (by kernel_rfl) (fun _ _ _ h => h) (Or.inl ⟨by rfl, ?_⟩) (by assumption) ?_
        rotate_left 1
        · intro w hSw
          have q0 := Kept.cell hSw HZ0.out (fun f => f)
          have q1 := Kept.cell hSw HZ1.out (fun f => f)
          have q2 := Kept.cell hSw HZ2.out (fun f => f)
          go_simp
          try with_reducible rfl
        try simp only [Act.put, List.getElem_toArray, List.getElem_cons_zero, List.getElem_cons_succ, List.setIfInBounds_toArray, List.set_cons_zero, List.set_cons_succ]
        refine wpAnyH_take (i := 22) (v := ?_) rfl (by kernel_rfl) (by kernel_rfl) (by kernel_rfl) (fun _ _ _ h => h) (Or.inl ⟨by rfl, ?_⟩) (by assumption) ?_
        rotate_left 1
        · intro w hSw
          have q0 := Kept.cell hSw HX0.out (fun f => f)
          have q1 := Kept.cell hSw HX1.out (fun f => f)
          have q2 := Kept.cell hSw HX2.out (fun f => f)
          go_simp
          try with_reducible rfl
        try simp only [Act.put, List.getElem_toArray, List.getElem_cons_zero, List.getElem_cons_succ, List.setIfInBounds_toArray, List.set_cons_zero, List.set_cons_succ]
        refine wpAnyH_ready (rs := [20]) (by kernel_rfl) (by simp) ?_
        refine AllReadyH.cons rfl (fun K hK => ?_) AllReadyH.nil
        go_simp
        refine (HC3.out _ hHeld).mono ?_
        rintro e wn ⟨rfl, hkn⟩
        refine hK.out _ _ (Kept.trans hHeld hkn) (fun hHeld => ?_)
        clear hK K hkn
        try simp only [Act.put, List.getElem_toArray, List.getElem_cons_zero, List.getElem_cons_succ, List.setIfInBounds_toArray, List.set_cons_zero, List.set_cons_succ]
        refine wpAnyH_ready (rs := [23]) (by kernel_rfl) (by simp) ?_
        refine AllReadyH.cons rfl (fun K hK => ?_) AllReadyH.nil
        go_simp
        refine (HC4.out _ hHeld).mono ?_
        rintro e wn ⟨rfl, hkn⟩
        refine hK.out _ _ (Kept.trans hHeld hkn) (fun hHeld => ?_)
        clear hK K hkn
        try simp only [Act.put, List.getElem_toArray, List.getElem_cons_zero, List.getElem_cons_succ, List.setIfInBounds_toArray, List.set_cons_zero, List.set_cons_succ]
        refine wpAnyH_take (i := 24) (v := (.bool false)) rfl (by kernel_rfl) (by kernel_rfl) (by kernel_rfl) (fun _ _ _ h => h) (Or.inl ⟨by rfl, ?_⟩) (by assumption) ?_
        · intro w hSw
          go_simp
          try (cases sq <;> rfl)
        try simp only [Act.put, List.getElem_toArray, List.getElem_cons_zero, List.getElem_cons_succ, List.setIfInBounds_toArray, List.set_cons_zero, List.set_cons_succ]
        refine wpAnyH_take (i := 25) (v := ?_) rfl (by kernel_rfl) (by kernel_rfl) (by kernel_rfl) (fun _ _ _ h => h) (Or.inl ⟨by rfl, ?_⟩) (by assumption) ?_
        rotate_left 1
        · intro w hSw
          go_simp
          try with_reducible rfl
        try simp only [Act.put, List.getElem_toArray, List.getElem_cons_zero, List.getElem_cons_succ, List.setIfInBounds_toArray, List.set_cons_zero, List.set_cons_succ]
        refine wpAnyH_done (by kernel_rfl) ?_ _
        have HWN := hid_of hHeld
        clear hHeld HV1 HV2 HC1 HC2 HC3 HC4 HX0 HX1 HX2 HY0 HY1 HY2 HZ0 HZ1 HZ2
        have HKN := hid_of (HA4.out.kept.trans HWN.out)
        have HO5 := hid_of (HWN.out.ownsRow HO4.out (fun _ _ f => f))
        have hpos : 0 < wn.heap.size := Nat.lt_of_le_of_lt (Nat.zero_le _) (Nat.lt_of_lt_of_le (Array.getElem?_eq_some_iff.1 HA4.out.bm).1 HWN.out.size)
        clear HA4 HOP4 HBO4 HO4 HB4 HWN
        obtain ⟨gz, hgz, hri⟩ := (srcR_own HO5.out).at (Kept.refl _ _) hpos
        have hD := decode_p gz ao ac bs wn (by rw [← HNB.out]; exact hri) hgz HEBK.out
        rw [← HNB.out] at hD
        have HD := hid_of hD
        clear hD hri hgz hpos
        go_wp2_with fail
        refine HD.out.mono ?_
        intro e y6 h6
        obtain ⟨mx, xda, xnd, xdc, xfa, xnf, xfc, rfl, _, _, hk6⟩ := h6.two
        have HK6 := hid_of (HKN.out.trans hk6)
        have HO6 := hid_of (hk6.ownsRow HO5.out (fun _ _ f => f))
        clear HD h6 hk6 HO5 HKN
        generalize eOf bs = ex at *
        by_cases hb0 : nb = 0
        · subst hb0
          go_wp2
          go_ret
          exact ⟨rfl, HK6.out⟩
        · have hbN : 0 < nb := by omega
          have hbI : (0 : Int) < (nb : Int) := by omega
          have hbe : ((nb : Int) == 0) = false := by simp; omega
          have hnbI : (nb : Int) ≤ 140737488351232 := by have := HEBK.out.2; have := HNB.out; omega
          go_wp2_with fail
          refine (in_any ax nb y6 HA0.out HA1.out hbN (by omega)).mono ?_
          rintro e y7 ⟨⟨j, hj, rfl⟩, rfl⟩
          have hjI : (j : Int) < (nb : Int) := by omega
          obtain ⟨g1, hg1⟩ : ∃ g, ao = some ⟨g, 0, none⟩ := by
            obtain ⟨g, c, e⟩ := own_at0 HO6.out hbN
            simp only [Value.slice.injEq] at e
            exact ⟨g, e.1⟩
          subst hg1
          obtain ⟨x1, hx1⟩ : ∃ x, bs[j]? = some x := ⟨_, List.getElem?_eq_getElem (by have := HNB.out; omega)⟩
          have t0 : y7.cell? ⟨g1, j, none⟩ = some (.int .u8 x1) := by
            rw [HO6.out.cellAt _ (by omega), List.getElem?_map, hx1]
            rfl
          have tf : y7.frozen? ⟨g1, j, none⟩ = false := World.ownsRow.frozenAt HO6.out _
          clear hx1
          go_upto_region 25 with fail
          have hzb := bits_u8 x1 1
          generalize bits .xor .u8 x1 1 = z at *
          have hst := (World.ownsRow.stored HO6.out j (.int .u8 z)).1
          rw [← List.map_set] at hst
          have hks := kept_set y7 g1 j (.int .u8 z)
          have HK7 := hid_of (HK6.out.step hks (fun i hi e => by have := (HO6.out.lt g1 rfl).1; have := HWY.out; omega))
          have hbs2 : BytesOk (bs.set j z) := ⟨fun x hx => by
            rcases List.mem_or_eq_of_mem_set hx with h | rfl
            · exact HEBK.out.1 x h
            · exact hzb, by rw [List.length_set]; exact HEBK.out.2⟩
          obtain ⟨cs, hcs⟩ : ∃ c, c = bs.set j z := ⟨_, rfl⟩
          rw [← hcs] at hst hbs2
          have hncs : nb = cs.length := by rw [hcs, List.length_set]; exact HNB.out
          clear hks hcs hzb HO6 HK6 t0 tf
          generalize y7.setCell ⟨g1, j, none⟩ (.int .u8 z) = y8 at *
          have hE := heap_alloc_new y8 (.cells #[] 5)
          have hkE : Kept (fun _ => False) y8 (y8.alloc (.cells #[] 5)) := (Kept.refl _ _).alloc _
          obtain ⟨v9, y9, hr9, ho9, h39⟩ := app_any (y8.alloc (.cells #[] 5)) (.slice (some ⟨y8.heap.size, 0, none⟩) 0 0) 0 y8.heap.size [] 22 (.slice (some ⟨g1, 0, none⟩) nb ac) cs (own_zero hE (Nat.le_refl _)) ((isB_own hst).kept hkE (fun _ _ f => f)) hkE.size (by have := hbs2.2; omega)
          rw [Nat.zero_add, List.nil_append, ← hncs] at ho9
          obtain ⟨co, cc9, hv9⟩ := ownsRow_shape ho9
          subst hv9
          have hk9 : Kept (fun _ => False) y8 y9 := hkE.grown h39 (fun k hk => .inl (by simp [Value.ownBlock] at hk; omega))
          have HR9 := hid_of hr9
          have HO9 := hid_of ho9
          have HA9 := hid_of (hk9.ownsRow hst (fun _ _ f => f))
          have HK9 := hid_of (HK7.out.trans hk9)
          have HBZ := hid_of hbs2
          have HNC9 := hid_of hncs
          clear hE hkE hr9 ho9 h39 hk9 hst hbs2 hncs HK7
          go_upto_region 26 with (at_builtin; refine wp_app rfl (.tmp 147) (.tmp 148) 22 22 rfl _ _ rfl rfl _ y9 HR9.out ?_)
          obtain ⟨gz, hgz, hri⟩ := (srcR_own HA9.out).at (Kept.refl _ _) (Nat.lt_of_le_of_lt (Nat.zero_le _) (HA9.out.lt g1 rfl).2)
          have hD := decode_p gz (some ⟨g1, 0, none⟩) ac cs y9 (by rw [← HNC9.out]; exact hri) hgz HBZ.out
          rw [← HNC9.out] at hD
          have HD := hid_of hD
          clear hD hri hgz HR9
          go_wp2_with fail
          refine HD.out.mono ?_
          intro e y10 h10
          obtain ⟨m1, a1, n1, c1, b1, k1, e1, rfl, hp10, hpk, hk10⟩ := h10.two
          have hkA : Kept (fun _ => False) y10 (y10.alloc (.cells #[.int .i64 m1, .slice a1 n1 c1, .slice b1 k1 e1] 25)) := (Kept.refl _ _).alloc _
          have hbA := heap_alloc_new y10 (.cells #[.int .i64 m1, .slice a1 n1 c1, .slice b1 k1 e1] 25)
          have HP10 := hid_of (hp10.kept hkA (fun _ _ f => f))
          have HO11 := hid_of ((hk10.trans hkA).ownsRow HO9.out (fun _ _ f => f))
          have HB11 := hid_of hbA
          have HK11 := hid_of (HK9.out.trans (hk10.trans hkA))
          have HPK := hid_of hpk
          obtain ⟨gy, hgy, hry⟩ := (srcR_own HO11.out).at (Kept.refl _ _) (Nat.lt_of_le_of_lt (Nat.zero_le _) (Array.getElem?_eq_some_iff.1 hbA).1)
          have hD := decode_p gy co cc9 cs _ (by rw [← HNC9.out]; exact hry) hgy HBZ.out
          rw [← HNC9.out] at hD
          have HD2 := hid_of hD
          clear hD hry hgy h10 HD hk10 hkA hbA hp10 hpk HA9 HO9 HK9
          go_upto_region 27 with fail
          generalize y10.alloc (.cells #[.int .i64 m1, .slice a1 n1 c1, .slice b1 k1 e1] 25) = y11 at *
          generalize y10.heap.size = gp1 at *
          go_wp2_with fail
          refine HD2.out.mono ?_
          intro e y12 h12
          obtain ⟨m2, a2, n2, c2, b2, k2, e2, rfl, hp12, _, hk12⟩ := h12.two
          have hkB : Kept (fun _ => False) y12 (y12.alloc (.cells #[.int .i64 m2, .slice a2 n2 c2, .slice b2 k2 e2] 25)) := (Kept.refl _ _).alloc _
          have hbB := heap_alloc_new y12 (.cells #[.int .i64 m2, .slice a2 n2 c2, .slice b2 k2 e2] 25)
          have hbP := box_kept (hk12.trans hkB) HB11.out (fun f => f)
          have hP1 := HP10.out.kept (hk12.trans hkB) (fun _ _ f => f)
          have hP2 := hp12.kept hkB (fun _ _ f => f)
          have hgl : gp1 < y12.heap.size := Nat.lt_of_lt_of_le (Array.getElem?_eq_some_iff.1 HB11.out).1 hk12.size
          have hSM := rsame_any _ _ (pOf cs) (pOf cs) _ y12.heap.size (hP1.up (Nat.le_of_lt hgl)) hP2 hkB.size HPK.out HPK.out
          rw [sameP_refl] at hSM
          have HSM := hid_of hSM
          have HK13 := hid_of (HK11.out.trans (hk12.trans hkB))
          have p0 := cell_block _ gp1 0 _ _ _ hbP
          have p1 := cell_block _ gp1 1 _ _ _ hbP
          have p2 := cell_block _ gp1 2 _ _ _ hbP
          have r0 := cell_block _ y12.heap.size 0 _ _ _ hbB
          have r1 := cell_block _ y12.heap.size 1 _ _ _ hbB
          have r2 := cell_block _ y12.heap.size 2 _ _ _ hbB
          clear hkB hbB hbP hP1 hP2 hgl hSM h12 hk12 hp12 HD2 HP10 HO11 HB11 HK11
          go_wp2_with fail
          generalize y12.alloc (.cells #[.int .i64 m2, .slice a2 n2 c2, .slice b2 k2 e2] 25) = y13 at *
          generalize y12.heap.size = gp2 at *
          refine HSM.out.mono ?_
          rintro e y14 ⟨rfl, hk14⟩
          have HK14 := hid_of (HK13.out.trans hk14)
          clear HSM hk14 HK13 p0 p1 p2 r0 r1 r2
          generalize eOf cs = ez at *
          go_wp2
          go_ret
          exact ⟨rfl, HK14.out⟩
    · have hcN : 0 < nc := by omega
      have hcI : (0 : Int) < (nc : Int) := by omega
      go_wp2_with fail
      refine (in_any nx nc w6 HN0.out HN1.out hcN (by omega)).mono ?_
      rintro e w7 ⟨⟨k, hk, rfl⟩, rfl⟩
      have hkI : (k : Int) < (nc : Int) := by omega
      obtain ⟨gc, hgc⟩ : ∃ g, cao = some ⟨g, 0, none⟩ := by
        obtain ⟨g, c, e⟩ := own_at0 HOC.out (by omega)
        simp only [Value.slice.injEq] at e
        exact ⟨g, e.1⟩
      subst hgc
      have hkl : k < f.code.length := by have := HNC.out; omega
      obtain ⟨y0, hy0⟩ : ∃ y, f.code[k]? = some y := ⟨_, List.getElem?_eq_getElem hkl⟩
      have s0 : w7.cell? ⟨gc, k * 2, none⟩ = some (.int .i64 y0.op) := by
        have h9 := icells_at f.code k y0 hy0 0 (by omega)
        rw [HOC.out.cellAt _ (by omega)]
        exact h9
      have s1 : w7.cell? ⟨gc, k * 2 + 1, none⟩ = some (.int .i64 y0.a) := by
        rw [HOC.out.cellAt _ (by omega), icells_at f.code k y0 hy0 1 (by omega)]
        rfl
      have f0 : w7.frozen? ⟨gc, k * 2, none⟩ = false := World.ownsRow.frozenAt HOC.out _
      have f1 : w7.frozen? ⟨gc, k * 2 + 1, none⟩ = false := World.ownsRow.frozenAt HOC.out _
      have hA8 := HA5.out.code HFI.out hci HNC.out hkl ⟨3, nx⟩ ⟨⟨(by show (-9223372036854775808 : Int) ≤ 3; decide), (by show (3 : Int) < 9223372036854775808; decide)⟩, HN0.out, HN1.out⟩
      dsimp only at hA8
      have HA8 := hid_of hA8
      have hfi8 : ({ qq with fns := qq.fns.set i { f with code := f.code.set k ⟨3, nx⟩ } } : PG).fns[i]? = some { f with code := f.code.set k ⟨3, nx⟩ } := by
        show (qq.fns.set i _)[i]? = _
        rw [List.getElem?_set_self HI.out]
      clear hA8 hy0 HA5
      go_upto_region 12 with fail
      clear s0 s1 f0 f1 x3 d0 d1 d2
      generalize (w7.setCell ⟨gc, k * 2, none⟩ (.int .i64 3)).setCell ⟨gc, k * 2 + 1, none⟩ (.int .i64 nx) = w8 at *
      have hrw := HA8.out.own.fns.row
      rw [← HA8.out.me.2.2] at hrw
      have HR2 : Hid (w8.cell? ⟨gf, i * 4 + 2, none⟩ = some (.int .i64 (f).r)) := by
        unfold Hid
        rw [hrw.cellAt _ (by omega), fcells_at _ cvs i _ _ hfi8 hci 2 (by omega)]
        rfl
      have HRF : Hid (w8.frozen? ⟨gf, i * 4 + 2, none⟩ = false) := World.ownsRow.frozenAt hrw _
      have HGM : Hid (¬ gm = gf) := fun e => own_box hrw HA8.out.bm (by decide) (by rw [e]; rfl)
      have HFI8 := hid_of hfi8
      clear hrw hci hfi8
      have HBMD : Hid ((w8).drew.heap[gm]? = some (.cells #[.int .i64 mem, .slice da nd dc, .slice (some ⟨gf, 0, none⟩) nf fc] 25 (0, 0))) := HA8.out.bm
      have r2 : (w8).drew.cell? ⟨gf, i * 4 + 2, none⟩ = some (.int .i64 f.r) := HR2.out
      have rf : (w8).drew.frozen? ⟨gf, i * 4 + 2, none⟩ = false := HRF.out
      generalize hfr : f.r = fr at *
      have HFR := hid_of hfr
      clear hfr
      refine wp_region_held_drew (S := fun w' => w'.heap[gm]? = some (.cells #[.int .i64 mem, .slice da nd dc, .slice (some ⟨gf, 0, none⟩) nf fc] 25 (0, 0))) (by kernel_rfl) HBMD.out (fun hHeld => ?_)
      refine wpAnyH_take (i := 0) (v := ?_) rfl (by kernel_rfl) (by kernel_rfl) (by kernel_rfl) (fun _ _ _ h => h) (Or.inl ⟨by rfl, ?_⟩) (by assumption) ?_
      rotate_left 1
      · intro w hSw
        go_simp
        try with_reducible rfl
      try simp only [Act.put, List.getElem_toArray, List.getElem_cons_zero, List.getElem_cons_succ, List.setIfInBounds_toArray, List.set_cons_zero, List.set_cons_succ]
      refine wpAnyH_take (i := 1) (v := ?_) rfl (by kernel_rfl) (by kernel_rfl) (by kernel_rfl) (fun _ _ _ h => h) (Or.inl ⟨by rfl, ?_⟩) (by assumption) ?_
      rotate_left 1
      · intro w hSw
        have q2 := cell_block _ gm 2 _ _ _ hSw
        go_simp
        try with_reducible rfl
      try simp only [Act.put, List.getElem_toArray, List.getElem_cons_zero, List.getElem_cons_succ, List.setIfInBounds_toArray, List.set_cons_zero, List.set_cons_succ]
      refine wpAnyH_take (i := 2) (v := ?_) rfl (by kernel_rfl) (by kernel_rfl) (by kernel_rfl) (fun _ _ _ h => h) (Or.inl ⟨by rfl, ?_⟩) (by assumption) ?_
      rotate_left 1
      · intro w hSw
        go_simp
        try with_reducible rfl
      try simp only [Act.put, List.getElem_toArray, List.getElem_cons_zero, List.getElem_cons_succ, List.setIfInBounds_toArray, List.set_cons_zero, List.set_cons_succ]
      refine wpAnyH_take (i := 3) (v := ?_) rfl (by kernel_rfl) (by kernel_rfl) (by kernel_rfl) (fun _ _ _ h => h) (Or.inl ⟨by rfl, ?_⟩) (by assumption) ?_
      rotate_left 1
      · intro w hSw
        go_simp
        try with_reducible rfl
      try simp only [Act.put, List.getElem_toArray, List.getElem_cons_zero, List.getElem_cons_succ, List.setIfInBounds_toArray, List.set_cons_zero, List.set_cons_succ]
      refine wpAnyH_take (i := 4) (v := ?_) rfl (by kernel_rfl) (by kernel_rfl) (by kernel_rfl) (fun _ _ _ h => h) (Or.inl ⟨by rfl, ?_⟩) (by assumption) ?_
      rotate_left 1
      · intro w hSw
        have q2 := cell_block _ gm 2 _ _ _ hSw
        go_simp
        try with_reducible rfl
      try simp only [Act.put, List.getElem_toArray, List.getElem_cons_zero, List.getElem_cons_succ, List.setIfInBounds_toArray, List.set_cons_zero, List.set_cons_succ]
      refine wpAnyH_take (i := 5) (v := ?_) rfl (by kernel_rfl) (by kernel_rfl) (by kernel_rfl) (fun _ _ _ h => h) (Or.inl ⟨by rfl, ?_⟩) (by assumption) ?_
      rotate_left 1
      · intro w hSw
        go_simp
        try with_reducible rfl
      try simp only [Act.put, List.getElem_toArray, List.getElem_cons_zero, List.getElem_cons_succ, List.setIfInBounds_toArray, List.set_cons_zero, List.set_cons_succ]
      refine wpAnyH_take (i := 6) (v := ?_) rfl (by kernel_rfl) (by kernel_rfl) (by kernel_rfl) (fun _ _ _ h => h) (Or.inl ⟨by rfl, ?_⟩) (by assumption) ?_
      rotate_left 1
      · intro w hSw
        go_simp
        try with_reducible rfl
      try simp only [Act.put, List.getElem_toArray, List.getElem_cons_zero, List.getElem_cons_succ, List.setIfInBounds_toArray, List.set_cons_zero, List.set_cons_succ]
      refine wpAnyH_take (i := 7) (v := ?_) rfl (by kernel_rfl) (by kernel_rfl) (by kernel_rfl) (fun _ _ _ h => h) (Or.inl ⟨by rfl, ?_⟩) (by assumption) ?_
      rotate_left 1
      · intro w hSw
        go_simp
        try with_reducible rfl
      try simp only [Act.put, List.getElem_toArray, List.getElem_cons_zero, List.getElem_cons_succ, List.setIfInBounds_toArray, List.set_cons_zero, List.set_cons_succ]
      refine wpAnyH_ready (rs := [8]) (by kernel_rfl) (by simp) ?_
      refine AllReadyH.cons rfl (fun K hK => ?_) AllReadyH.nil
      go_simp
      refine hK.out _ _ hHeld (fun hHeld => ?_)
      clear hK K
      try simp only [Act.put, List.getElem_toArray, List.getElem_cons_zero, List.getElem_cons_succ, List.setIfInBounds_toArray, List.set_cons_zero, List.set_cons_succ]
      refine wpAnyH_take (i := 9) (v := ?_) rfl (by kernel_rfl) (by kernel_rfl) (by kernel_rfl) (fun _ _ _ h => h) (Or.inl ⟨by rfl, ?_⟩) (by assumption) ?_
      rotate_left 1
      · intro w hSw
        go_simp
        try with_reducible rfl
      try simp only [Act.put, List.getElem_toArray, List.getElem_cons_zero, List.getElem_cons_succ, List.setIfInBounds_toArray, List.set_cons_zero, List.set_cons_succ]
      refine wpAnyH_take (i := 10) (v := ?_) rfl (by kernel_rfl) (by kernel_rfl) (by kernel_rfl) (fun _ _ _ h => h) (Or.inl ⟨by rfl, ?_⟩) (by assumption) ?_
      rotate_left 1
      · intro w hSw
        go_simp
        try with_reducible rfl
      try simp only [Act.put, List.getElem_toArray, List.getElem_cons_zero, List.getElem_cons_succ, List.setIfInBounds_toArray, List.set_cons_zero, List.set_cons_succ]
      refine wpAnyH_take (i := 11) (v := ?_) rfl (by kernel_rfl) (by kernel_rfl) (by kernel_rfl) (fun _ _ _ h => h) (Or.inl ⟨by rfl, ?_⟩) (by assumption) ?_
      rotate_left 1
      · intro w hSw
        go_simp
        try with_reducible rfl
      try simp only [Act.put, List.getElem_toArray, List.getElem_cons_zero, List.getElem_cons_succ, List.setIfInBounds_toArray, List.set_cons_zero, List.set_cons_succ]
      refine wpAnyH_ready (rs := [12]) (by kernel_rfl) (by simp) ?_
      refine AllReadyH.cons rfl (fun K hK => ?_) AllReadyH.nil
      go_simp
      refine hK.out _ _ (box_kept (kept_set _ gf (i * 4 + 2) _) hHeld HGM.out) (fun hHeld => ?_)
      clear hK K r2 rf
      try simp only [Act.put, List.getElem_toArray, List.getElem_cons_zero, List.getElem_cons_succ, List.setIfInBounds_toArray, List.set_cons_zero, List.set_cons_succ]
      refine wpAnyH_done (by kernel_rfl) ?_ _
      obtain ⟨q1, hA9⟩ : ∃ q1, AgK w (w8.setCell ⟨gf, i * 4 + 2, none⟩ (.int .i64 (IntKind.i64.wrap (1 - fr)))).drew base B ga gm #[.int .i64 mp, .slice pda pnd pdc, .slice pfa pnf pfc] mem da nd dc (some ⟨gf, 0, none⟩) nf fc cvs p q1 := ⟨_, (HA8.out.res HFI8.out _ (wrap_i64 _)).same ((Kept.refl _ _).drew)⟩
      have HA9 := hid_of hA9
      clear hA9 hHeld HA8
      generalize (w8.setCell ⟨gf, i * 4 + 2, none⟩ (.int .i64 (IntKind.i64.wrap (1 - fr)))).drew = w9 at *
      have d0 := cell_block _ gm 0 _ _ _ HA9.out.bm
      have d1 := cell_block _ gm 1 _ _ _ HA9.out.bm
      have d2 := cell_block _ gm 2 _ _ _ HA9.out.bm
      go_upto_region 13 with fail
      by_cases hdz : nd = 0
      · subst hdz
        go_upto_region 15 with fail
        have HTW := hid_of (rtwin_p _ _ w9 _ HA9.out.mine (Nat.le_refl _) HA9.out.ok)
        go_wp2_with fail
        refine HTW.out.mono ?_
        rintro e y1 ⟨⟨odv, ofv, ocv, rfl, hop⟩, hky⟩
        obtain ⟨oa, oc, hds⟩ := ownsRow_shape hop.dat
        obtain ⟨oe, of, hfs⟩ := ownsRow_shape hop.fns.row
        have hpo := hop.pg
        rw [← HA9.out.me.2.1] at hds
        rw [← HA9.out.me.2.2] at hfs
        rw [← HA9.out.me.1] at hpo ⊢
        subst hds
        subst hfs
        have hkM : Kept (fun _ => False) y1 (y1.alloc (.cells #[.int .i64 mem, .slice oa 0 oc, .slice oe nf of] 25)) := (Kept.refl _ _).alloc _
        have hbO := heap_alloc_new y1 (.cells #[.int .i64 mem, .slice oa 0 oc, .slice oe nf of] 25)
        have HAy := hid_of (HA9.out.same (hky.trans hkM))
        have HOP2 := hid_of ((hpo.kept hkM (fun _ _ f => f)).up hkM.size)
        have HBO2 := hid_of hbO
        have HQK := hid_of HA9.out.ok
        clear HTW hop hky hkM hbO hpo d0 d1 d2
        go_upto_region 16 with fail
        generalize y1.alloc (.cells #[.int .i64 mem, .slice oa 0 oc, .slice oe nf of] 25) = y2 at *
        generalize y1.heap.size = gw at *
        have HWY := hid_of HAy.out.kept.size
        have d0 := cell_block _ gm 0 _ _ _ HAy.out.bm
        have d1 := cell_block _ gm 1 _ _ _ HAy.out.bm
        have d2 := cell_block _ gm 2 _ _ _ HAy.out.bm
        have HEN := hid_of (encode_p _ _ y2 _ HAy.out.mine (Nat.le_refl _) HQK.out)
        go_wp2_with fail
        refine HEN.out.mono ?_
        intro e y3 h3
        obtain ⟨ao, ac, rfl, ho3, hk3⟩ := h3.two
        have HA3 := hid_of (HAy.out.same hk3)
        have HOP3 := hid_of ((HOP2.out.kept hk3 (fun _ _ f => f)).up hk3.size)
        have HBO3 := hid_of (box_kept hk3 HBO2.out (fun f => f))
        have HO3 := hid_of ho3
        clear HEN h3 ho3 hk3 HAy HOP2 HBO2 d0 d1 d2
        have d0 := cell_block _ gw 0 _ _ _ HBO3.out
        have d1 := cell_block _ gw 1 _ _ _ HBO3.out
        have d2 := cell_block _ gw 2 _ _ _ HBO3.out
        have HEN := hid_of (encode_p _ _ y3 _ HOP3.out (Nat.le_refl _) HQK.out)
        go_wp2_with fail
        refine HEN.out.mono ?_
        intro e y4 h4
        obtain ⟨bo, bc, rfl, ho4, hk4⟩ := h4.two
        have HA4 := hid_of (HA3.out.same hk4)
        have HOP4 := hid_of ((HOP3.out.kept hk4 (fun _ _ f => f)).up hk4.size)
        have HBO4 := hid_of (box_kept hk4 HBO3.out (fun f => f))
        have HO4 := hid_of (hk4.ownsRow HO3.out (fun _ _ f => f))
        have HB4 := hid_of ho4
        have HEBK := hid_of (EB_ok HQK.out)
        clear HEN h4 ho4 hk4 HA3 HOP3 HBO3 HO3 d0 d1 d2
        go_upto_region 18 with fail
        obtain ⟨Q, hQ⟩ : ∃ Q, Q = q1 := ⟨_, rfl⟩
        rw [← hQ] at HA4 HOP4 HO4 HB4 HEBK HQK ⊢
        clear hQ
        obtain ⟨bs, hbs⟩ : ∃ b, b = EB Q := ⟨_, rfl⟩
        rw [← hbs] at HO4 HB4 HEBK ⊢
        clear hbs
        obtain ⟨nb, hnb⟩ : ∃ n, n = bs.length := ⟨_, rfl⟩
        rw [← hnb] at HO4 HB4 ⊢
        have HNB := hid_of hnb
        clear hnb
        obtain ⟨er, her⟩ : ∃ r, r = encPE Q := ⟨_, rfl⟩
        rw [← her]
        clear her
        obtain ⟨ck, hck⟩ : ∃ r, r = checkP Q := ⟨_, rfl⟩
        obtain ⟨sq, hsq⟩ : ∃ r, r = sameP Q p := ⟨_, rfl⟩
        obtain ⟨sa, hsa⟩ : ∃ s, s = str bs := ⟨_, rfl⟩
        have HV1 : Hid (∀ W, Kept (fun _ => False) y4 W → (convert 22 9 (.slice ao nb ac)).run Try.prog W = .ok (.string sa) W) := fun W hW => by rw [hsa]; exact conv_str W _ bs ((isB_own HO4.out).kept hW (fun _ _ f => f))
        have HV2 : Hid (∀ W, Kept (fun _ => False) y4 W → (convert 22 9 (.slice bo nb bc)).run Try.prog W = .ok (.string sa) W) := fun W hW => by rw [hsa]; exact conv_str W _ bs ((isB_own HB4.out).kept hW (fun _ _ f => f))
        have HC1 : Hid (∀ W, Kept (fun _ => False) y4 W → Calls Try.prog 15 #[.agg #[.int .i64 mem, .slice da 0 dc, .slice (some ⟨gf, 0, none⟩) nf fc]] W fun e w' => e = .returned (.int .i64 ck) ∧ Kept (fun _ => False) W w') := fun W hW => by rw [hck]; exact check_p _ Q W _ (HA4.out.same hW).mine (Nat.le_refl _) HQK.out
        have HC2 : Hid (∀ W, Kept (fun _ => False) y4 W → Calls Try.prog 15 #[.agg #[.int .i64 mem, .slice oa 0 oc, .slice oe nf of]] W fun e w' => e = .returned (.int .i64 ck) ∧ Kept (fun _ => False) W w') := fun W hW => by rw [hck]; exact check_p _ Q W _ ((HOP4.out.kept hW (fun _ _ f => f)).up hW.size) (Nat.le_refl _) HQK.out
        have HC3 : Hid (∀ W, Kept (fun _ => False) y4 W → Calls Try.prog 16 #[.agg #[.int .i64 mem, .slice da 0 dc, .slice (some ⟨gf, 0, none⟩) nf fc], .agg #[.int .i64 mp, .slice pda pnd pdc, .slice pfa pnf pfc]] W fun e w' => e = .returned (.bool sq) ∧ Kept (fun _ => False) W w') := fun W hW => by rw [hsq]; exact same_p _ _ Q p W _ (HA4.out.same hW).mine (HA4.out.same hW).old (Nat.le_refl _) HQK.out HOA.out
        have HC4 : Hid (∀ W, Kept (fun _ => False) y4 W → Calls Try.prog 8 #[.agg #[.int .i64 mem, .slice oa 0 oc, .slice oe nf of], .agg #[.int .i64 mp, .slice pda pnd pdc, .slice pfa pnf pfc]] W fun e w' => e = .returned (.bool sq) ∧ Kept (fun _ => False) W w') := fun W hW => by rw [hsq]; exact rsame_any _ _ Q p W _ ((HOP4.out.kept hW (fun _ _ f => f)).up hW.size) (HA4.out.same hW).old (Nat.le_refl _) HQK.out HOA.out
        clear hck hsq hsa
        have HX0 := hid_of (show y4.cell? ⟨ga, 0, none⟩ = some (.int .i64 mp) from cell_block _ ga 0 _ _ _ HA4.out.ba)
        have HX1 := hid_of (show y4.cell? ⟨ga, 1, none⟩ = some (.slice pda pnd pdc) from cell_block _ ga 1 _ _ _ HA4.out.ba)
        have HX2 := hid_of (show y4.cell? ⟨ga, 2, none⟩ = some (.slice pfa pnf pfc) from cell_block _ ga 2 _ _ _ HA4.out.ba)
        have HY0 := hid_of (show y4.cell? ⟨gm, 0, none⟩ = some (.int .i64 mem) from cell_block _ gm 0 _ _ _ HA4.out.bm)
        have HY1 := hid_of (show y4.cell? ⟨gm, 1, none⟩ = some (.slice da 0 dc) from cell_block _ gm 1 _ _ _ HA4.out.bm)
        have HY2 := hid_of (show y4.cell? ⟨gm, 2, none⟩ = some (.slice (some ⟨gf, 0, none⟩) nf fc) from cell_block _ gm 2 _ _ _ HA4.out.bm)
        have HZ0 := hid_of (show y4.cell? ⟨gw, 0, none⟩ = some (.int .i64 mem) from cell_block _ gw 0 _ _ _ HBO4.out)
        have HZ1 := hid_of (show y4.cell? ⟨gw, 1, none⟩ = some (.slice oa 0 oc) from cell_block _ gw 1 _ _ _ HBO4.out)
        have HZ2 := hid_of (show y4.cell? ⟨gw, 2, none⟩ = some (.slice oe nf of) from cell_block _ gw 2 _ _ _ HBO4.out)
        refine wp_region_held_drew (S := fun w' => Kept (fun _ => False) y4 w') (by kernel_rfl) (Kept.refl _ _).drew (fun hHeld => ?_)
        refine wpAnyH_take (i := 0) (v := ?_) rfl (by kernel_rfl) (by kernel_rfl) (by kernel_rfl) (fun _ _ _ h => h) (Or.inl ⟨by rfl, ?_⟩) (by assumption) ?_
        rotate_left 1
        · intro w hSw
          go_simp
          try with_reducible rfl
        try simp only [Act.put, List.getElem_toArray, List.getElem_cons_zero, List.getElem_cons_succ, List.setIfInBounds_toArray, List.set_cons_zero, List.set_cons_succ]
        refine wpAnyH_take (i := 1) (v := ?_) rfl (by kernel_rfl) (by kernel_rfl) (by kernel_rfl) (fun _ _ _ h => h) (Or.inl ⟨by rfl, ?_⟩) (by assumption) ?_
        rotate_left 1
        · intro w hSw
          have q1 := HV1.out w hSw
          go_simp
          try with_reducible rfl
        try simp only [Act.put, List.getElem_toArray, List.getElem_cons_zero, List.getElem_cons_succ, List.setIfInBounds_toArray, List.set_cons_zero, List.set_cons_succ]
        refine wpAnyH_take (i := 2) (v := ?_) rfl (by kernel_rfl) (by kernel_rfl) (by kernel_rfl) (fun _ _ _ h => h) (Or.inl ⟨by rfl, ?_⟩) (by assumption) ?_
        rotate_left 1
        · intro w hSw
          go_simp
          try with_reducible rfl
        try simp only [Act.put, List.getElem_toArray, List.getElem_cons_zero, List.getElem_cons_succ, List.setIfInBounds_toArray, List.set_cons_zero, List.set_cons_succ]
        refine wpAnyH_take (i := 3) (v := ?_) rfl (by kernel_rfl) (by kernel_rfl) (by kernel_rfl) (fun _ _ _ h => h) (Or.inl ⟨by rfl, ?_⟩) (by assumption) ?_
        rotate_left 1
        · intro w hSw
          have q1 := HV2.out w hSw
          go_simp
          try with_reducible rfl
        try simp only [Act.put, List.getElem_toArray, List.getElem_cons_zero, List.getElem_cons_succ, List.setIfInBounds_toArray, List.set_cons_zero, List.set_cons_succ]
        refine wpAnyH_take (i := 4) (v := (.bool false)) rfl (by kernel_rfl) (by kernel_rfl) (by kernel_rfl) (fun _ _ _ h => h) (Or.inl ⟨by rfl, ?_⟩) (by assumption) ?_
        · intro w hSw
          go_simp
        try simp only [Act.put, List.getElem_toArray, List.getElem_cons_zero, List.getElem_cons_succ, List.setIfInBounds_toArray, List.set_cons_zero, List.set_cons_succ]
        refine wpAnyH_take (i := 5) (v := ?_) rfl (by kernel_rfl) (by kernel_rfl) (by kernel_rfl) (fun _ _ _ h => h) (Or.inl ⟨by rfl, ?_⟩) (by assumption) ?_
        rotate_left 1
        · intro w hSw
          go_simp
          try with_reducible rfl
        try simp only [Act.put, List.getElem_toArray, List.getElem_cons_zero, List.getElem_cons_succ, List.setIfInBounds_toArray, List.set_cons_zero, List.set_cons_succ]
        refine wpAnyH_take (i := 6) (v := ?_) rfl (by kernel_rfl) (by kernel_rfl) (by kernel_rfl) (fun _ _ _ h => h) (Or.inl ⟨by rfl, ?_⟩) (by assumption) ?_
        rotate_left 1
        · intro w hSw
          go_simp
          try with_reducible rfl
        try simp only [Act.put, List.getElem_toArray, List.getElem_cons_zero, List.getElem_cons_succ, List.setIfInBounds_toArray, List.set_cons_zero, List.set_cons_succ]
        refine wpAnyH_take (i := 7) (v := ?_) rfl (by kernel_rfl) (by kernel_rfl) (by kernel_rfl) (fun _ _ _ h => h) (Or.inl ⟨by rfl, ?_⟩) (by assumption) ?_
        rotate_left 1
        · intro w hSw
          go_simp
          try with_reducible rfl
        try simp only [Act.put, List.getElem_toArray, List.getElem_cons_zero, List.getElem_cons_succ, List.setIfInBounds_toArray, List.set_cons_zero, List.set_cons_succ]
        refine wpAnyH_take (i := 8) (v := (.bool false)) rfl (by kernel_rfl) (by kernel_rfl) (by kernel_rfl) (fun _ _ _ h => h) (Or.inl ⟨by rfl, ?_⟩) (by assumption) ?_
        · intro w hSw
          go_simp
        try simp only [Act.put, List.getElem_toArray, List.getElem_cons_zero, List.getElem_cons_succ, List.setIfInBounds_toArray, List.set_cons_zero, List.set_cons_succ]
        refine wpAnyH_take (i := 9) (v := ?_) rfl (by kernel_rfl) (by kernel_rfl) (by kernel_rfl) (fun _ _ _ h => h) (Or.inl ⟨by rfl, ?_⟩) (by assumption) ?_
        rotate_left 1
        · intro w hSw
          go_simp
          try with_reducible rfl
        try simp only [Act.put, List.getElem_toArray, List.getElem_cons_zero, List.getElem_cons_succ, List.setIfInBounds_toArray, List.set_cons_zero, List.set_cons_succ]
        refine wpAnyH_take (i := 10) (v := ?_) rfl (by kernel_rfl) (by kernel_rfl) (by kernel_rfl) (fun _ _ _ h => h) (Or.inl ⟨by rfl, ?_⟩) (by assumption) ?_
        rotate_left 1
        · intro w hSw
          go_simp
          try with_reducible rfl
        try simp only [Act.put, List.getElem_toArray, List.getElem_cons_zero, List.getElem_cons_succ, List.setIfInBounds_toArray, List.set_cons_zero, List.set_cons_succ]
        refine wpAnyH_take (i := 11) (v := ?_) rfl (by kernel_rfl) (by kernel_rfl) (by kernel_rfl) (fun _ _ _ h => h) (Or.inl ⟨by rfl, ?_⟩) (by assumption) ?_
        rotate_left 1
        · intro w hSw
          have q0 := Kept.cell hSw HY0.out (fun f => f)
          have q1 := Kept.cell hSw HY1.out (fun f => f)
          have q2 := Kept.cell hSw HY2.out (fun f => f)
          go_simp
          try with_reducible rfl
        try simp only [Act.put, List.getElem_toArray, List.getElem_cons_zero, List.getElem_cons_succ, List.setIfInBounds_toArray, List.set_cons_zero, List.set_cons_succ]
        refine wpAnyH_take (i := 13) (v := ?_) rfl (by kernel_rfl) (by kernel_rfl) (by kernel_rfl) (fun _ _ _ h => h) (Or.inl ⟨by rfl, ?_⟩) (by assumption) ?_
        rotate_left 1
        · intro w hSw
          have q0 := Kept.cell hSw HZ0.out (fun f => f)
          have q1 := Kept.cell hSw HZ1.out (fun f => f)
          have q2 := Kept.cell hSw HZ2.out (fun f => f)
          go_simp
          try with_reducible rfl
        try simp only [Act.put, List.getElem_toArray, List.getElem_cons_zero, List.getElem_cons_succ, List.setIfInBounds_toArray, List.set_cons_zero, List.set_cons_succ]
        refine wpAnyH_ready (rs := [12]) (by kernel_rfl) (by simp) ?_
        refine AllReadyH.cons rfl (fun K hK => ?_) AllReadyH.nil
        go_simp
        refine (HC1.out _ hHeld).mono ?_
        rintro e wn ⟨rfl, hkn⟩
        refine hK.out _ _ (Kept.trans hHeld hkn) (fun hHeld => ?_)
        clear hK K hkn
        try simp only [Act.put, List.getElem_toArray, List.getElem_cons_zero, List.getElem_cons_succ, List.setIfInBounds_toArray, List.set_cons_zero, List.set_cons_succ]
        refine wpAnyH_ready (rs := [14]) (by kernel_rfl) (by simp) ?_
        refine AllReadyH.cons rfl (fun K hK => ?_) AllReadyH.nil
        go_simp
        refine (HC2.out _ hHeld).mono ?_
        rintro e wn ⟨rfl, hkn⟩
        refine hK.out _ _ (Kept.trans hHeld hkn) (fun hHeld => ?_)
        clear hK K hkn
        try simp only [Act.put, List.getElem_toArray, List.getElem_cons_zero, List.getElem_cons_succ, List.setIfInBounds_toArray, List.set_cons_zero, List.set_cons_succ]
        refine wpAnyH_take (i := 15) (v := (.bool false)) rfl (by kernel_rfl) (by kernel_rfl) (by kernel_rfl) (fun _ _ _ h => h) (Or.inl ⟨by rfl, ?_⟩) (by assumption) ?_
        · intro w hSw
          go_simp
        try simp only [Act.put, List.getElem_toArray, List.getElem_cons_zero, List.getElem_cons_succ, List.setIfInBounds_toArray, List.set_cons_zero, List.set_cons_succ]
        refine wpAnyH_take (i := 16) (v := ?_) rfl (by kernel_rfl) (by kernel_rfl) (by kernel_rfl) (fun _ _ _ h => h) (Or.inl ⟨by rfl, ?_⟩) (by assumption) ?_
        rotate_left 1
        · intro w hSw
          go_simp
          try with_reducible rfl
        try simp only [Act.put, List.getElem_toArray, List.getElem_cons_zero, List.getElem_cons_succ, List.setIfInBounds_toArray, List.set_cons_zero, List.set_cons_succ]
        refine wpAnyH_take (i := 17) (v := ?_) rfl (by kernel_rfl) (by kernel_rfl) (by kernel_rfl) (fun _ _ _ h => h) (Or.inl ⟨by rfl, ?_⟩) (by assumption) ?_
        rotate_left 1
        · intro w hSw
          go_simp
          try with_reducible rfl
        try simp only [Act.put, List.getElem_toArray, List.getElem_cons_zero, List.getElem_cons_succ, List.setIfInBounds_toArray, List.set_cons_zero, List.set_cons_succ]
        refine wpAnyH_take (i := 18) (v := ?_) rfl (by kernel_rfl) (by kernel_rfl) (by kernel_rfl) (fun _ _ _ h => h) (Or.inl ⟨by rfl, ?_⟩) (by assumption) ?_
        rotate_left 1
        · intro w hSw
          have q0 := Kept.cell hSw HY0.out (fun f => f)
          have q1 := Kept.cell hSw HY1.out (fun f => f)
          have q2 := Kept.cell hSw HY2.out (fun f => f)
          go_simp
          try with_reducible rfl
        try simp only [Act.put, List.getElem_toArray, List.getElem_cons_zero, List.getElem_cons_succ, List.setIfInBounds_toArray, List.set_cons_zero, List.set_cons_succ]
        refine wpAnyH_take (i := 19) (v := ?_) rfl (by kernel_rfl) (by kernel_rfl) (by kernel_rfl) (fun _ _ _ h => h) (Or.inl ⟨by rfl, ?_⟩) (by assumption) ?_
        rotate_left 1
        · intro w hSw
          have q0 := Kept.cell hSw HX0.out (fun f => f)
          have q1 := Kept.cell hSw HX1.out (fun f => f)
          have q2 := Kept.cell hSw HX2.out (fun f => f)
          go_simp
          try with_reducible rfl
        try simp only [Act.put, List.getElem_toArray, List.getElem_cons_zero, List.getElem_cons_succ, List.setIfInBounds_toArray, List.set_cons_zero, List.set_cons_succ]
        refine wpAnyH_take (i := 21) (v := ?_) rfl (by kernel_rfl) (by kernel_rfl) (by kernel_rfl) (fun _ _ _ h => h) (Or.inl ⟨by rfl, ?_⟩) (by assumption) ?_
        rotate_left 1
        · intro w hSw
          have q0 := Kept.cell hSw HZ0.out (fun f => f)
          have q1 := Kept.cell hSw HZ1.out (fun f => f)
          have q2 := Kept.cell hSw HZ2.out (fun f => f)
          go_simp
          try with_reducible rfl
        try simp only [Act.put, List.getElem_toArray, List.getElem_cons_zero, List.getElem_cons_succ, List.setIfInBounds_toArray, List.set_cons_zero, List.set_cons_succ]
        refine wpAnyH_take (i := 22) (v := ?_) rfl (by kernel_rfl) (by kernel_rfl) (by kernel_rfl) (fun _ _ _ h => h) (Or.inl ⟨by rfl, ?_⟩) (by assumption) ?_
        rotate_left 1
        · intro w hSw
          have q0 := Kept.cell hSw HX0.out (fun f => f)
          have q1 := Kept.cell hSw HX1.out (fun f => f)
          have q2 := Kept.cell hSw HX2.out (fun f => f)
          go_simp
          try with_reducible rfl
        try simp only [Act.put, List.getElem_toArray, List.getElem_cons_zero, List.getElem_cons_succ, List.setIfInBounds_toArray, List.set_cons_zero, List.set_cons_succ]
        refine wpAnyH_ready (rs := [20]) (by kernel_rfl) (by simp) ?_
        refine AllReadyH.cons rfl (fun K hK => ?_) AllReadyH.nil
        go_simp
        refine (HC3.out _ hHeld).mono ?_
        rintro e wn ⟨rfl, hkn⟩
        refine hK.out _ _ (Kept.trans hHeld hkn) (fun hHeld => ?_)
        clear hK K hkn
        try simp only [Act.put, List.getElem_toArray, List.getElem_cons_zero, List.getElem_cons_succ, List.setIfInBounds_toArray, List.set_cons_zero, List.set_cons_succ]
        refine wpAnyH_ready (rs := [23]) (by kernel_rfl) (by simp) ?_
        refine AllReadyH.cons rfl (fun K hK => ?_) AllReadyH.nil
        go_simp
        refine (HC4.out _ hHeld).mono ?_
        rintro e wn ⟨rfl, hkn⟩
        refine hK.out _ _ (Kept.trans hHeld hkn) (fun hHeld => ?_)
        clear hK K hkn
        try simp only [Act.put, List.getElem_toArray, List.getElem_cons_zero, List.getElem_cons_succ, List.setIfInBounds_toArray, List.set_cons_zero, List.set_cons_succ]
        refine wpAnyH_take (i := 24) (v := (.bool false)) rfl (by kernel_rfl) (by kernel_rfl) (by kernel_rfl) (fun _ _ _ h => h) (Or.inl ⟨by rfl, ?_⟩) (by assumption) ?_
        · intro w hSw
          go_simp
          try (cases sq <;> rfl)
        try simp only [Act.put, List.getElem_toArray, List.getElem_cons_zero, List.getElem_cons_succ, List.setIfInBounds_toArray, List.set_cons_zero, List.set_cons_succ]
        refine wpAnyH_take (i := 25) (v := ?_) rfl (by kernel_rfl) (by kernel_rfl) (by kernel_rfl) (fun _ _ _ h => h) (Or.inl ⟨by rfl, ?_⟩) (by assumption) ?_
        rotate_left 1
        · intro w hSw
          go_simp
          try with_reducible rfl
        try simp only [Act.put, List.getElem_toArray, List.getElem_cons_zero, List.getElem_cons_succ, List.setIfInBounds_toArray, List.set_cons_zero, List.set_cons_succ]
        refine wpAnyH_done (by kernel_rfl) ?_ _
        have HWN := hid_of hHeld
        clear hHeld HV1 HV2 HC1 HC2 HC3 HC4 HX0 HX1 HX2 HY0 HY1 HY2 HZ0 HZ1 HZ2
        have HKN := hid_of (HA4.out.kept.trans HWN.out)
        have HO5 := hid_of (HWN.out.ownsRow HO4.out (fun _ _ f => f))
        have hpos : 0 < wn.heap.size := Nat.lt_of_le_of_lt (Nat.zero_le _) (Nat.lt_of_lt_of_le (Array.getElem?_eq_some_iff.1 HA4.out.bm).1 HWN.out.size)
        clear HA4 HOP4 HBO4 HO4 HB4 HWN
        obtain ⟨gz, hgz, hri⟩ := (srcR_own HO5.out).at (Kept.refl _ _) hpos
        have hD := decode_p gz ao ac bs wn (by rw [← HNB.out]; exact hri) hgz HEBK.out
        rw [← HNB.out] at hD
        have HD := hid_of hD
        clear hD hri hgz hpos
        go_wp2_with fail
        refine HD.out.mono ?_
        intro e y6 h6
        obtain ⟨mx, xda, xnd, xdc, xfa, xnf, xfc, rfl, _, _, hk6⟩ := h6.two
        have HK6 := hid_of (HKN.out.trans hk6)
        have HO6 := hid_of (hk6.ownsRow HO5.out (fun _ _ f => f))
        clear HD h6 hk6 HO5 HKN
        generalize eOf bs = ex at *
        by_cases hb0 : nb = 0
        · subst hb0
          go_wp2
          go_ret
          exact ⟨rfl, HK6.out⟩
        · have hbN : 0 < nb := by omega
          have hbI : (0 : Int) < (nb : Int) := by omega
          have hbe : ((nb : Int) == 0) = false := by simp; omega
          have hnbI : (nb : Int) ≤ 140737488351232 := by have := HEBK.out.2; have := HNB.out; omega
          go_wp2_with fail
          refine (in_any ax nb y6 HA0.out HA1.out hbN (by omega)).mono ?_
          rintro e y7 ⟨⟨j, hj, rfl⟩, rfl⟩
          have hjI : (j : Int) < (nb : Int) := by omega
          obtain ⟨g1, hg1⟩ : ∃ g, ao = some ⟨g, 0, none⟩ := by
            obtain ⟨g, c, e⟩ := own_at0 HO6.out hbN
            simp only [Value.slice.injEq] at e
            exact ⟨g, e.1⟩
          subst hg1
          obtain ⟨x1, hx1⟩ : ∃ x, bs[j]? = some x := ⟨_, List.getElem?_eq_getElem (by have := HNB.out; omega)⟩
          have t0 : y7.cell? ⟨g1, j, none⟩ = some (.int .u8 x1) := by
            rw [HO6.out.cellAt _ (by omega), List.getElem?_map, hx1]
            rfl
          have tf : y7.frozen? ⟨g1, j, none⟩ = false := World.ownsRow.frozenAt HO6.out _
          clear hx1
          go_upto_region 25 with fail
          have hzb := bits_u8 x1 1
          generalize bits .xor .u8 x1 1 = z at *
          have hst := (World.ownsRow.stored HO6.out j (.int .u8 z)).1
          rw [← List.map_set] at hst
          have hks := kept_set y7 g1 j (.int .u8 z)
          have HK7 := hid_of (HK6.out.step hks (fun i hi e => by have := (HO6.out.lt g1 rfl).1; have := HWY.out; omega))
          have hbs2 : BytesOk (bs.set j z) := ⟨fun x hx => by
            rcases List.mem_or_eq_of_mem_set hx with h | rfl
            · exact HEBK.out.1 x h
            · exact hzb, by rw [List.length_set]; exact HEBK.out.2⟩
          obtain ⟨cs, hcs⟩ : ∃ c, c = bs.set j z := ⟨_, rfl⟩
          rw [← hcs] at hst hbs2
          have hncs : nb = cs.length := by rw [hcs, List.length_set]; exact HNB.out
          clear hks hcs hzb HO6 HK6 t0 tf
          generalize y7.setCell ⟨g1, j, none⟩ (.int .u8 z) = y8 at *
          have hE := heap_alloc_new y8 (.cells #[] 5)
          have hkE : Kept (fun _ => False) y8 (y8.alloc (.cells #[] 5)) := (Kept.refl _ _).alloc _
          obtain ⟨v9, y9, hr9, ho9, h39⟩ := app_any (y8.alloc (.cells #[] 5)) (.slice (some ⟨y8.heap.size, 0, none⟩) 0 0) 0 y8.heap.size [] 22 (.slice (some ⟨g1, 0, none⟩) nb ac) cs (own_zero hE (Nat.le_refl _)) ((isB_own hst).kept hkE (fun _ _ f => f)) hkE.size (by have := hbs2.2; omega)
          rw [Nat.zero_add, List.nil_append, ← hncs] at ho9
          obtain ⟨co, cc9, hv9⟩ := ownsRow_shape ho9
          subst hv9
          have hk9 : Kept (fun _ => False) y8 y9 := hkE.grown h39 (fun k hk => .inl (by simp [Value.ownBlock] at hk; omega))
          have HR9 := hid_of hr9
          have HO9 := hid_of ho9
          have HA9 := hid_of (hk9.ownsRow hst (fun _ _ f => f))
          have HK9 := hid_of (HK7.out.trans hk9)
          have HBZ := hid_of hbs2
          have HNC9 := hid_of hncs
          clear hE hkE hr9 ho9 h39 hk9 hst hbs2 hncs HK7
          go_upto_region 26 with (at_builtin; refine wp_app rfl (.tmp 147) (.tmp 148) 22 22 rfl _ _ rfl rfl _ y9 HR9.out ?_)
          obtain ⟨gz, hgz, hri⟩ := (srcR_own HA9.out).at (Kept.refl _ _) (Nat.lt_of_le_of_lt (Nat.zero_le _) (HA9.out.lt g1 rfl).2)
          have hD := decode_p gz (some ⟨g1, 0, none⟩) ac cs y9 (by rw [← HNC9.out]; exact hri) hgz HBZ.out
          rw [← HNC9.out] at hD
          have HD := hid_of hD
          clear hD hri hgz HR9
          go_wp2_with fail
          refine HD.out.mono ?_
          intro e y10 h10
          obtain ⟨m1, a1, n1, c1, b1, k1, e1, rfl, hp10, hpk, hk10⟩ := h10.two
          have hkA : Kept (fun _ => False) y10 (y10.alloc (.cells #[.int .i64 m1, .slice a1 n1 c1, .slice b1 k1 e1] 25)) := (Kept.refl _ _).alloc _
          have hbA := heap_alloc_new y10 (.cells #[.int .i64 m1, .slice a1 n1 c1, .slice b1 k1 e1] 25)
          have HP10 := hid_of (hp10.kept hkA (fun _ _ f => f))
          have HO11 := hid_of ((hk10.trans hkA).ownsRow HO9.out (fun _ _ f => f))
          have HB11 := hid_of hbA
          have HK11 := hid_of (HK9.out.trans (hk10.trans hkA))
          have HPK := hid_of hpk
          obtain ⟨gy, hgy, hry⟩ := (srcR_own HO11.out).at (Kept.refl _ _) (Nat.lt_of_le_of_lt (Nat.zero_le _) (Array.getElem?_eq_some_iff.1 hbA).1)
          have hD := decode_p gy co cc9 cs _ (by rw [← HNC9.out]; exact hry) hgy HBZ.out
          rw [← HNC9.out] at hD
          have HD2 := hid_of hD
          clear hD hry hgy h10 HD hk10 hkA hbA hp10 hpk HA9 HO9 HK9
          go_upto_region 27 with fail
          generalize y10.alloc (.cells #[.int .i64 m1, .slice a1 n1 c1, .slice b1 k1 e1] 25) = y11 at *
          generalize y10.heap.size = gp1 at *
          go_wp2_with fail
          refine HD2.out.mono ?_
          intro e y12 h12
          obtain ⟨m2, a2, n2, c2, b2, k2, e2, rfl, hp12, _, hk12⟩ := h12.two
          have hkB : Kept (fun _ => False) y12 (y12.alloc (.cells #[.int .i64 m2, .slice a2 n2 c2, .slice b2 k2 e2] 25)) := (Kept.refl _ _).alloc _
          have hbB := heap_alloc_new y12 (.cells #[.int .i64 m2, .slice a2 n2 c2, .slice b2 k2 e2] 25)
          have hbP := box_kept (hk12.trans hkB) HB11.out (fun f => f)
          have hP1 := HP10.out.kept (hk12.trans hkB) (fun _ _ f => f)
          have hP2 := hp12.kept hkB (fun _ _ f => f)
          have hgl : gp1 < y12.heap.size := Nat.lt_of_lt_of_le (Array.getElem?_eq_some_iff.1 HB11.out).1 hk12.size
          have hSM := rsame_any _ _ (pOf cs) (pOf cs) _ y12.heap.size (hP1.up (Nat.le_of_lt hgl)) hP2 hkB.size HPK.out HPK.out
          rw [sameP_refl] at hSM
          have HSM := hid_of hSM
          have HK13 := hid_of (HK11.out.trans (hk12.trans hkB))
          have p0 := cell_block _ gp1 0 _ _ _ hbP
          have p1 := cell_block _ gp1 1 _ _ _ hbP
          have p2 := cell_block _ gp1 2 _ _ _ hbP
          have r0 := cell_block _ y12.heap.size 0 _ _ _ hbB
          have r1 := cell_block _ y12.heap.size 1 _ _ _ hbB
          have r2 := cell_block _ y12.heap.size 2 _ _ _ hbB
          clear hkB hbB hbP hP1 hP2 hgl hSM h12 hk12 hp12 HD2 HP10 HO11 HB11 HK11
          go_wp2_with fail
          generalize y12.alloc (.cells #[.int .i64 m2, .slice a2 n2 c2, .slice b2 k2 e2] 25) = y13 at *
          generalize y12.heap.size = gp2 at *
          refine HSM.out.mono ?_
          rintro e y14 ⟨rfl, hk14⟩
          have HK14 := hid_of (HK13.out.trans hk14)
          clear HSM hk14 HK13 p0 p1 p2 r0 r1 r2
          generalize eOf cs = ez at *
          go_wp2
          go_ret
          exact ⟨rfl, HK14.out⟩
      · have hdI : (0 : Int) < (nd : Int) := by omega
        obtain ⟨gd, hgd⟩ : ∃ g, da = some ⟨g, 0, none⟩ := by
          obtain ⟨g, c, e⟩ := own_at0 HA9.out.own.dat (by have := HA9.out.me.2.1; omega)
          simp only [Value.slice.injEq] at e
          exact ⟨g, e.1⟩
        subst hgd
        have hdr := HA9.out.own.dat
        rw [← HA9.out.me.2.1] at hdr
        obtain ⟨x0, hx0⟩ : ∃ x, (q1).data[0]? = some x := ⟨_, List.getElem?_eq_getElem (by have := HA9.out.me.2.1; omega)⟩
        have r0 : (w9).drew.cell? ⟨gd, 0, none⟩ = some (.int .u8 x0) := by
          show (w9).cell? _ = _
          rw [hdr.cellAt _ (by omega), List.getElem?_map, hx0]
          rfl
        have rf : (w9).drew.frozen? ⟨gd, 0, none⟩ = false := World.ownsRow.frozenAt hdr _
        have HGD : Hid (¬ gm = gd) := fun e => own_box hdr HA9.out.bm (by decide) (by rw [e]; rfl)
        have HBMD : Hid ((w9).drew.heap[gm]? = some (.cells #[.int .i64 mem, .slice (some ⟨gd, 0, none⟩) nd dc, .slice (some ⟨gf, 0, none⟩) nf fc] 25 (0, 0))) := HA9.out.bm
        clear hdr hx0
        go_upto_region 14 with fail
        clear d0 d1 d2
        refine wp_region_held_drew (S := fun w' => w'.heap[gm]? = some (.cells #[.int .i64 mem, .slice (some ⟨gd, 0, none⟩) nd dc, .slice (some ⟨gf, 0, none⟩) nf fc] 25 (0, 0))) (by kernel_rfl) HBMD.out (fun hHeld => ?_)
        refine wpAnyH_take (i := 0) (v := ?_) rfl (by kernel_rfl) (by kernel_rfl) (by kernel_rfl) (fun _ _ _ h => h) (Or.inl ⟨by rfl, ?_⟩) (by assumption) ?_
        rotate_left 1
        · intro w hSw
          go_simp
          try with_reducible rfl
        try simp only [Act.put, List.getElem_toArray, List.getElem_cons_zero, List.getElem_cons_succ, List.setIfInBounds_toArray, List.set_cons_zero, List.set_cons_succ]
        refine wpAnyH_take (i := 1) (v := ?_) rfl (by kernel_rfl) (by kernel_rfl) (by kernel_rfl) (fun _ _ _ h => h) (Or.inl ⟨by rfl, ?_⟩) (by assumption) ?_
        rotate_left 1
        · intro w hSw
          have q2 := cell_block _ gm 1 _ _ _ hSw
          go_simp
          try with_reducible rfl
        try simp only [Act.put, List.getElem_toArray, List.getElem_cons_zero, List.getElem_cons_succ, List.setIfInBounds_toArray, List.set_cons_zero, List.set_cons_succ]
        refine wpAnyH_take (i := 2) (v := ?_) rfl (by kernel_rfl) (by kernel_rfl) (by kernel_rfl) (fun _ _ _ h => h) (Or.inl ⟨by rfl, ?_⟩) (by assumption) ?_
        rotate_left 1
        · intro w hSw
          go_simp
          try with_reducible rfl
        try simp only [Act.put, List.getElem_toArray, List.getElem_cons_zero, List.getElem_cons_succ, List.setIfInBounds_toArray, List.set_cons_zero, List.set_cons_succ]
        refine wpAnyH_take (i := 3) (v := ?_) rfl (by kernel_rfl) (by kernel_rfl) (by kernel_rfl) (fun _ _ _ h => h) (Or.inl ⟨by rfl, ?_⟩) (by assumption) ?_
        rotate_left 1
        · intro w hSw
          have q2 := cell_block _ gm 1 _ _ _ hSw
          go_simp
          try with_reducible rfl
        try simp only [Act.put, List.getElem_toArray, List.getElem_cons_zero, List.getElem_cons_succ, List.setIfInBounds_toArray, List.set_cons_zero, List.set_cons_succ]
        refine wpAnyH_take (i := 4) (v := ?_) rfl (by kernel_rfl) (by kernel_rfl) (by kernel_rfl) (fun _ _ _ h => h) (Or.inl ⟨by rfl, ?_⟩) (by assumption) ?_
        rotate_left 1
        · intro w hSw
          go_simp
          try with_reducible rfl
        try simp only [Act.put, List.getElem_toArray, List.getElem_cons_zero, List.getElem_cons_succ, List.setIfInBounds_toArray, List.set_cons_zero, List.set_cons_succ]
        refine wpAnyH_ready (rs := [5]) (by kernel_rfl) (by simp) ?_
        refine AllReadyH.cons rfl (fun K hK => ?_) AllReadyH.nil
        go_simp
        refine hK.out _ _ hHeld (fun hHeld => ?_)
        clear hK K
        try simp only [Act.put, List.getElem_toArray, List.getElem_cons_zero, List.getElem_cons_succ, List.setIfInBounds_toArray, List.set_cons_zero, List.set_cons_succ]
        refine wpAnyH_take (i := 6) (v := ?_) rfl (by kernel_rfl) (by kernel_rfl) (by kernel_rfl) (fun _ _ _ h => h) (Or.inl ⟨by rfl, ?_⟩) (by assumption) ?_
        rotate_left 1
        · intro w hSw
          go_simp
          try with_reducible rfl
        try simp only [Act.put, List.getElem_toArray, List.getElem_cons_zero, List.getElem_cons_succ, List.setIfInBounds_toArray, List.set_cons_zero, List.set_cons_succ]
        refine wpAnyH_take (i := 7) (v := ?_) rfl (by kernel_rfl) (by kernel_rfl) (by kernel_rfl) (fun _ _ _ h => h) (Or.inl ⟨by rfl, ?_⟩) (by assumption) ?_
        rotate_left 1
        · intro w hSw
          go_simp
          try with_reducible rfl
        try simp only [Act.put, List.getElem_toArray, List.getElem_cons_zero, List.getElem_cons_succ, List.setIfInBounds_toArray, List.set_cons_zero, List.set_cons_succ]
        refine wpAnyH_ready (rs := [8]) (by kernel_rfl) (by simp) ?_
        refine AllReadyH.cons rfl (fun K hK => ?_) AllReadyH.nil
        go_simp
        refine hK.out _ _ (box_kept (kept_set _ gd 0 _) hHeld HGD.out) (fun hHeld => ?_)
        clear hK K r0 rf
        try simp only [Act.put, List.getElem_toArray, List.getElem_cons_zero, List.getElem_cons_succ, List.setIfInBounds_toArray, List.set_cons_zero, List.set_cons_succ]
        refine wpAnyH_done (by kernel_rfl) ?_ _
        obtain ⟨q2, hA10⟩ : ∃ q2, AgK w (w9.setCell ⟨gd, 0, none⟩ (.int .u8 (IntKind.u8.wrap (x0 + 1)))).drew base B ga gm #[.int .i64 mp, .slice pda pnd pdc, .slice pfa pnf pfc] mem (some ⟨gd, 0, none⟩) nd dc (some ⟨gf, 0, none⟩) nf fc cvs p q2 := ⟨_, (HA9.out.dat 0 _ (wrap_u8 _)).same ((Kept.refl _ _).drew)⟩
        have HA10 := hid_of hA10
        clear hA10 HA9
        generalize (w9.setCell ⟨gd, 0, none⟩ (.int .u8 (IntKind.u8.wrap (x0 + 1)))).drew = w10 at *
        have d0 := cell_block _ gm 0 _ _ _ HA10.out.bm
        have d1 := cell_block _ gm 1 _ _ _ HA10.out.bm
        have d2 := cell_block _ gm 2 _ _ _ HA10.out.bm
        clear hHeld
        have HTW := hid_of (rtwin_p _ _ w10 _ HA10.out.mine (Nat.le_refl _) HA10.out.ok)
        go_wp2_with fail
        refine HTW.out.mono ?_
        rintro e y1 ⟨⟨odv, ofv, ocv, rfl, hop⟩, hky⟩
        obtain ⟨oa, oc, hds⟩ := ownsRow_shape hop.dat
        obtain ⟨oe, of, hfs⟩ := ownsRow_shape hop.fns.row
        have hpo := hop.pg
        rw [← HA10.out.me.2.1] at hds
        rw [← HA10.out.me.2.2] at hfs
        rw [← HA10.out.me.1] at hpo ⊢
        subst hds
        subst hfs
        have hkM : Kept (fun _ => False) y1 (y1.alloc (.cells #[.int .i64 mem, .slice oa nd oc, .slice oe nf of] 25)) := (Kept.refl _ _).alloc _
        have hbO := heap_alloc_new y1 (.cells #[.int .i64 mem, .slice oa nd oc, .slice oe nf of] 25)
        have HAy := hid_of (HA10.out.same (hky.trans hkM))
        have HOP2 := hid_of ((hpo.kept hkM (fun _ _ f => f)).up hkM.size)
        have HBO2 := hid_of hbO
        have HQK := hid_of HA10.out.ok
        clear HTW hop hky hkM hbO hpo d0 d1 d2
        go_upto_region 16 with fail
        generalize y1.alloc (.cells #[.int .i64 mem, .slice oa nd oc, .slice oe nf of] 25) = y2 at *
        generalize y1.heap.size = gw at *
        have HWY := hid_of HAy.out.kept.size
        have d0 := cell_block _ gm 0 _ _ _ HAy.out.bm
        have d1 := cell_block _ gm 1 _ _ _ HAy.out.bm
        have d2 := cell_block _ gm 2 _ _ _ HAy.out.bm
        have HEN := hid_of (encode_p _ _ y2 _ HAy.out.mine (Nat.le_refl _) HQK.out)
        go_wp2_with fail
        refine HEN.out.mono ?_
        intro e y3 h3
        obtain ⟨ao, ac, rfl, ho3, hk3⟩ := h3.two
        have HA3 := hid_of (HAy.out.same hk3)
        have HOP3 := hid_of ((HOP2.out.kept hk3 (fun _ _ f => f)).up hk3.size)
        have HBO3 := hid_of (box_kept hk3 HBO2.out (fun f => f))
        have HO3 := hid_of ho3
        clear HEN h3 ho3 hk3 HAy HOP2 HBO2 d0 d1 d2
        have d0 := cell_block _ gw 0 _ _ _ HBO3.out
        have d1 := cell_block _ gw 1 _ _ _ HBO3.out
        have d2 := cell_block _ gw 2 _ _ _ HBO3.out
        have HEN := hid_of (encode_p _ _ y3 _ HOP3.out (Nat.le_refl _) HQK.out)
        go_wp2_with fail
        refine HEN.out.mono ?_
        intro e y4 h4
        obtain ⟨bo, bc, rfl, ho4, hk4⟩ := h4.two
        have HA4 := hid_of (HA3.out.same hk4)
        have HOP4 := hid_of ((HOP3.out.kept hk4 (fun _ _ f => f)).up hk4.size)
        have HBO4 := hid_of (box_kept hk4 HBO3.out (fun f => f))
        have HO4 := hid_of (hk4.ownsRow HO3.out (fun _ _ f => f))
        have HB4 := hid_of ho4
        have HEBK := hid_of (EB_ok HQK.out)
        clear HEN h4 ho4 hk4 HA3 HOP3 HBO3 HO3 d0 d1 d2
        go_upto_region 18 with fail
        obtain ⟨Q, hQ⟩ : ∃ Q, Q = q2 := ⟨_, rfl⟩
        rw [← hQ] at HA4 HOP4 HO4 HB4 HEBK HQK ⊢
        clear hQ
        obtain ⟨bs, hbs⟩ : ∃ b, b = EB Q := ⟨_, rfl⟩
        rw [← hbs] at HO4 HB4 HEBK ⊢
        clear hbs
        obtain ⟨nb, hnb⟩ : ∃ n, n = bs.length := ⟨_, rfl⟩
        rw [← hnb] at HO4 HB4 ⊢
        have HNB := hid_of hnb
        clear hnb
        obtain ⟨er, her⟩ : ∃ r, r = encPE Q := ⟨_, rfl⟩
        rw [← her]
        clear her
        obtain ⟨ck, hck⟩ : ∃ r, r = checkP Q := ⟨_, rfl⟩
        obtain ⟨sq, hsq⟩ : ∃ r, r = sameP Q p := ⟨_, rfl⟩
        obtain ⟨sa, hsa⟩ : ∃ s, s = str bs := ⟨_, rfl⟩
        have HV1 : Hid (∀ W, Kept (fun _ => False) y4 W → (convert 22 9 (.slice ao nb ac)).run Try.prog W = .ok (.string sa) W) := fun W hW => by rw [hsa]; exact conv_str W _ bs ((isB_own HO4.out).kept hW (fun _ _ f => f))
        have HV2 : Hid (∀ W, Kept (fun _ => False) y4 W → (convert 22 9 (.slice bo nb bc)).run Try.prog W = .ok (.string sa) W) := fun W hW => by rw [hsa]; exact conv_str W _ bs ((isB_own HB4.out).kept hW (fun _ _ f => f))
        have HC1 : Hid (∀ W, Kept (fun _ => False) y4 W → Calls Try.prog 15 #[.agg #[.int .i64 mem, .slice (some ⟨gd, 0, none⟩) nd dc, .slice (some ⟨gf, 0, none⟩) nf fc]] W fun e w' => e = .returned (.int .i64 ck) ∧ Kept (fun _ => False) W w') := fun W hW => by rw [hck]; exact check_p _ Q W _ (HA4.out.same hW).mine (Nat.le_refl _) HQK.out
        have HC2 : Hid (∀ W, Kept (fun _ => False) y4 W → Calls Try.prog 15 #[.agg #[.int .i64 mem, .slice oa nd oc, .slice oe nf of]] W fun e w' => e = .returned (.int .i64 ck) ∧ Kept (fun _ => False) W w') := fun W hW => by rw [hck]; exact check_p _ Q W _ ((HOP4.out.kept hW (fun _ _ f => f)).up hW.size) (Nat.le_refl _) HQK.out
        have HC3 : Hid (∀ W, Kept (fun _ => False) y4 W → Calls Try.prog 16 #[.agg #[.int .i64 mem, .slice (some ⟨gd, 0, none⟩) nd dc, .slice (some ⟨gf, 0, none⟩) nf fc], .agg #[.int .i64 mp, .slice pda pnd pdc, .slice pfa pnf pfc]] W fun e w' => e = .returned (.bool sq) ∧ Kept (fun _ => False) W w') := fun W hW => by rw [hsq]; exact same_p _ _ Q p W _ (HA4.out.same hW).mine (HA4.out.same hW).old (Nat.le_refl _) HQK.out HOA.out
        have HC4 : Hid (∀ W, Kept (fun _ => False) y4 W → Calls Try.prog 8 #[.agg #[.int .i64 mem, .slice oa nd oc, .slice oe nf of], .agg #[.int .i64 mp, .slice pda pnd pdc, .slice pfa pnf pfc]] W fun e w' => e = .returned (.bool sq) ∧ Kept (fun _ => False) W w') := fun W hW => by rw [hsq]; exact rsame_any _ _ Q p W _ ((HOP4.out.kept hW (fun _ _ f => f)).up hW.size) (HA4.out.same hW).old (Nat.le_refl _) HQK.out HOA.out
        clear hck hsq hsa
        have HX0 := hid_of (show y4.cell? ⟨ga, 0, none⟩ = some (.int .i64 mp) from cell_block _ ga 0 _ _ _ HA4.out.ba)
        have HX1 := hid_of (show y4.cell? ⟨ga, 1, none⟩ = some (.slice pda pnd pdc) from cell_block _ ga 1 _ _ _ HA4.out.ba)
        have HX2 := hid_of (show y4.cell? ⟨ga, 2, none⟩ = some (.slice pfa pnf pfc) from cell_block _ ga 2 _ _ _ HA4.out.ba)
        have HY0 := hid_of (show y4.cell? ⟨gm, 0, none⟩ = some (.int .i64 mem) from cell_block _ gm 0 _ _ _ HA4.out.bm)
        have HY1 := hid_of (show y4.cell? ⟨gm, 1, none⟩ = some (.slice (some ⟨gd, 0, none⟩) nd dc) from cell_block _ gm 1 _ _ _ HA4.out.bm)
        have HY2 := hid_of (show y4.cell? ⟨gm, 2, none⟩ = some (.slice (some ⟨gf, 0, none⟩) nf fc) from cell_block _ gm 2 _ _ _ HA4.out.bm)
        have HZ0 := hid_of (show y4.cell? ⟨gw, 0, none⟩ = some (.int .i64 mem) from cell_block _ gw 0 _ _ _ HBO4.out)
        have HZ1 := hid_of (show y4.cell? ⟨gw, 1, none⟩ = some (.slice oa nd oc) from cell_block _ gw 1 _ _ _ HBO4.out)
        have HZ2 := hid_of (show y4.cell? ⟨gw, 2, none⟩ = some (.slice oe nf of) from cell_block _ gw 2 _ _ _ HBO4.out)
        refine wp_region_held_drew (S := fun w' => Kept (fun _ => False) y4 w') (by kernel_rfl) (Kept.refl _ _).drew (fun hHeld => ?_)
        refine wpAnyH_take (i := 0) (v := ?_) rfl (by kernel_rfl) (by kernel_rfl) (by kernel_rfl) (fun _ _ _ h => h) (Or.inl ⟨by rfl, ?_⟩) (by assumption) ?_
        rotate_left 1
        · intro w hSw
          go_simp
          try with_reducible rfl
        try simp only [Act.put, List.getElem_toArray, List.getElem_cons_zero, List.getElem_cons_succ, List.setIfInBounds_toArray, List.set_cons_zero, List.set_cons_succ]
        refine wpAnyH_take (i := 1) (v := ?_) rfl (by kernel_rfl) (by kernel_rfl) (by kernel_rfl) (fun _ _ _ h => h) (Or.inl ⟨by rfl, ?_⟩) (by assumption) ?_
        rotate_left 1
        · intro w hSw
          have q1 := HV1.out w hSw
          go_simp
          try with_reducible rfl
        try simp only [Act.put, List.getElem_toArray, List.getElem_cons_zero, List.getElem_cons_succ, List.setIfInBounds_toArray, List.set_cons_zero, List.set_cons_succ]
        refine wpAnyH_take (i := 2) (v := ?_) rfl (by kernel_rfl) (by kernel_rfl) (by kernel_rfl) (fun _ _ _ h => h) (Or.inl ⟨by rfl, ?_⟩) (by assumption) ?_
        rotate_left 1
        · intro w hSw
          go_simp
          try with_reducible rfl
        try simp only [Act.put, List.getElem_toArray, List.getElem_cons_zero, List.getElem_cons_succ, List.setIfInBounds_toArray, List.set_cons_zero, List.set_cons_succ]
        refine wpAnyH_take (i := 3) (v := ?_) rfl (by kernel_rfl) (by kernel_rfl) (by kernel_rfl) (fun _ _ _ h => h) (Or.inl ⟨by rfl, ?_⟩) (by assumption) ?_
        rotate_left 1
        · intro w hSw
          have q1 := HV2.out w hSw
          go_simp
          try with_reducible rfl
        try simp only [Act.put, List.getElem_toArray, List.getElem_cons_zero, List.getElem_cons_succ, List.setIfInBounds_toArray, List.set_cons_zero, List.set_cons_succ]
        refine wpAnyH_take (i := 4) (v := (.bool false)) rfl (by kernel_rfl) (by kernel_rfl) (by kernel_rfl) (fun _ _ _ h => h) (Or.inl ⟨by rfl, ?_⟩) (by assumption) ?_
        · intro w hSw
          go_simp
        try simp only [Act.put, List.getElem_toArray, List.getElem_cons_zero, List.getElem_cons_succ, List.setIfInBounds_toArray, List.set_cons_zero, List.set_cons_succ]
        refine wpAnyH_take (i := 5) (v := ?_) rfl (by kernel_rfl) (by kernel_rfl) (by kernel_rfl) (fun _ _ _ h => h) (Or.inl ⟨by rfl, ?_⟩) (by assumption) ?_
        rotate_left 1
        · intro w hSw
          go_simp
          try with_reducible rfl
        try simp only [Act.put, List.getElem_toArray, List.getElem_cons_zero, List.getElem_cons_succ, List.setIfInBounds_toArray, List.set_cons_zero, List.set_cons_succ]
        refine wpAnyH_take (i := 6) (v := ?_) rfl (by kernel_rfl) (by kernel_rfl) (by kernel_rfl) (fun _ _ _ h => h) (Or.inl ⟨by rfl, ?_⟩) (by assumption) ?_
        rotate_left 1
        · intro w hSw
          go_simp
          try with_reducible rfl
        try simp only [Act.put, List.getElem_toArray, List.getElem_cons_zero, List.getElem_cons_succ, List.setIfInBounds_toArray, List.set_cons_zero, List.set_cons_succ]
        refine wpAnyH_take (i := 7) (v := ?_) rfl (by kernel_rfl) (by kernel_rfl) (by kernel_rfl) (fun _ _ _ h => h) (Or.inl ⟨by rfl, ?_⟩) (by assumption) ?_
        rotate_left 1
        · intro w hSw
          go_simp
          try with_reducible rfl
        try simp only [Act.put, List.getElem_toArray, List.getElem_cons_zero, List.getElem_cons_succ, List.setIfInBounds_toArray, List.set_cons_zero, List.set_cons_succ]
        refine wpAnyH_take (i := 8) (v := (.bool false)) rfl (by kernel_rfl) (by kernel_rfl) (by kernel_rfl) (fun _ _ _ h => h) (Or.inl ⟨by rfl, ?_⟩) (by assumption) ?_
        · intro w hSw
          go_simp
        try simp only [Act.put, List.getElem_toArray, List.getElem_cons_zero, List.getElem_cons_succ, List.setIfInBounds_toArray, List.set_cons_zero, List.set_cons_succ]
        refine wpAnyH_take (i := 9) (v := ?_) rfl (by kernel_rfl) (by kernel_rfl) (by kernel_rfl) (fun _ _ _ h => h) (Or.inl ⟨by rfl, ?_⟩) (by assumption) ?_
        rotate_left 1
        · intro w hSw
          go_simp
          try with_reducible rfl
        try simp only [Act.put, List.getElem_toArray, List.getElem_cons_zero, List.getElem_cons_succ, List.setIfInBounds_toArray, List.set_cons_zero, List.set_cons_succ]
        refine wpAnyH_take (i := 10) (v := ?_) rfl (by kernel_rfl) (by kernel_rfl) (by kernel_rfl) (fun _ _ _ h => h) (Or.inl ⟨by rfl, ?_⟩) (by assumption) ?_
        rotate_left 1
        · intro w hSw
          go_simp
          try with_reducible rfl
        try simp only [Act.put, List.getElem_toArray, List.getElem_cons_zero, List.getElem_cons_succ, List.setIfInBounds_toArray, List.set_cons_zero, List.set_cons_succ]
        refine wpAnyH_take (i := 11) (v := ?_) rfl (by kernel_rfl) (by kernel_rfl) (by kernel_rfl) (fun _ _ _ h => h) (Or.inl ⟨by rfl, ?_⟩) (by assumption) ?_
        rotate_left 1
        · intro w hSw
          have q0 := Kept.cell hSw HY0.out (fun f => f)
          have q1 := Kept.cell hSw HY1.out (fun f => f)
          have q2 := Kept.cell hSw HY2.out (fun f => f)
          go_simp
          try with_reducible rfl
        try simp only [Act.put, List.getElem_toArray, List.getElem_cons_zero, List.getElem_cons_succ, List.setIfInBounds_toArray, List.set_cons_zero, List.set_cons_succ]
        refine wpAnyH_take (i := 13) (v := ?_) rfl (by kernel_rfl) (by kernel_rfl) (by kernel_rfl) (fun _ _ _ h => h) (Or.inl ⟨by rfl, ?_⟩) (by assumption) ?_
        rotate_left 1
        · intro w hSw
          have q0 := Kept.cell hSw HZ0.out (fun f => f)
          have q1 := Kept.cell hSw HZ1.out (fun f => f)
          have q2 := Kept.cell hSw HZ2.out (fun f => f)
          go_simp
          try with_reducible rfl
        try simp only [Act.put, List.getElem_toArray, List.getElem_cons_zero, List.getElem_cons_succ, List.setIfInBounds_toArray, List.set_cons_zero, List.set_cons_succ]
        refine wpAnyH_ready (rs := [12]) (by kernel_rfl) (by simp) ?_
        refine AllReadyH.cons rfl (fun K hK => ?_) AllReadyH.nil
        go_simp
        refine (HC1.out _ hHeld).mono ?_
        rintro e wn ⟨rfl, hkn⟩
        refine hK.out _ _ (Kept.trans hHeld hkn) (fun hHeld => ?_)
        clear hK K hkn
        try simp only [Act.put, List.getElem_toArray, List.getElem_cons_zero, List.getElem_cons_succ, List.setIfInBounds_toArray, List.set_cons_zero, List.set_cons_succ]
        refine wpAnyH_ready (rs := [14]) (by kernel_rfl) (by simp) ?_
        refine AllReadyH.cons rfl (fun K hK => ?_) AllReadyH.nil
        go_simp
        refine (HC2.out _ hHeld).mono ?_
        rintro e wn ⟨rfl, hkn⟩
        refine hK.out _ _ (Kept.trans hHeld hkn) (fun hHeld => ?_)
        clear hK K hkn
        try simp only [Act.put, List.getElem_toArray, List.getElem_cons_zero, List.getElem_cons_succ, List.setIfInBounds_toArray, List.set_cons_zero, List.set_cons_succ]
        refine wpAnyH_take (i := 15) (v := (.bool false)) rfl (by kernel_rfl) (by kernel_rfl) (by kernel_rfl) (fun _ _ _ h => h) (Or.inl ⟨by rfl, ?_⟩) (by assumption) ?_
        · intro w hSw
          go_simp
        try simp only [Act.put, List.getElem_toArray, List.getElem_cons_zero, List.getElem_cons_succ, List.setIfInBounds_toArray, List.set_cons_zero, List.set_cons_succ]
        refine wpAnyH_take (i := 16) (v := ?_) rfl (by kernel_rfl) (by kernel_rfl) (by kernel_rfl) (fun _ _ _ h => h) (Or.inl ⟨by rfl, ?_⟩) (by assumption) ?_
        rotate_left 1
        · intro w hSw
          go_simp
          try with_reducible rfl
        try simp only [Act.put, List.getElem_toArray, List.getElem_cons_zero, List.getElem_cons_succ, List.setIfInBounds_toArray, List.set_cons_zero, List.set_cons_succ]
        refine wpAnyH_take (i := 17) (v := ?_) rfl (by kernel_rfl) (by kernel_rfl) (by kernel_rfl) (fun _ _ _ h => h) (Or.inl ⟨by rfl, ?_⟩) (by assumption) ?_
        rotate_left 1
        · intro w hSw
          go_simp
          try with_reducible rfl
        try simp only [Act.put, List.getElem_toArray, List.getElem_cons_zero, List.getElem_cons_succ, List.setIfInBounds_toArray, List.set_cons_zero, List.set_cons_succ]
        refine wpAnyH_take (i := 18) (v := ?_) rfl (by kernel_rfl) (by kernel_rfl) (by kernel_rfl) (fun _ _ _ h => h) (Or.inl ⟨by rfl, ?_⟩) (by assumption) ?_
        rotate_left 1
        · intro w hSw
          have q0 := Kept.cell hSw HY0.out (fun f => f)
          have q1 := Kept.cell hSw HY1.out (fun f => f)
          have q2 := Kept.cell hSw HY2.out (fun f => f)
          go_simp
          try with_reducible rfl
        try simp only [Act.put, List.getElem_toArray, List.getElem_cons_zero, List.getElem_cons_succ, List.setIfInBounds_toArray, List.set_cons_zero, List.set_cons_succ]
        refine wpAnyH_take (i := 19) (v := ?_) rfl (by kernel_rfl) (by kernel_rfl) (by kernel_rfl) (fun _ _ _ h => h) (Or.inl ⟨by rfl, ?_⟩) (by assumption) ?_
        rotate_left 1
        · intro w hSw
          have q0 := Kept.cell hSw HX0.out (fun f => f)
          have q1 := Kept.cell hSw HX1.out (fun f => f)
          have q2 := Kept.cell hSw HX2.out (fun f => f)
          go_simp
          try with_reducible rfl
        try simp only [Act.put, List.getElem_toArray, List.getElem_cons_zero, List.getElem_cons_succ, List.setIfInBounds_toArray, List.set_cons_zero, List.set_cons_succ]
        refine wpAnyH_take (i := 21) (v := ?_) rfl (by kernel_rfl) (by kernel_rfl) (by kernel_rfl) (fun _ _ _ h => h) (Or.inl ⟨by rfl, ?_⟩) (by assumption) ?_
        rotate_left 1
        · intro w hSw
          have q0 := Kept.cell hSw HZ0.out (fun f => f)
          have q1 := Kept.cell hSw HZ1.out (fun f => f)
          have q2 := Kept.cell hSw HZ2.out (fun f => f)
          go_simp
          try with_reducible rfl
        try simp only [Act.put, List.getElem_toArray, List.getElem_cons_zero, List.getElem_cons_succ, List.setIfInBounds_toArray, List.set_cons_zero, List.set_cons_succ]
        refine wpAnyH_take (i := 22) (v := ?_) rfl (by kernel_rfl) (by kernel_rfl) (by kernel_rfl) (fun _ _ _ h => h) (Or.inl ⟨by rfl, ?_⟩) (by assumption) ?_
        rotate_left 1
        · intro w hSw
          have q0 := Kept.cell hSw HX0.out (fun f => f)
          have q1 := Kept.cell hSw HX1.out (fun f => f)
          have q2 := Kept.cell hSw HX2.out (fun f => f)
          go_simp
          try with_reducible rfl
        try simp only [Act.put, List.getElem_toArray, List.getElem_cons_zero, List.getElem_cons_succ, List.setIfInBounds_toArray, List.set_cons_zero, List.set_cons_succ]
        refine wpAnyH_ready (rs := [20]) (by kernel_rfl) (by simp) ?_
        refine AllReadyH.cons rfl (fun K hK => ?_) AllReadyH.nil
        go_simp
        refine (HC3.out _ hHeld).mono ?_
        rintro e wn ⟨rfl, hkn⟩
        refine hK.out _ _ (Kept.trans hHeld hkn) (fun hHeld => ?_)
        clear hK K hkn
        try simp only [Act.put, List.getElem_toArray, List.getElem_cons_zero, List.getElem_cons_succ, List.setIfInBounds_toArray, List.set_cons_zero, List.set_cons_succ]
        refine wpAnyH_ready (rs := [23]) (by kernel_rfl) (by simp) ?_
        refine AllReadyH.cons rfl (fun K hK => ?_) AllReadyH.nil
        go_simp
        refine (HC4.out _ hHeld).mono ?_
        rintro e wn ⟨rfl, hkn⟩
        refine hK.out _ _ (Kept.trans hHeld hkn) (fun hHeld => ?_)
        clear hK K hkn
        try simp only [Act.put, List.getElem_toArray, List.getElem_cons_zero, List.getElem_cons_succ, List.setIfInBounds_toArray, List.set_cons_zero, List.set_cons_succ]
        refine wpAnyH_take (i := 24) (v := (.bool false)) rfl (by kernel_rfl) (by kernel_rfl) (by kernel_rfl) (fun _ _ _ h => h) (Or.inl ⟨by rfl, ?_⟩) (by assumption) ?_
        · intro w hSw
          go_simp
          try (cases sq <;> rfl)
        try simp only [Act.put, List.getElem_toArray, List.getElem_cons_zero, List.getElem_cons_succ, List.setIfInBounds_toArray, List.set_cons_zero, List.set_cons_succ]
        refine wpAnyH_take (i := 25) (v := ?_) rfl (by kernel_rfl) (by kernel_rfl) (by kernel_rfl) (fun _ _ _ h => h) (Or.inl ⟨by rfl, ?_⟩) (by assumption) ?_
        rotate_left 1
        · intro w hSw
          go_simp
          try with_reducible rfl
        try simp only [Act.put, List.getElem_toArray, List.getElem_cons_zero, List.getElem_cons_succ, List.setIfInBounds_toArray, List.set_cons_zero, List.set_cons_succ]
        refine wpAnyH_done (by kernel_rfl) ?_ _
        have HWN := hid_of hHeld
        clear hHeld HV1 HV2 HC1 HC2 HC3 HC4 HX0 HX1 HX2 HY0 HY1 HY2 HZ0 HZ1 HZ2
        have HKN := hid_of (HA4.out.kept.trans HWN.out)
        have HO5 := hid_of (HWN.out.ownsRow HO4.out (fun _ _ f => f))
        have hpos : 0 < wn.heap.size := Nat.lt_of_le_of_lt (Nat.zero_le _) (Nat.lt_of_lt_of_le (Array.getElem?_eq_some_iff.1 HA4.out.bm).1 HWN.out.size)
        clear HA4 HOP4 HBO4 HO4 HB4 HWN
        obtain ⟨gz, hgz, hri⟩ := (srcR_own HO5.out).at (Kept.refl _ _) hpos
        have hD := decode_p gz ao ac bs wn (by rw [← HNB.out]; exact hri) hgz HEBK.out
        rw [← HNB.out] at hD
        have HD := hid_of hD
        clear hD hri hgz hpos
        go_wp2_with fail
        refine HD.out.mono ?_
        intro e y6 h6
        obtain ⟨mx, xda, xnd, xdc, xfa, xnf, xfc, rfl, _, _, hk6⟩ := h6.two
        have HK6 := hid_of (HKN.out.trans hk6)
        have HO6 := hid_of (hk6.ownsRow HO5.out (fun _ _ f => f))
        clear HD h6 hk6 HO5 HKN
        generalize eOf bs = ex at *
        by_cases hb0 : nb = 0
        · subst hb0
          go_wp2
          go_ret
          exact ⟨rfl, HK6.out⟩
        · have hbN : 0 < nb := by omega
          have hbI : (0 : Int) < (nb : Int) := by omega
          have hbe : ((nb : Int) == 0) = false := by simp; omega
          have hnbI : (nb : Int) ≤ 140737488351232 := by have := HEBK.out.2; have := HNB.out; omega
          go_wp2_with fail
          refine (in_any ax nb y6 HA0.out HA1.out hbN (by omega)).mono ?_
          rintro e y7 ⟨⟨j, hj, rfl⟩, rfl⟩
          have hjI : (j : Int) < (nb : Int) := by omega
          obtain ⟨g1, hg1⟩ : ∃ g, ao = some ⟨g, 0, none⟩ := by
            obtain ⟨g, c, e⟩ := own_at0 HO6.out hbN
            simp only [Value.slice.injEq] at e
            exact ⟨g, e.1⟩
          subst hg1
          obtain ⟨x1, hx1⟩ : ∃ x, bs[j]? = some x := ⟨_, List.getElem?_eq_getElem (by have := HNB.out; omega)⟩
          have t0 : y7.cell? ⟨g1, j, none⟩ = some (.int .u8 x1) := by
            rw [HO6.out.cellAt _ (by omega), List.getElem?_map, hx1]
            rfl
          have tf : y7.frozen? ⟨g1, j, none⟩ = false := World.ownsRow.frozenAt HO6.out _
          clear hx1
          go_upto_region 25 with fail
          have hzb := bits_u8 x1 1
          generalize bits .xor .u8 x1 1 = z at *
          have hst := (World.ownsRow.stored HO6.out j (.int .u8 z)).1
          rw [← List.map_set] at hst
          have hks := kept_set y7 g1 j (.int .u8 z)
          have HK7 := hid_of (HK6.out.step hks (fun i hi e => by have := (HO6.out.lt g1 rfl).1; have := HWY.out; omega))
          have hbs2 : BytesOk (bs.set j z) := ⟨fun x hx => by
            rcases List.mem_or_eq_of_mem_set hx with h | rfl
            · exact HEBK.out.1 x h
            · exact hzb, by rw [List.length_set]; exact HEBK.out.2⟩
          obtain ⟨cs, hcs⟩ : ∃ c, c = bs.set j z := ⟨_, rfl⟩
          rw [← hcs] at hst hbs2
          have hncs : nb = cs.length := by rw [hcs, List.length_set]; exact HNB.out
          clear hks hcs hzb HO6 HK6 t0 tf
          generalize y7.setCell ⟨g1, j, none⟩ (.int .u8 z) = y8 at *
          have hE := heap_alloc_new y8 (.cells #[] 5)
          have hkE : Kept (fun _ => False) y8 (y8.alloc (.cells #[] 5)) := (Kept.refl _ _).alloc _
          obtain ⟨v9, y9, hr9, ho9, h39⟩ := app_any (y8.alloc (.cells #[] 5)) (.slice (some ⟨y8.heap.size, 0, none⟩) 0 0) 0 y8.heap.size [] 22 (.slice (some ⟨g1, 0, none⟩) nb ac) cs (own_zero hE (Nat.le_refl _)) ((isB_own hst).kept hkE (fun _ _ f => f)) hkE.size (by have := hbs2.2; omega)
          rw [Nat.zero_add, List.nil_append, ← hncs] at ho9
          obtain ⟨co, cc9, hv9⟩ := ownsRow_shape ho9
          subst hv9
          have hk9 : Kept (fun _ => False) y8 y9 := hkE.grown h39 (fun k hk => .inl (by simp [Value.ownBlock] at hk; omega))
          have HR9 := hid_of hr9
          have HO9 := hid_of ho9
          have HA9 := hid_of (hk9.ownsRow hst (fun _ _ f => f))
          have HK9 := hid_of (HK7.out.trans hk9)
          have HBZ := hid_of hbs2
          have HNC9 := hid_of hncs
          clear hE hkE hr9 ho9 h39 hk9 hst hbs2 hncs HK7
          go_upto_region 26 with (at_builtin; refine wp_app rfl (.tmp 147) (.tmp 148) 22 22 rfl _ _ rfl rfl _ y9 HR9.out ?_)
          obtain ⟨gz, hgz, hri⟩ := (srcR_own HA9.out).at (Kept.refl _ _) (Nat.lt_of_le_of_lt (Nat.zero_le _) (HA9.out.lt g1 rfl).2)
          have hD := decode_p gz (some ⟨g1, 0, none⟩) ac cs y9 (by rw [← HNC9.out]; exact hri) hgz HBZ.out
          rw [← HNC9.out] at hD
          have HD := hid_of hD
          clear hD hri hgz HR9
          go_wp2_with fail
          refine HD.out.mono ?_
          intro e y10 h10
          obtain ⟨m1, a1, n1, c1, b1, k1, e1, rfl, hp10, hpk, hk10⟩ := h10.two
          have hkA : Kept (fun _ => False) y10 (y10.alloc (.cells #[.int .i64 m1, .slice a1 n1 c1, .slice b1 k1 e1] 25)) := (Kept.refl _ _).alloc _
          have hbA := heap_alloc_new y10 (.cells #[.int .i64 m1, .slice a1 n1 c1, .slice b1 k1 e1] 25)
          have HP10 := hid_of (hp10.kept hkA (fun _ _ f => f))
          have HO11 := hid_of ((hk10.trans hkA).ownsRow HO9.out (fun _ _ f => f))
          have HB11 := hid_of hbA
          have HK11 := hid_of (HK9.out.trans (hk10.trans hkA))
          have HPK := hid_of hpk
          obtain ⟨gy, hgy, hry⟩ := (srcR_own HO11.out).at (Kept.refl _ _) (Nat.lt_of_le_of_lt (Nat.zero_le _) (Array.getElem?_eq_some_iff.1 hbA).1)
          have hD := decode_p gy co cc9 cs _ (by rw [← HNC9.out]; exact hry) hgy HBZ.out
          rw [← HNC9.out] at hD
          have HD2 := hid_of hD
          clear hD hry hgy h10 HD hk10 hkA hbA hp10 hpk HA9 HO9 HK9
          go_upto_region 27 with fail
          generalize y10.alloc (.cells #[.int .i64 m1, .slice a1 n1 c1, .slice b1 k1 e1] 25) = y11 at *
          generalize y10.heap.size = gp1 at *
          go_wp2_with fail
          refine HD2.out.mono ?_
          intro e y12 h12
          obtain ⟨m2, a2, n2, c2, b2, k2, e2, rfl, hp12, _, hk12⟩ := h12.two
          have hkB : Kept (fun _ => False) y12 (y12.alloc (.cells #[.int .i64 m2, .slice a2 n2 c2, .slice b2 k2 e2] 25)) := (Kept.refl _ _).alloc _
          have hbB := heap_alloc_new y12 (.cells #[.int .i64 m2, .slice a2 n2 c2, .slice b2 k2 e2] 25)
          have hbP := box_kept (hk12.trans hkB) HB11.out (fun f => f)
          have hP1 := HP10.out.kept (hk12.trans hkB) (fun _ _ f => f)
          have hP2 := hp12.kept hkB (fun _ _ f => f)
          have hgl : gp1 < y12.heap.size := Nat.lt_of_lt_of_le (Array.getElem?_eq_some_iff.1 HB11.out).1 hk12.size
          have hSM := rsame_any _ _ (pOf cs) (pOf cs) _ y12.heap.size (hP1.up (Nat.le_of_lt hgl)) hP2 hkB.size HPK.out HPK.out
          rw [sameP_refl] at hSM
          have HSM := hid_of hSM
          have HK13 := hid_of (HK11.out.trans (hk12.trans hkB))
          have p0 := cell_block _ gp1 0 _ _ _ hbP
          have p1 := cell_block _ gp1 1 _ _ _ hbP
          have p2 := cell_block _ gp1 2 _ _ _ hbP
          have r0 := cell_block _ y12.heap.size 0 _ _ _ hbB
          have r1 := cell_block _ y12.heap.size 1 _ _ _ hbB
          have r2 := cell_block _ y12.heap.size 2 _ _ _ hbB
          clear hkB hbB hbP hP1 hP2 hgl hSM h12 hk12 hp12 HD2 HP10 HO11 HB11 HK11
          go_wp2_with fail
          generalize y12.alloc (.cells #[.int .i64 m2, .slice a2 n2 c2, .slice b2 k2 e2] 25) = y13 at *
          generalize y12.heap.size = gp2 at *
          refine HSM.out.mono ?_
          rintro e y14 ⟨rfl, hk14⟩
          have HK14 := hid_of (HK13.out.trans hk14)
          clear HSM hk14 HK13 p0 p1 p2 r0 r1 r2
          generalize eOf cs = ez at *
          go_wp2
          go_ret
          exact ⟨rfl, HK14.out⟩
end Go.Proofs.Ytnjhnlohjhdcpab
