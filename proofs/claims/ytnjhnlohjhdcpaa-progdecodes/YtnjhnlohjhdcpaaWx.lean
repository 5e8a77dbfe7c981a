/-
  ProgDecodes: the walk.
-/
import Derived.Test.YtnjhnlohjhdcpaaRr
import Derived.Test.YtnjhnlohjhdcpaaWo
import Derived.Test.YtnjhnlohjhdcpaaDw
import Derived.Test.YtnjhnlohjhdcpaaQl
namespace Go.Proofs.Ytnjhnlohjhdcpaa
open Go.ChangeShapes Go.WideShapes Go.ChangeAt Go.RowKit Go.Deep
set_option linter.unusedVariables false
set_option linter.unusedSimpArgs false
set_option maxRecDepth 100000

/-- What both Decodes answer. -/
def pOf (xs : List Int) : PG := match decPD xs with | .error _ => noneP | .ok p => p
def eOf (xs : List Int) : Int := match decPD xs with | .error f => f | .ok _ => 0
def Dec2 (xs : List Int) (w : World) (e : Ending) (w' : World) : Prop :=
  ∃ (mem : Int) (dao : Option Addr) (nd dc : Nat) (fao : Option Addr) (nf fc : Nat), e = .returned (.tuple #[.agg #[.int .i64 mem, .slice dao nd dc, .slice fao nf fc], .int .i64 (eOf xs)]) ∧
    PgU w.heap.size w' (.agg #[.int .i64 mem, .slice dao nd dc, .slice fao nf fc]) (pOf xs) ∧ (pOf xs).Ok ∧ Kept (fun _ => False) w w'
theorem dec2_of {xs : List Int} {w w' : World} {p : PG} {dv fv : Value} (hd : decPD xs = .ok p) (hp : PgU w.heap.size w' (.agg #[.int .i64 p.mem, dv, fv]) p) (hok : p.Ok) (hk : Kept (fun _ => False) w w') :
    Dec2 xs w (.returned (.tuple #[.agg #[.int .i64 p.mem, dv, fv], .int .i64 0])) w' := by
  have hp0 := hp
  obtain ⟨dv', fv', cvs, e, h1, h2, h3⟩ := hp
  simp only [Value.agg.injEq, Array.mk.injEq, List.cons.injEq, and_true, true_and] at e
  obtain ⟨rfl, rfl⟩ := e
  obtain ⟨dao, dc, rfl⟩ := h1.shape
  obtain ⟨fao, fc, rfl⟩ := ownsRow_shape h3.row
  have e1 : pOf xs = p := by unfold pOf; rw [hd]
  have e2 : eOf xs = 0 := by unfold eOf; rw [hd]
  refine ⟨_, _, _, _, _, _, _, by rw [e2], ?_, by rw [e1]; exact hok, hk⟩
  rw [e1]
  exact hp0
theorem dec2_err {xs : List Int} {w w' : World} {f : Int} (hd : decPD xs = .error f) (hk : Kept (fun _ => False) w w') :
    Dec2 xs w (.returned (.tuple #[.agg #[.int .i64 0, .slice none 0 0, .slice none 0 0], .int .i64 f])) w' := by
  have e1 : pOf xs = noneP := by unfold pOf; rw [hd]
  have e2 : eOf xs = f := by unfold eOf; rw [hd]
  refine ⟨_, _, _, _, _, _, _, by rw [e2], ?_, by rw [e1]; exact noneP_ok, hk⟩
  rw [e1]
  exact ⟨_, _, [], rfl, .inl ⟨rfl, none, 0, rfl⟩, (fun q hq => by cases hq), OwnF.nil _ _⟩
theorem DecPR.two {xs : List Int} {w w' : World} {e : Ending} (h : DecPR xs w e w') : Dec2 xs w e w' := by
  obtain ⟨hk, h⟩ := h
  cases hd : decPD xs with
  | error f => rw [hd] at h; subst h; exact dec2_err hd hk
  | ok p =>
    rw [hd] at h
    obtain ⟨⟨dv, fv, cvs, rfl, hop⟩, hok⟩ := h
    exact dec2_of hd ⟨dv, fv, cvs, rfl, isB_own hop.dat, fun q hq => hop.dat.lt q hq, hop.fns⟩ hok hk
theorem DecQR.two {xs : List Int} {w w' : World} {e : Ending} (h : DecQR xs w e w') : Dec2 xs w e w' := by
  obtain ⟨hk, h⟩ := h
  cases hd : decPD xs with
  | error f => rw [hd] at h; subst h; exact dec2_err hd hk
  | ok p =>
    rw [hd] at h
    obtain ⟨⟨dv, fv, rfl, hp⟩, hok⟩ := h
    exact dec2_of hd hp hok hk
theorem SrcR.capd {w : World} {v : Value} {xs : List Int} (h : SrcR w v xs) : Capd v xs.length := by
  rcases h with ⟨rfl, rfl⟩ | ⟨g, h1, h2, h3⟩
  · exact .inl rfl
  · rcases h2 with ⟨rfl, ao, hao, rfl⟩ | ⟨o, c, rfl, hc, _⟩
    · rcases hao with rfl | ⟨o, rfl⟩
      · exact .inl rfl
      · exact .inr ⟨_, 0, rfl, Nat.le_refl _⟩
    · exact .inr ⟨_, c, rfl, hc⟩
theorem SrcR.low {w : World} {v : Value} {xs : List Int} (h : SrcR w v xs) : ∀ b, v.ownBlock = some b → b < w.heap.size := by
  rcases h with ⟨rfl, rfl⟩ | ⟨g, h1, h2, h3⟩
  · intro b hb; cases hb
  · intro b hb
    rw [h3] at hb
    cases hb
    exact h1
theorem srcR_own {w : World} {base : Nat} {v : Value} {n : Nat} {xs : List Int} (h : w.ownsRow base 5 1 v n (xs.map (Value.int .u8))) : SrcR w v xs := by
  have h0 := h
  have hn : xs.length = n := by have := h.1; simpa using this
  rcases h.2 with ⟨rfl, h0⟩ | ⟨g, cap, cur, rfl, hb, hg, hc, hm, hs, ht⟩
  · exact .inl ⟨rfl, List.length_eq_zero_iff.1 (by omega)⟩
  · have hgl := (Array.getElem?_eq_some_iff.1 hg).1
    refine .inr ⟨g, hgl, ?_, by simp [Value.ownBlock]⟩
    obtain ⟨g', _, h2⟩ := isR_own2 h0 hgl
    rcases h2 with ⟨rfl, ao, hao, e⟩ | ⟨o, c, e, r⟩
    · cases e
      exact .inl ⟨rfl, some ⟨g, 0, none⟩, .inr ⟨0, rfl⟩, rfl⟩
    · cases e
      exact .inr ⟨_, _, rfl, r⟩
theorem Lent5.isR {w : World} {g : Nat} {xs : List Int} (h : Lent5 w g xs 5) (hl : xs.length ≤ 140737488351232) : IsR w g (.slice (some ⟨g, 0, none⟩) xs.length (xs.length + 5)) xs :=
  .inr ⟨0, xs.length + 5, rfl, by omega, by omega, by unfold maxLen; omega, fun i hi => by rw [Nat.zero_add]; exact h.at hi⟩

set_option maxHeartbeats 8000000 in
theorem decodes_walk (ao : Option Addr) (c : Nat) (xs : List Int) (tv : Value) (its : List ItV) (w : World) (hx : SrcR w (.slice ao xs.length c) xs) (hib : IsB w (.slice ao xs.length c) xs) (hb : BytesOk xs)
    (hr : RowT w tv its) (hm : its.length ≤ 140737488351232) (hok : ∀ x ∈ its, ItW w x) :
    Calls Try.prog 5 #[.slice ao xs.length c, tv] w fun e w' => e = .returned (.bool true) ∧ Kept (fun _ => False) w w' := by
  have htv : ∃ ta tn tc, tv = .slice ta tn tc := by
    rcases hr with ⟨_, ao, c, rfl⟩ | ⟨g, o, c, rfl, _⟩
    · exact ⟨_, _, _, rfl⟩
    · exact ⟨_, _, _, rfl⟩
  obtain ⟨ta, tn, tc, rfl⟩ := htv
  obtain ⟨n, hn⟩ : ∃ n, n = xs.length := ⟨_, rfl⟩
  have HX := hid_of hx
  have HB := hid_of hb
  have HIB := hid_of hib
  have HR := hid_of hr
  have HM := hid_of hm
  have HOK := hid_of hok
  rw [← hn] at HX HIB ⊢
  have HN := hid_of hn
  clear hx hb hib hn hr hm hok
  go_enter Try.func5, Try.ntmps5
  go_wp2_with fail
  refine (known_pos w).mono ?_
  rintro e w1 ⟨rfl, hk1, hs1⟩
  have hL := lend5_any (.slice ao n c) xs w1 (HIB.out.kept hk1 (fun _ _ f => f)) (by have := HB.out.2; omega)
  rw [← HN.out] at hL
  have HL := hid_of hL
  have HK1 := hid_of hk1
  clear hk1 hL
  go_wp2_with fail
  refine HL.out.mono ?_
  rintro e w2 ⟨rfl, hl2, hk2⟩
  generalize hg1 : w1.heap.size = g1 at *
  have hg2 : g1 < w2.heap.size := by
    obtain ⟨cur, h, _⟩ := hl2
    exact (Array.getElem?_eq_some_iff.1 h).1
  have hD := decode_p g1 (some ⟨g1, 0, none⟩) (n + 5) xs w2 (by have := hl2.isR HB.out.2; rw [HN.out]; exact this) hg2 HB.out
  rw [← HN.out] at hD
  have HD := hid_of hD
  have HL2 := hid_of hl2
  have HK2 := hid_of (HK1.out.trans hk2)
  clear hk2 hl2 hD HL
  go_wp2_with fail
  refine HD.out.mono ?_
  intro e w3 h3
  obtain ⟨mp, dao, nd, dc, fao, nf, fc, rfl, hp3, hpk, hk3⟩ := h3.two
  have HL3 := hid_of (HL2.out.kept hk3 (fun f => f))
  have HK3 := hid_of (HK2.out.trans hk3)
  clear h3 hk3 HD HL2
  have hkA : Kept (fun _ => False) w3 (w3.alloc (.cells #[.int .i64 mp, .slice dao nd dc, .slice fao nf fc] 25)) := (Kept.refl _ _).alloc _
  have hbA := heap_alloc_new w3 (.cells #[.int .i64 mp, .slice dao nd dc, .slice fao nf fc] 25)
  have hQ := rdecode_any ao c xs (w3.alloc (.cells #[.int .i64 mp, .slice dao nd dc, .slice fao nf fc] 25)) (by rw [← HN.out]; exact HIB.out.kept (HK3.out.trans hkA) (fun _ _ f => f)) HB.out (by rw [← HN.out]; have := HX.out.capd; rw [← HN.out] at this; exact this) (by rw [← HN.out]; exact fun b hb => Nat.lt_of_lt_of_le (HX.out.low b hb) (HK3.out.trans hkA).size)
  rw [← HN.out] at hQ
  have HQ := hid_of hQ
  have HKA := hid_of (HK3.out.trans hkA)
  have HLA := hid_of (HL3.out.kept hkA (fun f => f))
  have HPA := hid_of (hp3.pg.kept hkA (fun _ _ f => f))
  have HBA := hid_of hbA
  have HSA := hid_of hkA.size
  have HPK := hid_of hpk
  clear hkA hbA hQ hp3 hpk HL3
  -- PART2
  go_wp2_with fail
  generalize hwA : w3.alloc (.cells #[.int .i64 mp, .slice dao nd dc, .slice fao nf fc] 25) = wA at *
  have hwg := HK3.out.size
  generalize hg3 : w3.heap.size = g3 at *
  have HWG := hid_of hwg
  clear hwg
  refine HQ.out.mono ?_
  intro e w5 h5
  obtain ⟨mq, eao, ne, ec, hao, nh, hc, rfl, hq5, _, hk5⟩ := h5.two
  clear h5 HQ hwA
  have hkB : Kept (fun _ => False) w5 (w5.alloc (.cells #[.int .i64 mq, .slice eao ne ec, .slice hao nh hc] 25)) := (Kept.refl _ _).alloc _
  have hbB := heap_alloc_new w5 (.cells #[.int .i64 mq, .slice eao ne ec, .slice hao nh hc] 25)
  have hbP := ((hk5.trans hkB).block _ (Array.getElem?_eq_some_iff.1 HBA.out).1 (fun f => f)).trans HBA.out
  have HPB := hid_of (HPA.out.kept (hk5.trans hkB) (fun _ _ f => f))
  have HQB := hid_of (hq5.pg.kept hkB (fun _ _ f => f))
  have c0 := cell_block _ w5.heap.size 0 _ _ _ hbB
  have c1 := cell_block _ w5.heap.size 1 _ _ _ hbB
  have c2 := cell_block _ w5.heap.size 2 _ _ _ hbB
  have d0 := cell_block _ g3 0 _ _ _ hbP
  have d1 := cell_block _ g3 1 _ _ _ hbP
  have d2 := cell_block _ g3 2 _ _ _ hbP
  have hg35 : g3 < w5.heap.size := Nat.lt_of_lt_of_le (Array.getElem?_eq_some_iff.1 HBA.out).1 hk5.size
  have HG35 := hid_of hg35
  have HBP := hid_of hbP
  have HBB := hid_of hbB
  have HKB := hid_of (HKA.out.trans (hk5.trans hkB))
  have HLB := hid_of (HLA.out.kept (hk5.trans hkB) (fun f => f))
  have hSM := rsame_any _ _ (pOf xs) (pOf xs) _ w5.heap.size (HPB.out.up (Nat.le_of_lt hg35)) HQB.out hkB.size HPK.out HPK.out
  rw [sameP_refl] at hSM
  have HSM := hid_of hSM
  clear hkB hbB hbP hk5 hq5 hSM HLA HKA HBA HPA HSA hg35
  go_wp2_with fail
  generalize hwB : w5.alloc (.cells #[.int .i64 mq, .slice eao ne ec, .slice hao nh hc] 25) = wB at *
  generalize hg5 : w5.heap.size = g5 at *
  refine HSM.out.mono ?_
  rintro e w6 ⟨rfl, hk6⟩
  have HL6 := HLB.out.kept hk6 (fun f => f)
  have hH := held5_any g1 (.slice ao n c) xs w6 HL6 (HIB.out.kept (HKB.out.trans hk6) (fun _ _ f => f)) (by have := HB.out.2; omega)
  rw [← HN.out] at hH
  have HH := hid_of hH
  have hb6p := (hk6.block _ (Array.getElem?_eq_some_iff.1 HBP.out).1 (fun f => f)).trans HBP.out
  have hb6q := (hk6.block _ (Array.getElem?_eq_some_iff.1 HBB.out).1 (fun f => f)).trans HBB.out
  have HB6P := hid_of hb6p
  have HB6Q := hid_of hb6q
  have HK6 := hid_of (HKB.out.trans hk6)
  clear hH HL6 hk6 HSM c0 c1 c2 d0 d1 d2 hb6p hb6q HBP HBB HPB HQB hwB hg5 hg3
  generalize eOf xs = fl at *
  -- PART3
  go_wp2_with fail
  refine HH.out.mono ?_
  rintro e w7 ⟨rfl, rfl⟩
  have HDN := hid_of (rdone_w (.slice ta tn tc) its w7 (HR.out.kept HK6.out) HM.out (fun x hx => ⟨(HOK.out x hx).n0, (HOK.out x hx).n1, (HOK.out x hx).b.kept HK6.out (fun _ _ f => f), (HOK.out x hx).ok⟩))
  clear HH HR HM HOK HLB
  go_wp2_with fail
  refine HDN.out.mono ?_
  rintro e w8 ⟨v8, g8, zs, rfl, ho8, hz8, hl8, hk8⟩
  clear HDN
  obtain ⟨zo, zc, rfl⟩ := ownsRow_shape ho8
  obtain ⟨nz, hnz⟩ : ∃ n, n = zs.length := ⟨_, rfl⟩
  have hS8 := srcR_own ho8
  have hI8 := isB_own ho8
  have hb8p := (hk8.block _ (Array.getElem?_eq_some_iff.1 HB6P.out).1 (fun f => f)).trans HB6P.out
  have hb8q := (hk8.block _ (Array.getElem?_eq_some_iff.1 HB6Q.out).1 (fun f => f)).trans HB6Q.out
  have hBZ : BytesOk zs := ⟨hz8, by omega⟩
  have HK8 := hid_of (HK6.out.trans hk8)
  rw [← hnz] at hS8 hI8 ⊢
  have HNZ := hid_of hnz
  have HS8 := hid_of hS8
  have HOW : Hid (∀ q, (Value.slice zo nz zc).ownBlock = some q → g3 < q ∧ g5 < q) := fun q hq => by
    have h1 := (ho8.lt q (by rw [← hnz]; exact hq)).1
    have h2 := (Array.getElem?_eq_some_iff.1 HB6P.out).1
    have h3 := (Array.getElem?_eq_some_iff.1 HB6Q.out).1
    exact ⟨by omega, by omega⟩
  have HI8 := hid_of hI8
  have HB8P := hid_of hb8p
  have HB8Q := hid_of hb8q
  have HBZ := hid_of hBZ
  clear hS8 hI8 hb8p hb8q hBZ hk8 ho8 hz8 hl8 hnz HB6P HB6Q HK6
  by_cases hg : g8 = 0
  · subst hg
    have hp8 : 0 < w8.heap.size := Nat.lt_of_le_of_lt (Nat.zero_le _) (Array.getElem?_eq_some_iff.1 HB8P.out).1
    obtain ⟨gz, hgz, hri⟩ := HS8.out.at (Kept.refl _ _) hp8
    have hD := decode_p gz zo zc zs w8 (by rw [← HNZ.out]; exact hri) hgz HBZ.out
    rw [← HNZ.out] at hD
    have HD := hid_of hD
    clear hD hri hgz hp8
    -- PART4
    go_wp2_with fail
    refine HD.out.mono ?_
    intro e w9 h9
    obtain ⟨mp9, pao, np, pc, rao, nr, rc, rfl, hp9, hpk9, hk9⟩ := h9.two
    have hg38 := (Array.getElem?_eq_some_iff.1 HB8P.out).1
    have hg58 := (Array.getElem?_eq_some_iff.1 HB8Q.out).1
    have hb9p := (hk9.block _ hg38 (fun f => f)).trans HB8P.out
    have hb9q := (hk9.block _ hg58 (fun f => f)).trans HB8Q.out
    have hkr := kept_row w9 g3 #[.int .i64 mp9, .slice pao np pc, .slice rao nr rc]
    have HB10P := hid_of (setRow_heap w9 g3 _ #[.int .i64 mp9, .slice pao np pc, .slice rao nr rc] 25 (0, 0) hb9p)
    have HB10Q := hid_of (box_kept hkr hb9q (by have := HG35.out; omega))
    have HP10 := hid_of (hp9.kept hkr (fun q hq e => by omega))
    have HI10 := hid_of ((HI8.out.kept hk9 (fun _ _ f => f)).kept hkr (fun q hq e => by have := HOW.out q hq; omega))
    have HK10 := hid_of ((HK8.out.trans hk9).step hkr (fun i hi e => by have := HWG.out; omega))
    have HC8 := hid_of HS8.out.capd
    have HLO := hid_of (fun b hb => Nat.lt_of_lt_of_le (Nat.lt_of_lt_of_le (HS8.out.low b hb) hk9.size) hkr.size)
    have hg810 := Nat.lt_of_lt_of_le (Nat.lt_of_lt_of_le hg58 hk9.size) hkr.size
    have hg310 := Nat.lt_of_lt_of_le (Nat.lt_of_lt_of_le hg38 hk9.size) hkr.size
    have HPK9 := hid_of hpk9
    have HG10 := hid_of (And.intro hg310 hg810)
    have HG8 := hid_of (And.intro hg38 hg58)
    clear h9 HD hk9 hp9 hpk9 HB8P HB8Q hkr hb9q HK8 HS8 HI8 hg38 hg58 hg810 hg310
    go_upto_region 12 with (refine wpList_store_row rfl 25 _ _ rfl g3 #[.int .i64 mp9, .slice pao np pc, .slice rao nr rc] rfl rfl 25 _ hb9p size25 rfl (three_one _ _ _ rfl rfl rfl) ?_)
    generalize w9.setRow g3 #[.int .i64 mp9, .slice pao np pc, .slice rao nr rc] = w10 at *
    clear hb9p
    have hQ := rdecode_any zo zc zs w10 (by rw [← HNZ.out]; exact HI10.out) HBZ.out (by have := HC8.out; rw [← HNZ.out] at this ⊢; exact this) (by rw [← HNZ.out]; exact HLO.out)
    rw [← HNZ.out] at hQ
    have HQ := hid_of hQ
    clear hQ
    go_wp2_with fail
    refine HQ.out.mono ?_
    intro e w11 h11
    obtain ⟨mq9, sao, ns, sc, uao, nu, uc, rfl, hq11, _, hk11⟩ := h11.two
    have hb11p := (hk11.block _ HG10.out.1 (fun f => f)).trans HB10P.out
    have hb11q := (hk11.block _ HG10.out.2 (fun f => f)).trans HB10Q.out
    have hkr := kept_row w11 g5 #[.int .i64 mq9, .slice sao ns sc, .slice uao nu uc]
    have hb12q := setRow_heap w11 g5 _ #[.int .i64 mq9, .slice sao ns sc, .slice uao nu uc] 25 (0, 0) hb11q
    have hb12p := box_kept hkr hb11p (by have := HG35.out; omega)
    have hp12 := (HP10.out.kept hk11 (fun _ _ f => f)).kept hkr (fun q hq e => by have := HG8.out; omega)
    have hq12 := hq11.kept hkr (fun q hq e => by have := HG10.out; omega)
    have hSM := rsame_any _ _ (pOf zs) (pOf zs) _ _ hp12.pg hq12.pg (Nat.le_refl _) HPK9.out HPK9.out
    rw [sameP_refl] at hSM
    have HSM := hid_of hSM
    have HK12 := hid_of ((HK10.out.trans hk11).step hkr (fun i hi e => by have := HWG.out; have := HG35.out; omega))
    have c0 := cell_block _ g3 0 _ _ _ hb12p
    have c1 := cell_block _ g3 1 _ _ _ hb12p
    have c2 := cell_block _ g3 2 _ _ _ hb12p
    have d0 := cell_block _ g5 0 _ _ _ hb12q
    have d1 := cell_block _ g5 1 _ _ _ hb12q
    have d2 := cell_block _ g5 2 _ _ _ hb12q
    clear h11 HQ hk11 hq11 hb11p hkr hb12q hb12p hp12 hq12 hSM HB10P HB10Q HP10 HI10 HK10
    go_upto_region 13 with (refine wpList_store_row rfl 25 _ _ rfl g5 #[.int .i64 mq9, .slice sao ns sc, .slice uao nu uc] rfl rfl 25 _ hb11q size25 rfl (three_one _ _ _ rfl rfl rfl) ?_)
    generalize w11.setRow g5 #[.int .i64 mq9, .slice sao ns sc, .slice uao nu uc] = w12 at *
    generalize eOf zs = fz at *
    clear hb11q
    go_wp2_with fail
    refine HSM.out.mono ?_
    rintro e w13 ⟨rfl, hk13⟩
    have HK13 := hid_of (HK12.out.trans hk13)
    clear HSM HK12 hk13 c0 c1 c2 d0 d1 d2
    go_wp2
    go_ret
    exact ⟨rfl, HK13.out⟩
  · have hg1 : (g8 == 0) = false := by simp [hg]
    have hg2 : (g8 != 0) = true := by simp [hg]
    clear HB8P HB8Q HS8 HI8
    go_wp2
    go_ret
    exact ⟨rfl, HK8.out⟩
end Go.Proofs.Ytnjhnlohjhdcpaa
