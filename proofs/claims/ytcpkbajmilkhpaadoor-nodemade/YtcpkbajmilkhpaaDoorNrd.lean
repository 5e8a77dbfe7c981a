/-
  The reference's Decode by contract.
-/
import Derived.Test.YtcpkbajmilkhpaaDoorNro
import Derived.Test.YtcpkbajmilkhpaaDoorNdd
import Derived.Deep.Onto
namespace Go.Proofs.YtcpkbajmilkhpaaDoor
open Go.RowKit
set_option linter.unusedVariables false
set_option linter.unusedSimpArgs false
set_option maxRecDepth 100000

theorem entD_name {P : List Int → Bool} {ah xs rest : List Int} {y : EV} (hb : BytesOk xs) (h : entD P ah xs = .ok (y, rest)) : BytesOk y.nm := by
  unfold entD at h
  cases h1 : numD xs with
  | error e => rw [h1] at h; cases h
  | ok p =>
    obtain ⟨k, r1⟩ := p
    rw [h1] at h
    dsimp only at h
    have hb1 := numD_rest hb h1
    split at h
    · cases h2 : bytesD r1 with
      | error e => rw [h2] at h; cases h
      | ok p =>
        obtain ⟨nm, r2⟩ := p
        rw [h2] at h
        dsimp only at h
        have hb2 := (bytesD_rest hb1 h2).2
        split at h
        · cases h3 : bytesD r2 with
          | error e => rw [h3] at h; cases h
          | ok p =>
            obtain ⟨b, r3⟩ := p
            rw [h3] at h
            dsimp only at h
            split at h
            · cases h
              exact hb2
            · cases h
        · cases h
    · cases h

/-- What Decode holds between its calls. -/
structure DeI (w wk : World) (v : Value) (q : Nat) (flt : Int) (xs : List Int) : Prop where
  rr : RR wk w.heap.size v q flt
  isb : IsB wk v xs
  kept : Kept (fun _ => False) w wk

section
variable {w wk w1 : World} {q q' : Nat} {v : Value} {flt f : Int} {xs : List Int}
theorem DeI.read (h : DeI w wk v q flt xs) (hk : Kept (fun q => q = w.heap.size) wk w1) (hr : RR w1 w.heap.size v q' f) (hvl : ∀ b, v.ownBlock = some b → b < w.heap.size) : DeI w w1 v q' f xs :=
  ⟨hr, h.isb.kept hk (fun b hb e => by have := hvl b hb; omega), h.kept.step hk (fun i hi e => by omega)⟩
theorem DeI.step {S : Nat → Prop} (h : DeI w wk v q flt xs) (hk : Kept S wk w1) (hS : ∀ i, i ≤ w.heap.size → ¬ S i) (hvl : ∀ b, v.ownBlock = some b → b < w.heap.size) : DeI w w1 v q flt xs :=
  ⟨h.rr.kept hk (hS _ (Nat.le_refl _)), h.isb.kept hk (fun b hb => hS b (by have := hvl b hb; omega)), h.kept.step hk (fun i hi e => absurd e (hS i (by omega)))⟩
end

/-- What holds at the head of Decode's loop. -/
structure LrI (P : List Int → Bool) (w wr : World) (v : Value) (xs : List Int) (N i q : Nat) (r2 : List Int) (lv : Value) (ah : List Int) (ys : List EV) : Prop where
  pl : entsD P N [] r2 = joinE ys (entsD P (N - i) ah (xs.drop q))
  len : ys.length = i
  row : wr.ownsRow (w.heap.size + 1) 47 34 lv ys.length (ents ys)
  de : DeI w wr v q 0 xs
  le : q ≤ xs.length
  ahd : BytesOk ah
  last : LastN wr lv ah

theorem last_of {w : World} {base g cp : Nat} {ys : List EV} {y : EV} (h : w.ownsRow base 47 34 (.slice (some ⟨g, 0, none⟩) (ys ++ [y]).length cp) (ys ++ [y]).length (ents (ys ++ [y]))) (hy : y.fr.length ≤ 32) (hm : ys.length ≤ 1024) : LastN w (.slice (some ⟨g, 0, none⟩) (ys ++ [y]).length cp) y.nm := by
  refine .inr ⟨g, 0, ys.length, cp, by rw [List.length_append]; rfl, hm, ?_⟩
  have hl := h.1
  rw [ents_snoc, List.length_append, List.length_append, EV.clen y hy] at hl
  simp only [List.length_cons, List.length_nil, Nat.zero_add] at hl
  have he : (ents ys).length = ys.length * 34 := by omega
  rw [Nat.zero_add, h.cellAt _ (by rw [List.length_append]; simp only [List.length_cons, List.length_nil]; omega), ents_snoc, List.getElem?_append_right (by omega), he, Nat.sub_self]
  rfl

set_option maxHeartbeats 4000000 in
theorem decode_ref (P : List Int → Bool) (HR : NameRC P) (h0 : P [] = false) (bao : Option Addr) (bc : Nat) (xs : List Int) (w : World) (hx : IsB w (.slice bao xs.length bc) xs) (hb : BytesOk xs) (hc : Capd (.slice bao xs.length bc) xs.length) (hvl : ∀ b, (Value.slice bao xs.length bc).ownBlock = some b → b < w.heap.size) :
    Calls Tryd.prog 18 #[.slice bao xs.length bc] w (DecR P xs w) := by
  obtain ⟨n, hn⟩ : ∃ n, n = xs.length := ⟨_, rfl⟩
  by_cases hlong : 1048576 < xs.length
  · have HRR : Hid (DecR P xs w (.returned (.tuple #[.slice none 0 0, .int .i64 2])) w) := ⟨Kept.refl _ _, by rw [if_pos hlong]⟩
    rw [← hn] at hlong ⊢
    have hlI : (1048576 : Int) < (n : Int) := by omega
    clear hx hb hn hc hvl HR h0
    go_enter Tryd.func18, Tryd.ntmps18
    go_wp2
    go_ret2
    exact HRR.out
  have HNN := hid_of hn
  have hnle : n ≤ 1048576 := by omega
  rw [← hn] at hx hc hvl ⊢
  have hnl : ¬ ((1048576 : Int) < (n : Int)) := by omega
  have HDR : Hid (∀ e w', Kept (fun _ => False) w w' → (match listD P xs with
    | .error flt => e = .returned (.tuple #[.slice none 0 0, .int .i64 flt])
    | .ok (ys, rest) => if 0 < rest.length then e = .returned (.tuple #[.slice none 0 0, .int .i64 13]) else ∃ v', e = .returned (.tuple #[v', .int .i64 0]) ∧ w'.ownsRow w.heap.size 47 34 v' ys.length (ents ys)) → DecR P xs w e w') := fun e w' h1 h2 => ⟨h1, by rw [if_neg hlong]; exact h2⟩
  have HB := hid_of hb
  have hC' : Capd (.slice bao n bc) xs.length := by rw [← hn]; exact hc
  have HCC := hid_of hC'
  have HVL := hid_of hvl
  have HNC := hid_of HR
  have HPN := hid_of h0
  have hkA : Kept (fun _ => False) w (w.alloc (.cells #[.slice bao n bc, .int .i64 0, .int .i64 0] 78)) := (Kept.refl _ _).alloc _
  have HA : Hid (DeI w (w.alloc (.cells #[.slice bao n bc, .int .i64 0, .int .i64 0] 78)) (.slice bao n bc) 0 0 xs) := ⟨heap_alloc_new _ _, hx.kept hkA (fun _ _ f => f), hkA⟩
  clear hlong hn hx hb hc hvl HR h0 hC' hkA
  go_enter Tryd.func18, Tryd.ntmps18
  go_upto_region 4 with fail
  generalize w.alloc (.cells _ 78) = wA at *
  have HN := hid_of (read_ref1 w.heap.size (.slice bao n bc) xs 0 0 wA HA.out.rr HA.out.isb HB.out (Nat.zero_le _))
  go_wp2_with fail
  refine HN.out.mono ?_
  rintro e w1 (⟨g, q, bv, hd, hq, rfl, hib, hnew, hrr, hk⟩ | ⟨f, q, hd, rfl, hrr, hk⟩)
  · obtain ⟨t, gl⟩ := g
    dsimp only at hib
    obtain ⟨bo1, bc1, rfl⟩ := hib.shape
    have hnD := one1_ok hd
    rw [List.drop_zero] at hnD
    have HD := hid_of hnD
    have hI0 := HA.out.read hk hrr HVL.out
    have HI : Hid (DeI w (w1.alloc (.cells #[.int .i64 1, .int .i64 t, .slice bo1 gl.length bc1] 69)) (.slice bao n bc) q 0 xs) := hI0.step (((Kept.refl (fun _ => False) w1)).alloc _) (fun _ _ f => f) HVL.out
    have hb5 := heap_alloc_new w1 (.cells #[.int .i64 1, .int .i64 t, .slice bo1 gl.length bc1] 69)
    have hs1 : w.heap.size < w1.heap.size := (Array.getElem?_eq_some_iff.1 hI0.rr).1
    clear hd hnD hrr hk hI0 HN HA hib hnew
    go_upto_region 5 with fail
    generalize w1.alloc (.cells _ 69) = w2 at *
    obtain ⟨_, _, c2, _, hrl2⟩ := HI.out.rr.cells
    have d1 : w2.cell? ⟨w1.heap.size, 1, none⟩ = some (.int .i64 t) := by rw [cell_block _ _ _ _ _ _ hb5]; rfl
    have dl : w1.heap.size < w2.heap.size := (Array.getElem?_eq_some_iff.1 hb5).1
    clear hb5
    by_cases ht : t = 1
    · subst ht
      go_upto_region 9 with fail
      clear c2 d1 dl hrl2
      have HM := hid_of (most_ref w.heap.size (.slice bao n bc) xs q 0 1024 w2 HI.out.rr HI.out.isb HB.out hq)
      go_wp2_with fail
      refine HM.out.mono ?_
      rintro e w3 (⟨u, q2, hm, _, hq2, rfl, hrr, hk⟩ | ⟨f, hm, rfl, hrr, hk⟩)
      · have HE : Hid (listD P xs = entsD P u.toNat [] (xs.drop q2)) := by unfold Hid listD; rw [HD.out]; dsimp only; rw [if_pos rfl, hm]
        have hu : 0 ≤ u ∧ u ≤ 1024 := by
          unfold mostD at hm
          cases hnn : numD (xs.drop q) with
          | error e => rw [hnn] at hm; cases hm
          | ok p =>
            obtain ⟨z, zr⟩ := p
            have hz := (numD_split (fun x hx => HB.out.1 x (List.mem_of_mem_drop hx)) hnn).2
            rw [hnn] at hm
            dsimp only at hm
            split at hm
            · cases hm
            · cases hm
              exact ⟨hz.1, by omega⟩
        obtain ⟨N, rfl⟩ := Int.eq_ofNat_of_zero_le hu.1
        have hN4 : N ≤ 1024 := by omega
        have hI3 := HI.out.read hk hrr HVL.out
        have HI0 : Hid (LrI P w w3 (.slice bao n bc) xs N 0 q2 (xs.drop q2) (.slice none 0 0) [] []) := ⟨(joinE_nil _).symm, rfl, World.ownsRow_nil _ _ _ _, hI3, hq2, ⟨by simp, by simp⟩, .inl ⟨rfl, _, _, rfl⟩⟩
        obtain ⟨_, _, c2, _, hrl2⟩ := hI3.rr.cells
        clear hm hrr hk hI3 HM HI hu
        go_upto_region 12 with fail
        clear c2 hrl2
        go_wp2
        go_loopw [7, 8] (fun lv iv wr => ∃ (i q3 : Nat) (ah : List Int) (ys : List EV) (ao : Option Addr) (cp : Nat), i ≤ N ∧ iv = .int .i64 i ∧ lv = .slice ao i cp ∧ LrI P w wr (.slice bao n bc) xs N i q3 (xs.drop q2) (.slice ao i cp) ah ys) (fun _ iv _ => N - (intOf iv).toNat)
        case atStart => exact ⟨0, q2, [], [], none, 0, Nat.zero_le _, rfl, rfl, HI0.out⟩
        case round =>
          obtain ⟨i, q3, ah, ys, ao, cp, hi, rfl, rfl, hI⟩ := hrel
          clear HI0
          by_cases hlt : i < N
          · have hltI : (i : Int) < (N : Int) := by omega
            have hrowlt := hI.row.lt
            have hO := one_ref P HNC.out HPN.out ah xs w.heap.size (.slice bao n bc) (.slice ao i cp) q3 wr hI.de.rr hI.de.isb HB.out HCC.out hI.le hI.ahd.1 hI.ahd.2 hI.last (fun b hb => by have := HVL.out b hb; omega) (fun b hb => by have := (hrowlt b hb).1; omega) (fun b hb => by have := HVL.out b hb; have := hI.de.kept.size; omega) (fun b hb => (hrowlt b hb).2)
            have HO := hid_of hO
            have HIR := hid_of hI
            have HRL := hid_of hrowlt
            clear hO hI hrowlt
            go_wp2_with fail
            refine HO.out.mono ?_
            rintro e w4 (⟨y, q4, hd, hq4, rfl, hrr, hk⟩ | ⟨f, hf, hd, rfl, hk⟩)
            · have hbq : BytesOk (xs.drop q3) := ⟨fun x hx => HB.out.1 x (List.mem_of_mem_drop hx), by rw [List.length_drop]; have := HB.out.2; omega⟩
              have hy := (entD_facts hbq hd).2
              have hynm := entD_name hbq hd
              have hO := heap_alloc_new w4 (.cells (entA ⟨#[]⟩ 0 []) 47)
              have hkO : Kept (fun _ => False) w4 (w4.alloc (.cells (entA ⟨#[]⟩ 0 []) 47)) := (Kept.refl _ _).alloc _
              have hw : w4.alloc (.cells (entA ⟨#[]⟩ 0 []) 47) = w4.alloc (.cells _ 47) := congrArg (fun c => w4.alloc (.cells c 47)) (entA_new ⟨#[]⟩ 0)
              rw [hw] at hO hkO
              clear hw
              have hyl := EV.clen y hy
              have hs34 : (Tryd.prog.info? 47).map (·.size) = some y.cells.toArray.size := by rw [size47, List.size_toArray, hyl]
              have ho34 : (entA ⟨#[]⟩ 0 []).size = y.cells.toArray.size := by rw [entA_size _ _ _ (by decide), List.size_toArray, hyl]
              have h1c : y.cells.toArray.all (·.oneCell') = true := entA_cells (str y.nm) y.k y.fr
              have HD2 := hid_of hd
              have HYN := hid_of hynm
              have HRR4 := hid_of hrr
              have HK4 := hid_of hk
              clear hd hynm hrr hk hbq HO
              go_upto_region 17 with (refine wpList_store_row rfl 47 _ _ rfl w4.heap.size y.cells.toArray rfl rfl 47 _ hO hs34 ho34 h1c ?_)
              have hO' : (w4.alloc (.cells _ 47)).heap[w4.heap.size]? = some (.cells (entA ⟨#[]⟩ 0 []) 47 (0, 0)) := hO
              generalize w4.alloc (.cells _ 47) = wO at *
              have hB5 := setRow_heap wO w4.heap.size _ y.cells.toArray 47 (0, 0) hO'
              have hk45 : Kept (fun _ => False) w4 (wO.setRow w4.heap.size y.cells.toArray) := hkO.step (kept_row wO w4.heap.size y.cells.toArray) (fun i hi e => by omega)
              clear hO hO' hkO ho34 h1c
              generalize wO.setRow w4.heap.size y.cells.toArray = w5 at *
              have hrow4 := HK4.out.ownsRow HIR.out.row (fun q hq e => by have := (HRL.out q hq).1; omega)
              have hrow5 := hk45.ownsRow hrow4 (fun _ _ f => f)
              have hde4 := HIR.out.de.read HK4.out HRR4.out HVL.out
              have hde5 := hde4.step hk45 (fun _ _ f => f) HVL.out
              have hsw : w.heap.size + 1 ≤ w5.heap.size := (Array.getElem?_eq_some_iff.1 hde5.rr).1
              have hys := HIR.out.len
              obtain ⟨v6, w6, hr6, ho6, ⟨g6, c6, hv6⟩, hk6⟩ := app_ent w5 _ (w.heap.size + 1) ys y hy hrow5 hsw (by omega)
              have hne6 : ∀ q, (Value.slice ao i cp).ownBlock = some q → w.heap.size + 1 ≤ q := fun q hq => (HRL.out q hq).1
              have hde6 := hde5.step hk6 (fun i hi e => by have := hne6 i e; omega) HVL.out
              have hpl6 : entsD P N [] (xs.drop q2) = joinE (ys ++ [y]) (entsD P (N - (i + 1)) y.nm (xs.drop q4)) := by
                rw [HIR.out.pl, show N - i = N - (i + 1) + 1 from by omega]
                exact joinE_ok HD2.out
              have hl6 : (ys ++ [y]).length = i + 1 := by rw [List.length_append, hys]; rfl
              have hlast : LastN w6 v6 y.nm := by rw [hv6] at ho6 ⊢; exact last_of ho6 hy (by omega)
              rw [hl6] at hv6
              subst hv6
              have HREL : Hid (LrI P w w6 (.slice bao n bc) xs N (i + 1) q4 (xs.drop q2) (.slice (some ⟨g6, 0, none⟩) (i + 1) c6) y.nm (ys ++ [y])) := ⟨hpl6, hl6, ho6, hde6, hq4, HYN.out, hlast⟩
              clear hrow4 hrow5 ho6 hk6 hne6 hde4 hde5 hde6 hpl6 hl6 hlast hk45 HIR HRL HRR4 HK4 HD2 HYN
              go_upto_region 15 with (first | refine wpList_load_row rfl 47 _ rfl w4.heap.size rfl 47 y.cells.toArray (0, 0) _ hB5 Tryd.underlying47 rfl hs34 ?_ | refine wpList_build47 rfl _ rfl y.cells rfl hyl ?_ | (refine wp_app2 rfl (.tmp 56) (.tmp 58) 22 22 ?_ _ _ rfl rfl (.slice (some ⟨g6, 0, none⟩) (i + 1) c6) w6 hr6 ?_; rfl))
              clear hr6 hB5
              go_wp2
              go_roundw
              case rel => exact ⟨i + 1, q4, y.nm, ys ++ [y], some ⟨g6, 0, none⟩, c6, by omega, by go_num, rfl, HREL.out⟩
              case measure => simp [intOf]; omega
            · have HE2 : Hid (listD P xs = .error f) := by
                unfold Hid
                rw [HE.out, show (N : Int).toNat = N from rfl, HIR.out.pl, show N - i = N - i - 1 + 1 from by omega]
                exact joinE_bad hd
              have hO := heap_alloc_new w4 (.cells (entA ⟨#[]⟩ 0 []) 47)
              have hkO : Kept (fun _ => False) w4 (w4.alloc (.cells (entA ⟨#[]⟩ 0 []) 47)) := (Kept.refl _ _).alloc _
              have hw : w4.alloc (.cells (entA ⟨#[]⟩ 0 []) 47) = w4.alloc (.cells _ 47) := congrArg (fun c => w4.alloc (.cells c 47)) (entA_new ⟨#[]⟩ 0)
              rw [hw] at hO hkO
              clear hw
              have hs34 : (Tryd.prog.info? 47).map (·.size) = some (entA ⟨#[]⟩ 0 []).size := by rw [size47, entA_size _ _ _ (by decide)]
              have h1c := entA_cells ⟨#[]⟩ 0 []
              have hK4 : Kept (fun _ => False) w w4 := HIR.out.de.kept.step hk (fun i hi e => by omega)
              have hfb : (f != 0) = true := by simpa using hf
              clear hd hk HO HIR HRL
              go_upto_region 17 with (refine wpList_store_row rfl 47 _ _ rfl w4.heap.size (entA ⟨#[]⟩ 0 []) rfl rfl 47 _ hO hs34 rfl h1c ?_)
              generalize w4.alloc (.cells _ 47) = wO at *
              have hk45 : Kept (fun _ => False) w4 (wO.setRow w4.heap.size (entA ⟨#[]⟩ 0 [])) := hkO.step (kept_row wO w4.heap.size _) (fun i hi e => by omega)
              have HG : Hid (DecR P xs w (.returned (.tuple #[.slice none 0 0, .int .i64 f])) (wO.setRow w4.heap.size (entA ⟨#[]⟩ 0 []))) := HDR.out _ _ (hK4.trans hk45) (by rw [HE2.out])
              clear hO hkO hk45 hs34 h1c
              generalize wO.setRow w4.heap.size (entA ⟨#[]⟩ 0 []) = w5 at *
              go_wp2
              go_ret2
              exact HG.out
          · have hnlN : ¬ ((i : Int) < (N : Int)) := by omega
            have hiN : i = N := by omega
            subst hiN
            have hq3 : q3 ≤ n := by rw [HNN.out]; exact hI.le
            have HL := hid_of (left_ref w.heap.size bao n bc q3 0 wr hI.de.rr hq3 (by omega))
            have HKW := hid_of hI.de.kept
            have HOW := hid_of (hI.row.mono (Nat.le_succ _))
            have HE2 : Hid (listD P xs = .ok (ys, xs.drop q3)) := by
              unfold Hid
              rw [HE.out, show ∀ m : Nat, (m : Int).toNat = m from fun _ => rfl, hI.pl, Nat.sub_self, show entsD P 0 ah (xs.drop q3) = .ok ([], xs.drop q3) from rfl]
              simp [joinE]
            clear hI
            by_cases hlf : q3 < n
            · have HG : Hid (∀ d, DecR P xs w (.returned (.tuple #[.slice none 0 0, .int .i64 13])) (wr.drewN d)) := fun d => HDR.out _ _ (kept_drewN HKW.out d) (by rw [HE2.out]; dsimp only; rw [if_pos (by rw [List.length_drop, ← HNN.out]; omega)])
              have hgt : (0 : Int) < (n : Int) - (q3 : Int) := by omega
              have hgt2 : (q3 : Int) < (n : Int) := by omega
              have HGT := hid_of hgt2
              clear hgt2
              obtain ⟨z, hz⟩ : ∃ z, z = (n : Int) - (q3 : Int) := ⟨_, rfl⟩
              rw [← hz] at HL hgt
              clear hz
              go_wp2_with fail
              refine HL.out.mono ?_
              rintro e w4 ⟨rfl, d, hw4⟩
              have HW4 := hid_of hw4
              clear hw4 HL
              go_wp2
              go_ret2
              rw [HW4.out]
              exact HG.out d
            · have hqe : q3 = n := by omega
              have HG : Hid (∀ d, DecR P xs w (.returned (.tuple #[.slice ao i cp, .int .i64 0])) (wr.drewN d)) := fun d => HDR.out _ _ (kept_drewN HKW.out d) (by rw [HE2.out]; dsimp only; rw [if_neg (by rw [List.length_drop, ← HNN.out]; omega)]; exact ⟨_, rfl, (kept_drewN (Kept.refl (fun _ => False) wr) d).ownsRow HOW.out (fun _ _ f => f)⟩)
              have hz : (n : Int) - (q3 : Int) = 0 := by omega
              rw [hz] at HL
              clear hz hqe hlf hq3
              go_wp2_with fail
              refine HL.out.mono ?_
              rintro e w4 ⟨rfl, d, hw4⟩
              have HW4 := hid_of hw4
              clear hw4 HL
              go_wp2
              go_ret2
              rw [HW4.out]
              exact HG.out d
      · have hf := mostD_err hm
        have HE : Hid (listD P xs = .error f) := by unfold Hid listD; rw [HD.out]; dsimp only; rw [if_pos rfl, hm]
        have hI3 := HI.out.read hk hrr HVL.out
        obtain ⟨_, _, c2, _, hrl2⟩ := hI3.rr.cells
        have HG : Hid (∀ d, DecR P xs w (.returned (.tuple #[.slice none 0 0, .int .i64 f])) (w3.drewN d)) := fun d => HDR.out _ _ (kept_drewN hI3.kept d) (by rw [HE.out])
        have hfb : (f != 0) = true := by simpa using hf
        clear hm hrr hk hI3 HM HI
        go_upto_region 11 with fail
        go_quiet (fail)
        go_wp2
        go_ret2
        first | exact HG.out 1 | exact HG.out _
    · have HE : Hid (listD P xs = .error 52) := by unfold Hid listD; rw [HD.out]; dsimp only; rw [if_neg ht]
      have HG : Hid (DecR P xs w (.returned (.tuple #[.slice none 0 0, .int .i64 52])) w2) := HDR.out _ _ HI.out.kept (by rw [HE.out])
      have htb : (t != 1) = true := by simpa using ht
      clear ht
      go_wp2
      go_ret2
      exact HG.out
  · have hnD := one1_err hd
    rw [List.drop_zero] at hnD
    have hf := numD_err hnD
    have HE : Hid (listD P xs = .error f) := by unfold Hid listD; rw [hnD]
    have hI0 := HA.out.read hk hrr HVL.out
    have HI : Hid (DeI w (w1.alloc (.cells #[.int .i64 1, .int .i64 0, .slice none 0 0] 69)) (.slice bao n bc) q f xs) := hI0.step (((Kept.refl (fun _ => False) w1)).alloc _) (fun _ _ f => f) HVL.out
    clear hd hnD hrr hk hI0 HN HA
    go_upto_region 5 with fail
    generalize w1.alloc (.cells _ 69) = w2 at *
    obtain ⟨_, _, c2, _, hrl2⟩ := HI.out.rr.cells
    have HG : Hid (∀ d, DecR P xs w (.returned (.tuple #[.slice none 0 0, .int .i64 f])) (w2.drewN d)) := fun d => HDR.out _ _ (kept_drewN HI.out.kept d) (by rw [HE.out])
    have hfb : (f != 0) = true := by simpa using hf
    go_upto_region 6 with fail
    go_quiet (fail)
    go_wp2
    go_ret2
    first | exact HG.out 1 | exact HG.out _
end Go.Proofs.YtcpkbajmilkhpaaDoor
