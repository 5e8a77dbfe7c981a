/-
  node.entries by contract.
-/
import Derived.Test.YtcpkbajmilkhpabGreatDoorNap
namespace Go.Proofs.YtcpkbajmilkhpabGreatDoor
open Go.RowKit Go.Deep
set_option linter.unusedVariables false
set_option linter.unusedSimpArgs false

/-- Entries ahead of others. -/
def joinE (ys : List EV) : Except Int (List EV × List Int) → Except Int (List EV × List Int)
  | .ok (zs, r) => .ok (ys ++ zs, r)
  | .error f => .error f

theorem joinE_nil (d : Except Int (List EV × List Int)) : joinE [] d = d := by
  cases d with
  | error f => rfl
  | ok p => rfl
theorem wp_app2 {w : World} {ops : Array Oper} {rest : List Oper} {o : Oper} {a : Act} {Q : Exit → Act → World → Prop} (hgd : o.guard = none) (s x : Operand) (t u : TypeId)
    (ho : o.op = .call { callee := .builtin .append, args := #[s, x], argTypes := #[t, u] }) (v bv : Value) (hs : a.eval s = v) (hx : a.eval x = bv) (v' : Value) (w' : World)
    (hr : (Builtin.append_ #[t, u] o.type #[v, bv]).run Tryz.prog w = .ok v' w') (h : wpList Tryz.prog ops Q rest (a.put o.dst v') w') : wpList Tryz.prog ops Q (o :: rest) a w := by
  refine wpList_plain hgd fun K hK => ?_
  unfold Oper.wp execOp
  simp only [ho, resolve, invoke, builtin, Sem.run_bind, Sem.run_pure, Result.andThen_ok, List.map_toArray, List.map_cons, List.map_nil, hs, hx, hr]
  exact hK _ _ h
theorem entsD_succ (P : List Int → Bool) (m : Nat) (ah xs : List Int) : entsD P (m + 1) ah xs = match entD P ah xs with | .error f => .error f | .ok (y, r) => match entsD P m y.nm r with | .error f => .error f | .ok (ys, r') => .ok (y :: ys, r') := rfl
theorem joinE_ok {P : List Int → Bool} {ys : List EV} {y : EV} {m : Nat} {ah xs rest : List Int} (h : entD P ah xs = .ok (y, rest)) : joinE ys (entsD P (m + 1) ah xs) = joinE (ys ++ [y]) (entsD P m y.nm rest) := by
  rw [entsD_succ, h]
  dsimp only
  cases entsD P m y.nm rest with
  | error f => rfl
  | ok p => obtain ⟨zs, r⟩ := p; simp [joinE]
theorem joinE_bad {P : List Int → Bool} {ys : List EV} {m : Nat} {ah xs : List Int} {f : Int} (h : entD P ah xs = .error f) : joinE ys (entsD P (m + 1) ah xs) = .error f := by
  rw [entsD_succ, h]
  rfl

theorem entD_facts {P : List Int → Bool} {ah xs rest : List Int} {y : EV} (hb : BytesOk xs) (h : entD P ah xs = .ok (y, rest)) : BytesOk rest ∧ y.fr.length ≤ 32 := by
  unfold entD at h
  cases h1 : numD xs with
  | error e => rw [h1] at h; cases h
  | ok p =>
    obtain ⟨k, r1⟩ := p
    rw [h1] at h
    dsimp only at h
    have hb1 : BytesOk r1 := by
      obtain ⟨hs, _⟩ := numD_split hb.1 h1
      have g1 := hb.1
      have g2 := hb.2
      rw [hs] at g1 g2
      exact ⟨fun x hx => g1 x (List.mem_append_right _ hx), by rw [List.length_append] at g2; omega⟩
    split at h
    · cases h2 : bytesD r1 with
      | error e => rw [h2] at h; cases h
      | ok p =>
        obtain ⟨nm, r2⟩ := p
        rw [h2] at h
        dsimp only at h
        have hb2 := (bytesD_rest hb1 h2).1
        split at h
        · cases h3 : bytesD r2 with
          | error e => rw [h3] at h; cases h
          | ok p =>
            obtain ⟨b, r3⟩ := p
            rw [h3] at h
            dsimp only at h
            split at h
            · rename_i hf
              cases h
              unfold isFrontB at hf
              exact ⟨(bytesD_rest hb2 h3).1, of_decide_eq_true (Bool.and_eq_true_iff.1 hf).1⟩
            · cases h
        · cases h
    · cases h

/-- What holds at the head of the loop. -/
structure LsI (P : List Int → Bool) (w wr : World) (r g : Nat) (f : Int) (N i : Nat) (r2 : List Int) (lv : Value) (ah : List Int) (ys : List EV) (rest : List Int) : Prop where
  pl : entsD P N [] r2 = joinE ys (entsD P (N - i) ah rest)
  len : ys.length = i
  row : wr.ownsRow w.heap.size 41 34 lv ys.length (ents ys)
  at' : After w wr r g f rest
  ok : BytesOk rest

set_option maxRecDepth 100000 in
set_option maxHeartbeats 2000000 in
theorem entries_x (P : List Int → Bool) (HP : NameC P) (r g : Nat) (v : Value) (xs : List Int) (w : World) (f : Int) (hr : Rd w r v true f) (hx : IsR w g v xs) (hgr : g ≠ r) (hgl : g < w.heap.size) (hb : BytesOk xs) :
    Calls Tryz.prog 31 #[.pointer (some ⟨r, 0, none⟩)] w (Outs (listD P xs) r g f w fun ys e w' => ∃ v', e = .returned v' ∧ w'.ownsRow w.heap.size 41 34 v' ys.length (ents ys)) := by
  have hrl : r < w.heap.size := hr.cells.2.2.2.2.2.2
  have hN := num_x r g v xs w f hr hx hgr hb.1
  have HPP := hid_of HP
  have HB := hid_of hb
  clear hr hx hb HP
  cases hd : numD xs with
  | error flt =>
    have HE : Hid (listD P xs = .error flt) := by unfold Hid listD; rw [hd]
    rw [hd] at hN
    have HN := hid_of hN
    clear hN hd
    go_enter Tryz.func31, Tryz.ntmps31
    go_wp2_with fail
    refine HN.out.mono ?_
    rintro e w2 ⟨rfl, h2, h3⟩
    refine ⟨rfl, ?_⟩
    rw [HE.out]
    exact ⟨rfl, h2, h3⟩
  | ok q =>
    obtain ⟨t, r1⟩ := q
    have hN' : Calls Tryz.prog 48 #[.pointer (some ⟨r, 0, none⟩)] w (fun e w' => (e = .returned (.int .i64 t) ∧ 0 ≤ t ∧ t ≤ 9223372036854775807) ∧ After w w' r g f r1) := by rw [hd] at hN; exact hN
    have HN := hid_of hN'
    have hb1 : BytesOk r1 := by
      obtain ⟨hs, _⟩ := numD_split HB.out.1 hd
      have g1 := HB.out.1
      have g2 := HB.out.2
      rw [hs] at g1 g2
      exact ⟨fun x hx => g1 x (List.mem_append_right _ hx), by rw [List.length_append] at g2; omega⟩
    have HB1 := hid_of hb1
    have HD := hid_of hd
    clear hN hN' hd hb1
    by_cases ht : t = 1
    · subst ht
      go_enter Tryz.func31, Tryz.ntmps31
      go_wp2_with fail
      refine HN.out.mono ?_
      rintro e w1 ⟨⟨rfl, _, _⟩, v1, a1, a2, a3⟩
      have hM := most_x r g 1024 v1 r1 w1 f a1 a2 hgr HB1.out.1
      have HA3 := hid_of a3
      clear a1 a2 a3 HN
      cases hm : mostD 1024 r1 with
      | error flt =>
        have HE : Hid (listD P xs = .error flt) := by unfold Hid listD; rw [HD.out]; dsimp only; rw [if_pos rfl, hm]
        rw [hm] at hM
        have HM := hid_of hM
        clear hM hm
        go_wp2_with fail
        refine HM.out.mono ?_
        rintro e w2 ⟨rfl, h2, h3⟩
        refine ⟨rfl, ?_⟩
        rw [HE.out]
        exact ⟨rfl, h2, HA3.out.trans h3⟩
      | ok q =>
        obtain ⟨n, r2⟩ := q
        have hM' : Calls Tryz.prog 50 #[.pointer (some ⟨r, 0, none⟩), .int .i64 1024] w1 (fun e w' => (e = .returned (.int .i64 n) ∧ 0 ≤ n ∧ n ≤ 9223372036854775807) ∧ After w1 w' r g f r2) := by rw [hm] at hM; exact hM
        have HM := hid_of hM'
        have hmm : n ≤ 1024 ∧ BytesOk r2 := by
          unfold mostD at hm
          cases hn : numD r1 with
          | error e => rw [hn] at hm; cases hm
          | ok p =>
            obtain ⟨u, rr⟩ := p
            rw [hn] at hm
            dsimp only at hm
            split at hm
            · cases hm
            · cases hm
              obtain ⟨hs, _⟩ := numD_split HB1.out.1 hn
              have g1 := HB1.out.1
              have g2 := HB1.out.2
              rw [hs] at g1 g2
              exact ⟨by omega, fun x hx => g1 x (List.mem_append_right _ hx), by rw [List.length_append] at g2; omega⟩
        obtain ⟨hn4, hb2⟩ := hmm
        have HB2 := hid_of hb2
        have HE : Hid (listD P xs = entsD P n.toNat [] r2) := by unfold Hid listD; rw [HD.out]; dsimp only; rw [if_pos rfl, hm]
        clear hM hM' hm hb2
        go_wp2_with fail
        refine HM.out.mono ?_
        rintro e w2 ⟨⟨rfl, hn0, _⟩, v2, b1, b2, b3⟩
        obtain ⟨N, rfl⟩ := Int.eq_ofNat_of_zero_le hn0
        have HI0 : Hid (LsI P w w2 r g f N 0 r2 (.slice none 0 0) [] [] r2) := ⟨(joinE_nil _).symm, rfl, World.ownsRow_nil _ _ _ _, ⟨v2, b1, b2, HA3.out.trans b3⟩, HB2.out⟩
        clear b1 b2 b3 HM HA3
        go_wp2
        go_loopw [3, 4, 13] (fun lv av iv wr => ∃ (i : Nat) (ah : List Int) (ys : List EV) (rest : List Int) (ao : Option Addr) (cp : Nat), i ≤ N ∧ iv = .int .i64 i ∧ av = .string (str ah) ∧ lv = .slice ao i cp ∧ LsI P w wr r g f N i r2 (.slice ao i cp) ah ys rest) (fun _ _ iv _ => N - (intOf iv).toNat)
        case atStart => exact ⟨0, [], [], r2, none, 0, Nat.zero_le _, rfl, rfl, rfl, HI0.out⟩
        case round =>
          obtain ⟨i, ah, ys, rest, ao, cp, hi, rfl, rfl, rfl, hI⟩ := hrel
          by_cases hlt : i < N
          · have hltI : (i : Int) < (N : Int) := by omega
            obtain ⟨vr, c1, c2, c3⟩ := hI.at'
            have hEx := entry_x P HPP.out ah r g vr rest wr f c1 c2 hgr (Nat.lt_of_lt_of_le hgl c3.size) hI.ok
            have HI := hid_of hI
            have HC3 := hid_of c3
            clear c1 c2 c3 hI HI0
            cases hd : entD P ah rest with
            | error flt =>
              have HE2 : Hid (listD P xs = .error flt) := by
                unfold Hid
                rw [HE.out, show (N : Int).toNat = N from rfl, HI.out.pl, show N - i = N - i - 1 + 1 from by omega]
                exact joinE_bad hd
              unfold EntPost at hEx
              rw [hd] at hEx
              have HEX := hid_of hEx
              clear hEx hd
              go_wp2_with fail
              refine HEX.out.mono ?_
              rintro e w3 ⟨rfl, h2, h3⟩
              refine ⟨rfl, ?_⟩
              rw [HE2.out]
              exact ⟨rfl, h2, HC3.out.trans h3⟩
            | ok q =>
              obtain ⟨y, rest'⟩ := q
              obtain ⟨hb', hy⟩ := entD_facts HI.out.ok hd
              have hEx' : Calls Tryz.prog 51 #[.pointer (some ⟨r, 0, none⟩), .string (str ah)] wr (fun e w' => e = .returned (.agg y.cells.toArray) ∧ After wr w' r g f rest') := by
                unfold EntPost at hEx
                rw [hd] at hEx
                exact hEx
              have HEX := hid_of hEx'
              have HD2 := hid_of hd
              have HB' := hid_of hb'
              clear hEx hEx' hd hb'
              go_wp2_with fail
              refine HEX.out.mono ?_
              rintro e w3 ⟨rfl, v3, d1, d2, d3⟩
              have hO := heap_alloc_new w3 (.cells (entA ⟨#[]⟩ 0 []) 41)
              have hkO : Kept (fun _ => False) w3 (w3.alloc (.cells (entA ⟨#[]⟩ 0 []) 41)) := (Kept.refl _ _).alloc _
              have hw : w3.alloc (.cells (entA ⟨#[]⟩ 0 []) 41) = w3.alloc (.cells _ 41) := congrArg (fun c => w3.alloc (.cells c 41)) (entA_new ⟨#[]⟩ 0)
              rw [hw] at hO hkO
              clear hw
              have hyl := EV.clen y hy
              have hs34 : (Tryz.prog.info? 41).map (·.size) = some y.cells.toArray.size := by rw [size47, List.size_toArray, hyl]
              have ho34 : (entA ⟨#[]⟩ 0 []).size = y.cells.toArray.size := by rw [entA_size _ _ _ (by decide), List.size_toArray, hyl]
              have h1c : y.cells.toArray.all (·.oneCell') = true := entA_cells (str y.nm) y.k y.fr
              have HD1 := hid_of d1
              have HDD2 := hid_of d2
              have HD3 := hid_of d3
              clear d1 d2 d3 HEX
              go_upto_region 8 with (refine wpList_store_row rfl 41 _ _ rfl w3.heap.size y.cells.toArray rfl rfl 41 _ hO hs34 ho34 h1c ?_)
              have hO' : (w3.alloc (.cells _ 41)).heap[w3.heap.size]? = some (.cells (entA ⟨#[]⟩ 0 []) 41 (0, 0)) := hO
              generalize w3.alloc (.cells _ 41) = wO at *
              have hB4 := setRow_heap wO w3.heap.size _ y.cells.toArray 41 (0, 0) hO'
              have hkR := kept_row wO w3.heap.size y.cells.toArray
              have hk34 : Kept (fun _ => False) w3 (wO.setRow w3.heap.size y.cells.toArray) := hkO.step hkR (fun i hi e => by omega)
              clear hO hO' hkO hkR ho34 h1c
              generalize wO.setRow w3.heap.size y.cells.toArray = w4 at *
              have hrowlt := HI.out.row.lt
              have hrow3 := HD3.out.ownsRow HI.out.row (fun q hq e => by have := (hrowlt q hq).1; omega)
              have hrow4 := hk34.ownsRow hrow3 (fun _ _ f => f)
              have hsw : w.heap.size ≤ w4.heap.size := by have h1 := HC3.out.size; have h2 := HD3.out.size; have h3 := hk34.size; omega
              have hys := HI.out.len
              obtain ⟨v5, w5, hr5, ho5, ⟨g5, c5, hv5⟩, hk5⟩ := app_ent w4 _ w.heap.size ys y hy hrow4 hsw (by omega)
              have hne5 : ∀ q, (Value.slice ao i cp).ownBlock = some q → w.heap.size ≤ q ∧ q < w3.heap.size := fun q hq => by have h1 := hrowlt q hq; have h2 := HD3.out.size; omega
              have hB5 := (hk5.block w3.heap.size (Array.getElem?_eq_some_iff.1 hB4).1 (fun e => by have := (hne5 _ e).2; omega)).trans hB4
              have x0 : w5.cell? ⟨w3.heap.size, 0, none⟩ = some (.string (str y.nm)) := by rw [cell_block _ _ _ _ _ _ hB5]; rfl
              have xl : w3.heap.size < w5.heap.size := (Array.getElem?_eq_some_iff.1 hB5).1
              have hK5 : Kept (fun q => q = r) w w5 := ((HC3.out.trans HD3.out).trans (hk34.mono (fun _ _ f => f.elim))).step hk5 (fun q hq e => by have := (hne5 q e).1; omega)
              have hr5' := (HD1.out.kept hk34 (fun f => f)).kept hk5 (fun e => by have := (hne5 _ e).1; omega)
              have hi5' := (HDD2.out.kept hk34 (fun f => f)).kept hk5 (fun e => by have := (hne5 _ e).1; omega)
              have hpl5 : entsD P N [] r2 = joinE (ys ++ [y]) (entsD P (N - (i + 1)) y.nm rest') := by
                rw [HI.out.pl, show N - i = N - (i + 1) + 1 from by omega]
                exact joinE_ok HD2.out
              have hl5 : (ys ++ [y]).length = i + 1 := by rw [List.length_append, hys]; rfl
              rw [hl5] at hv5
              subst hv5
              have HREL : Hid (LsI P w w5 r g f N (i + 1) r2 (.slice (some ⟨g5, 0, none⟩) (i + 1) c5) y.nm (ys ++ [y]) rest') := ⟨hpl5, hl5, ho5, ⟨v3, hr5', hi5', hK5⟩, HB'.out⟩
              clear hrowlt hrow3 hrow4 ho5 hk5 hne5 hB5 hK5 hr5' hi5' hpl5 hl5 hk34 HI HD1 HDD2 HD3 HC3 HD2 HB'
              go_upto_region 9 with (first | refine wpList_load_row rfl 41 _ rfl w3.heap.size rfl 41 y.cells.toArray (0, 0) _ hB4 Tryz.underlying41 rfl hs34 ?_ | refine wpList_build47 rfl _ rfl y.cells rfl hyl ?_ | (refine wp_app2 rfl (.tmp 18) (.tmp 20) 22 22 ?_ _ _ rfl rfl (.slice (some ⟨g5, 0, none⟩) (i + 1) c5) w5 ?_ ?_; rfl; exact hr5))
              clear hr5 hB4
              go_wp2
              go_roundw
              case rel => exact ⟨i + 1, y.nm, ys ++ [y], rest', some ⟨g5, 0, none⟩, c5, by omega, by go_num, rfl, rfl, HREL.out⟩
              case measure => simp [intOf]; omega
          · have hnl : ¬ ((i : Int) < (N : Int)) := by omega
            have hiN : N = i := by omega
            subst hiN
            have HP2 : Hid (Outs (listD P xs) r g f w (fun ys e w' => ∃ v', e = .returned v' ∧ w'.ownsRow w.heap.size 41 34 v' ys.length (ents ys)) (.returned (.slice ao N cp)) wr) := by
              unfold Hid
              rw [HE.out, show ∀ m : Nat, (m : Int).toNat = m from fun _ => rfl, hI.pl, Nat.sub_self]
              rw [show entsD P 0 ah rest = .ok ([], rest) from rfl]
              show Outs (.ok (ys ++ [], rest)) r g f w _ _ _
              rw [List.append_nil]
              exact ⟨⟨_, rfl, hI.row⟩, hI.at'⟩
            clear hI HI0
            go_wp2
            go_ret
            exact HP2.out
    · have htb : (t != 1) = true := by simpa using ht
      have HE : Hid (listD P xs = .error 52) := by unfold Hid listD; rw [HD.out]; dsimp only; rw [if_neg ht]
      go_enter Tryz.func31, Tryz.ntmps31
      go_wp2_with fail
      refine HN.out.mono ?_
      rintro e w1 ⟨⟨rfl, _, _⟩, v1, a1, a2, a3⟩
      have HF := hid_of (fail_x r v1 f 52 w1 a1 (by decide))
      have HA3 := hid_of a3
      clear a1 a2 a3 HN
      go_wp2_with fail
      refine HF.out.mono ?_
      rintro e w2 ⟨rfl, h2, h3⟩
      refine ⟨rfl, ?_⟩
      rw [HE.out]
      exact ⟨rfl, h2, HA3.out.trans h3⟩
end Go.Proofs.YtcpkbajmilkhpabGreatDoor
