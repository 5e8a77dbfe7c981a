/-
  node.entry by contract.
-/
import Derived.Test.YtcpkbajmilkhpabGreatDoorNsp
import Derived.Deep.DeepCutAuto
import Derived.Deep.CutBlock
namespace Go.Proofs.YtcpkbajmilkhpabGreatDoor
open Go.RowKit Go.Deep
set_option linter.unusedVariables false
set_option linter.unusedSimpArgs false

/-- An entry's cells. -/
def entA (nm : ByteArray) (k : Int) (fr : List Int) : Array Value := (.string nm :: .int .i64 k :: ((fr ++ List.replicate (32 - fr.length) 0).map (Value.int .u8))).toArray

theorem entA_new (nm : ByteArray) (k : Int) : entA nm k [] = #[.string nm, .int .i64 k, .int .u8 0, .int .u8 0, .int .u8 0, .int .u8 0, .int .u8 0, .int .u8 0, .int .u8 0, .int .u8 0, .int .u8 0, .int .u8 0, .int .u8 0, .int .u8 0, .int .u8 0, .int .u8 0, .int .u8 0, .int .u8 0, .int .u8 0, .int .u8 0, .int .u8 0, .int .u8 0, .int .u8 0, .int .u8 0, .int .u8 0, .int .u8 0, .int .u8 0, .int .u8 0, .int .u8 0, .int .u8 0, .int .u8 0, .int .u8 0, .int .u8 0, .int .u8 0] := rfl

theorem entA_one (nm : ByteArray) (k : Int) (fr : List Int) : (entA nm k fr)[1]? = some (.int .i64 k) := by simp [entA]

theorem built_ent (k : Int) : Tryz.prog.built 41 [(1, .int .i64 k)] = some (entA ⟨#[]⟩ k []) := by kernel_rfl
theorem size47 : (Tryz.prog.info? 41).map (·.size) = some 34 := by kernel_rfl
theorem entA_size (nm : ByteArray) (k : Int) (fr : List Int) (h : fr.length ≤ 32) : (entA nm k fr).size = 34 := by
  simp [entA]
  omega
theorem entA_cells (nm : ByteArray) (k : Int) (fr : List Int) : (entA nm k fr).all (·.oneCell') = true := by
  unfold entA
  rw [Array.all_eq_true_iff_forall_mem]
  intro x hx
  rcases List.mem_cons.1 (List.mem_toArray.1 hx) with rfl | hx
  · rfl
  · rcases List.mem_cons.1 hx with rfl | hx
    · rfl
    · obtain ⟨n, _, rfl⟩ := List.mem_map.1 hx
      rfl

theorem wpList_bent {ops : Array Oper} {rest : List Oper} {o : Oper} {a : Act} {w : World} {Q : Exit → Act → World → Prop} (hg : o.guard = none) (x : Operand) (ho : o.op = .build 41 #[(1, x)]) (k : Int) (hx : a.eval x = .int .i64 k)
    (h : wpList Tryz.prog ops Q rest (a.put o.dst (.agg (entA ⟨#[]⟩ k []))) w) : wpList Tryz.prog ops Q (o :: rest) a w := by
  have hb := built_ent k
  have e : (#[(1, x)].map fun (i, z) => (i, a.eval z)).toList = [(1, .int .i64 k)] := by rw [← hx]; simp
  refine wpList_build hg 41 _ ho (by rw [e, hb]; rfl) ?_
  rw [e, hb]
  exact h

theorem kept_row (w : World) (g : Nat) (cs : Array Value) : Kept (fun k => k = g) w (w.setRow g cs) :=
  ⟨rfl, rfl, rfl, by simp [World.setRow], fun k hk hn => by simp only [World.setRow]; rw [Array.getElem?_modify, if_neg (fun e => hn e.symm)]⟩

/-- What entry leaves. -/
def EntPost (P : List Int → Bool) (ahead xs : List Int) (r g : Nat) (f : Int) (w : World) (e : Ending) (w' : World) : Prop :=
  Outs (entD P ahead xs) r g f w (fun y e w' => e = .returned (.agg (entA (str y.nm) y.k y.fr))) e w'

theorem bytesD_rest {xs ys rest : List Int} (hb : BytesOk xs) (h : bytesD xs = .ok (ys, rest)) : BytesOk rest ∧ BytesOk ys := by
  have suf : ∀ {zs : List Int}, (∀ z ∈ zs, z ∈ xs) → zs.length ≤ xs.length → BytesOk zs := fun hz hl => ⟨fun x hx => hb.1 x (hz x hx), Nat.le_trans hl hb.2⟩
  unfold bytesD at h
  cases hd : numD xs with
  | error e => rw [hd] at h; cases h
  | ok p =>
    obtain ⟨u, r⟩ := p
    rw [hd] at h
    dsimp only at h
    obtain ⟨hx, _⟩ := numD_split hb.1 hd
    have hr : ∀ z ∈ r, z ∈ xs := fun z hz => by rw [hx]; exact List.mem_append_right _ hz
    have hl : r.length ≤ xs.length := by rw [hx, List.length_append]; omega
    unfold rawD at h
    split at h
    · cases h
    · split at h
      · cases h
      · cases h
        exact ⟨suf (fun z hz => hr z (List.mem_of_mem_drop hz)) (by rw [List.length_drop]; omega), suf (fun z hz => hr z (List.mem_of_mem_take hz)) (by rw [List.length_take]; omega)⟩

theorem ownsRow_cap {w : World} {base : Nat} {v : Value} {n : Nat} {xs : List Value} (h : w.ownsRow base 5 1 v n xs) : ∃ ao c, v = .slice ao n c ∧ n ≤ c := by
  rcases h.2 with ⟨e, h0⟩ | ⟨g, cap, cur, e, hb, hg, hnc, hcm, hcs, ht⟩
  · exact ⟨none, 0, by rw [e, h0], by omega⟩
  · exact ⟨_, cap, e, hnc⟩

theorem entA_copy (nm : ByteArray) (k : Int) (fr : List Int) (h : fr.length ≤ 32) : ((entA nm k []).toList.take 2 ++ fr.map (Value.int .u8) ++ (entA nm k []).toList.drop (2 + (fr.map (Value.int .u8)).length)).toArray = entA nm k fr := by
  unfold entA
  rw [List.length_map, show 2 + fr.length = fr.length + 1 + 1 from by omega]
  simp only [List.toList_toArray, List.take_succ_cons, List.take_zero, List.drop_succ_cons, List.nil_append, List.length_nil, Nat.sub_zero, List.map_append, List.map_replicate, List.drop_replicate, List.cons_append]

theorem copy_front (nm : ByteArray) (k : Int) (fr : List Int) (B : Nat) (fo : Option Addr) (fc : Nat) (w : World) (hB : w.heap[B]? = some (.cells (entA nm k []) 41 (0, 0))) (hi : IsB w (.slice fo fr.length fc) fr) (hl : fr.length ≤ 32) (h0 : fo = none → fr = []) :
    ∃ z, (Builtin.copy_ #[27, 27] 3 #[.slice (some ⟨B, 2, none⟩) 32 32, .slice fo fr.length fc]).run Tryz.prog w = .ok z (w.setRow B (entA nm k fr)) := by
  cases fo with
  | none =>
    have he := h0 rfl
    subst he
    rw [setRow_self w B _ _ _ hB]
    exact ⟨_, run_copy_none (P := Tryz.prog) w 27 27 3 5 _ _ _ _ _ _ Tryz.underlying27 info5size (by simp)⟩
  | some ad =>
    have hcs : ∀ j u, (fr.map (Value.int .u8))[j]? = some u → w.cell? (ad.add j) = some u := fun j u hj => by
      rcases hi with ⟨e, _⟩ | ⟨g, o, c, e, hc⟩
      · subst e; cases hj
      · cases e
        have hjl : j < fr.length := by have := (List.getElem?_eq_some_iff.1 hj).1; simpa using this
        rw [Addr.add_lit, hc j hjl]
        simp [List.getElem?_map, List.getElem?_eq_getElem hjl] at hj
        simp [List.getD, List.getElem?_eq_getElem hjl, hj]
    have hrun := run_copy_row (P := Tryz.prog) w 27 27 3 5 B 2 32 32 ad fr.length fc (entA nm k []) 41 (fr.map (Value.int .u8)) Tryz.underlying27 info5size hB (by rw [List.length_map]; exact (Nat.min_eq_left hl).symm) hcs (by rw [List.length_map, entA_size _ _ _ (by decide)]; omega) (fun u hu => by obtain ⟨x, _, rfl⟩ := List.mem_map.1 hu; rfl)
    rw [entA_copy nm k fr hl] at hrun
    exact ⟨_, hrun⟩

theorem entA_name (nm nm' : ByteArray) (k : Int) (fr : List Int) : (entA nm k fr).setIfInBounds 0 (.string nm') = entA nm' k fr := by simp [entA]
theorem entA_zero (nm : ByteArray) (k : Int) (fr : List Int) : (entA nm k fr)[0]? = some (.string nm) := by simp [entA]

set_option maxRecDepth 100000 in
set_option maxHeartbeats 2000000 in
theorem entry_x (P : List Int → Bool) (HP : NameC P) (ahead : List Int) (r g : Nat) (v : Value) (xs : List Int) (w : World) (f : Int) (hr : Rd w r v true f) (hx : IsR w g v xs) (hgr : g ≠ r) (hgl : g < w.heap.size) (hb : BytesOk xs) :
    Calls Tryz.prog 51 #[.pointer (some ⟨r, 0, none⟩), .string (str ahead)] w (EntPost P ahead xs r g f w) := by
  have hrl : r < w.heap.size := hr.cells.2.2.2.2.2.2
  have HR := hid_of hr
  have HX := hid_of hx
  have HB := hid_of hb
  have HPP := hid_of HP
  clear hr hx hb HP
  have hkA : Kept (fun _ => False) w (w.alloc (.cells (entA ⟨#[]⟩ 0 []) 41)) := (Kept.refl _ _).alloc _
  have hA := heap_alloc_new w (.cells (entA ⟨#[]⟩ 0 []) 41)
  rw [entA_new] at hkA hA
  go_enter Tryz.func51, Tryz.ntmps51
  go_upto_region 1 with fail
  generalize w.alloc (.cells _ 41) = wA at *
  have hN := num_x r g v xs wA f (HR.out.kept hkA (fun f => f)) (HX.out.kept hkA (fun f => f)) hgr HB.out.1
  cases hd : numD xs with
  | error flt =>
    have HE : Hid (entD P ahead xs = .error flt) := by unfold Hid entD; rw [hd]
    rw [hd] at hN
    have HN := hid_of hN
    have HKA := hid_of hkA
    clear hN hkA hA hd
    go_wp2_with fail
    refine HN.out.mono ?_
    rintro e w2 ⟨rfl, h2, h3⟩
    refine ⟨rfl, ?_⟩
    unfold EntPost
    rw [HE.out]
    exact ⟨rfl, h2, (HKA.out.mono (fun _ _ f => f.elim)).trans h3⟩
  | ok q =>
    obtain ⟨k, r1⟩ := q
    have hN' : Calls Tryz.prog 48 #[.pointer (some ⟨r, 0, none⟩)] wA (fun e w' => (e = .returned (.int .i64 k) ∧ 0 ≤ k ∧ k ≤ 9223372036854775807) ∧ After wA w' r g f r1) := by rw [hd] at hN; exact hN
    have HN := hid_of hN'
    have hb1 : BytesOk r1 := by
      obtain ⟨hs, _⟩ := numD_split HB.out.1 hd
      have h1 := HB.out.1
      have h2 := HB.out.2
      rw [hs] at h1 h2
      exact ⟨fun x hx => h1 x (List.mem_append_right _ hx), by rw [List.length_append] at h2; omega⟩
    have HD := hid_of hd
    have HB1 := hid_of hb1
    have HKA := hid_of hkA
    have HA := hid_of hA
    have hszA : w.heap.size < wA.heap.size := (Array.getElem?_eq_some_iff.1 hA).1
    clear hN hN' hd hb1 hkA hA
    go_wp2_with fail
    refine HN.out.mono ?_
    rintro e w1 ⟨⟨rfl, hk0, hk1⟩, v1, ha1, ha2, ha3⟩
    have hs1 := ha3.size
    have HW1 : Hid (Kept (fun q => q = r) w w1) := (HKA.out.mono (fun _ _ f => f.elim)).trans ha3
    have HA1 := hid_of ha1
    have HA2 := hid_of ha2
    have HRES := hid_of ((ha3.block w.heap.size hszA (by omega)).trans HA.out)
    clear ha1 ha2 ha3 HN HA HKA HR HX
    have hO := heap_alloc_new w1 (.cells (entA ⟨#[]⟩ 0 []) 41)
    have hkO : Kept (fun _ => False) w1 (w1.alloc (.cells (entA ⟨#[]⟩ 0 []) 41)) := (Kept.refl _ _).alloc _
    have hw : w1.alloc (.cells (entA ⟨#[]⟩ 0 []) 41) = w1.alloc (.cells _ 41) := congrArg (fun c => w1.alloc (.cells c 41)) (entA_new ⟨#[]⟩ 0)
    rw [hw] at hO hkO
    clear hw
    have hs34 : (Tryz.prog.info? 41).map (·.size) = some (entA ⟨#[]⟩ k []).size := by rw [size47, entA_size _ _ _ (by decide)]
    have ho34 : (entA ⟨#[]⟩ 0 []).size = (entA ⟨#[]⟩ k []).size := by rw [entA_size _ _ _ (by decide), entA_size _ _ _ (by decide)]
    have h1c := entA_cells ⟨#[]⟩ k []
    go_upto_region 2 with (first | (refine wpList_bent rfl _ rfl k rfl ?_) | (refine wpList_store_row rfl 41 _ _ rfl w1.heap.size (entA ⟨#[]⟩ k []) rfl rfl 41 _ hO hs34 ho34 h1c ?_))
    generalize hwO : w1.alloc (.cells _ 41) = wO at *
    have hO' : wO.heap[w1.heap.size]? = some (.cells (entA ⟨#[]⟩ 0 []) 41 (0, 0)) := hO
    have hB := setRow_heap wO w1.heap.size _ (entA ⟨#[]⟩ k []) 41 (0, 0) hO'
    have hkR := kept_row wO w1.heap.size (entA ⟨#[]⟩ k [])
    have hkB : Kept (fun _ => False) w1 (wO.setRow w1.heap.size (entA ⟨#[]⟩ k [])) := hkO.step hkR (fun i hi e => by omega)
    clear hO hO' hkO hkR hwO hs34 ho34 h1c
    generalize wO.setRow w1.heap.size (entA ⟨#[]⟩ k []) = wB at *
    have b1 : wB.cell? ⟨w1.heap.size, 1, none⟩ = some (.int .i64 k) := by rw [cell_block _ _ _ _ _ _ hB]; exact entA_one _ _ _
    have hBl : w1.heap.size < wB.heap.size := (Array.getElem?_eq_some_iff.1 hB).1
    have HBB := hid_of hB
    have HRESB := hid_of ((hkB.block w.heap.size (Array.getElem?_eq_some_iff.1 HRES.out).1 (fun f => f)).trans HRES.out)
    have HRB := hid_of (HA1.out.kept hkB (fun f => f))
    have HXB := hid_of (HA2.out.kept hkB (fun f => f))
    have HWB : Hid (Kept (fun q => q = r) w wB) := HW1.out.trans (hkB.mono (fun _ _ f => f.elim))
    have hs1w : w.heap.size ≤ w1.heap.size := HW1.out.size
    clear hkB hB HA1 HA2
    by_cases hkk : k = 1 ∨ k = 2
    · have hTx := nameof_text P HPP.out k ahead r g v1 r1 wB f hkk HRB.out HXB.out hgr HB1.out
      cases hd2 : bytesD r1 with
      | error flt =>
        have HE : Hid (entD P ahead xs = .error flt) := by unfold Hid entD; rw [HD.out]; dsimp only; rw [if_pos hkk, hd2]
        rw [hd2] at hTx
        have HT := hid_of hTx
        clear hTx hd2 hkk
        go_wp2_with fail
        refine HT.out.mono ?_
        rintro e w2 ⟨rfl, h2, h3⟩
        refine ⟨rfl, ?_⟩
        unfold EntPost
        rw [HE.out]
        exact ⟨rfl, h2, HWB.out.trans h3⟩
      | ok q =>
        obtain ⟨nm, r2⟩ := q
        obtain ⟨may, hmay⟩ : ∃ b, b = (P nm && lessB ahead nm) := ⟨_, rfl⟩
        have hT' : Calls Tryz.prog 38 #[.int .i64 k, .string (str ahead), .func (.func 72) #[.pointer (some ⟨r, 0, none⟩)] #[]] wB (fun e w' => e = .returned (.tuple #[.string (str nm), .bool (P nm && lessB ahead nm)]) ∧ After wB w' r g f r2) := by rw [hd2] at hTx; exact hTx
        rw [← hmay] at hT'
        have HT := hid_of hT'
        have HMAY := hid_of hmay
        have HD2 := hid_of hd2
        have HKK := hid_of hkk
        clear hTx hT' hmay hd2 hkk
        cases may
        · have HE : Hid (entD P ahead xs = .error 51) := by unfold Hid entD; rw [HD.out]; dsimp only; rw [if_pos HKK.out, HD2.out]; dsimp only; rw [← HMAY.out]; rfl
          go_wp2_with fail
          refine HT.out.mono ?_
          rintro e w2 ⟨rfl, v2, a1, a2, a3⟩
          have HF := hid_of (fail_x r v2 f 51 w2 a1 (by decide))
          have HK2 := hid_of (HWB.out.trans a3)
          clear a1 a2 a3 HT
          go_wp2_with fail
          refine HF.out.mono ?_
          rintro e w3 ⟨rfl, h2, h3⟩
          refine ⟨rfl, ?_⟩
          unfold EntPost
          rw [HE.out]
          exact ⟨rfl, h2, HK2.out.trans h3⟩
        · go_wp2_with fail
          refine HT.out.mono ?_
          rintro e w2 ⟨rfl, v2, a1, a2, a3⟩
          have hx2 := (a3.block w1.heap.size hBl (by omega)).trans HBB.out
          have HRES2 := hid_of ((a3.block w.heap.size (Array.getElem?_eq_some_iff.1 HRESB.out).1 (by omega)).trans HRESB.out)
          have x0 : w2.cell? ⟨w1.heap.size, 0, none⟩ = some (.string ⟨#[]⟩) := by rw [cell_block _ _ _ _ _ _ hx2]; exact entA_zero _ _ _
          have xf := frozen_block _ _ 0 _ _ hx2
          have xl : w1.heap.size < w2.heap.size := (Array.getElem?_eq_some_iff.1 hx2).1
          obtain ⟨hb2, hbn⟩ := bytesD_rest HB1.out HD2.out
          have HK2 := hid_of (HWB.out.trans a3)
          have HX2 := hid_of hx2
          have HR2 := hid_of a1
          have HI2 := hid_of a2
          have HB2 := hid_of hb2
          clear a1 a2 a3 hx2 hb2 hbn HT b1
          go_upto_region 6 with fail
          have k3 := kept_set w2 w1.heap.size 0 (.string (str nm))
          have hx3 : (w2.setCell ⟨w1.heap.size, 0, none⟩ (.string (str nm))).heap[w1.heap.size]? = some (.cells (entA (str nm) k []) 41 (0, 0)) := by rw [set_block _ _ _ _ _ _ HX2.out, entA_name]
          have HRES3 := hid_of ((k3.block w.heap.size (Array.getElem?_eq_some_iff.1 HRES2.out).1 (by omega)).trans HRES2.out)
          have hr3 := HR2.out.kept k3 (by omega)
          have hi3 := HI2.out.kept k3 (by omega)
          have hK3 : Kept (fun q => q = r) w (w2.setCell ⟨w1.heap.size, 0, none⟩ (.string (str nm))) := HK2.out.step k3 (fun i hi e => by omega)
          clear x0 xf k3
          generalize w2.setCell ⟨w1.heap.size, 0, none⟩ (.string (str nm)) = w3 at *
          have hg3 : g < w3.heap.size := Nat.lt_of_lt_of_le hgl hK3.size
          have hBt := bytes_x r g v2 r2 w3 f hr3 hi3 hgr hg3 (by have := HB2.out.2; omega) HB2.out.1
          have HX3 := hid_of hx3
          have HK3 := hid_of hK3
          clear hx3 hr3 hi3 hK3 HR2 HI2 HX2 HK2
          cases hd3 : bytesD r2 with
          | error flt =>
            have HE : Hid (entD P ahead xs = .error flt) := by unfold Hid entD; rw [HD.out]; dsimp only; rw [if_pos HKK.out, HD2.out]; dsimp only; rw [← HMAY.out, if_pos rfl]; rw [hd3]
            rw [hd3] at hBt
            have HT := hid_of hBt
            clear hBt hd3
            go_wp2_with fail
            refine HT.out.mono ?_
            rintro e w4 ⟨rfl, h2, h3⟩
            refine ⟨rfl, ?_⟩
            unfold EntPost
            rw [HE.out]
            exact ⟨rfl, h2, HK3.out.trans h3⟩
          | ok q =>
            obtain ⟨fr, r3⟩ := q
            obtain ⟨fb, hfb⟩ : ∃ b, b = isFrontB fr := ⟨_, rfl⟩
            have hB' : Calls Tryz.prog 73 #[.pointer (some ⟨r, 0, none⟩)] w3 (fun e w' => (∃ v', e = .returned v' ∧ w'.ownsRow w3.heap.size 5 1 v' fr.length (fr.map (Value.int .u8))) ∧ After w3 w' r g f r3) := by rw [hd3] at hBt; exact hBt
            have HT := hid_of hB'
            have HFB := hid_of hfb
            have HD3 := hid_of hd3
            obtain ⟨_, hbf⟩ := bytesD_rest HB2.out hd3
            have HBF := hid_of hbf
            clear hBt hB' hd3 hfb hbf
            go_wp2_with fail
            refine HT.out.mono ?_
            rintro e w4 ⟨⟨v', rfl, ho⟩, v4, c1, c2, c3⟩
            obtain ⟨fo, fc, hv', hfc⟩ := ownsRow_cap ho
            have hIF := isfront_any v' fr w4 (isB_own ho) HBF.out.1 ⟨fo, fc, hv', hfc⟩ HBF.out.2
            rw [← HFB.out] at hIF
            have HIF := hid_of hIF
            have HO := hid_of ho
            have HC1 := hid_of c1
            have HC2 := hid_of c2
            have HC3 := hid_of c3
            clear hIF ho c1 c2 c3 HT
            subst hv'
            cases fb
            · have HE : Hid (entD P ahead xs = .error 51) := by unfold Hid entD; rw [HD.out]; dsimp only; rw [if_pos HKK.out, HD2.out]; dsimp only; rw [← HMAY.out, if_pos rfl]; rw [HD3.out]; dsimp only; rw [← HFB.out]; rfl
              go_wp2_with fail
              refine HIF.out.mono ?_
              rintro e w5 ⟨rfl, hk5⟩
              have HF := hid_of (fail_x r v4 f 51 w5 (HC1.out.kept hk5 (fun f => f)) (by decide))
              have HK5 := hid_of ((HK3.out.trans HC3.out).trans (hk5.mono (fun _ _ f => f.elim)))
              clear hk5 HIF
              go_wp2_with fail
              refine HF.out.mono ?_
              rintro e w6 ⟨rfl, h2, h3⟩
              refine ⟨rfl, ?_⟩
              unfold EntPost
              rw [HE.out]
              exact ⟨rfl, h2, HK5.out.trans h3⟩
            · have HE : Hid (entD P ahead xs = .ok (⟨nm, k, fr⟩, r3)) := by unfold Hid entD; rw [HD.out]; dsimp only; rw [if_pos HKK.out, HD2.out]; dsimp only; rw [← HMAY.out, if_pos rfl]; rw [HD3.out]; dsimp only; rw [← HFB.out]; rfl
              go_wp2_with fail
              refine HIF.out.mono ?_
              rintro e w5 ⟨rfl, hk5⟩
              have hx5 := ((HC3.out.block w1.heap.size (by have := (Array.getElem?_eq_some_iff.1 HX3.out).1; exact this) (by omega)).trans HX3.out)
              have hx5' := (hk5.block w1.heap.size (Array.getElem?_eq_some_iff.1 hx5).1 (fun f => f)).trans hx5
              clear HIF hx5
              have h32 : fr.length ≤ 32 := by
                have := HFB.out.symm
                unfold isFrontB at this
                exact of_decide_eq_true (Bool.and_eq_true_iff.1 this).1
              have hib5 := (isB_own HO.out).kept hk5 (fun _ _ f => f)
              have hfo : fo = none → fr = [] := fun e => by
                rcases HO.out.2 with ⟨_, h0⟩ | ⟨g', cap, cur, e', _⟩
                · exact List.length_eq_zero_iff.1 h0
                · rw [e] at e'; cases e'
              obtain ⟨z, hcp⟩ := copy_front (str nm) k fr w1.heap.size fo fc w5 hx5' hib5 h32 hfo
              have hB6 := setRow_heap w5 w1.heap.size _ (entA (str nm) k fr) 41 (0, 0) hx5'
              have hkR := kept_row w5 w1.heap.size (entA (str nm) k fr)
              have hres4 := (HC3.out.block w.heap.size (Array.getElem?_eq_some_iff.1 HRES3.out).1 (by omega)).trans HRES3.out
              have hres5 := (hk5.block w.heap.size (Array.getElem?_eq_some_iff.1 hres4).1 (fun f => f)).trans hres4
              have hres6 := (hkR.block w.heap.size (Array.getElem?_eq_some_iff.1 hres5).1 (by omega)).trans hres5
              have hW6 : Kept (fun q => q = r) w (w5.setRow w1.heap.size (entA (str nm) k fr)) := ((HK3.out.trans HC3.out).trans (hk5.mono (fun _ _ f => f.elim))).step hkR (fun i hi e => by omega)
              have hr6 := (HC1.out.kept hk5 (fun f => f)).kept hkR (by omega)
              have hi6 := (HC2.out.kept hk5 (fun f => f)).kept hkR (by omega)
              clear hx5' hib5 hres4 hres5 hkR
              go_upto_region 10 with fail
              clear hcp
              generalize w5.setRow w1.heap.size (entA (str nm) k fr) = w6 at *
              have hs34 : (Tryz.prog.info? 41).map (·.size) = some (entA (str nm) k fr).size := by rw [size47, entA_size _ _ _ h32]
              have hres6' : w6.heap[w.heap.size]? = some (.cells (entA ⟨#[]⟩ 0 []) 41 (0, 0)) := hres6
              have ho34 : (entA ⟨#[]⟩ 0 []).size = (entA (str nm) k fr).size := by rw [entA_size _ _ _ (by decide), entA_size _ _ _ h32]
              have h1c := entA_cells (str nm) k fr
              have hFIN := setRow_heap w6 w.heap.size _ (entA (str nm) k fr) 41 (0, 0) hres6'
              have hkF := kept_row w6 w.heap.size (entA (str nm) k fr)
              have HG : Hid (EntPost P ahead xs r g f w (.returned (.agg (entA (str nm) k fr))) (w6.setRow w.heap.size (entA (str nm) k fr))) := by
                unfold Hid EntPost
                rw [HE.out]
                exact ⟨rfl, v4, hr6.kept hkF (by omega), hi6.kept hkF (by omega), hW6.step hkF (fun i hi e => by omega)⟩
              have HFI := hid_of hFIN
              clear hFIN hkF hW6 hr6 hi6 hres6
              go_wp2_with (first | refine wpList_load_row rfl 41 _ rfl w1.heap.size rfl 41 (entA (str nm) k fr) (0, 0) _ hB6 Tryz.underlying41 rfl hs34 ?_ | refine wpList_store_row rfl 41 _ _ rfl w.heap.size (entA (str nm) k fr) rfl rfl 41 _ hres6' hs34 ho34 h1c ?_)
              refine bodyPost_ret (v := .agg (entA (str nm) k fr)) ?_ rfl HG.out
              exact results_cell_row (by rfl) _ _ w.heap.size 41 _ (0, 0) _ (by rfl) HFI.out Tryz.underlying41 rfl hs34
    · have HE : Hid (entD P ahead xs = .error 51) := by unfold Hid entD; rw [HD.out]; dsimp only; rw [if_neg hkk]
      have HN := hid_of (nameof_none k (str ahead) (.func (.func 72) #[.pointer (some ⟨r, 0, none⟩)] #[]) wB hkk)
      have HF := hid_of (fail_x r v1 f 51 wB HRB.out (by decide))
      clear hkk
      go_wp2_with fail
      refine HN.out.mono ?_
      rintro e w2 ⟨rfl, hw2⟩
      have hw2s := hw2.symm
      subst hw2s
      clear hw2 HN
      go_wp2_with fail
      refine HF.out.mono ?_
      rintro e w2 ⟨rfl, h2, h3⟩
      refine ⟨rfl, ?_⟩
      unfold EntPost
      rw [HE.out]
      exact ⟨rfl, h2, HWB.out.trans h3⟩
end Go.Proofs.YtcpkbajmilkhpabGreatDoor
