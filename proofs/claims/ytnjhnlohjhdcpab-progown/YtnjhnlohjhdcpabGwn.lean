/-
  grown: the walk (under way).
-/
import Derived.Test.YtnjhnlohjhdcpabGpr
import Derived.Test.YtnjhnlohjhdcpabInn
import Derived.Deep.RegionHeld3
namespace Go.Proofs.Ytnjhnlohjhdcpab
open Go.ChangeShapes Go.WideShapes Go.ChangeAt Go.RowKit Go.Deep
set_option linter.unusedVariables false
set_option linter.unusedSimpArgs false
set_option maxRecDepth 100000

def mkV (i k : Int) : Int := IntKind.u8.wrap (i * 37 + k)
def mkB (i k : Nat) : List Value := [.int .u8 (mkV i k)]
theorem Try.info42r : (Try.prog.info? 42).map (fun i => (i.zero, i.size, i.bytes)) = some (some (.slice none 0 0), 1, 24) := by kernel_rfl

def mkI (i k : Nat) : List Value := [.int .i64 (500 + (i : Int)), .int .i64 (k : Int)]
def anI (i k : Nat) : List Value := [.int .i64 (900 + (i : Int)), .int .i64 (k : Int)]
theorem app_code {W : World} {lv c : Value} {ls : List RL} (h : W.ownsRow 0 42 1 lv ls.length (ls.map RL.v)) (hone : c.oneCell' = true) (hsz : (ls.length + 1) * 24 ≤ 140737488355328) :
    ∃ lv' w', (Builtin.append_ #[63, 63] 63 #[lv, .slice (some ⟨W.heap.size, 0, none⟩) 1 1]).run Try.prog (W.alloc (.cells #[c] 42)) = .ok lv' w' ∧ w'.ownsRow 0 42 1 lv' (ls.length + 1) (ls.map RL.v ++ [c]) ∧ Kept (fun q => lv.ownBlock = some q) W w' ∧ (lv'.ownBlock = lv.ownBlock ∨ ∀ q, lv'.ownBlock = some q → W.heap.size ≤ q) := by
  obtain ⟨i0, hi, hz0, hz1, hz2⟩ := info_parts Try.info42r
  obtain ⟨v', w', hr, h2, h3, h4, _⟩ := append_old (P := Try.prog) (W.alloc (.cells #[c] 42)) 0 63 63 42 i0 _ 1 24 Try.underlying63 hi hz0 hz1 hz2 rfl (by decide) lv ls.length (ls.map RL.v) (h.alloc _) ⟨W.heap.size, 0, none⟩ 1 1 [c] rfl (fun j u hj => by
    rw [Addr.add_lit, cell_block _ _ _ _ _ _ (heap_alloc_new W _), Nat.zero_add]
    simpa using hj) (fun u hu => by simp at hu; rw [hu]; exact hone) (by unfold maxLen; omega) hsz (Nat.zero_le _)
  refine ⟨v', w', hr, h2, ((Kept.refl _ W).alloc _).grown h3 (fun k hk => .inr hk), ?_⟩
  rcases h4 with e | e
  · exact .inl e
  · refine .inr (fun q hq => ?_)
    rw [e] at hq
    have := Option.some.inj hq
    simp at this
    omega
theorem app_codes {W : World} {gc n cc : Nat} {ls : List RL} (h : W.ownsRow 0 42 1 (.slice (some ⟨gc, 0, none⟩) n cc) ls.length (ls.map RL.v)) (hn : n = ls.length) (hone : ∀ u ∈ ls.map RL.v, u.oneCell' = true) (hsz : ls.length ≤ 1000) :
    ∃ mv w', (Builtin.append_ #[63, 63] 63 #[.slice none 0 0, .slice (some ⟨gc, 0, none⟩) n cc]).run Try.prog W = .ok mv w' ∧ w'.ownsRow W.heap.size 42 1 mv ls.length (ls.map RL.v) ∧ Kept (fun _ => False) W w' := by
  obtain ⟨i0, hi, hz0, hz1, hz2⟩ := info_parts Try.info42r
  subst hn
  obtain ⟨v', w', hr, h2, h3, h4, _⟩ := append_old (P := Try.prog) W W.heap.size 63 63 42 i0 _ 1 24 Try.underlying63 hi hz0 hz1 hz2 rfl (by decide) (.slice none 0 0) 0 [] (World.ownsRow_nil _ _ _ _) ⟨gc, 0, none⟩ ls.length cc (ls.map RL.v) (by simp) (fun j u hj => h.cells (g := gc) rfl j u hj) hone (by unfold maxLen; omega) (by omega) (Nat.le_refl _)
  rw [Nat.zero_add, List.nil_append] at h2
  exact ⟨v', w', hr, h2, (Kept.refl _ W).grown h3 (fun k hk => by cases hk)⟩
theorem Try.info22r : (Try.prog.info? 22).map (fun i => (i.zero, i.size, i.bytes)) = some (some (.slice none 0 0), 1, 24) := by kernel_rfl
theorem app_datum {W : World} {lv c : Value} {ls : List RL} (h : W.ownsRow 0 22 1 lv ls.length (ls.map RL.v)) (hone : c.oneCell' = true) (hsz : (ls.length + 1) * 24 ≤ 140737488355328) :
    ∃ lv' w', (Builtin.append_ #[49, 49] 49 #[lv, .slice (some ⟨W.heap.size, 0, none⟩) 1 1]).run Try.prog (W.alloc (.cells #[c] 22)) = .ok lv' w' ∧ w'.ownsRow 0 22 1 lv' (ls.length + 1) (ls.map RL.v ++ [c]) ∧ Kept (fun q => lv.ownBlock = some q) W w' ∧ (lv'.ownBlock = lv.ownBlock ∨ ∀ q, lv'.ownBlock = some q → W.heap.size ≤ q) := by
  obtain ⟨i0, hi, hz0, hz1, hz2⟩ := info_parts Try.info22r
  obtain ⟨v', w', hr, h2, h3, h4, _⟩ := append_old (P := Try.prog) (W.alloc (.cells #[c] 22)) 0 49 49 22 i0 _ 1 24 Try.underlying49 hi hz0 hz1 hz2 rfl (by decide) lv ls.length (ls.map RL.v) (h.alloc _) ⟨W.heap.size, 0, none⟩ 1 1 [c] rfl (fun j u hj => by
    rw [Addr.add_lit, cell_block _ _ _ _ _ _ (heap_alloc_new W _), Nat.zero_add]
    simpa using hj) (fun u hu => by simp at hu; rw [hu]; exact hone) (by unfold maxLen; omega) hsz (Nat.zero_le _)
  refine ⟨v', w', hr, h2, ((Kept.refl _ W).alloc _).grown h3 (fun k hk => .inr hk), ?_⟩
  rcases h4 with e | e
  · exact .inl e
  · refine .inr (fun q hq => ?_)
    rw [e] at hq
    have := Option.some.inj hq
    simp at this
    omega
theorem fulls_fulls (mk : Nat → Nat → List Value) (ls : List RL) : fulls mk (fulls mk ls) = fulls mk ls := by
  show (List.range (fulls mk ls).length).map _ = _
  rw [fulls_len]
  refine List.map_congr_left (fun i hi => ?_)
  have hi := List.mem_range.1 hi
  rw [fulls_at ls hi]
def anV (i k : Int) : Int := IntKind.u8.wrap (255 - i * 37 - k)
def anB (i k : Nat) : List Value := [.int .u8 (anV i k)]
theorem cell_two_new (w : World) (a b : Value) (t : TypeId) : ∀ j u, [a, b][j]? = some u → (w.alloc (.cells #[a, b] t)).cell? ((⟨w.heap.size, 0, none⟩ : Addr).add j) = some u := by
  intro j u hu
  rw [Addr.add_lit, Nat.zero_add, cell_block _ _ _ _ _ _ (heap_alloc_new w _)]
  match j, hu with
  | 0, hu => exact hu
  | 1, hu => exact hu
  | j + 2, hu => simp at hu
theorem Try.info46r : (Try.prog.info? 46).map (fun i => (i.zero, i.size, i.bytes)) = some (some (.agg #[.int .i64 0, .int .i64 0]), 2, 16) := by kernel_rfl
theorem neq_self (a b : Int) (w : World) : (binOp .neq 46 (.agg #[.int .i64 a, .int .i64 b]) (.agg #[.int .i64 a, .int .i64 b])).run Try.prog w = .ok (.bool false) w := by
  rw [run_neq52]
  simp
structure Fq (w1 wr : World) (v cv : Value) (ps : List PR) (ls : List RL) : Prop where
  row : wr.ownsRow 0 25 3 v ps.length (ps.flatMap PR.cells)
  crow : wr.ownsRow 0 42 1 cv ls.length (ls.map RL.v)
  low : ∀ q, cv.ownBlock = some q → q < w1.heap.size
theorem Fq.same {w1 wr w' : World} {v cv : Value} {ps : List PR} {ls : List RL} (h : Fq w1 wr v cv ps ls) (hk : Kept (fun _ => False) wr w') : Fq w1 w' v cv ps ls := ⟨hk.ownsRow h.row (fun _ _ f => f), hk.ownsRow h.crow (fun _ _ f => f), h.low⟩
theorem Fq.elem {w1 wr w' : World} {v cv u : Value} {ps : List PR} {ls : List RL} {e s n : Nat} {xs : List Value} (h : Fq w1 wr v cv ps ls) (hd : wr.ownsRow 0 e s u n xs) (h1 : e ≠ 25) (h2 : e ≠ 42) (hk : Kept (fun q => u.ownBlock = some q) wr w') : Fq w1 w' v cv ps ls :=
  ⟨hk.ownsRow h.row (fun q hq e => own_unlike hd h.row h1 q e hq), hk.ownsRow h.crow (fun q hq e => own_unlike hd h.crow h2 q e hq), h.low⟩
theorem Fq.slot {w1 wr : World} {v cv u : Value} {ps : List PR} {ls : List RL} {e n g c i : Nat} {xs : List Value} (h : Fq w1 wr v cv ps ls) (hd : wr.ownsRow 0 e 1 (.slice (some ⟨g, 0, none⟩) n c) n xs) (h1 : e ≠ 25) (hg : w1.heap.size ≤ g) : Fq w1 (wr.setCell ⟨g, i, none⟩ u) v cv ps ls :=
  ⟨(kept_set wr g i u).ownsRow h.row (fun q hq e => own_unlike hd h.row h1 g rfl (by rw [← e]; exact hq)), (kept_set wr g i u).ownsRow h.crow (fun q hq e => by have := h.low q hq; omega), h.low⟩
section
variable {T : Nat → Prop} {e et s e' et' s' : Nat} {mk an mk' an' : Nat → Nat → List Value} {w1 wr w' : World} {mv mv' : Value} {ls ms ls' ms' : List RL} {k i k' i' : Nat}
/-- The other family stays, while one of a row's own elements is put behind. -/
theorem MorN.aside (h : MorN T e et s mk an w1 wr mv ls ms k i) (h' : MorN T e' et' s' mk' an' w1 wr mv' ls' ms' k' i') (hb : RLn e s w1 ls) (hb' : RLn e' s' w1 ls') (hne : e ≠ e') (he : e ≠ et') (hT : ∀ q, Blk ls q → T q) {j : Nat} (hj : j < ls.length) (hk : Kept (fun q => (rlAt ms j).v.ownBlock = some q) wr w') : MorN T e' et' s' mk' an' w1 w' mv' ls' ms' k' i' := by
  have hjm : j < ms.length := by rw [h.len]; exact hj
  have ho := h.bls.own j hjm
  have hB : ∀ q, (rlAt ms j).v.ownBlock = some q → Blk ls q ∨ w1.heap.size ≤ q := fun q hq => h.blk ⟨j, hjm, hq⟩
  refine h'.other hk (fun q hq e => own_unlike ho h'.bls.row he q e hq) (fun q hq e => ?_) (fun q hq e => ?_) (fun q hq e => ?_)
  · obtain ⟨m, hm, hb9⟩ := hq
    exact own_unlike ho (h'.bls.own m hm) hne q e hb9
  · obtain ⟨m, hm, hb9⟩ := hq
    rcases hB q e with ⟨m2, hm2, hb2⟩ | h2
    · exact own_unlike (hb.own m2 hm2) (hb'.own m hm) hne q hb2 hb9
    · have := hb'.olt hm q hb9
      omega
  · rcases hB q e with h2 | h2
    · exact hT q h2
    · omega
theorem MorN.slot {gm n c j : Nat} {u : Value} (h' : MorN T e' et' s' mk' an' w1 wr mv' ls' ms' k' i') (hb' : RLn e' s' w1 ls') {xs : List Value} (hd : wr.ownsRow 0 et 1 (.slice (some ⟨gm, 0, none⟩) n c) n xs) (h1 : et ≠ et') (h2 : et ≠ e') (hg : w1.heap.size ≤ gm) : MorN T e' et' s' mk' an' w1 (wr.setCell ⟨gm, j, none⟩ u) mv' ls' ms' k' i' := by
  refine h'.other (kept_set wr gm j u) (fun q hq e => own_unlike hd h'.bls.row h1 gm rfl (by rw [← e]; exact hq)) (fun q hq e => ?_) (fun q hq e => ?_) (fun q hq e => ?_)
  · obtain ⟨m, hm, hb9⟩ := hq
    exact own_unlike hd (h'.bls.own m hm) h2 gm rfl (by rw [← e]; exact hb9)
  · obtain ⟨m, hm, hb9⟩ := hq
    have := hb'.olt hm q hb9
    omega
  · omega
end
/-- While the data is gathered. -/
structure Dat (w1 wr : World) (dv : Value) (DL : List RL) (i : Nat) : Prop where
  rls : RLs 5 22 1 wr dv (DL.take i)
  new : ∀ q, dv.ownBlock = some q → w1.heap.size ≤ q
theorem Dat.push {w1 wr w' : World} {dv dv' : Value} {DL : List RL} {i : Nat} (h : Dat w1 wr dv DL i) (hd : RLn 5 1 wr DL) (hi : i < DL.length) (hown : w'.ownsRow 0 22 1 dv' ((DL.take i).length + 1) ((DL.take i).map RL.v ++ [(rlAt DL i).v])) (hk : Kept (fun q => dv.ownBlock = some q) wr w') (hat : dv'.ownBlock = dv.ownBlock ∨ ∀ q, dv'.ownBlock = some q → wr.heap.size ≤ q) (hs : w1.heap.size ≤ wr.heap.size) : Dat w1 w' dv' DL (i + 1) := by
  have hti : ∀ j, j < i → rlAt (DL.take i) j = rlAt DL j := fun j hj => by unfold rlAt; simp [List.getD, List.getElem?_take, hj]
  have e : DL.take (i + 1) = DL.take i ++ [rlAt DL i] := by rw [List.take_add_one, rlAt_get hi]; rfl
  have htl : (DL.take i).length = i := by rw [List.length_take]; omega
  refine ⟨?_, fun q hq => ?_⟩
  · rw [e]
    exact RLs.push (bs := [rlAt DL i]) h.rls (fun m hm => by
      have e0 : m = 0 := by simpa using hm
      subst e0
      exact hd.own i hi) (fun a b hab hb => by simp at hb; omega) (fun m hm q hq => by
      have e0 : m = 0 := by simpa using hm
      subst e0
      obtain ⟨j, hj, e2⟩ := hq
      rw [htl] at hj
      rw [hti j hj] at e2
      exact hd.apart j i hj hi q e2) (fun m hm q hq => by
      have e0 : m = 0 := by simpa using hm
      subst e0
      exact own_unlike (hd.own i hi) h.rls.row (by decide) q hq) (by simpa using hown) hk hat
  · rcases hat with e' | e'
    · exact h.new q (e' ▸ hq)
    · exact Nat.le_trans hs (e' q hq)
set_option maxHeartbeats 8000000 in
theorem grown_some (gl lc N : Nat) (ps : List PR) (w : World) (h : AllG w (.slice (some ⟨gl, 0, none⟩) N lc) ps) (hN : N = ps.length) (hn : N ≤ 9) (hp : 0 < N) (hlong : ∀ x ∈ ps, x.p.data.length ≤ 4194304 ∧ (1 ≤ x.p.fns.length ∧ x.p.fns.length ≤ 64) ∧ ∀ f ∈ x.p.fns, f.code.length ≤ 4194304) :
    Calls Try.prog 13 #[.slice (some ⟨gl, 0, none⟩) N lc] w fun e w' => e = .returned (.bool true) ∧ Kept (PBlk ps) w w' := by
  obtain ⟨i42, hi42, z420, z421, z422⟩ := info_parts Try.info42r
  have HA := hid_of h
  have HLONG := hid_of hlong
  have HN := hid_of hN
  have hnI : (N : Int) ≤ 9 := by omega
  clear h hlong hN
  go_enter Try.func13, Try.ntmps13
  go_wp2_with fail
  go_loopw [3, 4] (fun cv i wr => ∃ (k : Nat) (ls : List RL) (cn : Nat) (co : Option Addr) (cc : Nat), k ≤ N ∧ i = .int .i64 (k : Int) ∧ cv = .slice co cn cc ∧ Hid (cn = ls.length) ∧ Hid (Gat w wr (.slice (some ⟨gl, 0, none⟩) N lc) ps cv ls k 0) ∧ Hid (FilN (PBlk ps) 5 1 mkB w wr (dls ps) k 0)) (fun _ i _ => N - (intOf i).toNat)
  case atStart => exact ⟨0, [], 0, none, 0, Nat.zero_le _, rfl, rfl, rfl, Gat.start HA.out, FilN.start HA.out.data⟩
  case round =>
    obtain ⟨k, ls, cn, co, cc, hk, rfl, rfl, hcn, HG, HF⟩ := hrel
    by_cases hlt : k < N
    · have hltI : (k : Int) < (N : Int) := by omega
      have hkl : k < ps.length := by rw [← HN.out]; exact hlt
      obtain ⟨x, hx⟩ : ∃ x, ps[k]? = some x := ⟨_, List.getElem?_eq_getElem hkl⟩
      have HX := hid_of hx
      have HKL : Hid (k < (dls ps).length) := by unfold Hid; rw [dls_len]; exact hkl
      obtain ⟨hl1, hl2, hl3⟩ := HLONG.out x (List.mem_of_getElem? hx)
      have HL3 := hid_of hl3
      obtain ⟨n, hn9⟩ : ∃ n, n = x.p.data.length := ⟨_, rfl⟩
      obtain ⟨nf, hnf⟩ : ∃ n, n = x.p.fns.length := ⟨_, rfl⟩
      have hnI2 : (n : Int) ≤ 4194304 := by omega
      have hnfI2 : (nf : Int) ≤ 64 := by omega
      have hnf1 : 1 ≤ nf := by omega
      have HNN := hid_of hn9
      have HNF := hid_of hnf
      have HAT := hid_of (dls_at hx)
      obtain ⟨vao, vc, hv⟩ := ownsRow_shape (HA.out.own k x hx).dat
      obtain ⟨fao, fc, hfv⟩ := ownsRow_shape (HA.out.own k x hx).fns.row
      rw [← hn9] at hv
      rw [← hnf] at hfv
      have HV := hid_of hv
      have HFV := hid_of hfv
      clear hv hfv hn9 hnf hkl hx hl1 hl2 hl3
      go_wp2_with fail
      go_loopw [5] (fun j wr => ∃ m : Nat, m ≤ n ∧ j = .int .i64 (m : Int) ∧ Hid (Gat w wr (.slice (some ⟨gl, 0, none⟩) N lc) ps (.slice co cn cc) ls k 0) ∧ Hid (FilN (PBlk ps) 5 1 mkB w wr (dls ps) k m)) (fun j _ => n - (intOf j).toNat)
      case atStart => exact ⟨0, Nat.zero_le _, rfl, HG, HF⟩
      case round =>
        clear HG HF
        obtain ⟨m, hm, rfl, HG, HF⟩ := hrel
        have hrow := HG.out.row
        rw [← HN.out] at hrow
        have c1 : wr.cell? ⟨gl, k * 3 + 1, none⟩ = some (.slice vao n vc) := by
          rw [hrow.cellAt _ (by omega), prcells_at ps k x HX.out 1 (by omega), ← HV.out]
          rfl
        have c2 : wr.cell? ⟨gl, k * 3 + 2, none⟩ = some (.slice fao nf fc) := by
          rw [hrow.cellAt _ (by omega), prcells_at ps k x HX.out 2 (by omega), ← HFV.out]
          rfl
        clear hrow
        by_cases hml : m < n
        · have hmlI : (m : Int) < (n : Int) := by omega
          have hown := HF.out.own k HKL.out
          rw [HAT.out] at hown
          have hown : wr.ownsRow 0 5 1 x.dv x.p.data.length (cAt mkB 1 (dls ps) k m k) := hown
          rw [HV.out, ← HNN.out] at hown
          obtain ⟨g, hvg⟩ : ∃ g, vao = some ⟨g, 0, none⟩ := by
            obtain ⟨g, c, e⟩ := own_at0 hown (by omega)
            simp only [Value.slice.injEq] at e
            exact ⟨g, e.1⟩
          subst hvg
          obtain ⟨u, hu⟩ : ∃ u, (cAt mkB 1 (dls ps) k m k)[m]? = some u := ⟨_, List.getElem?_eq_getElem (by rw [hown.1]; omega)⟩
          have s1 := own_cell hown (g := g) rfl m u hu
          have f1 := hown.frozenAt m
          have hs := (hown.stored m (.int .u8 (mkV k m))).1
          rw [cAt_one (n := n) (fun _ => rfl) (by rw [HAT.out]; show (x.p.data.map _).length = _; rw [List.length_map, ← HNN.out]; omega) hml rfl] at hs
          have hks : Kept (fun q => x.dv.ownBlock = some q) wr (wr.setCell ⟨g, m, none⟩ (.int .u8 (mkV k m))) := (kept_set wr g m _).mono (fun q _ e => by rw [HV.out, e]; rfl)
          have HS := hid_of (FilN.step (T := PBlk ps) (fun q hq => dls_blk hq) HA.out.data HF.out HKL.out (by rw [HAT.out]; show World.ownsRow _ 0 5 1 x.dv x.p.data.length _; rw [HV.out, ← HNN.out]; exact hs) (by rw [HAT.out]; exact hks))
          have HG2 := hid_of (HG.out.byte (dv := x.dv) (by rw [HV.out]; exact hown) hks)
          clear hown hu hs hks HF HG
          unfold mkV at HS HG2
          go_wp2
          go_roundw
          case rel => exact ⟨m + 1, by omega, by go_num, HG2, HS⟩
          case measure => simp [intOf]; omega
        · have hmI : ¬ ((m : Int) < (n : Int)) := by omega
          have hmn : m = n := by omega
          subst hmn
          have HF2 := hid_of (FilN.next HA.out.data HKL.out (by rw [HAT.out]; show FilN _ _ _ _ _ _ _ _ x.p.data.length; rw [← HNN.out]; exact HF.out))
          clear HF
          go_wp2_with fail
          clear c1 c2 hmI hm
          go_loopw [3, 6] (fun cv j wr => ∃ (m : Nat) (ls : List RL) (cn : Nat) (co : Option Addr) (cc : Nat), m ≤ nf ∧ m ≤ 6 ∧ j = .int .i64 (m : Int) ∧ cv = .slice co cn cc ∧ Hid (cn = ls.length) ∧ Hid (Gat w wr (.slice (some ⟨gl, 0, none⟩) N lc) ps cv ls k m) ∧ Hid (FilN (PBlk ps) 5 1 mkB w wr (dls ps) (k + 1) 0)) (fun _ j _ => 6 - (intOf j).toNat)
          case atStart => exact ⟨0, ls, cn, co, cc, Nat.zero_le _, by omega, rfl, rfl, hcn, HG, HF2⟩
          case round =>
            clear HG HF2
            obtain ⟨j, ls, cn, co, cc, hj1, hj2, rfl, rfl, hcn, HG, HF⟩ := hrel
            have hrow := HG.out.row
            rw [← HN.out] at hrow
            have c2 : wr.cell? ⟨gl, k * 3 + 2, none⟩ = some (.slice fao nf fc) := by
              rw [hrow.cellAt _ (by omega), prcells_at ps k x HX.out 2 (by omega), ← HFV.out]
              rfl
            clear hrow
            by_cases hjn : j < nf
            · have hjnI : (j : Int) < (nf : Int) := by omega
              by_cases hj6 : j < 6
              · have hj6I : (j : Int) < 6 := by omega
                have hof := HG.out.fns k x HX.out
                have hfr := hof.row
                rw [HFV.out, ← HNF.out] at hfr
                obtain ⟨gf, hgf⟩ : ∃ g, fao = some ⟨g, 0, none⟩ := by
                  obtain ⟨g, c, e⟩ := own_at0 hfr (by omega)
                  simp only [Value.slice.injEq] at e
                  exact ⟨g, e.1⟩
                subst hgf
                have hjl : j < x.p.fns.length := by rw [← HNF.out]; exact hjn
                obtain ⟨f, hf⟩ : ∃ f, x.p.fns[j]? = some f := ⟨_, List.getElem?_eq_getElem hjl⟩
                obtain ⟨c, hc⟩ : ∃ c, x.cvs[j]? = some c := ⟨_, List.getElem?_eq_getElem (by rw [hof.len]; exact hjl)⟩
                obtain ⟨cao, ccc, hcs⟩ := ownsRow_shape (hof.at' j f c hf hc)
                obtain ⟨nc, hnc⟩ : ∃ n, n = f.code.length := ⟨_, rfl⟩
                have x3 : wr.cell? ⟨gf, j * 4 + 3, none⟩ = some (.slice cao nc ccc) := by
                  rw [hfr.cellAt _ (by omega), fcells_at _ x.cvs j f c hf hc 3 (by omega), hcs, hnc]
                  rfl
                have hlsz := HG.out.len
                obtain ⟨cv', w', hr, ho, hkp, hat⟩ := app_code (c := .slice cao nc ccc) HG.out.cod.row rfl (by omega)
                have hGP := HG.out.push HA.out HX.out hf (c := .slice cao nc ccc) (by rw [hc, hcs, hnc]) (HL3.out f (List.mem_of_getElem? hf)) ho hkp hat HF.out.kept.size
                have HF3 := hid_of (HF.out.other hkp (fun q hq e => by
                  obtain ⟨i9, hi9, hb9⟩ := hq
                  exact own_unlike (HF.out.own i9 hi9) HG.out.cod.row (by decide) q hb9 e) (fun q hq e => absurd (HG.out.new q e) (by omega)))
                obtain ⟨co', cc', hcv'⟩ := ownsRow_shape ho
                subst hcv'
                have HR := hid_of hr
                have HGP := hid_of hGP
                have hcn1 : cn = ls.length := hcn.out
                rw [← hcn1] at HR HGP
                clear hcn1 hof hfr hr ho hkp hat hGP hf hc hcs hnc hjl hlsz HG HF
                go_wp2_with (at_builtin; refine wp_app rfl (.tmp 64) (.tmp 74) 63 63 rfl _ _ rfl rfl _ w' HR.out ?_)
                go_roundw
                case rel => exact ⟨j + 1, _, _, _, _, by omega, by omega, by go_num, rfl, (by unfold Hid; rw [List.length_append, hcn.out]; rfl), HGP, HF3⟩
                case measure => simp [intOf]; omega
              · have hj6I : ¬ ((j : Int) < 6) := by omega
                have HGT := hid_of (HG.out.turn hj2 (by omega))
                clear HG
                go_wp2
                go_roundw
                case rel => exact ⟨k + 1, ls, cn, co, cc, by omega, by go_num, rfl, hcn, HGT, HF⟩
                case measure => simp [intOf]; omega
            · have hjnI : ¬ ((j : Int) < (nf : Int)) := by omega
              have HGT := hid_of (HG.out.turn hj2 (by omega))
              clear HG
              go_wp2
              go_roundw
              case rel => exact ⟨k + 1, ls, cn, co, cc, by omega, by go_num, rfl, hcn, HGT, HF⟩
              case measure => simp [intOf]; omega
    · have hkI : ¬ ((k : Int) < (N : Int)) := by omega
      have hkN : k = N := by omega
      subst hkN
      go_wp2_with fail
      rename World => w1
      have HC := hid_of HG.out.cod.bare
      have HBT : Hid (∀ q, Blk ls q → PBlk ps q) := fun q hq => HG.out.blk hq
      have HLN : Hid (∀ i, i < ls.length → (rlAt ls i).n ≤ 4194304) := fun i hi => (HG.out.src _ (List.mem_of_getElem? (rlAt_get hi))).1
      have HFU := hid_of (FilN.rows (mk := mkB) HA.out.data (by rw [dls_len, ← HN.out]; exact HF.out))
      have HFR : Hid (Fr w1 (.slice (some ⟨gl, 0, none⟩) k lc) (.slice co cn cc) ps ls (fulls mkB (dls ps))) := ⟨HG.out.row, HG.out.cod.row, HFU.out⟩
      have HK1 := hid_of HF.out.kept
      have HONE := hid_of HG.out.cod.one
      have HLOW : Hid (∀ q, (Value.slice co cn cc).ownBlock = some q → q < w1.heap.size) := fun q hq => HG.out.cod.lt q hq
      have HPOS : Hid (0 < ls.length) := by have h9 := HG.out.pos; unfold Hid; omega
      have hcI : (cn : Int) ≤ 54 := by have := HG.out.len; have := hcn.out; omega
      clear HG HF hkI hlt hk
      go_loopw [7] (fun i wr => ∃ a : Nat, a ≤ cn ∧ i = .int .i64 (a : Int) ∧ Hid (Fr wr (.slice (some ⟨gl, 0, none⟩) k lc) (.slice co cn cc) ps ls (fulls mkB (dls ps))) ∧ Hid (FilN (PBlk ps) 46 2 mkI w1 wr ls a 0)) (fun i _ => cn - (intOf i).toNat)
      case atStart => exact ⟨0, Nat.zero_le _, rfl, HFR, FilN.start HC.out⟩
      case round =>
        clear HFR
        obtain ⟨a, ha, rfl, HFR, HFI⟩ := hrel
        by_cases hal : a < cn
        · have halI : (a : Int) < (cn : Int) := by omega
          have hls : a < ls.length := by rw [← hcn.out]; exact hal
          have HLS := hid_of hls
          obtain ⟨n, hn9⟩ : ∃ n, n = (rlAt ls a).n := ⟨_, rfl⟩
          have hnI2 : (n : Int) ≤ 4194304 := by have := HLN.out a hls; omega
          have HNN := hid_of hn9
          obtain ⟨vao, vc, hv⟩ := ownsRow_shape (HFI.out.own a hls)
          rw [← hn9] at hv
          have HV := hid_of hv
          obtain ⟨gc, hgc⟩ : ∃ g, co = some ⟨g, 0, none⟩ := by
            obtain ⟨g, c, e⟩ := own_at0 HFR.out.crow (by have := hcn.out; omega)
            simp only [Value.slice.injEq] at e
            exact ⟨g, e.1⟩
          subst hgc
          clear hv hn9 hls
          go_wp2_with fail
          go_loopw [8] (fun j wr => ∃ m : Nat, m ≤ n ∧ j = .int .i64 (m : Int) ∧ Hid (Fr wr (.slice (some ⟨gl, 0, none⟩) k lc) (.slice (some ⟨gc, 0, none⟩) cn cc) ps ls (fulls mkB (dls ps))) ∧ Hid (FilN (PBlk ps) 46 2 mkI w1 wr ls a m)) (fun j _ => n - (intOf j).toNat)
          case atStart => exact ⟨0, Nat.zero_le _, rfl, HFR, HFI⟩
          case round =>
            clear HFR HFI
            obtain ⟨m, hm, rfl, HFR, HFI⟩ := hrel
            have c0 : wr.cell? ⟨gc, a, none⟩ = some (.slice vao n vc) := by
              rw [row_cell HFR.out.crow (g := gc) rfl a HLS.out, HV.out]
            by_cases hml : m < n
            · have hmlI : (m : Int) < (n : Int) := by omega
              have hown := HFI.out.own a HLS.out
              rw [HV.out, ← HNN.out] at hown
              obtain ⟨g, hvg⟩ : ∃ g, vao = some ⟨g, 0, none⟩ := by
                obtain ⟨g, c, e⟩ := own_at0 hown (by omega)
                simp only [Value.slice.injEq] at e
                exact ⟨g, e.1⟩
              subst hvg
              obtain ⟨u, hu⟩ : ∃ u, (cAt mkI 2 ls a m a)[m * 2]? = some u := ⟨_, List.getElem?_eq_getElem (by rw [hown.1]; omega)⟩
              obtain ⟨u', hu'⟩ : ∃ u, (cAt mkI 2 ls a m a)[m * 2 + 1]? = some u := ⟨_, List.getElem?_eq_getElem (by rw [hown.1]; omega)⟩
              have c1 := own_cell hown (g := g) rfl (m * 2) u hu
              have c2 := own_cell hown (g := g) rfl (m * 2 + 1) u' hu'
              have f1 := hown.frozenAt (m * 2)
              have f2 := hown.frozenAt (m * 2 + 1)
              have hs0 := (hown.stored (m * 2) (.int .i64 (500 + (a : Int)))).1
              have hs := (hs0.stored (m * 2 + 1) (.int .i64 (m : Int))).1
              rw [cAt_two (n := n) (fun _ => rfl) (by have := (HC.out.own a HLS.out).1; rw [← HNN.out] at this; exact this) hml rfl] at hs
              have hks : Kept (fun q => (rlAt ls a).v.ownBlock = some q) wr ((wr.setCell ⟨g, m * 2, none⟩ (.int .i64 (500 + (a : Int)))).setCell ⟨g, m * 2 + 1, none⟩ (.int .i64 (m : Int))) := ((kept_set wr g (m * 2) _).trans (kept_set _ g (m * 2 + 1) _)).mono (fun q _ e => by rw [HV.out, e]; rfl)
              have HS := hid_of (FilN.step (T := PBlk ps) HBT.out HC.out HFI.out HLS.out (by rw [HV.out, ← HNN.out]; exact hs) hks)
              have HFR2 := hid_of (HFR.out.instr (HFI.out.own a HLS.out) hks)
              have hw9 : IntKind.i64.wrap (500 + (a : Int)) = 500 + (a : Int) := by simp [IntKind.wrap, IntKind.bits, IntKind.signed]; omega
              clear hown hu hu' hs hs0 hks HFI HFR
              go_wp2
              go_roundw
              case rel => exact ⟨m + 1, by omega, by go_num, HFR2, HS⟩
              case measure => simp [intOf]; omega
            · have hmI : ¬ ((m : Int) < (n : Int)) := by omega
              have hmn : m = n := by omega
              subst hmn
              have HNX := hid_of (FilN.next HC.out HLS.out (by rw [← HNN.out]; exact HFI.out))
              clear HFI
              go_wp2
              go_roundw
              case rel => exact ⟨a + 1, by omega, by go_num, HFR, HNX⟩
              case measure => simp [intOf]; omega
        · have haI : ¬ ((a : Int) < (cn : Int)) := by omega
          have han : a = cn := by omega
          subst han
          have hls0 : 0 < ls.length := HPOS.out
          obtain ⟨gc, hgc⟩ : ∃ g, co = some ⟨g, 0, none⟩ := by
            obtain ⟨g, c, e⟩ := own_at0 HFR.out.crow hls0
            simp only [Value.slice.injEq] at e
            exact ⟨g, e.1⟩
          subst hgc
          have HFU2 : Hid (FilN (PBlk ps) 46 2 mkI w1 wr ls ls.length 0) := by unfold Hid; have h9 := HFI.out; rw [hcn.out] at h9; exact h9
          obtain ⟨mv, w3, hr, ho, hk3⟩ := app_codes HFR.out.crow hcn.out HONE.out (by have := hcn.out; omega)
          have HM0 := hid_of (FilN.more (et := 42) (an := anI) HC.out HFU2.out hk3 ho)
          have HFR3 := hid_of (HFR.out.same hk3)
          obtain ⟨mo, mc, hmv⟩ := ownsRow_shape ho
          rw [← hcn.out] at hmv
          subst hmv
          have HR := hid_of hr
          clear hr ho hk3 HFI HFU2 HFR hls0 ha hal
          go_wp2_with (at_builtin; refine wp_app rfl (.tmp 101) (.tmp 102) 63 63 rfl _ _ rfl rfl _ w3 HR.out ?_)
          clear HR haI
          have HDL : Hid ((fulls mkB (dls ps)).length = k) := by unfold Hid; rw [fulls_len, dls_len]; exact HN.out.symm
          go_loopw [10, 11] (fun dv i wr => ∃ (i' : Nat) (dq : Option Addr) (dc : Nat), i' ≤ k ∧ i = .int .i64 (i' : Int) ∧ dv = .slice dq i' dc ∧ Hid (Fr wr (.slice (some ⟨gl, 0, none⟩) k lc) (.slice (some ⟨gc, 0, none⟩) a cc) ps ls (fulls mkB (dls ps))) ∧ Hid (MorN (PBlk ps) 46 42 2 mkI anI w1 wr (.slice mo a mc) ls (fulls mkI ls) 0 0) ∧ Hid (Dat w1 wr dv (fulls mkB (dls ps)) i')) (fun _ i _ => k - (intOf i).toNat)
          case atStart => exact ⟨0, none, 0, Nat.zero_le _, rfl, rfl, HFR3, HM0, ⟨RLs.nil _, fun q hq => by cases hq⟩⟩
          case round =>
            clear HFR3 HM0
            obtain ⟨i, dq, dc, hi, rfl, rfl, HFR, HMI, HDA⟩ := hrel
            by_cases hik : i < k
            · have hikI : (i : Int) < (k : Int) := by omega
              have hil : i < ps.length := by rw [← HN.out]; exact hik
              obtain ⟨x, hx⟩ : ∃ x, ps[i]? = some x := ⟨_, List.getElem?_eq_getElem hil⟩
              have hdl : i < (fulls mkB (dls ps)).length := by rw [HDL.out]; exact hik
              have hrv : (rlAt (fulls mkB (dls ps)) i).v = x.dv := by rw [fulls_at _ (by rw [dls_len]; exact hil), dls_at hx]; rfl
              obtain ⟨vao, vc, hv⟩ := ownsRow_shape (HA.out.own i x hx).dat
              obtain ⟨n, hn9⟩ : ∃ n, n = x.p.data.length := ⟨_, rfl⟩
              rw [← hn9] at hv
              have hrow := HFR.out.row
              rw [← HN.out] at hrow
              have c1 : wr.cell? ⟨gl, i * 3 + 1, none⟩ = some (.slice vao n vc) := by
                rw [hrow.cellAt _ (by omega), prcells_at ps i x hx 1 (by omega), ← hv]
                rfl
              have htl : ((fulls mkB (dls ps)).take i).length = i := by rw [List.length_take]; omega
              obtain ⟨dv', w', hr, ho, hkp, hat⟩ := app_datum (c := .slice vao n vc) HDA.out.rls.row rfl (by rw [htl]; omega)
              have HD2 := hid_of (HDA.out.push HFR.out.dat hdl (by rw [hrv, hv]; exact ho) hkp hat HMI.out.kept.size)
              have hun : ∀ q, (Value.slice dq i dc).ownBlock = some q → w1.heap.size ≤ q := HDA.out.new
              have HF2 := hid_of (HFR.out.slot hkp (fun q hq e => own_unlike HFR.out.row HDA.out.rls.row (by decide) q hq e) (fun q hq e => own_unlike HFR.out.crow HDA.out.rls.row (by decide) q hq e) (fun q hq e => by
                obtain ⟨j, hj, hb⟩ := hq
                exact own_unlike (HFR.out.dat.own j hj) HDA.out.rls.row (by decide) q hb e))
              have HM2 := hid_of (HMI.out.other hkp (fun q hq e => own_unlike HMI.out.bls.row HDA.out.rls.row (by decide) q hq e) (fun q hq e => by
                obtain ⟨j, hj, hb⟩ := hq
                exact own_unlike (HMI.out.bls.own j hj) HDA.out.rls.row (by decide) q hb e) (fun q hq e => by
                obtain ⟨j, hj, hb⟩ := hq
                have := HC.out.olt hj q hb
                have := hun q e
                omega) (fun q hq e => absurd (hun q e) (by omega)))
              obtain ⟨dq', dc', hdv'⟩ := ownsRow_shape ho
              rw [htl] at hdv'
              subst hdv'
              have HR := hid_of hr
              clear hil hx hdl hrv hv hn9 hrow htl hr ho hkp hat hun HFR HMI HDA
              go_wp2_with (at_builtin; refine wp_app rfl (.tmp 110) (.tmp 116) 49 49 rfl _ _ rfl rfl _ w' HR.out ?_)
              go_roundw
              case rel => exact ⟨i + 1, _, _, by omega, by go_num, rfl, HF2, HM2, HD2⟩
              case measure => simp [intOf]; omega
            · have hikI : ¬ ((i : Int) < (k : Int)) := by omega
              have hin : k = i := by omega
              subst hin
              have hfq : Fq w1 wr (.slice (some ⟨gl, 0, none⟩) k lc) (.slice (some ⟨gc, 0, none⟩) a cc) ps ls := ⟨HFR.out.row, HFR.out.crow, HLOW.out⟩
              have HDB : Hid (MorN (PBlk ps) 5 22 1 mkB anB w1 wr (.slice dq k dc) (fulls mkB (dls ps)) (fulls mkB (fulls mkB (dls ps))) 0 0) := by
                refine MorN.start HFU.out ?_ HMI.out.kept HDA.out.new
                rw [fulls_fulls]
                have h9 := HDA.out.rls
                rw [List.take_of_length_le (by rw [HDL.out]; exact Nat.le_refl _)] at h9
                exact h9
              have HFQ := hid_of hfq
              clear hfq HFR HDA hi hik
              clear HDL
              obtain ⟨DL, hDL⟩ : ∃ D, D = fulls mkB (dls ps) := ⟨_, rfl⟩
              have HLD : Hid (∀ j, j < DL.length → (rlAt DL j).n ≤ 4194304) := fun j hj => by
                rw [hDL] at hj ⊢
                rw [fulls_len, dls_len] at hj
                rw [fulls_at _ (by rw [dls_len]; exact hj), dls_at (List.getElem?_eq_getElem hj)]
                exact (HLONG.out _ (List.getElem_mem hj)).1
              have HDT : Hid (∀ q, Blk DL q → PBlk ps q) := fun q hq => by
                obtain ⟨j, hj, e⟩ := hq
                rw [hDL] at hj e
                rw [fulls_len] at hj
                rw [fulls_at _ hj] at e
                exact dls_blk ⟨j, hj, e⟩
              have HDV : Hid (∀ (j : Nat) (x : PR), ps[j]? = some x → (rlAt DL j).v = x.dv ∧ (rlAt DL j).n = x.p.data.length) := fun j x hx => by
                rw [hDL, fulls_at _ (by rw [dls_len]; exact (List.getElem?_eq_some_iff.1 hx).1), dls_at hx]
                exact ⟨rfl, rfl⟩
              have HKD : Hid (k = DL.length) := by unfold Hid; rw [hDL, fulls_len, dls_len]; exact HN.out
              rw [fulls_fulls] at HDB
              rw [← hDL] at HDB HFU
              have HFD := HFU
              clear hDL HFU
              obtain ⟨gm, hgm0⟩ : ∃ g, mo = some ⟨g, 0, none⟩ := by
                obtain ⟨g, c, e⟩ := own_at0 HMI.out.bls.row (by rw [HMI.out.len]; exact HPOS.out)
                simp only [Value.slice.injEq] at e
                exact ⟨g, e.1⟩
              subst hgm0
              obtain ⟨gd, hgd0⟩ : ∃ g, dq = some ⟨g, 0, none⟩ := by
                obtain ⟨g, c, e⟩ := own_at0 HDB.out.bls.row (by rw [HDB.out.len, ← HKD.out]; exact hp)
                simp only [Value.slice.injEq] at e
                exact ⟨g, e.1⟩
              subst hgd0
              obtain ⟨i46, hi46, z460, z461, z462⟩ := info_parts Try.info46r
              obtain ⟨i5, hi5, z50, z51, z52⟩ := info_parts Try.info5
              go_wp2_with fail
              clear hikI
              go_loopw [12] (fun j wr => ∃ (m : Nat) (ms ds : List RL), m ≤ 30 ∧ j = .int .i64 (m : Int) ∧ Hid (Fq w1 wr (.slice (some ⟨gl, 0, none⟩) k lc) (.slice (some ⟨gc, 0, none⟩) a cc) ps ls) ∧ Hid (MorN (PBlk ps) 46 42 2 mkI anI w1 wr (.slice (some ⟨gm, 0, none⟩) a mc) ls ms m 0) ∧ Hid (MorN (PBlk ps) 5 22 1 mkB anB w1 wr (.slice (some ⟨gd, 0, none⟩) k dc) DL ds m 0)) (fun j _ => 30 - (intOf j).toNat)
              case atStart => exact ⟨0, _, _, by omega, rfl, HFQ, HMI, HDB⟩
              case round =>
                clear HFQ HMI HDB
                obtain ⟨m, ms, ds, hm, rfl, HFQ, HMI, HDB⟩ := hrel
                by_cases hml : m < 30
                · have hmlI : (m : Int) < 30 := by omega
                  go_wp2_with fail
                  go_loopw [13] (fun i wr => ∃ (i' : Nat) (ms : List RL), i' ≤ a ∧ i = .int .i64 (i' : Int) ∧ Hid (Fq w1 wr (.slice (some ⟨gl, 0, none⟩) k lc) (.slice (some ⟨gc, 0, none⟩) a cc) ps ls) ∧ Hid (MorN (PBlk ps) 46 42 2 mkI anI w1 wr (.slice (some ⟨gm, 0, none⟩) a mc) ls ms m i') ∧ Hid (MorN (PBlk ps) 5 22 1 mkB anB w1 wr (.slice (some ⟨gd, 0, none⟩) k dc) DL ds m 0)) (fun i _ => a - (intOf i).toNat)
                  case atStart => exact ⟨0, _, by omega, rfl, HFQ, HMI, HDB⟩
                  case round =>
                    clear HFQ HMI HDB
                    obtain ⟨i, ms', hi, rfl, HFQ, HMI, HDB⟩ := hrel
                    by_cases hil : i < a
                    · have hilI : (i : Int) < (a : Int) := by omega
                      have hkl : i < ls.length := by rw [← hcn.out]; exact hil
                      have hmo := HMI.out
                      have hml2 : i < ms'.length := by rw [hmo.len]; exact hkl
                      have c0 := row_cell hmo.bls.row (g := gm) rfl i hml2
                      have hrw := hmo.bls.row
                      rw [hmo.len, ← hcn.out] at hrw
                      have f0 := hrw.frozenAt i
                      have hown := hmo.bls.own i hml2
                      have hnn := hmo.n i hkl
                      rw [if_neg (by omega)] at hnn
                      have hn2 := HLN.out i hkl
                      obtain ⟨n, hn⟩ : ∃ n, n = (rlAt ms' i).n := ⟨_, rfl⟩
                      obtain ⟨X, hX⟩ : ∃ X, X = (rlAt ms' i).xs := ⟨_, rfl⟩
                      have hn3 : n ≤ 4194304 + 30 := by omega
                      have hgm : gm < wr.heap.size := hmo.bls.lt gm rfl
                      have hoff : (rlAt ms' i).v.ownBlock ≠ some gm := fun e => hmo.bls.off i hml2 gm e rfl
                      obtain ⟨vo, vc, hv⟩ := ownsRow_shape hown
                      rw [← hn] at hv
                      have HO : wr.ownsRow 0 46 2 (.slice vo n vc) n X := by rw [hX, ← hv, hn]; exact hown
                      obtain ⟨gv', w', hr, hown', hgrow, hat, hold⟩ := append_old (P := Try.prog) (wr.alloc (.cells #[.int .i64 (900 + (i : Int)), .int .i64 (m : Int)] 46)) 0 42 42 46 i46 _ 2 16 Try.underlying42 hi46 z460 z461 z462 rfl (by decide) (.slice vo n vc) n X (HO.alloc _) ⟨wr.heap.size, 0, none⟩ 1 1 [.int .i64 (900 + (i : Int)), .int .i64 (m : Int)] rfl (cell_two_new _ _ _ _) (fun u hu => by simp at hu; rcases hu with rfl | rfl <;> rfl) (by unfold maxLen; omega) (by omega) (Nat.zero_le _)
                      have hkp : Kept (fun q => (rlAt ms' i).v.ownBlock = some q) wr w' := by
                        rw [hv]
                        exact kept_grown hgrow ((Kept.refl _ wr).alloc _)
                      have R := hid_of (MorN.step (an := anI) HBT.out HC.out hmo hkl (by rw [← hn, ← hX]; exact hown') hkp (by rw [hv]; exact at_of hat (by simp)) (by rw [hv, ← hX]; exact hold))
                      have hrw' := hkp.ownsRow hrw (fun q hq e => hmo.bls.off i hml2 q e hq)
                      have RO := hid_of ((hmo.aside HDB.out HC.out HFD.out (by decide) (by decide) HBT.out hkl hkp).slot (u := gv') (j := i) HFD.out hrw' (by decide) (by decide) (hmo.mnew gm rfl))
                      have HFQ3 := hid_of ((HFQ.out.elem hown (by decide) (by decide) hkp).slot (u := gv') (i := i) hrw' (by decide) (hmo.mnew gm rfl))
                      have c1 := hkp.cell c0 (show ¬ (rlAt ms' i).v.ownBlock = some gm from hoff)
                      have f1 := hkp.frozen hgm f0 (show ¬ (rlAt ms' i).v.ownBlock = some gm from hoff)
                      obtain ⟨ga9, gc9, hgv⟩ := ownsRow_shape hown'
                      obtain ⟨gn, hgn⟩ : ∃ gn, gn = n + 1 := ⟨_, rfl⟩
                      rw [← hgn] at hgv
                      rw [hv] at c0
                      have HR := hid_of hr
                      clear hmo hrw f0 hown hnn hn2 hn hX hoff hgm hv HO hr hown' hgrow hat hold hkp hrw' hgn HMI HDB HFQ hkl hml2
                      subst hgv
                      have hw9 : IntKind.i64.wrap (900 + (i : Int)) = 900 + (i : Int) := by simp [IntKind.wrap, IntKind.bits, IntKind.signed]; omega
                      go_wp2_with (at_builtin; refine wp_app rfl (.tmp 133) (.tmp 138) 42 42 rfl _ _ rfl rfl _ w' HR.out ?_)
                      go_roundw
                      case rel => exact ⟨i + 1, _, by omega, by go_num, HFQ3, R, RO⟩
                      case measure => simp [intOf]; omega
                    · have hilI : ¬ ((i : Int) < (a : Int)) := by omega
                      have hia : i = a := by omega
                      have HMT := hid_of (MorN.turn HMI.out (by rw [hia]; exact hcn.out))
                      clear HMI hia
                      go_wp2_with fail
                      clear hilI hil hi
                      go_loopw [14] (fun i wr => ∃ (i' : Nat) (ds : List RL), i' ≤ k ∧ i = .int .i64 (i' : Int) ∧ Hid (Fq w1 wr (.slice (some ⟨gl, 0, none⟩) k lc) (.slice (some ⟨gc, 0, none⟩) a cc) ps ls) ∧ Hid (MorN (PBlk ps) 46 42 2 mkI anI w1 wr (.slice (some ⟨gm, 0, none⟩) a mc) ls ms' (m + 1) 0) ∧ Hid (MorN (PBlk ps) 5 22 1 mkB anB w1 wr (.slice (some ⟨gd, 0, none⟩) k dc) DL ds m i')) (fun i _ => k - (intOf i).toNat)
                      case atStart => exact ⟨0, _, by omega, rfl, HFQ, HMT, HDB⟩
                      case round =>
                        clear HFQ HMT HDB
                        obtain ⟨i, ds', hi, rfl, HFQ, HMI, HDB⟩ := hrel
                        by_cases hil : i < k
                        · have hilI : (i : Int) < (k : Int) := by omega
                          have hkl : i < DL.length := by rw [← HKD.out]; exact hil
                          have hmo := HDB.out
                          have hml2 : i < ds'.length := by rw [hmo.len]; exact hkl
                          have c0 := row_cell hmo.bls.row (g := gd) rfl i hml2
                          have hrw := hmo.bls.row
                          rw [hmo.len, ← HKD.out] at hrw
                          have f0 := hrw.frozenAt i
                          have hown := hmo.bls.own i hml2
                          have hnn := hmo.n i hkl
                          rw [if_neg (by omega)] at hnn
                          have hn2 := HLD.out i hkl
                          obtain ⟨n, hn⟩ : ∃ n, n = (rlAt ds' i).n := ⟨_, rfl⟩
                          obtain ⟨X, hX⟩ : ∃ X, X = (rlAt ds' i).xs := ⟨_, rfl⟩
                          have hn3 : n ≤ 4194304 + 30 := by omega
                          have hgm : gd < wr.heap.size := hmo.bls.lt gd rfl
                          have hoff : (rlAt ds' i).v.ownBlock ≠ some gd := fun e => hmo.bls.off i hml2 gd e rfl
                          obtain ⟨vo, vc, hv⟩ := ownsRow_shape hown
                          rw [← hn] at hv
                          have HO : wr.ownsRow 0 5 1 (.slice vo n vc) n X := by rw [hX, ← hv, hn]; exact hown
                          obtain ⟨gv', w', hr, hown', hgrow, hat, hold⟩ := append_old (P := Try.prog) (wr.alloc (.cells #[.int .u8 (anV i m)] 5)) 0 22 22 5 i5 _ 1 1 Try.underlying22 hi5 z50 z51 z52 rfl (by decide) (.slice vo n vc) n X (HO.alloc _) ⟨wr.heap.size, 0, none⟩ 1 1 [.int .u8 (anV i m)] rfl (fun j u hj => by
                            rw [Addr.add_lit, cell_block _ _ _ _ _ _ (heap_alloc_new wr _), Nat.zero_add]
                            simpa using hj) (fun u hu => by simp at hu; rw [hu]; rfl) (by unfold maxLen; omega) (by omega) (Nat.zero_le _)
                          have hkp : Kept (fun q => (rlAt ds' i).v.ownBlock = some q) wr w' := by
                            rw [hv]
                            exact kept_grown hgrow ((Kept.refl _ wr).alloc _)
                          have R := hid_of (MorN.step (an := anB) HDT.out HFD.out hmo hkl (by rw [← hn, ← hX]; exact hown') hkp (by rw [hv]; exact at_of hat (by simp)) (by rw [hv, ← hX]; exact hold))
                          have hrw' := hkp.ownsRow hrw (fun q hq e => hmo.bls.off i hml2 q e hq)
                          have RO := hid_of ((hmo.aside HMI.out HFD.out HC.out (by decide) (by decide) HDT.out hkl hkp).slot (u := gv') (j := i) HC.out hrw' (by decide) (by decide) (hmo.mnew gd rfl))
                          have HFQ3 := hid_of ((HFQ.out.elem hown (by decide) (by decide) hkp).slot (u := gv') (i := i) hrw' (by decide) (hmo.mnew gd rfl))
                          have c1 := hkp.cell c0 (show ¬ (rlAt ds' i).v.ownBlock = some gd from hoff)
                          have f1 := hkp.frozen hgm f0 (show ¬ (rlAt ds' i).v.ownBlock = some gd from hoff)
                          obtain ⟨ga9, gc9, hgv⟩ := ownsRow_shape hown'
                          obtain ⟨gn, hgn⟩ : ∃ gn, gn = n + 1 := ⟨_, rfl⟩
                          rw [← hgn] at hgv
                          rw [hv] at c0
                          have HR := hid_of hr
                          clear hmo hrw f0 hown hnn hn2 hn hX hoff hgm hv HO hr hown' hgrow hat hold hkp hrw' hgn HDB HMI HFQ hkl hml2
                          subst hgv
                          unfold anV at HR
                          go_wp2_with (at_builtin; refine wp_app rfl (.tmp 152) (.tmp 159) 22 22 rfl _ _ rfl rfl _ w' HR.out ?_)
                          go_roundw
                          case rel => exact ⟨i + 1, _, by omega, by go_num, HFQ3, RO, R⟩
                          case measure => simp [intOf]; omega
                        · have hilI : ¬ ((i : Int) < (k : Int)) := by omega
                          have hia : i = k := by omega
                          have HDT2 := hid_of (MorN.turn HDB.out (by rw [hia]; exact HKD.out))
                          clear HDB hia
                          go_wp2
                          go_roundw
                          case rel => exact ⟨m + 1, _, _, by omega, by go_num, HFQ, HMI, HDT2⟩
                          case measure => simp [intOf]; omega
                · have hmlI : ¬ ((m : Int) < 30) := by omega
                  have hm30 : m = 30 := by omega
                  subst hm30
                  have HE : Hid (Fq w1 wr (.slice (some ⟨gl, 0, none⟩) k lc) (.slice (some ⟨gc, 0, none⟩) a cc) ps ls ∧ MorN (PBlk ps) 46 42 2 mkI anI w1 wr (.slice (some ⟨gm, 0, none⟩) a mc) ls ms 30 0 ∧ MorN (PBlk ps) 5 22 1 mkB anB w1 wr (.slice (some ⟨gd, 0, none⟩) k dc) DL ds 30 0) := ⟨HFQ.out, HMI.out, HDB.out⟩
                  clear HFQ HMI HDB hml hm
                  go_wp2_with fail
                  clear hmlI
                  go_loopw [15] (fun i wr => ∃ i' : Nat, i' ≤ a ∧ i = .int .i64 (i' : Int) ∧ Hid (Fq w1 wr (.slice (some ⟨gl, 0, none⟩) k lc) (.slice (some ⟨gc, 0, none⟩) a cc) ps ls ∧ MorN (PBlk ps) 46 42 2 mkI anI w1 wr (.slice (some ⟨gm, 0, none⟩) a mc) ls ms 30 0 ∧ MorN (PBlk ps) 5 22 1 mkB anB w1 wr (.slice (some ⟨gd, 0, none⟩) k dc) DL ds 30 0)) (fun i _ => a - (intOf i).toNat)
                  case atStart => exact ⟨0, by omega, rfl, HE⟩
                  case round =>
                    clear HE
                    obtain ⟨i, hi, rfl, HE⟩ := hrel
                    by_cases hil : i < a
                    · have hilI : (i : Int) < (a : Int) := by omega
                      have hkl : i < ls.length := by rw [← hcn.out]; exact hil
                      have hml2 : i < ms.length := by rw [HE.out.2.1.len]; exact hkl
                      have c0 := row_cell HE.out.1.crow (g := gc) rfl i hkl
                      obtain ⟨n, hn⟩ : ∃ n, n = (rlAt ls i).n := ⟨_, rfl⟩
                      have hn2 : n ≤ 4194304 := by rw [hn]; exact HLN.out i hkl
                      obtain ⟨vo, vc, hv⟩ := ownsRow_shape (HC.out.own i hkl)
                      rw [← hn] at hv
                      have hvn : 0 < n → ∃ g, vo = some ⟨g, 0, none⟩ := fun h0 => by
                        obtain ⟨g, c, e⟩ := own_at0 (HC.out.own i hkl) (by rw [← hn]; exact h0)
                        rw [hv] at e
                        cases e
                        exact ⟨g, rfl⟩
                      have hmn := HE.out.2.1.n i hkl
                      rw [if_neg (by omega), ← hn] at hmn
                      obtain ⟨g2, c2', hm2⟩ := own_at0 (HE.out.2.1.bls.own i hml2) (by omega)
                      obtain ⟨nm, hnm⟩ : ∃ q, q = n + 30 := ⟨_, rfl⟩
                      rw [hmn, ← hnm] at hm2
                      rw [hv] at c0
                      have HNN := hid_of hn
                      have HV := hid_of hv
                      have HVN := hid_of hvn
                      have HM2 := hid_of hm2
                      have HKL := hid_of hkl
                      have HML := hid_of hml2
                      have hnmI : (nm : Int) = (n : Int) + 30 := by omega
                      have HNI := hid_of hnmI
                      clear hn hv hvn hmn hm2 hnm hkl hml2 hnmI
                      go_wp2_with fail
                      clear c0
                      go_loopw [17] (fun j wr => ∃ m : Nat, m ≤ n + 30 ∧ j = .int .i64 (m : Int) ∧ Hid (Fq w1 wr (.slice (some ⟨gl, 0, none⟩) k lc) (.slice (some ⟨gc, 0, none⟩) a cc) ps ls ∧ MorN (PBlk ps) 46 42 2 mkI anI w1 wr (.slice (some ⟨gm, 0, none⟩) a mc) ls ms 30 0 ∧ MorN (PBlk ps) 5 22 1 mkB anB w1 wr (.slice (some ⟨gd, 0, none⟩) k dc) DL ds 30 0)) (fun j _ => n + 30 - (intOf j).toNat)
                      case atStart => exact ⟨0, by omega, rfl, HE⟩
                      case round =>
                        clear HE
                        obtain ⟨m, hm, rfl, HE⟩ := hrel
                        have c0 := row_cell HE.out.1.crow (g := gc) rfl i HKL.out
                        rw [HV.out] at c0
                        have c2 := row_cell HE.out.2.1.bls.row (g := gm) rfl i HML.out
                        rw [HM2.out] at c2
                        by_cases hml : m < n + 30
                        · have hmlI : (m : Int) < (n : Int) + 30 := by omega
                          have hmnm : (m : Int) < (nm : Int) := by rw [HNI.out]; exact hmlI
                          have hxs := HE.out.2.1.xs i HKL.out
                          rw [if_neg (by omega), ← HNN.out] at hxs
                          by_cases hmn : m < n
                          · have hmnI : (m : Int) < (n : Int) := by omega
                            obtain ⟨g, hvg⟩ := HVN.out (by omega)
                            subst hvg
                            have hat0 := rowOf_at (mk := mkI i) (s := 2) (fun _ => rfl) m 0 (by omega) n hmn
                            have hat1 := rowOf_at (mk := mkI i) (s := 2) (fun _ => rfl) m 1 (by omega) n hmn
                            rw [Nat.add_zero] at hat0
                            have c10 := HE.out.2.1.cells i HKL.out g (by rw [HV.out]; rfl) (m * 2) _ (by rw [← HNN.out]; exact hat0)
                            have c11 := HE.out.2.1.cells i HKL.out g (by rw [HV.out]; rfl) (m * 2 + 1) _ (by rw [← HNN.out]; exact hat1)
                            have c30 := own_cell (HE.out.2.1.bls.own i HML.out) (g := g2) (by rw [HM2.out]; rfl) (m * 2) (.int .i64 (500 + (i : Int))) (by rw [hxs, List.getElem?_append_left (List.getElem?_eq_some_iff.1 hat0).1]; exact hat0)
                            have c31 := own_cell (HE.out.2.1.bls.own i HML.out) (g := g2) (by rw [HM2.out]; rfl) (m * 2 + 1) (.int .i64 (m : Int)) (by rw [hxs, List.getElem?_append_left (List.getElem?_eq_some_iff.1 hat1).1]; exact hat1)
                            have HE4 := HE
                            have hw9 : IntKind.i64.wrap (500 + (i : Int)) = 500 + (i : Int) := by simp [IntKind.wrap, IntKind.bits, IntKind.signed]; omega
                            have hw8 : IntKind.i64.wrap (900 + (i : Int)) = 900 + (i : Int) := by simp [IntKind.wrap, IntKind.bits, IntKind.signed]; omega
                            clear HE hxs hat0 hat1
                            go_wp2_with fail
                            have hkA : Kept (fun _ => False) wr (wr.alloc (.cells #[.int .i64 (500 + (i : Int)), .int .i64 ((m : Int))] 46)) := (Kept.refl _ _).alloc _
                            have HE5 := hid_of (And.intro (HE4.out.1.same hkA) (And.intro (HE4.out.2.1.same hkA) (HE4.out.2.2.same hkA)))
                            have d0 := hkA.cell c0 (fun f => f)
                            have d10 := hkA.cell c10 (fun f => f)
                            have d11 := hkA.cell c11 (fun f => f)
                            have d2 := hkA.cell c2 (fun f => f)
                            have d30 := hkA.cell c30 (fun f => f)
                            have d31 := hkA.cell c31 (fun f => f)
                            have d40 := cell_two_new wr (.int .i64 (500 + (i : Int))) (.int .i64 ((m : Int))) 46 0 _ rfl
                            have d41 := cell_two_new wr (.int .i64 (500 + (i : Int))) (.int .i64 ((m : Int))) 46 1 _ rfl
                            rw [Addr.add_lit, Nat.zero_add] at d40 d41
                            clear hkA c0 c2 c30 c31 HE4 c10 c11
                            generalize wr.alloc (.cells #[.int .i64 (500 + (i : Int)), .int .i64 ((m : Int))] 46) = w5 at *
                            generalize wr.heap.size = gx at *
                            have hq := neq_self (500 + (i : Int)) ((m : Int))
                            have hd2 : decide (n ≤ m) = false := by simp; omega
                            go_quiet (fail)
                            have HE6 := hid_of (And.intro (HE5.out.1.same (kept_drewN (Kept.refl _ _) nq)) (And.intro (HE5.out.2.1.same (kept_drewN (Kept.refl _ _) nq)) (HE5.out.2.2.same (kept_drewN (Kept.refl _ _) nq))))
                            clear HE5 d2 d30 d31 d40 d41 d0 d10 d11
                            go_wp2
                            go_roundw
                            case rel => first | exact ⟨m + 1, by omega, by go_num, HE6⟩ | exact ⟨_, _, _, _, _, _, _, _, _, _, _, _, _, _, _, _, _, _, _, _, _, _, _, _, _, _, _, _, _, _, _, _, _, _, _, _, _, _, _, _, _, _, _, _, _, _, _, _, _, _, _, _, _, ⟨m + 1, by omega, by go_num, HE6⟩, rfl⟩
                            case measure => simp [intOf]; omega
                          · have hmnI : (n : Int) ≤ (m : Int) := by omega
                            have hnd : ¬ ((m : Int) < (n : Int)) := by omega
                            have hat0 := rowOf_at (mk := anI i) (s := 2) (fun _ => rfl) (m - n) 0 (by omega) 30 (by omega)
                            have hat1 := rowOf_at (mk := anI i) (s := 2) (fun _ => rfl) (m - n) 1 (by omega) 30 (by omega)
                            have e0 : m * 2 - n * 2 = (m - n) * 2 + 0 := by omega
                            have e1 : m * 2 + 1 - n * 2 = (m - n) * 2 + 1 := by omega
                            have c30 := own_cell (HE.out.2.1.bls.own i HML.out) (g := g2) (by rw [HM2.out]; rfl) (m * 2) (.int .i64 (900 + (i : Int))) (by rw [hxs, List.getElem?_append_right (by rw [rowOf_len (s := 2) (fun _ => rfl)]; omega), rowOf_len (s := 2) (fun _ => rfl), e0]; exact hat0)
                            have c31 := own_cell (HE.out.2.1.bls.own i HML.out) (g := g2) (by rw [HM2.out]; rfl) (m * 2 + 1) (.int .i64 (m - n : Nat)) (by rw [hxs, List.getElem?_append_right (by rw [rowOf_len (s := 2) (fun _ => rfl)]; omega), rowOf_len (s := 2) (fun _ => rfl), e1]; exact hat1)
                            rw [show (((m - n : Nat) : Int)) = (m : Int) - (n : Int) by omega] at c31
                            have HE4 := HE
                            have hw9 : IntKind.i64.wrap (500 + (i : Int)) = 500 + (i : Int) := by simp [IntKind.wrap, IntKind.bits, IntKind.signed]; omega
                            have hw8 : IntKind.i64.wrap (900 + (i : Int)) = 900 + (i : Int) := by simp [IntKind.wrap, IntKind.bits, IntKind.signed]; omega
                            clear HE hxs hat0 hat1 e0 e1
                            go_wp2_with fail
                            have hkA : Kept (fun _ => False) wr (wr.alloc (.cells #[.int .i64 (900 + (i : Int)), .int .i64 ((m : Int) - (n : Int))] 46)) := (Kept.refl _ _).alloc _
                            have HE5 := hid_of (And.intro (HE4.out.1.same hkA) (And.intro (HE4.out.2.1.same hkA) (HE4.out.2.2.same hkA)))
                            have d2 := hkA.cell c2 (fun f => f)
                            have d30 := hkA.cell c30 (fun f => f)
                            have d31 := hkA.cell c31 (fun f => f)
                            have d40 := cell_two_new wr (.int .i64 (900 + (i : Int))) (.int .i64 ((m : Int) - (n : Int))) 46 0 _ rfl
                            have d41 := cell_two_new wr (.int .i64 (900 + (i : Int))) (.int .i64 ((m : Int) - (n : Int))) 46 1 _ rfl
                            rw [Addr.add_lit, Nat.zero_add] at d40 d41
                            clear hkA c0 c2 c30 c31 HE4
                            generalize wr.alloc (.cells #[.int .i64 (900 + (i : Int)), .int .i64 ((m : Int) - (n : Int))] 46) = w5 at *
                            generalize wr.heap.size = gx at *
                            have hq := neq_self (900 + (i : Int)) ((m : Int) - (n : Int))
                            have hd2 : decide (n ≤ m) = true := by simp; omega
                            go_quiet (fail)
                            have HE6 := hid_of (And.intro (HE5.out.1.same (kept_drewN (Kept.refl _ _) nq)) (And.intro (HE5.out.2.1.same (kept_drewN (Kept.refl _ _) nq)) (HE5.out.2.2.same (kept_drewN (Kept.refl _ _) nq))))
                            clear HE5 d2 d30 d31 d40 d41
                            go_wp2
                            go_roundw
                            case rel => first | exact ⟨m + 1, by omega, by go_num, HE6⟩ | exact ⟨_, _, _, _, _, _, _, _, _, _, _, _, _, _, _, _, _, _, _, _, _, _, _, _, _, _, _, _, _, _, _, _, _, _, _, _, _, _, _, _, _, _, _, _, _, _, _, _, _, _, _, _, _, ⟨m + 1, by omega, by go_num, HE6⟩, rfl⟩
                            case measure => simp [intOf]; omega
                        · have hmI : ¬ ((m : Int) < (n : Int) + 30) := by omega
                          go_wp2
                          go_roundw
                          case rel => exact ⟨i + 1, by omega, by go_num, HE⟩
                          case measure => simp [intOf]; omega
                    · have hilI : ¬ ((i : Int) < (a : Int)) := by omega
                      go_wp2_with fail
                      clear hilI hil hi
                      go_loopw [19] (fun i wr => ∃ i' : Nat, i' ≤ k ∧ i = .int .i64 (i' : Int) ∧ Hid (Fq w1 wr (.slice (some ⟨gl, 0, none⟩) k lc) (.slice (some ⟨gc, 0, none⟩) a cc) ps ls ∧ MorN (PBlk ps) 46 42 2 mkI anI w1 wr (.slice (some ⟨gm, 0, none⟩) a mc) ls ms 30 0 ∧ MorN (PBlk ps) 5 22 1 mkB anB w1 wr (.slice (some ⟨gd, 0, none⟩) k dc) DL ds 30 0)) (fun i _ => k - (intOf i).toNat)
                      case atStart => exact ⟨0, by omega, rfl, HE⟩
                      case round =>
                        clear HE
                        obtain ⟨i, hi, rfl, HE⟩ := hrel
                        by_cases hil : i < k
                        · have hilI : (i : Int) < (k : Int) := by omega
                          have hkl : i < DL.length := by rw [← HKD.out]; exact hil
                          have hml2 : i < ds.length := by rw [HE.out.2.2.len]; exact hkl
                          have hil2 : i < ps.length := by rw [← HN.out]; exact hil
                          obtain ⟨x, hx⟩ : ∃ x, ps[i]? = some x := ⟨_, List.getElem?_eq_getElem hil2⟩
                          obtain ⟨hdv, hdn⟩ := HDV.out i x hx
                          obtain ⟨n, hn⟩ : ∃ n, n = x.p.data.length := ⟨_, rfl⟩
                          have hn2 : n ≤ 4194304 := by rw [hn]; exact (HLONG.out x (List.mem_of_getElem? hx)).1
                          obtain ⟨vo, vc, hv⟩ := ownsRow_shape (HA.out.own i x hx).dat
                          rw [← hn] at hv hdn
                          have hvn : 0 < n → ∃ g, vo = some ⟨g, 0, none⟩ := fun h0 => by
                            obtain ⟨g, c, e⟩ := own_at0 (HA.out.own i x hx).dat (by rw [← hn]; exact h0)
                            rw [hv] at e
                            cases e
                            exact ⟨g, rfl⟩
                          have hmn := HE.out.2.2.n i hkl
                          rw [if_neg (by omega), hdn] at hmn
                          obtain ⟨g2, c2', hm2⟩ := own_at0 (HE.out.2.2.bls.own i hml2) (by omega)
                          obtain ⟨nm, hnm⟩ : ∃ q, q = n + 30 := ⟨_, rfl⟩
                          rw [hmn, ← hnm] at hm2
                          have HC1 : Hid (∀ W, Fq w1 W (.slice (some ⟨gl, 0, none⟩) k lc) (.slice (some ⟨gc, 0, none⟩) a cc) ps ls → W.cell? ⟨gl, i * 3 + 1, none⟩ = some (.slice vo n vc)) := fun W hW => by
                            have hrow := hW.row
                            rw [← HN.out] at hrow
                            rw [hrow.cellAt _ (by omega), prcells_at ps i x hx 1 (by omega), ← hv]
                            rfl
                          have c1 := HC1.out wr HE.out.1
                          have HDV2 := hid_of (hdv.trans hv)
                          have HDN := hid_of hdn
                          have HVN := hid_of hvn
                          have HM2 := hid_of hm2
                          have HKL := hid_of hkl
                          have HML := hid_of hml2
                          have hnmI : (nm : Int) = (n : Int) + 30 := by omega
                          have HNI := hid_of hnmI
                          clear hn hv hvn hmn hm2 hnm hkl hml2 hnmI hdv hdn hx hil2
                          go_wp2_with fail
                          clear c1
                          go_loopw [21] (fun j wr => ∃ m : Nat, m ≤ n + 30 ∧ j = .int .i64 (m : Int) ∧ Hid (Fq w1 wr (.slice (some ⟨gl, 0, none⟩) k lc) (.slice (some ⟨gc, 0, none⟩) a cc) ps ls ∧ MorN (PBlk ps) 46 42 2 mkI anI w1 wr (.slice (some ⟨gm, 0, none⟩) a mc) ls ms 30 0 ∧ MorN (PBlk ps) 5 22 1 mkB anB w1 wr (.slice (some ⟨gd, 0, none⟩) k dc) DL ds 30 0)) (fun j _ => n + 30 - (intOf j).toNat)
                          case atStart => exact ⟨0, by omega, rfl, HE⟩
                          case round =>
                            clear HE
                            obtain ⟨m, hm, rfl, HE⟩ := hrel
                            have c1 := HC1.out wr HE.out.1
                            have c2 := row_cell HE.out.2.2.bls.row (g := gd) rfl i HML.out
                            rw [HM2.out] at c2
                            by_cases hml : m < n + 30
                            · have hmlI : (m : Int) < (n : Int) + 30 := by omega
                              have hmnm : (m : Int) < (nm : Int) := by rw [HNI.out]; exact hmlI
                              have hxs := HE.out.2.2.xs i HKL.out
                              rw [if_neg (by omega), HDN.out] at hxs
                              by_cases hmn : m < n
                              · have hmnI : (m : Int) < (n : Int) := by omega
                                have hnd : ¬ ((n : Int) ≤ (m : Int)) := by omega
                                obtain ⟨g, hvg⟩ := HVN.out (by omega)
                                subst hvg
                                have hat0 := rowOf_at (mk := mkB i) (s := 1) (fun _ => rfl) m 0 (by omega) n hmn
                                rw [Nat.add_zero, Nat.mul_one] at hat0
                                have cA := HE.out.2.2.cells i HKL.out g (by rw [HDV2.out]; rfl) m _ (by rw [HDN.out]; exact hat0)
                                have cB := own_cell (HE.out.2.2.bls.own i HML.out) (g := g2) (by rw [HM2.out]; rfl) m (.int .u8 (mkV i m)) (by rw [hxs, List.getElem?_append_left (List.getElem?_eq_some_iff.1 hat0).1]; exact hat0)
                                have cA : wr.cell? ⟨g, m, none⟩ = some (.int .u8 (mkV i m)) := cA
                                unfold mkV at cA cB
                                clear hxs hat0
                                go_wp2
                                go_roundw
                                case rel => exact ⟨m + 1, by omega, by go_num, HE⟩
                                case measure => simp [intOf]; omega
                              · have hmnI : (n : Int) ≤ (m : Int) := by omega
                                have hnd : ¬ ((m : Int) < (n : Int)) := by omega
                                have hat0 := rowOf_at (mk := anB i) (s := 1) (fun _ => rfl) (m - n) 0 (by omega) 30 (by omega)
                                have e0 : m - n * 1 = (m - n) * 1 + 0 := by omega
                                have cB := own_cell (HE.out.2.2.bls.own i HML.out) (g := g2) (by rw [HM2.out]; rfl) m (.int .u8 (anV i (m - n : Nat))) (by rw [hxs, List.getElem?_append_right (by rw [rowOf_len (s := 1) (fun _ => rfl)]; omega), rowOf_len (s := 1) (fun _ => rfl), e0]; exact hat0)
                                rw [show (((m - n : Nat) : Int)) = (m : Int) - (n : Int) by omega] at cB
                                unfold anV at cB
                                clear hxs hat0 e0
                                go_wp2
                                go_roundw
                                case rel => exact ⟨m + 1, by omega, by go_num, HE⟩
                                case measure => simp [intOf]; omega
                            · have hmI : ¬ ((m : Int) < (n : Int) + 30) := by omega
                              clear c1 c2
                              go_wp2
                              go_roundw
                              case rel => exact ⟨i + 1, by omega, by go_num, HE⟩
                              case measure => simp [intOf]; omega
                        · have hilI : ¬ ((i : Int) < (k : Int)) := by omega
                          have HKP := hid_of (HK1.out.trans HE.out.2.1.kept)
                          clear HE
                          go_wp2
                          go_ret
                          exact ⟨rfl, HKP.out⟩
end Go.Proofs.Ytnjhnlohjhdcpab
