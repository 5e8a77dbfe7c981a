/-
  path.words by contract.
-/
import Derived.Test.YthloacakomahaaaClean
import Derived.Test.YthloacakomahaaaPieces
namespace Go.Proofs.Ythloacakomahaaa
open Go.RowKit Go.Shelf
attribute [local go_sem] Oper.semAt_some
set_option linter.unusedVariables false
set_option linter.unusedSimpArgs false

theorem info60 : (Try.prog.info? 60).map (fun i => (i.zero, i.size, i.bytes)) = some (some (.agg #[.string ⟨#[]⟩, .slice none 0 0]), 2, 40) := by kernel_rfl

/-- Words as cells: a text, and its pieces' slice. -/
def wordCells : List (List UInt8 × Value) → List Value
  | [] => []
  | p :: ps => .string ⟨p.1.toArray⟩ :: p.2 :: wordCells ps
/-- The pieces lie where the words say. -/
def HasWords (W : World) (B : Nat) (ps : List (List UInt8 × Value)) : Prop := ∀ p ∈ ps, W.ownsRow B 9 1 p.2 (piecesOf p.1).length (texts (piecesOf p.1))

theorem words_more : ∀ (ps : List (List UInt8 × Value)) (p : List UInt8 × Value), wordCells (ps ++ [p]) = wordCells ps ++ [.string ⟨p.1.toArray⟩, p.2]
  | [], p => rfl
  | q :: ps, p => by
    rw [List.cons_append, wordCells, wordCells, words_more ps p]
    rfl

theorem if_app {F : Fence} {n : Nat} {ops : Array Oper} {o : Oper} {a : Act} {w : World} {K : Act → World → Prop} {Q : Exit → Act → World → Prop} {X : Prop} (hgd : o.guard = none) (hw : Region.wanted o (yielded ops a.tmps) = true) (s x : Operand) (t u : TypeId)
    (ho : o.op = .call { callee := .builtin .append, args := #[s, x], argTypes := #[t, u] }) (v bv : Value) (hs : a.eval s = v) (hx : a.eval x = bv) (v' : Value) (w' : World)
    (hr : (Builtin.append_ #[t, u] o.type #[v, bv]).run Try.prog w = .ok v' w') (h : K (a.put o.dst v') w') : if Region.wanted o (yielded ops a.tmps) = true then Oper.wpIn F n Try.prog o a w K Q else X := by
  rw [if_pos hw]
  unfold Oper.wpIn
  refine ⟨?_, ?_⟩
  · simp [Oper.about, ho, resolve, Target.leads, Sem.run_pure]
  · rw [Oper.semAt_plain F _ _ (by rw [ho]; intro c hc'; cases hc')]
    simp [execOp, ho, resolve, invoke, builtin, hs, hx, hr, Result.andThen]
    exact h

/-- Rows of unlike kinds lie apart. -/
theorem own_unlike {w : World} {B B' : Nat} {e e' : TypeId} {k k' : Nat} {v v' : Value} {n n' : Nat} {xs xs' : List Value} (h : w.ownsRow B e k v n xs) (h' : w.ownsRow B' e' k' v' n' xs') (hn : e ≠ e') : v.ownBlock = none ∨ v.ownBlock ≠ v'.ownBlock := by
  rcases h.2 with ⟨rfl, _⟩ | ⟨g, cap, cur, rfl, _, hg, _⟩
  · exact .inl rfl
  · rcases h'.2 with ⟨rfl, _⟩ | ⟨g', cap', cur', rfl, _, hg', _⟩
    · exact .inr (by simp [Value.ownBlock])
    · refine .inr (fun e => hn ?_)
      have e2 : g = g' := by simpa [Value.ownBlock] using e
      subst e2
      rw [hg] at hg'
      cases hg'
      rfl

/-- One word more onto a row of one's own. -/
theorem app_word (W : World) (v : Value) (n base : Nat) (ps : List (List UInt8 × Value)) (x : List UInt8) (pv : Value) (hpv : pv.oneCell' = true) (hown : W.ownsRow base 60 2 v n (wordCells ps)) (hb : base ≤ W.heap.size) (hsz : n + 1 ≤ 1099511627776) :
    ∃ v' w', (Builtin.append_ #[61, 61] 61 #[v, .slice (some ⟨W.heap.size, 0, none⟩) 1 1]).run Try.prog (W.alloc (.cells #[.string ⟨x.toArray⟩, pv] 60)) = .ok v' w' ∧ w'.ownsRow base 60 2 v' (n + 1) (wordCells (ps ++ [(x, pv)])) ∧ (∃ g cap, v' = .slice (some ⟨g, 0, none⟩) (n + 1) cap) ∧ (W.alloc (.cells #[.string ⟨x.toArray⟩, pv] 60)).grownBy w' v.ownBlock := by
  obtain ⟨i0, hi, hz0, hz1, hz2⟩ := info_parts info60
  have hc : ∀ j u, [Value.string ⟨x.toArray⟩, pv][j]? = some u → (W.alloc (.cells #[.string ⟨x.toArray⟩, pv] 60)).cell? ((⟨W.heap.size, 0, none⟩ : Addr).add j) = some u := by
    intro j u hj
    rw [Addr.add_mid, cell_block _ _ _ _ _ _ (alloc_new W _ rfl)]
    simpa using hj
  obtain ⟨v', w', hr, h2, h3, h4⟩ := run_append_own (P := Try.prog) (W.alloc (.cells #[.string ⟨x.toArray⟩, pv] 60)) base 61 61 60 i0 (.agg #[.string ⟨#[]⟩, .slice none 0 0]) 2 40 Try.underlying61 hi hz0 hz1 hz2 rfl (by decide) v n _ (hown.alloc _) ⟨W.heap.size, 0, none⟩ 1 1 [.string ⟨x.toArray⟩, pv] (by simp) hc (fun u hu => by simp only [List.mem_cons, List.not_mem_nil, or_false] at hu; rcases hu with rfl | rfl; rfl; exact hpv) (by unfold maxLen; omega) (by omega) (by simp; omega)
  refine ⟨v', w', hr, by rw [words_more]; exact h2, ?_, h3⟩
  rcases h2.2 with ⟨_, h⟩ | ⟨g, cap, cur, h, _⟩
  · simp at h
  · exact ⟨g, cap, h⟩

set_option maxRecDepth 100000 in
set_option maxHeartbeats 2000000 in
theorem words_any {P : List UInt8 → Prop} (hlen : ∀ x, P x → x.length < 1099511627776) (s : ByteArray) (hs : s.size ≤ 4096) (hP : ∀ x ∈ partsOf s.data.toList, P x) (w : World) :
    Calls Try.prog 41 #[.string s] w fun e w' => ∃ v ps, e = .returned v ∧ ps.map (·.1) = partsOf s.data.toList ∧ w'.ownsRow w.heap.size 60 2 v ps.length (wordCells ps) ∧ HasWords w' w.heap.size ps ∧ Kept (fun _ => False) w w' := by
  have hl : s.data.toList.length = s.size := by simp
  obtain ⟨i0, hi, hy0, hy1, hy2⟩ := info_parts info60
  have HL := hid_of hl
  have HA := hid_of (names_any s)
  clear hl
  refine (callsIn_wide (n := 3)).1 ?_
  refine callsIn_of_wp_marks Try.func41 rfl trivial ?_ rfl
  simp only [Try.ntmps41, List.size_toArray, List.length_cons, List.length_nil, Nat.reduceAdd, Nat.reduceSub, Array.replicate_succ, Array.replicate_zero, List.push_toArray, List.append_toArray, List.nil_append, List.cons_append]
  gi_wp2_with fail
  refine ⟨trivial, (callsIn_wide.2 (HA.out _)).mono ?_⟩
  rintro e w1 ⟨rfl, rfl⟩
  clear HA
  gi_wp2
  have b0 := (Boxed.new w 61 (.slice none 0 0)).alloc (.cells #[.string s] 9)
  have b1 := Boxed.new (w.alloc (.cells #[.slice none 0 0] 61)) 9 (.string s)
  simp only [World.size_alloc] at b1
  have hB0 := ((Below.refl w.heap.size w).alloc (Nat.le_refl _) (.cells #[.slice none 0 0] 61)).alloc (by simp) (.cells #[.string s] 9)
  obtain ⟨W0, hW0⟩ : ∃ W0, ((w.alloc (.cells #[.slice none 0 0] 61)).alloc (.cells #[.string s] 9)) = W0 := ⟨_, rfl⟩
  have hsz : W0.heap.size = w.heap.size + 2 := by rw [← hW0]; simp
  rw [hW0] at b0 b1 hB0 ⊢
  clear hW0
  refine wpIn_rangeFunc_ownG rfl (by omega) (gf := 47) (lb := #[.pointer (some ⟨w.heap.size + 1, 0, none⟩)]) rfl trivial (enters_of Try.func47 (by kernel_rfl) rfl)
    (names_stops 2 (by omega) (w.heap.size + 1) s (by omega) hP W0 (by omega) b1.cell) (fun _ _ => trivial) (fun _ _ _ _ _ _ _ _ => trivial) (Below.refl _ _) (fun _ => rfl)
    (fun pre W => (w.heap.size + 2 ≤ W.heap.size ∧ ∃ ps v, ps.map (·.1) = vals pre ∧ Boxed W w.heap.size 61 v ∧ W.ownsRow (w.heap.size + 2) 60 2 v ps.length (wordCells ps) ∧ HasWords W (w.heap.size + 2) ps) ∧ Below w.heap.size w W)
    (fun _ _ _ => False) ?hI ?hIx ?h0
    (fun x => { tmps := #[.string s, undef, .slice none 0 0, .pointer (some ⟨w.heap.size, 0, none⟩), x.v, .string s, .func (.func 47) #[] #[.pointer (some ⟨w.heap.size + 1, 0, none⟩)], x.v, undef, undef, undef, undef, undef, undef, undef, undef], defers := [] }) ?assign ?body ?done ?stop
  case hI =>
    rintro pre A C rw ⟨⟨hbs, ps, v, hf, hv, hrow, hw⟩, hB⟩ hg hr
    exact ⟨⟨Nat.le_trans hbs hg.size, ps, v, hf, box_stay hv hg hr, owns_stay hrow hg hr, fun p hp => owns_stay (hw p hp) hg hr⟩, hB.grown hg hB.size (fun k e => by have := (hr k e).1; omega)⟩
  case hIx => exact fun _ _ _ _ _ h _ _ => h
  case h0 => exact ⟨⟨by omega, [], _, rfl, b0, World.ownsRow_nil _ _ _ _, fun p hp => by cases hp⟩, hB0⟩
  case assign =>
    intro l x W K hK
    gi_wp2
    exact hK
  case body =>
    rintro l pre x W ⟨⟨hbs, ps, v, hf, hv, hrow, hw⟩, hB⟩ hlt
    have hmx : Try.prog.follows .mixedOrders = true := by kernel_rfl
    have HPC := hid_of (pieces_any x.1 (hlen x.1 x.2))
    have hc := hv.cell
    have hps : ps.length = pre.length := by
      have := congrArg List.length hf
      simpa [vals] using this
    have HPS := hid_of hps
    clear hps
    have hpl : pre.length < 8192 := by
      have h3 := parts_len s.data.toList
      rw [HL.out] at h3
      omega
    have HNEXT : Hid (∀ (pv : Value) (w1 : World), w1.ownsRow W.drew.heap.size 9 1 pv (piecesOf x.1).length (texts (piecesOf x.1)) → Kept (fun _ => False) W.drew w1 → ∃ pa pc v' w2, pv = .slice pa (piecesOf x.1).length pc ∧ (Builtin.append_ #[61, 61] 61 #[v, .slice (some ⟨w1.heap.size, 0, none⟩) 1 1]).run Try.prog (w1.alloc (.cells #[.string ⟨x.1.toArray⟩, pv] 60)) = .ok v' w2 ∧
        Hid (Boxed w1 w.heap.size 61 v ∧ (∃ g cap, v' = .slice (some ⟨g, 0, none⟩) (ps.length + 1) cap) ∧ Boxed w2 w.heap.size 61 v ∧ ownPostG W0.heap.size (fun _ _ => True) (fun pre W => (w.heap.size + 2 ≤ W.heap.size ∧ ∃ ps v, ps.map (·.1) = vals pre ∧ Boxed W w.heap.size 61 v ∧ W.ownsRow (w.heap.size + 2) 60 2 v ps.length (wordCells ps) ∧ HasWords W (w.heap.size + 2) ps) ∧ Below w.heap.size w W) (fun _ _ _ => False) (pre ++ [x]) W Exit.normal { tmps := #[], defers := [] } (w2.setCell ⟨w.heap.size, 0, none⟩ v'))) := by
      intro pv w1 ho1 hk1
      have k1 : Kept (fun _ => False) W w1 := (Kept.refl _ W).drew.trans hk1
      obtain ⟨pa, pc, rfl, _, _, _⟩ := own_slice ho1
      have hs1 : w.heap.size + 2 ≤ w1.heap.size := Nat.le_trans hbs k1.size
      obtain ⟨v', w2, hr, how, hgc, hgr⟩ := app_word w1 v ps.length (w.heap.size + 2) ps x.1 (.slice pa (piecesOf x.1).length pc) rfl (k1.ownsRow hrow (fun g _ h => h)) hs1 (by have := HPS.out; omega)
      obtain ⟨hv1, hv2, hr2, hk2, hb2⟩ := box_appended (box_keep hv k1) (k1.ownsRow hrow (fun g _ h => h)) hs1 (by omega) how hgr
      refine ⟨pa, pc, v', w2, rfl, hr, box_keep hv k1, hgc, hv1, (k1.others.trans hk2).from _, trivial, ⟨Nat.le_trans hs1 hb2.size, ps ++ [(x.1, _)], v', by simp [vals, hf], hv2, by rw [List.length_append]; exact hr2, ?_⟩, (hB.trans (k1.below (B := w.heap.size) hB.size (fun _ h => h.elim))).trans (hb2.below (by omega) (fun k h => by omega))⟩
      have hrow1 := k1.ownsRow hrow (fun g _ h => h)
      intro p hp
      have hp1 : w1.ownsRow (w.heap.size + 2) 9 1 p.2 (piecesOf p.1).length (texts (piecesOf p.1)) := by
        rcases List.mem_append.1 hp with h | h
        · exact k1.ownsRow (hw p h) (fun g _ h => h)
        · rw [List.mem_singleton.1 h]
          exact own_base ho1 hbs
      have hp2 : w2.ownsRow (w.heap.size + 2) 9 1 p.2 (piecesOf p.1).length (texts (piecesOf p.1)) := (hp1.alloc _).kept hgr (own_unlike hp1 hrow1 (by decide))
      exact hp2.kept (grownBy_setCell' w2 w.heap.size v') (.inr (own_ge hp2 (by omega)).symm)
    gi_wp2
    refine wpIn_region_any hmx ?_
    change wpAnyIn _ _ _ _ _ _ _ _ _ (World.drew _)
    refine wpAnyIn_ready (rs := [0, 1, 2]) (by kernel_rfl) (by simp) ?_
    refine AllReadyIn.cons rfl (fun K hK => ?_) ?_
    · skip
      go_simp
      refine hK _ _ ?_
      clear hK K
      refine wpAnyIn_ready (rs := [1, 2]) (by kernel_rfl) (by simp) ?_
      refine AllReadyIn.cons rfl (fun K hK => ?_) ?_
      · skip
        go_simp
        refine hK _ _ ?_
        clear hK K
        refine wpAnyIn_ready (rs := [2]) (by kernel_rfl) (by simp) ?_
        refine AllReadyIn.cons rfl (fun K hK => ?_) ?_
        · skip
          go_simp
          refine hK _ _ ?_
          clear hK K
          refine wpAnyIn_ready (rs := [3]) (by kernel_rfl) (by simp) ?_
          refine AllReadyIn.cons rfl (fun K hK => ?_) ?_
          · skip
            go_simp
            refine ⟨trivial, CallsIn.inRound l ((callsIn_wide.2 (HPC.out _)).mono ?_)⟩
            rintro e w1 ⟨pv, rfl, ho1, hk1⟩
            obtain ⟨pa, pc, v', w2, rfl, hr2, X⟩ := HNEXT.out _ _ ho1 hk1
            have c2 := X.out.1.cell
            have z2 := X.out.1.frozen
            have c4 := (X.out.1.alloc (.cells #[x.v, .slice pa (piecesOf x.1).length pc] 60)).cell
            obtain ⟨g', cap', rfl⟩ := X.out.2.1
            have c3 := X.out.2.2.1.cell
            have z3 := X.out.2.2.1.frozen
            clear ho1 hk1
            dsimp only
            refine hK _ _ ?_
            clear hK K
            refine wpAnyIn_ready (rs := [4]) (by kernel_rfl) (by simp) ?_
            refine AllReadyIn.cons rfl (fun K hK => ?_) ?_
            · skip
              go_simp
              refine hK _ _ ?_
              clear hK K
              refine wpAnyIn_ready (rs := [5]) (by kernel_rfl) (by simp) ?_
              refine AllReadyIn.cons rfl (fun K hK => ?_) ?_
              · skip
                go_simp
                refine hK _ _ ?_
                clear hK K
                refine wpAnyIn_ready (rs := [6]) (by kernel_rfl) (by simp) ?_
                refine AllReadyIn.cons rfl (fun K hK => ?_) ?_
                · skip
                  refine if_app rfl rfl (.tmp 8) (.tmp 13) 61 61 rfl _ _ rfl rfl (.slice (some ⟨g', 0, none⟩) (ps.length + 1) cap') w2 hr2 ?_
                  refine hK _ _ ?_
                  clear hK K
                  refine wpAnyIn_ready (rs := [7]) (by kernel_rfl) (by simp) ?_
                  refine AllReadyIn.cons rfl (fun K hK => ?_) ?_
                  · skip
                    go_simp
                    refine hK _ _ ?_
                    clear hK K
                    refine wpAnyIn_done (by kernel_rfl) ?_ _
                    gi_wp2
                    exact X.out.2.2.2
                  exact AllReadyIn.nil
                exact AllReadyIn.nil
              exact AllReadyIn.nil
            exact AllReadyIn.nil
          exact AllReadyIn.nil
        exact AllReadyIn.nil
      refine AllReadyIn.cons rfl (fun K hK => ?_) ?_
      · skip
        go_simp
        refine hK _ _ ?_
        clear hK K
        refine wpAnyIn_ready (rs := [1, 3]) (by kernel_rfl) (by simp) ?_
        refine AllReadyIn.cons rfl (fun K hK => ?_) ?_
        · skip
          go_simp
          refine hK _ _ ?_
          clear hK K
          refine wpAnyIn_ready (rs := [3]) (by kernel_rfl) (by simp) ?_
          refine AllReadyIn.cons rfl (fun K hK => ?_) ?_
          · skip
            go_simp
            refine ⟨trivial, CallsIn.inRound l ((callsIn_wide.2 (HPC.out _)).mono ?_)⟩
            rintro e w1 ⟨pv, rfl, ho1, hk1⟩
            obtain ⟨pa, pc, v', w2, rfl, hr2, X⟩ := HNEXT.out _ _ ho1 hk1
            have c2 := X.out.1.cell
            have z2 := X.out.1.frozen
            have c4 := (X.out.1.alloc (.cells #[x.v, .slice pa (piecesOf x.1).length pc] 60)).cell
            obtain ⟨g', cap', rfl⟩ := X.out.2.1
            have c3 := X.out.2.2.1.cell
            have z3 := X.out.2.2.1.frozen
            clear ho1 hk1
            dsimp only
            refine hK _ _ ?_
            clear hK K
            refine wpAnyIn_ready (rs := [4]) (by kernel_rfl) (by simp) ?_
            refine AllReadyIn.cons rfl (fun K hK => ?_) ?_
            · skip
              go_simp
              refine hK _ _ ?_
              clear hK K
              refine wpAnyIn_ready (rs := [5]) (by kernel_rfl) (by simp) ?_
              refine AllReadyIn.cons rfl (fun K hK => ?_) ?_
              · skip
                go_simp
                refine hK _ _ ?_
                clear hK K
                refine wpAnyIn_ready (rs := [6]) (by kernel_rfl) (by simp) ?_
                refine AllReadyIn.cons rfl (fun K hK => ?_) ?_
                · skip
                  refine if_app rfl rfl (.tmp 8) (.tmp 13) 61 61 rfl _ _ rfl rfl (.slice (some ⟨g', 0, none⟩) (ps.length + 1) cap') w2 hr2 ?_
                  refine hK _ _ ?_
                  clear hK K
                  refine wpAnyIn_ready (rs := [7]) (by kernel_rfl) (by simp) ?_
                  refine AllReadyIn.cons rfl (fun K hK => ?_) ?_
                  · skip
                    go_simp
                    refine hK _ _ ?_
                    clear hK K
                    refine wpAnyIn_done (by kernel_rfl) ?_ _
                    gi_wp2
                    exact X.out.2.2.2
                  exact AllReadyIn.nil
                exact AllReadyIn.nil
              exact AllReadyIn.nil
            exact AllReadyIn.nil
          exact AllReadyIn.nil
        refine AllReadyIn.cons rfl (fun K hK => ?_) ?_
        · skip
          go_simp
          refine ⟨trivial, CallsIn.inRound l ((callsIn_wide.2 (HPC.out _)).mono ?_)⟩
          rintro e w1 ⟨pv, rfl, ho1, hk1⟩
          obtain ⟨pa, pc, v', w2, rfl, hr2, X⟩ := HNEXT.out _ _ ho1 hk1
          have c2 := X.out.1.cell
          have z2 := X.out.1.frozen
          have c4 := (X.out.1.alloc (.cells #[x.v, .slice pa (piecesOf x.1).length pc] 60)).cell
          obtain ⟨g', cap', rfl⟩ := X.out.2.1
          have c3 := X.out.2.2.1.cell
          have z3 := X.out.2.2.1.frozen
          clear ho1 hk1
          dsimp only
          refine hK _ _ ?_
          clear hK K
          refine wpAnyIn_ready (rs := [1]) (by kernel_rfl) (by simp) ?_
          refine AllReadyIn.cons rfl (fun K hK => ?_) ?_
          · skip
            go_simp
            refine hK _ _ ?_
            clear hK K
            refine wpAnyIn_ready (rs := [4]) (by kernel_rfl) (by simp) ?_
            refine AllReadyIn.cons rfl (fun K hK => ?_) ?_
            · skip
              go_simp
              refine hK _ _ ?_
              clear hK K
              refine wpAnyIn_ready (rs := [5]) (by kernel_rfl) (by simp) ?_
              refine AllReadyIn.cons rfl (fun K hK => ?_) ?_
              · skip
                go_simp
                refine hK _ _ ?_
                clear hK K
                refine wpAnyIn_ready (rs := [6]) (by kernel_rfl) (by simp) ?_
                refine AllReadyIn.cons rfl (fun K hK => ?_) ?_
                · skip
                  refine if_app rfl rfl (.tmp 8) (.tmp 13) 61 61 rfl _ _ rfl rfl (.slice (some ⟨g', 0, none⟩) (ps.length + 1) cap') w2 hr2 ?_
                  refine hK _ _ ?_
                  clear hK K
                  refine wpAnyIn_ready (rs := [7]) (by kernel_rfl) (by simp) ?_
                  refine AllReadyIn.cons rfl (fun K hK => ?_) ?_
                  · skip
                    go_simp
                    refine hK _ _ ?_
                    clear hK K
                    refine wpAnyIn_done (by kernel_rfl) ?_ _
                    gi_wp2
                    exact X.out.2.2.2
                  exact AllReadyIn.nil
                exact AllReadyIn.nil
              exact AllReadyIn.nil
            exact AllReadyIn.nil
          exact AllReadyIn.nil
        exact AllReadyIn.nil
      exact AllReadyIn.nil
    refine AllReadyIn.cons rfl (fun K hK => ?_) ?_
    · skip
      go_simp
      refine hK _ _ ?_
      clear hK K
      refine wpAnyIn_ready (rs := [0, 2]) (by kernel_rfl) (by simp) ?_
      refine AllReadyIn.cons rfl (fun K hK => ?_) ?_
      · skip
        go_simp
        refine hK _ _ ?_
        clear hK K
        refine wpAnyIn_ready (rs := [2]) (by kernel_rfl) (by simp) ?_
        refine AllReadyIn.cons rfl (fun K hK => ?_) ?_
        · skip
          go_simp
          refine hK _ _ ?_
          clear hK K
          refine wpAnyIn_ready (rs := [3]) (by kernel_rfl) (by simp) ?_
          refine AllReadyIn.cons rfl (fun K hK => ?_) ?_
          · skip
            go_simp
            refine ⟨trivial, CallsIn.inRound l ((callsIn_wide.2 (HPC.out _)).mono ?_)⟩
            rintro e w1 ⟨pv, rfl, ho1, hk1⟩
            obtain ⟨pa, pc, v', w2, rfl, hr2, X⟩ := HNEXT.out _ _ ho1 hk1
            have c2 := X.out.1.cell
            have z2 := X.out.1.frozen
            have c4 := (X.out.1.alloc (.cells #[x.v, .slice pa (piecesOf x.1).length pc] 60)).cell
            obtain ⟨g', cap', rfl⟩ := X.out.2.1
            have c3 := X.out.2.2.1.cell
            have z3 := X.out.2.2.1.frozen
            clear ho1 hk1
            dsimp only
            refine hK _ _ ?_
            clear hK K
            refine wpAnyIn_ready (rs := [4]) (by kernel_rfl) (by simp) ?_
            refine AllReadyIn.cons rfl (fun K hK => ?_) ?_
            · skip
              go_simp
              refine hK _ _ ?_
              clear hK K
              refine wpAnyIn_ready (rs := [5]) (by kernel_rfl) (by simp) ?_
              refine AllReadyIn.cons rfl (fun K hK => ?_) ?_
              · skip
                go_simp
                refine hK _ _ ?_
                clear hK K
                refine wpAnyIn_ready (rs := [6]) (by kernel_rfl) (by simp) ?_
                refine AllReadyIn.cons rfl (fun K hK => ?_) ?_
                · skip
                  refine if_app rfl rfl (.tmp 8) (.tmp 13) 61 61 rfl _ _ rfl rfl (.slice (some ⟨g', 0, none⟩) (ps.length + 1) cap') w2 hr2 ?_
                  refine hK _ _ ?_
                  clear hK K
                  refine wpAnyIn_ready (rs := [7]) (by kernel_rfl) (by simp) ?_
                  refine AllReadyIn.cons rfl (fun K hK => ?_) ?_
                  · skip
                    go_simp
                    refine hK _ _ ?_
                    clear hK K
                    refine wpAnyIn_done (by kernel_rfl) ?_ _
                    gi_wp2
                    exact X.out.2.2.2
                  exact AllReadyIn.nil
                exact AllReadyIn.nil
              exact AllReadyIn.nil
            exact AllReadyIn.nil
          exact AllReadyIn.nil
        exact AllReadyIn.nil
      refine AllReadyIn.cons rfl (fun K hK => ?_) ?_
      · skip
        go_simp
        refine hK _ _ ?_
        clear hK K
        refine wpAnyIn_ready (rs := [0, 3]) (by kernel_rfl) (by simp) ?_
        refine AllReadyIn.cons rfl (fun K hK => ?_) ?_
        · skip
          go_simp
          refine hK _ _ ?_
          clear hK K
          refine wpAnyIn_ready (rs := [3]) (by kernel_rfl) (by simp) ?_
          refine AllReadyIn.cons rfl (fun K hK => ?_) ?_
          · skip
            go_simp
            refine ⟨trivial, CallsIn.inRound l ((callsIn_wide.2 (HPC.out _)).mono ?_)⟩
            rintro e w1 ⟨pv, rfl, ho1, hk1⟩
            obtain ⟨pa, pc, v', w2, rfl, hr2, X⟩ := HNEXT.out _ _ ho1 hk1
            have c2 := X.out.1.cell
            have z2 := X.out.1.frozen
            have c4 := (X.out.1.alloc (.cells #[x.v, .slice pa (piecesOf x.1).length pc] 60)).cell
            obtain ⟨g', cap', rfl⟩ := X.out.2.1
            have c3 := X.out.2.2.1.cell
            have z3 := X.out.2.2.1.frozen
            clear ho1 hk1
            dsimp only
            refine hK _ _ ?_
            clear hK K
            refine wpAnyIn_ready (rs := [4]) (by kernel_rfl) (by simp) ?_
            refine AllReadyIn.cons rfl (fun K hK => ?_) ?_
            · skip
              go_simp
              refine hK _ _ ?_
              clear hK K
              refine wpAnyIn_ready (rs := [5]) (by kernel_rfl) (by simp) ?_
              refine AllReadyIn.cons rfl (fun K hK => ?_) ?_
              · skip
                go_simp
                refine hK _ _ ?_
                clear hK K
                refine wpAnyIn_ready (rs := [6]) (by kernel_rfl) (by simp) ?_
                refine AllReadyIn.cons rfl (fun K hK => ?_) ?_
                · skip
                  refine if_app rfl rfl (.tmp 8) (.tmp 13) 61 61 rfl _ _ rfl rfl (.slice (some ⟨g', 0, none⟩) (ps.length + 1) cap') w2 hr2 ?_
                  refine hK _ _ ?_
                  clear hK K
                  refine wpAnyIn_ready (rs := [7]) (by kernel_rfl) (by simp) ?_
                  refine AllReadyIn.cons rfl (fun K hK => ?_) ?_
                  · skip
                    go_simp
                    refine hK _ _ ?_
                    clear hK K
                    refine wpAnyIn_done (by kernel_rfl) ?_ _
                    gi_wp2
                    exact X.out.2.2.2
                  exact AllReadyIn.nil
                exact AllReadyIn.nil
              exact AllReadyIn.nil
            exact AllReadyIn.nil
          exact AllReadyIn.nil
        refine AllReadyIn.cons rfl (fun K hK => ?_) ?_
        · skip
          go_simp
          refine ⟨trivial, CallsIn.inRound l ((callsIn_wide.2 (HPC.out _)).mono ?_)⟩
          rintro e w1 ⟨pv, rfl, ho1, hk1⟩
          obtain ⟨pa, pc, v', w2, rfl, hr2, X⟩ := HNEXT.out _ _ ho1 hk1
          have c2 := X.out.1.cell
          have z2 := X.out.1.frozen
          have c4 := (X.out.1.alloc (.cells #[x.v, .slice pa (piecesOf x.1).length pc] 60)).cell
          obtain ⟨g', cap', rfl⟩ := X.out.2.1
          have c3 := X.out.2.2.1.cell
          have z3 := X.out.2.2.1.frozen
          clear ho1 hk1
          dsimp only
          refine hK _ _ ?_
          clear hK K
          refine wpAnyIn_ready (rs := [0, 4]) (by kernel_rfl) (by simp) ?_
          refine AllReadyIn.cons rfl (fun K hK => ?_) ?_
          · skip
            go_simp
            refine hK _ _ ?_
            clear hK K
            refine wpAnyIn_ready (rs := [4]) (by kernel_rfl) (by simp) ?_
            refine AllReadyIn.cons rfl (fun K hK => ?_) ?_
            · skip
              go_simp
              refine hK _ _ ?_
              clear hK K
              refine wpAnyIn_ready (rs := [5]) (by kernel_rfl) (by simp) ?_
              refine AllReadyIn.cons rfl (fun K hK => ?_) ?_
              · skip
                go_simp
                refine hK _ _ ?_
                clear hK K
                refine wpAnyIn_ready (rs := [6]) (by kernel_rfl) (by simp) ?_
                refine AllReadyIn.cons rfl (fun K hK => ?_) ?_
                · skip
                  refine if_app rfl rfl (.tmp 8) (.tmp 13) 61 61 rfl _ _ rfl rfl (.slice (some ⟨g', 0, none⟩) (ps.length + 1) cap') w2 hr2 ?_
                  refine hK _ _ ?_
                  clear hK K
                  refine wpAnyIn_ready (rs := [7]) (by kernel_rfl) (by simp) ?_
                  refine AllReadyIn.cons rfl (fun K hK => ?_) ?_
                  · skip
                    go_simp
                    refine hK _ _ ?_
                    clear hK K
                    refine wpAnyIn_done (by kernel_rfl) ?_ _
                    gi_wp2
                    exact X.out.2.2.2
                  exact AllReadyIn.nil
                exact AllReadyIn.nil
              exact AllReadyIn.nil
            exact AllReadyIn.nil
          refine AllReadyIn.cons rfl (fun K hK => ?_) ?_
          · skip
            go_simp
            refine hK _ _ ?_
            clear hK K
            refine wpAnyIn_ready (rs := [0, 5]) (by kernel_rfl) (by simp) ?_
            refine AllReadyIn.cons rfl (fun K hK => ?_) ?_
            · skip
              go_simp
              refine hK _ _ ?_
              clear hK K
              refine wpAnyIn_ready (rs := [5]) (by kernel_rfl) (by simp) ?_
              refine AllReadyIn.cons rfl (fun K hK => ?_) ?_
              · skip
                go_simp
                refine hK _ _ ?_
                clear hK K
                refine wpAnyIn_ready (rs := [6]) (by kernel_rfl) (by simp) ?_
                refine AllReadyIn.cons rfl (fun K hK => ?_) ?_
                · skip
                  refine if_app rfl rfl (.tmp 8) (.tmp 13) 61 61 rfl _ _ rfl rfl (.slice (some ⟨g', 0, none⟩) (ps.length + 1) cap') w2 hr2 ?_
                  refine hK _ _ ?_
                  clear hK K
                  refine wpAnyIn_ready (rs := [7]) (by kernel_rfl) (by simp) ?_
                  refine AllReadyIn.cons rfl (fun K hK => ?_) ?_
                  · skip
                    go_simp
                    refine hK _ _ ?_
                    clear hK K
                    refine wpAnyIn_done (by kernel_rfl) ?_ _
                    gi_wp2
                    exact X.out.2.2.2
                  exact AllReadyIn.nil
                exact AllReadyIn.nil
              exact AllReadyIn.nil
            refine AllReadyIn.cons rfl (fun K hK => ?_) ?_
            · skip
              go_simp
              refine hK _ _ ?_
              clear hK K
              refine wpAnyIn_ready (rs := [0]) (by kernel_rfl) (by simp) ?_
              refine AllReadyIn.cons rfl (fun K hK => ?_) ?_
              · skip
                go_simp
                refine hK _ _ ?_
                clear hK K
                refine wpAnyIn_ready (rs := [6]) (by kernel_rfl) (by simp) ?_
                refine AllReadyIn.cons rfl (fun K hK => ?_) ?_
                · skip
                  refine if_app rfl rfl (.tmp 8) (.tmp 13) 61 61 rfl _ _ rfl rfl (.slice (some ⟨g', 0, none⟩) (ps.length + 1) cap') w2 hr2 ?_
                  refine hK _ _ ?_
                  clear hK K
                  refine wpAnyIn_ready (rs := [7]) (by kernel_rfl) (by simp) ?_
                  refine AllReadyIn.cons rfl (fun K hK => ?_) ?_
                  · skip
                    go_simp
                    refine hK _ _ ?_
                    clear hK K
                    refine wpAnyIn_done (by kernel_rfl) ?_ _
                    gi_wp2
                    exact X.out.2.2.2
                  exact AllReadyIn.nil
                exact AllReadyIn.nil
              exact AllReadyIn.nil
            exact AllReadyIn.nil
          exact AllReadyIn.nil
        exact AllReadyIn.nil
      exact AllReadyIn.nil
    refine AllReadyIn.cons rfl (fun K hK => ?_) ?_
    · skip
      go_simp
      refine hK _ _ ?_
      clear hK K
      refine wpAnyIn_ready (rs := [0, 1, 3]) (by kernel_rfl) (by simp) ?_
      refine AllReadyIn.cons rfl (fun K hK => ?_) ?_
      · skip
        go_simp
        refine hK _ _ ?_
        clear hK K
        refine wpAnyIn_ready (rs := [1, 3]) (by kernel_rfl) (by simp) ?_
        refine AllReadyIn.cons rfl (fun K hK => ?_) ?_
        · skip
          go_simp
          refine hK _ _ ?_
          clear hK K
          refine wpAnyIn_ready (rs := [3]) (by kernel_rfl) (by simp) ?_
          refine AllReadyIn.cons rfl (fun K hK => ?_) ?_
          · skip
            go_simp
            refine ⟨trivial, CallsIn.inRound l ((callsIn_wide.2 (HPC.out _)).mono ?_)⟩
            rintro e w1 ⟨pv, rfl, ho1, hk1⟩
            obtain ⟨pa, pc, v', w2, rfl, hr2, X⟩ := HNEXT.out _ _ ho1 hk1
            have c2 := X.out.1.cell
            have z2 := X.out.1.frozen
            have c4 := (X.out.1.alloc (.cells #[x.v, .slice pa (piecesOf x.1).length pc] 60)).cell
            obtain ⟨g', cap', rfl⟩ := X.out.2.1
            have c3 := X.out.2.2.1.cell
            have z3 := X.out.2.2.1.frozen
            clear ho1 hk1
            dsimp only
            refine hK _ _ ?_
            clear hK K
            refine wpAnyIn_ready (rs := [4]) (by kernel_rfl) (by simp) ?_
            refine AllReadyIn.cons rfl (fun K hK => ?_) ?_
            · skip
              go_simp
              refine hK _ _ ?_
              clear hK K
              refine wpAnyIn_ready (rs := [5]) (by kernel_rfl) (by simp) ?_
              refine AllReadyIn.cons rfl (fun K hK => ?_) ?_
              · skip
                go_simp
                refine hK _ _ ?_
                clear hK K
                refine wpAnyIn_ready (rs := [6]) (by kernel_rfl) (by simp) ?_
                refine AllReadyIn.cons rfl (fun K hK => ?_) ?_
                · skip
                  refine if_app rfl rfl (.tmp 8) (.tmp 13) 61 61 rfl _ _ rfl rfl (.slice (some ⟨g', 0, none⟩) (ps.length + 1) cap') w2 hr2 ?_
                  refine hK _ _ ?_
                  clear hK K
                  refine wpAnyIn_ready (rs := [7]) (by kernel_rfl) (by simp) ?_
                  refine AllReadyIn.cons rfl (fun K hK => ?_) ?_
                  · skip
                    go_simp
                    refine hK _ _ ?_
                    clear hK K
                    refine wpAnyIn_done (by kernel_rfl) ?_ _
                    gi_wp2
                    exact X.out.2.2.2
                  exact AllReadyIn.nil
                exact AllReadyIn.nil
              exact AllReadyIn.nil
            exact AllReadyIn.nil
          exact AllReadyIn.nil
        refine AllReadyIn.cons rfl (fun K hK => ?_) ?_
        · skip
          go_simp
          refine ⟨trivial, CallsIn.inRound l ((callsIn_wide.2 (HPC.out _)).mono ?_)⟩
          rintro e w1 ⟨pv, rfl, ho1, hk1⟩
          obtain ⟨pa, pc, v', w2, rfl, hr2, X⟩ := HNEXT.out _ _ ho1 hk1
          have c2 := X.out.1.cell
          have z2 := X.out.1.frozen
          have c4 := (X.out.1.alloc (.cells #[x.v, .slice pa (piecesOf x.1).length pc] 60)).cell
          obtain ⟨g', cap', rfl⟩ := X.out.2.1
          have c3 := X.out.2.2.1.cell
          have z3 := X.out.2.2.1.frozen
          clear ho1 hk1
          dsimp only
          refine hK _ _ ?_
          clear hK K
          refine wpAnyIn_ready (rs := [1]) (by kernel_rfl) (by simp) ?_
          refine AllReadyIn.cons rfl (fun K hK => ?_) ?_
          · skip
            go_simp
            refine hK _ _ ?_
            clear hK K
            refine wpAnyIn_ready (rs := [4]) (by kernel_rfl) (by simp) ?_
            refine AllReadyIn.cons rfl (fun K hK => ?_) ?_
            · skip
              go_simp
              refine hK _ _ ?_
              clear hK K
              refine wpAnyIn_ready (rs := [5]) (by kernel_rfl) (by simp) ?_
              refine AllReadyIn.cons rfl (fun K hK => ?_) ?_
              · skip
                go_simp
                refine hK _ _ ?_
                clear hK K
                refine wpAnyIn_ready (rs := [6]) (by kernel_rfl) (by simp) ?_
                refine AllReadyIn.cons rfl (fun K hK => ?_) ?_
                · skip
                  refine if_app rfl rfl (.tmp 8) (.tmp 13) 61 61 rfl _ _ rfl rfl (.slice (some ⟨g', 0, none⟩) (ps.length + 1) cap') w2 hr2 ?_
                  refine hK _ _ ?_
                  clear hK K
                  refine wpAnyIn_ready (rs := [7]) (by kernel_rfl) (by simp) ?_
                  refine AllReadyIn.cons rfl (fun K hK => ?_) ?_
                  · skip
                    go_simp
                    refine hK _ _ ?_
                    clear hK K
                    refine wpAnyIn_done (by kernel_rfl) ?_ _
                    gi_wp2
                    exact X.out.2.2.2
                  exact AllReadyIn.nil
                exact AllReadyIn.nil
              exact AllReadyIn.nil
            exact AllReadyIn.nil
          exact AllReadyIn.nil
        exact AllReadyIn.nil
      refine AllReadyIn.cons rfl (fun K hK => ?_) ?_
      · skip
        go_simp
        refine hK _ _ ?_
        clear hK K
        refine wpAnyIn_ready (rs := [0, 3]) (by kernel_rfl) (by simp) ?_
        refine AllReadyIn.cons rfl (fun K hK => ?_) ?_
        · skip
          go_simp
          refine hK _ _ ?_
          clear hK K
          refine wpAnyIn_ready (rs := [3]) (by kernel_rfl) (by simp) ?_
          refine AllReadyIn.cons rfl (fun K hK => ?_) ?_
          · skip
            go_simp
            refine ⟨trivial, CallsIn.inRound l ((callsIn_wide.2 (HPC.out _)).mono ?_)⟩
            rintro e w1 ⟨pv, rfl, ho1, hk1⟩
            obtain ⟨pa, pc, v', w2, rfl, hr2, X⟩ := HNEXT.out _ _ ho1 hk1
            have c2 := X.out.1.cell
            have z2 := X.out.1.frozen
            have c4 := (X.out.1.alloc (.cells #[x.v, .slice pa (piecesOf x.1).length pc] 60)).cell
            obtain ⟨g', cap', rfl⟩ := X.out.2.1
            have c3 := X.out.2.2.1.cell
            have z3 := X.out.2.2.1.frozen
            clear ho1 hk1
            dsimp only
            refine hK _ _ ?_
            clear hK K
            refine wpAnyIn_ready (rs := [4]) (by kernel_rfl) (by simp) ?_
            refine AllReadyIn.cons rfl (fun K hK => ?_) ?_
            · skip
              go_simp
              refine hK _ _ ?_
              clear hK K
              refine wpAnyIn_ready (rs := [5]) (by kernel_rfl) (by simp) ?_
              refine AllReadyIn.cons rfl (fun K hK => ?_) ?_
              · skip
                go_simp
                refine hK _ _ ?_
                clear hK K
                refine wpAnyIn_ready (rs := [6]) (by kernel_rfl) (by simp) ?_
                refine AllReadyIn.cons rfl (fun K hK => ?_) ?_
                · skip
                  refine if_app rfl rfl (.tmp 8) (.tmp 13) 61 61 rfl _ _ rfl rfl (.slice (some ⟨g', 0, none⟩) (ps.length + 1) cap') w2 hr2 ?_
                  refine hK _ _ ?_
                  clear hK K
                  refine wpAnyIn_ready (rs := [7]) (by kernel_rfl) (by simp) ?_
                  refine AllReadyIn.cons rfl (fun K hK => ?_) ?_
                  · skip
                    go_simp
                    refine hK _ _ ?_
                    clear hK K
                    refine wpAnyIn_done (by kernel_rfl) ?_ _
                    gi_wp2
                    exact X.out.2.2.2
                  exact AllReadyIn.nil
                exact AllReadyIn.nil
              exact AllReadyIn.nil
            exact AllReadyIn.nil
          exact AllReadyIn.nil
        refine AllReadyIn.cons rfl (fun K hK => ?_) ?_
        · skip
          go_simp
          refine ⟨trivial, CallsIn.inRound l ((callsIn_wide.2 (HPC.out _)).mono ?_)⟩
          rintro e w1 ⟨pv, rfl, ho1, hk1⟩
          obtain ⟨pa, pc, v', w2, rfl, hr2, X⟩ := HNEXT.out _ _ ho1 hk1
          have c2 := X.out.1.cell
          have z2 := X.out.1.frozen
          have c4 := (X.out.1.alloc (.cells #[x.v, .slice pa (piecesOf x.1).length pc] 60)).cell
          obtain ⟨g', cap', rfl⟩ := X.out.2.1
          have c3 := X.out.2.2.1.cell
          have z3 := X.out.2.2.1.frozen
          clear ho1 hk1
          dsimp only
          refine hK _ _ ?_
          clear hK K
          refine wpAnyIn_ready (rs := [0, 4]) (by kernel_rfl) (by simp) ?_
          refine AllReadyIn.cons rfl (fun K hK => ?_) ?_
          · skip
            go_simp
            refine hK _ _ ?_
            clear hK K
            refine wpAnyIn_ready (rs := [4]) (by kernel_rfl) (by simp) ?_
            refine AllReadyIn.cons rfl (fun K hK => ?_) ?_
            · skip
              go_simp
              refine hK _ _ ?_
              clear hK K
              refine wpAnyIn_ready (rs := [5]) (by kernel_rfl) (by simp) ?_
              refine AllReadyIn.cons rfl (fun K hK => ?_) ?_
              · skip
                go_simp
                refine hK _ _ ?_
                clear hK K
                refine wpAnyIn_ready (rs := [6]) (by kernel_rfl) (by simp) ?_
                refine AllReadyIn.cons rfl (fun K hK => ?_) ?_
                · skip
                  refine if_app rfl rfl (.tmp 8) (.tmp 13) 61 61 rfl _ _ rfl rfl (.slice (some ⟨g', 0, none⟩) (ps.length + 1) cap') w2 hr2 ?_
                  refine hK _ _ ?_
                  clear hK K
                  refine wpAnyIn_ready (rs := [7]) (by kernel_rfl) (by simp) ?_
                  refine AllReadyIn.cons rfl (fun K hK => ?_) ?_
                  · skip
                    go_simp
                    refine hK _ _ ?_
                    clear hK K
                    refine wpAnyIn_done (by kernel_rfl) ?_ _
                    gi_wp2
                    exact X.out.2.2.2
                  exact AllReadyIn.nil
                exact AllReadyIn.nil
              exact AllReadyIn.nil
            exact AllReadyIn.nil
          refine AllReadyIn.cons rfl (fun K hK => ?_) ?_
          · skip
            go_simp
            refine hK _ _ ?_
            clear hK K
            refine wpAnyIn_ready (rs := [0, 5]) (by kernel_rfl) (by simp) ?_
            refine AllReadyIn.cons rfl (fun K hK => ?_) ?_
            · skip
              go_simp
              refine hK _ _ ?_
              clear hK K
              refine wpAnyIn_ready (rs := [5]) (by kernel_rfl) (by simp) ?_
              refine AllReadyIn.cons rfl (fun K hK => ?_) ?_
              · skip
                go_simp
                refine hK _ _ ?_
                clear hK K
                refine wpAnyIn_ready (rs := [6]) (by kernel_rfl) (by simp) ?_
                refine AllReadyIn.cons rfl (fun K hK => ?_) ?_
                · skip
                  refine if_app rfl rfl (.tmp 8) (.tmp 13) 61 61 rfl _ _ rfl rfl (.slice (some ⟨g', 0, none⟩) (ps.length + 1) cap') w2 hr2 ?_
                  refine hK _ _ ?_
                  clear hK K
                  refine wpAnyIn_ready (rs := [7]) (by kernel_rfl) (by simp) ?_
                  refine AllReadyIn.cons rfl (fun K hK => ?_) ?_
                  · skip
                    go_simp
                    refine hK _ _ ?_
                    clear hK K
                    refine wpAnyIn_done (by kernel_rfl) ?_ _
                    gi_wp2
                    exact X.out.2.2.2
                  exact AllReadyIn.nil
                exact AllReadyIn.nil
              exact AllReadyIn.nil
            refine AllReadyIn.cons rfl (fun K hK => ?_) ?_
            · skip
              go_simp
              refine hK _ _ ?_
              clear hK K
              refine wpAnyIn_ready (rs := [0]) (by kernel_rfl) (by simp) ?_
              refine AllReadyIn.cons rfl (fun K hK => ?_) ?_
              · skip
                go_simp
                refine hK _ _ ?_
                clear hK K
                refine wpAnyIn_ready (rs := [6]) (by kernel_rfl) (by simp) ?_
                refine AllReadyIn.cons rfl (fun K hK => ?_) ?_
                · skip
                  refine if_app rfl rfl (.tmp 8) (.tmp 13) 61 61 rfl _ _ rfl rfl (.slice (some ⟨g', 0, none⟩) (ps.length + 1) cap') w2 hr2 ?_
                  refine hK _ _ ?_
                  clear hK K
                  refine wpAnyIn_ready (rs := [7]) (by kernel_rfl) (by simp) ?_
                  refine AllReadyIn.cons rfl (fun K hK => ?_) ?_
                  · skip
                    go_simp
                    refine hK _ _ ?_
                    clear hK K
                    refine wpAnyIn_done (by kernel_rfl) ?_ _
                    gi_wp2
                    exact X.out.2.2.2
                  exact AllReadyIn.nil
                exact AllReadyIn.nil
              exact AllReadyIn.nil
            exact AllReadyIn.nil
          exact AllReadyIn.nil
        exact AllReadyIn.nil
      refine AllReadyIn.cons rfl (fun K hK => ?_) ?_
      · skip
        go_simp
        refine ⟨trivial, CallsIn.inRound l ((callsIn_wide.2 (HPC.out _)).mono ?_)⟩
        rintro e w1 ⟨pv, rfl, ho1, hk1⟩
        obtain ⟨pa, pc, v', w2, rfl, hr2, X⟩ := HNEXT.out _ _ ho1 hk1
        have c2 := X.out.1.cell
        have z2 := X.out.1.frozen
        have c4 := (X.out.1.alloc (.cells #[x.v, .slice pa (piecesOf x.1).length pc] 60)).cell
        obtain ⟨g', cap', rfl⟩ := X.out.2.1
        have c3 := X.out.2.2.1.cell
        have z3 := X.out.2.2.1.frozen
        clear ho1 hk1
        dsimp only
        refine hK _ _ ?_
        clear hK K
        refine wpAnyIn_ready (rs := [0, 1]) (by kernel_rfl) (by simp) ?_
        refine AllReadyIn.cons rfl (fun K hK => ?_) ?_
        · skip
          go_simp
          refine hK _ _ ?_
          clear hK K
          refine wpAnyIn_ready (rs := [1]) (by kernel_rfl) (by simp) ?_
          refine AllReadyIn.cons rfl (fun K hK => ?_) ?_
          · skip
            go_simp
            refine hK _ _ ?_
            clear hK K
            refine wpAnyIn_ready (rs := [4]) (by kernel_rfl) (by simp) ?_
            refine AllReadyIn.cons rfl (fun K hK => ?_) ?_
            · skip
              go_simp
              refine hK _ _ ?_
              clear hK K
              refine wpAnyIn_ready (rs := [5]) (by kernel_rfl) (by simp) ?_
              refine AllReadyIn.cons rfl (fun K hK => ?_) ?_
              · skip
                go_simp
                refine hK _ _ ?_
                clear hK K
                refine wpAnyIn_ready (rs := [6]) (by kernel_rfl) (by simp) ?_
                refine AllReadyIn.cons rfl (fun K hK => ?_) ?_
                · skip
                  refine if_app rfl rfl (.tmp 8) (.tmp 13) 61 61 rfl _ _ rfl rfl (.slice (some ⟨g', 0, none⟩) (ps.length + 1) cap') w2 hr2 ?_
                  refine hK _ _ ?_
                  clear hK K
                  refine wpAnyIn_ready (rs := [7]) (by kernel_rfl) (by simp) ?_
                  refine AllReadyIn.cons rfl (fun K hK => ?_) ?_
                  · skip
                    go_simp
                    refine hK _ _ ?_
                    clear hK K
                    refine wpAnyIn_done (by kernel_rfl) ?_ _
                    gi_wp2
                    exact X.out.2.2.2
                  exact AllReadyIn.nil
                exact AllReadyIn.nil
              exact AllReadyIn.nil
            exact AllReadyIn.nil
          exact AllReadyIn.nil
        refine AllReadyIn.cons rfl (fun K hK => ?_) ?_
        · skip
          go_simp
          refine hK _ _ ?_
          clear hK K
          refine wpAnyIn_ready (rs := [0, 4]) (by kernel_rfl) (by simp) ?_
          refine AllReadyIn.cons rfl (fun K hK => ?_) ?_
          · skip
            go_simp
            refine hK _ _ ?_
            clear hK K
            refine wpAnyIn_ready (rs := [4]) (by kernel_rfl) (by simp) ?_
            refine AllReadyIn.cons rfl (fun K hK => ?_) ?_
            · skip
              go_simp
              refine hK _ _ ?_
              clear hK K
              refine wpAnyIn_ready (rs := [5]) (by kernel_rfl) (by simp) ?_
              refine AllReadyIn.cons rfl (fun K hK => ?_) ?_
              · skip
                go_simp
                refine hK _ _ ?_
                clear hK K
                refine wpAnyIn_ready (rs := [6]) (by kernel_rfl) (by simp) ?_
                refine AllReadyIn.cons rfl (fun K hK => ?_) ?_
                · skip
                  refine if_app rfl rfl (.tmp 8) (.tmp 13) 61 61 rfl _ _ rfl rfl (.slice (some ⟨g', 0, none⟩) (ps.length + 1) cap') w2 hr2 ?_
                  refine hK _ _ ?_
                  clear hK K
                  refine wpAnyIn_ready (rs := [7]) (by kernel_rfl) (by simp) ?_
                  refine AllReadyIn.cons rfl (fun K hK => ?_) ?_
                  · skip
                    go_simp
                    refine hK _ _ ?_
                    clear hK K
                    refine wpAnyIn_done (by kernel_rfl) ?_ _
                    gi_wp2
                    exact X.out.2.2.2
                  exact AllReadyIn.nil
                exact AllReadyIn.nil
              exact AllReadyIn.nil
            exact AllReadyIn.nil
          refine AllReadyIn.cons rfl (fun K hK => ?_) ?_
          · skip
            go_simp
            refine hK _ _ ?_
            clear hK K
            refine wpAnyIn_ready (rs := [0, 5]) (by kernel_rfl) (by simp) ?_
            refine AllReadyIn.cons rfl (fun K hK => ?_) ?_
            · skip
              go_simp
              refine hK _ _ ?_
              clear hK K
              refine wpAnyIn_ready (rs := [5]) (by kernel_rfl) (by simp) ?_
              refine AllReadyIn.cons rfl (fun K hK => ?_) ?_
              · skip
                go_simp
                refine hK _ _ ?_
                clear hK K
                refine wpAnyIn_ready (rs := [6]) (by kernel_rfl) (by simp) ?_
                refine AllReadyIn.cons rfl (fun K hK => ?_) ?_
                · skip
                  refine if_app rfl rfl (.tmp 8) (.tmp 13) 61 61 rfl _ _ rfl rfl (.slice (some ⟨g', 0, none⟩) (ps.length + 1) cap') w2 hr2 ?_
                  refine hK _ _ ?_
                  clear hK K
                  refine wpAnyIn_ready (rs := [7]) (by kernel_rfl) (by simp) ?_
                  refine AllReadyIn.cons rfl (fun K hK => ?_) ?_
                  · skip
                    go_simp
                    refine hK _ _ ?_
                    clear hK K
                    refine wpAnyIn_done (by kernel_rfl) ?_ _
                    gi_wp2
                    exact X.out.2.2.2
                  exact AllReadyIn.nil
                exact AllReadyIn.nil
              exact AllReadyIn.nil
            refine AllReadyIn.cons rfl (fun K hK => ?_) ?_
            · skip
              go_simp
              refine hK _ _ ?_
              clear hK K
              refine wpAnyIn_ready (rs := [0]) (by kernel_rfl) (by simp) ?_
              refine AllReadyIn.cons rfl (fun K hK => ?_) ?_
              · skip
                go_simp
                refine hK _ _ ?_
                clear hK K
                refine wpAnyIn_ready (rs := [6]) (by kernel_rfl) (by simp) ?_
                refine AllReadyIn.cons rfl (fun K hK => ?_) ?_
                · skip
                  refine if_app rfl rfl (.tmp 8) (.tmp 13) 61 61 rfl _ _ rfl rfl (.slice (some ⟨g', 0, none⟩) (ps.length + 1) cap') w2 hr2 ?_
                  refine hK _ _ ?_
                  clear hK K
                  refine wpAnyIn_ready (rs := [7]) (by kernel_rfl) (by simp) ?_
                  refine AllReadyIn.cons rfl (fun K hK => ?_) ?_
                  · skip
                    go_simp
                    refine hK _ _ ?_
                    clear hK K
                    refine wpAnyIn_done (by kernel_rfl) ?_ _
                    gi_wp2
                    exact X.out.2.2.2
                  exact AllReadyIn.nil
                exact AllReadyIn.nil
              exact AllReadyIn.nil
            exact AllReadyIn.nil
          exact AllReadyIn.nil
        exact AllReadyIn.nil
      exact AllReadyIn.nil
    exact AllReadyIn.nil
  case done =>
    rintro D ys W hD hS ⟨⟨hbs, ps, v, hf, hv, hrow, hw⟩, hB⟩ hK
    have hc := hv.cell
    obtain ⟨a, cap, hva⟩ : ∃ a cap, v = .slice a ps.length cap := by
      rcases hrow.2 with ⟨rfl, h⟩ | ⟨g, cap, cur, rfl, _⟩
      · exact ⟨none, 0, by rw [h]⟩
      · exact ⟨_, _, rfl⟩
    have HW := hid_of hw
    have HR := hid_of hrow
    have HB := hid_of hB
    have HK := hid_of hK
    clear hw hrow hB hK
    subst hva
    gi_wp2
    refine ⟨by simp, .inl ⟨_, _, rfl, run_takeDeferred HK.out, ?_⟩⟩
    refine ⟨_, results_tmp rfl _ _ _, _, ps, rfl, by rw [hf, hS], own_base (ownsRow_putObj HR.out _ HK.out rfl) (by omega), fun p hp => own_base (ownsRow_putObj (HW.out p hp) _ HK.out rfl) (by omega), kept_below (HB.out.trans (belowK_b (w := w) (Nat.le_refl _) W D _ _ (by omega) HK.out rfl rfl))⟩
  case stop =>
    rintro D c pre W _ _ h _
    exact h.elim
end Go.Proofs.Ythloacakomahaaa
