/-
  An FS whose cells, maps, files change.
-/
import Derived.Test.YtmkfjdfpcjkmnaaVb
namespace Go.Proofs.Ytmkfjdfpcjkmnaa
open Go.RowKit
set_option linter.unusedVariables false
set_option linter.unusedSimpArgs false

theorem rows_lays {κ α : Type} [DecidableEq κ] (bk : α → Option Nat) (d : κ) (a : α) (b : Nat) : ∀ (l : List (Me κ α)), (l.map Me.k).Nodup → (l.filterMap fun e => bk e.a).Nodup → (∀ q, bk a = some q → ∀ e ∈ l, e.k ≠ d → bk e.a ≠ some q) →
    ((lays l d a b).filterMap fun e => bk e.a).Nodup ∧ ∀ q, q ∈ ((lays l d a b).filterMap fun e => bk e.a) → bk a = some q ∨ ∃ e ∈ l, e.k ≠ d ∧ bk e.a = some q
  | [], _, _, _ => by
    rw [lays]
    cases h : bk a with
    | none => simp [h]
    | some q => simp [h]
  | x :: l, hk, hn, hq => by
    rw [List.map_cons, List.nodup_cons] at hk
    have hne : ∀ e ∈ l, x.k ≠ e.k := fun e he h => hk.1 (h ▸ List.mem_map_of_mem he)
    have hnl : (l.filterMap fun e => bk e.a).Nodup := by
      rw [List.filterMap_cons] at hn
      split at hn
      · exact hn
      · exact (List.nodup_cons.1 hn).2
    rw [lays]
    by_cases hd : d = x.k
    · rw [if_pos hd, List.filterMap_cons]
      cases h : bk a with
      | none =>
        simp only [h]
        exact ⟨hnl, fun q hm => by
          obtain ⟨e, he, hb⟩ := List.mem_filterMap.1 hm
          exact .inr ⟨e, List.mem_cons_of_mem _ he, fun h' => hne e he (hd ▸ h').symm, hb⟩⟩
      | some q0 =>
        simp only [h]
        refine ⟨List.nodup_cons.2 ⟨fun hm => ?_, hnl⟩, fun q hm => ?_⟩
        · obtain ⟨e, he, hb⟩ := List.mem_filterMap.1 hm
          exact hq q0 h e (List.mem_cons_of_mem _ he) (fun h' => hne e he (hd ▸ h').symm) hb
        · rcases List.mem_cons.1 hm with rfl | hm
          · exact .inl rfl
          · obtain ⟨e, he, hb⟩ := List.mem_filterMap.1 hm
            exact .inr ⟨e, List.mem_cons_of_mem _ he, fun h' => hne e he (hd ▸ h').symm, hb⟩
    · rw [if_neg hd, List.filterMap_cons]
      obtain ⟨h1, h2⟩ := rows_lays bk d a b l hk.2 hnl (fun q h e he => hq q h e (List.mem_cons_of_mem _ he))
      cases h : bk x.a with
      | none =>
        simp only [h]
        exact ⟨h1, fun q hm => (h2 q hm).imp_right fun ⟨e, he, h3⟩ => ⟨e, List.mem_cons_of_mem _ he, h3⟩⟩
      | some q0 =>
        simp only [h]
        refine ⟨List.nodup_cons.2 ⟨fun hm => ?_, h1⟩, fun q hm => ?_⟩
        · rcases h2 q0 hm with h3 | ⟨e, he, _, h3⟩
          · exact hq q0 h3 x (List.mem_cons_self ..) (fun e => hd e.symm) h
          · rw [List.filterMap_cons] at hn
            simp only [h] at hn
            exact (List.nodup_cons.1 hn).1 (List.mem_filterMap.2 ⟨e, he, h3⟩)
        · rcases List.mem_cons.1 hm with rfl | hm
          · exact .inr ⟨x, List.mem_cons_self .., fun e => hd e.symm, h⟩
          · exact (h2 q hm).imp_right fun ⟨e, he, h3⟩ => ⟨e, List.mem_cons_of_mem _ he, h3⟩
theorem keys_lays {κ α : Type} [DecidableEq κ] {l : List (Me κ α)} (d : κ) (a : α) (b : Nat) (h : (l.map Me.k).Nodup) : ((lays l d a b).map Me.k).Nodup := by
  rw [lays_keys]
  split
  · exact h
  · rename_i hn
    exact List.nodup_append.2 ⟨h, by simp, fun x hx y hy e => by rw [List.mem_singleton.1 hy] at e; exact hn (e ▸ hx)⟩

/-- What kind of block each of an FS's is. -/
theorem Fs.rowF {w : World} {s : Nat} {σ : FSt} (H : Fs w s σ) {q : Nat} (hq : q ∈ rowsF σ.fs) : ∃ c, w.heap[q]? = some (.cells c 5 (0, 0)) := by
  obtain ⟨e, he, hb⟩ := List.mem_filterMap.1 hq
  obtain ⟨_, ⟨hv, _⟩ | ⟨g, cap, cur, hv, _, hg, _⟩⟩ := (H.rf e he).1
  · rw [hv] at hb; cases hb
  · rw [hv] at hb; cases hb; exact ⟨cur, hg⟩
theorem Fs.rowD {w : World} {s : Nat} {σ : FSt} (H : Fs w s σ) {q : Nat} (hq : q ∈ rowsD σ.ds) : ∃ c, w.heap[q]? = some (.cells c 97 (0, 0)) := by
  obtain ⟨e, he, hb⟩ := List.mem_filterMap.1 hq
  obtain ⟨_, ⟨hv, _⟩ | ⟨g, cap, cur, hv, _, hg, _⟩⟩ := H.rd e he
  · rw [hv] at hb; cases hb
  · rw [hv] at hb; cases hb; exact ⟨cur, hg⟩
theorem Fs.not_s {w : World} {s : Nat} {σ : FSt} (H : Fs w s σ) : s ≠ σ.fm ∧ s ≠ σ.dm ∧ s ≠ σ.hm ∧ s ∉ rowsF σ.fs ∧ s ∉ rowsD σ.ds := by
  have hb := H.blk
  refine ⟨fun e => ?_, fun e => ?_, fun e => ?_, fun h => ?_, fun h => ?_⟩
  · obtain ⟨c, h⟩ := H.mf; rw [← e, hb] at h; cases h
  · obtain ⟨c, h⟩ := H.md; rw [← e, hb] at h; cases h
  · obtain ⟨c, h⟩ := H.mh; rw [← e, hb] at h; cases h
  · obtain ⟨c, h⟩ := H.rowF h; rw [hb] at h; cases h
  · obtain ⟨c, h⟩ := H.rowD h; rw [hb] at h; cases h
theorem Fs.not_m {w : World} {s : Nat} {σ : FSt} (H : Fs w s σ) {m : Nat} {es : Array MapEntry} {c : Nat} (hm : w.heap[m]? = some (.map es c)) : s ≠ m ∧ m ∉ rowsF σ.fs ∧ m ∉ rowsD σ.ds := by
  refine ⟨fun e => ?_, fun h => ?_, fun h => ?_⟩
  · rw [← e, H.blk] at hm; cases hm
  · obtain ⟨c, h⟩ := H.rowF h; rw [hm] at h; cases h
  · obtain ⟨c, h⟩ := H.rowD h; rw [hm] at h; cases h
theorem Fs.rows_apart {w : World} {s : Nat} {σ : FSt} (H : Fs w s σ) {q : Nat} (hf : q ∈ rowsF σ.fs) (hd : q ∈ rowsD σ.ds) : False := by
  obtain ⟨c, h⟩ := H.rowF hf
  obtain ⟨c', h'⟩ := H.rowD hd
  rw [h] at h'; cases h'

/-- Its cells are others. -/
theorem Fs.setS {w w' : World} {s : Nat} {σ σ' : FSt} (H : Fs w s σ) (hk : Kept (fun q => q = s) w w') (hb : w'.heap[s]? = some (.cells σ'.cells 76 (0, 0))) (h1 : σ'.fm = σ.fm) (h2 : σ'.dm = σ.dm) (h3 : σ'.hm = σ.hm) (h4 : σ'.fs = σ.fs) (h5 : σ'.ds = σ.ds) (h6 : σ'.hs = σ.hs) : Fs w' s σ' := by
  obtain ⟨n1, n2, n3, n4, n5⟩ := H.not_s
  obtain ⟨c1, m1⟩ := H.mf
  obtain ⟨c2, m2⟩ := H.md
  obtain ⟨c3, m3⟩ := H.mh
  refine ⟨hb, ⟨c1, by rw [h1, h4]; exact (hk.block _ (heap_lt m1) (fun e => n1 e.symm)).trans m1⟩, ⟨c2, by rw [h2, h5]; exact (hk.block _ (heap_lt m2) (fun e => n2 e.symm)).trans m2⟩, ⟨c3, by rw [h3, h6]; exact (hk.block _ (heap_lt m3) (fun e => n3 e.symm)).trans m3⟩, by rw [h1, h2, h3]; exact H.ne, fun e he => ?_, fun e he => ?_, by rw [h4]; exact H.kf, by rw [h5]; exact H.kd, by rw [h6]; exact H.kh, by rw [h4]; exact H.af, by rw [h5]; exact H.ad⟩
  · rw [h4] at he
    exact ⟨hk.ownsRow (H.rf e he).1 (fun g hg e' => n4 (e' ▸ rowsF_mem he hg)), (H.rf e he).2⟩
  · rw [h5] at he
    exact hk.ownsRow (H.rd e he) (fun g hg e' => n5 (e' ▸ rowsD_mem he hg))
/-- Its handles are others. -/
theorem Fs.setH {w w' : World} {s : Nat} {σ : FSt} (H : Fs w s σ) (hk : Kept (fun q => q = σ.hm) w w') (es : List (Me Int Ha)) (hb : ∃ c, w'.heap[σ.hm]? = some (.map (es.map cH.ent).toArray c)) (hn : (es.map Me.k).Nodup) : Fs w' s { σ with hs := es } := by
  obtain ⟨c1, m1⟩ := H.mf
  obtain ⟨c2, m2⟩ := H.md
  obtain ⟨c3, m3⟩ := H.mh
  obtain ⟨n1, n2, n3⟩ := H.not_m m3
  refine ⟨(hk.block s (heap_lt H.blk) n1).trans H.blk, ⟨c1, (hk.block _ (heap_lt m1) H.ne.2.1).trans m1⟩, ⟨c2, (hk.block _ (heap_lt m2) H.ne.2.2).trans m2⟩, hb, H.ne, fun e he => ⟨hk.ownsRow (H.rf e he).1 (fun g hg e' => n2 (e' ▸ rowsF_mem he hg)), (H.rf e he).2⟩, fun e he => hk.ownsRow (H.rd e he) (fun g hg e' => n3 (e' ▸ rowsD_mem he hg)), H.kf, H.kd, hn, H.af, H.ad⟩
/-- A file is another one. -/
theorem Fs.setF {w w' : World} {s : Nat} {σ : FSt} (H : Fs w s σ) (p : By) (f' : Fi) (b : Nat) (u : Int) (T : Nat → Prop) (hT : ∀ q, T q → σ.own s q → ∃ f, look σ.fs p = some f ∧ f.dv.ownBlock = some q) (hk : Kept (fun q => q = s ∨ q = σ.fm ∨ T q) w w') (hcs : w'.heap[s]? = some (.cells { σ with ub := u }.cells 76 (0, 0))) (hb : ∃ c, w'.heap[σ.fm]? = some (.map ((lays σ.fs p f' b).map cF.ent).toArray c))
    (ho : w'.ownsRow 0 5 1 f'.dv f'.xs.length (f'.xs.map (Value.int .u8))) (hl : f'.xs.length ≤ 1048576) (hq : ∀ q, f'.dv.ownBlock = some q → T q) : Fs w' s { σ with fs := lays σ.fs p f' b, ub := u } := by
  obtain ⟨c1, m1⟩ := H.mf
  obtain ⟨c2, m2⟩ := H.md
  obtain ⟨c3, m3⟩ := H.mh
  obtain ⟨n1, n2, n3⟩ := H.not_m m1
  have hold : ∀ q, T q → σ.own s q → q ∈ rowsF σ.fs := fun q h hlt => by
    obtain ⟨f, hf, hfb⟩ := hT q h hlt
    obtain ⟨e, he, _, rfl⟩ := look_there hf
    exact rowsF_mem he hfb
  have hap : ∀ q, T q → ∀ e ∈ σ.fs, e.k ≠ p → e.a.dv.ownBlock ≠ some q := fun q h e he hne hbq => by
    have hT2 := hT q h (.inr (.inr (.inr (.inr (.inl (rowsF_mem he hbq))))))
    obtain ⟨f, hf, hfb⟩ := hT2
    · obtain ⟨e', he', hk', rfl⟩ := look_there hf
      have hnd := H.af
      have : e = e' := by
        clear hT
        revert hnd
        unfold rowsF
        generalize σ.fs = l at he he'
        induction l with
        | nil => cases he
        | cons x l ih =>
          intro hnd
          rw [List.filterMap_cons] at hnd
          rcases List.mem_cons.1 he with rfl | h1 <;> rcases List.mem_cons.1 he' with rfl | h2
          · rfl
          · rw [hbq] at hnd
            exact absurd (List.mem_filterMap.2 ⟨e', h2, hfb⟩) (List.nodup_cons.1 hnd).1
          · rw [hfb] at hnd
            exact absurd (List.mem_filterMap.2 ⟨e, h1, hbq⟩) (List.nodup_cons.1 hnd).1
          · refine ih h1 h2 ?_
            split at hnd
            · exact hnd
            · exact (List.nodup_cons.1 hnd).2
      exact hne (this ▸ hk')
  obtain ⟨r1, r2⟩ := rows_lays (fun f : Fi => f.dv.ownBlock) p f' b σ.fs H.kf H.af (fun q h e he hne => hap q (hq q h) e he hne)
  have hd : ¬ (σ.dm = s ∨ σ.dm = σ.fm ∨ T σ.dm) := fun h => h.elim (fun e => (H.not_m m2).1 e.symm) (fun h => h.elim (fun e => H.ne.1 e.symm) (fun h => (H.not_m m2).2.1 (hold _ h (.inr (.inr (.inl rfl))))))
  have hh : ¬ (σ.hm = s ∨ σ.hm = σ.fm ∨ T σ.hm) := fun h => h.elim (fun e => (H.not_m m3).1 e.symm) (fun h => h.elim (fun e => H.ne.2.1 e.symm) (fun h => (H.not_m m3).2.1 (hold _ h (.inr (.inr (.inr (.inl rfl)))))))
  refine ⟨hcs, hb, ⟨c2, (hk.block _ (heap_lt m2) hd).trans m2⟩, ⟨c3, (hk.block _ (heap_lt m3) hh).trans m3⟩, H.ne, fun e he => ?_, fun e he => hk.ownsRow (H.rd e he) (fun g hg h => ?_), keys_lays p f' b H.kf, H.kd, H.kh, r1, H.ad⟩
  · by_cases hek : e.k = p
    · rcases lays_mem _ _ _ _ _ he with ⟨_, h1⟩ | h1
      · rw [h1]; exact ⟨ho, hl⟩
      · have h2 := look_lays σ.fs p f' b p
        rw [if_pos rfl] at h2
        have h3 : e.a = f' := by
          clear h1 r1 r2
          have hnd := keys_lays p f' b H.kf
          revert h2 he hnd
          generalize lays σ.fs p f' b = l
          intro he h2 hnd
          induction l with
          | nil => cases he
          | cons x l ih =>
            rw [look] at h2
            rw [List.map_cons, List.nodup_cons] at hnd
            by_cases hx : p = x.k
            · rw [if_pos hx] at h2
              cases h2
              rcases List.mem_cons.1 he with rfl | h4
              · rfl
              · exact absurd (show x.k ∈ l.map Me.k from (hx ▸ hek) ▸ List.mem_map_of_mem h4) hnd.1
            · rw [if_neg hx] at h2
              rcases List.mem_cons.1 he with rfl | h4
              · exact absurd hek.symm hx
              · exact ih h4 h2 hnd.2
        rw [h3]; exact ⟨ho, hl⟩
    · rcases lays_mem _ _ _ _ _ he with ⟨h1, _⟩ | h1
      · exact absurd h1 hek
      · refine ⟨hk.ownsRow (H.rf e h1).1 (fun g hg h => ?_), (H.rf e h1).2⟩
        rcases h with rfl | rfl | h
        · exact H.not_s.2.2.2.1 (rowsF_mem h1 hg)
        · exact n2 (rowsF_mem h1 hg)
        · exact hap g h e h1 hek hg
  · rcases h with rfl | rfl | h
    · exact H.not_s.2.2.2.2 (rowsD_mem he hg)
    · exact n3 (rowsD_mem he hg)
    · exact H.rows_apart (hold g h (.inr (.inr (.inr (.inr (.inr (rowsD_mem he hg))))))) (rowsD_mem he hg)
end Go.Proofs.Ytmkfjdfpcjkmnaa
