/-
  Spots, directories entered, files made.
-/
import Derived.Test.YtmkfjdfpcjkmnaaVl
import Derived.Test.YtmkfjdfpcjkmnaaSpl
namespace Go.Proofs.Ytmkfjdfpcjkmnaa
open Go.RowKit
set_option linter.unusedVariables false
set_option linter.unusedSimpArgs false
set_option maxRecDepth 100000

/-- A directory is another one. -/
theorem Fs.setD {w w' : World} {s : Nat} {σ : FSt} (H : Fs w s σ) (p : By) (f' : Di) (b : Nat) (T : Nat → Prop) (hT : ∀ q, T q → σ.own s q → ∃ f, look σ.ds p = some f ∧ f.bv.ownBlock = some q) (hk : Kept (fun q => q = σ.dm ∨ T q) w w') (hb : ∃ c, w'.heap[σ.dm]? = some (.map ((lays σ.ds p f' b).map cD.ent).toArray c))
    (ho : w'.ownsRow 0 97 3 f'.bv f'.bl.length (spots f'.bl)) (hq : ∀ q, f'.bv.ownBlock = some q → T q) : Fs w' s { σ with ds := lays σ.ds p f' b } := by
  obtain ⟨c1, m1⟩ := H.mf
  obtain ⟨c2, m2⟩ := H.md
  obtain ⟨c3, m3⟩ := H.mh
  obtain ⟨n1, n2, n3⟩ := H.not_m m2
  have hold : ∀ q, T q → σ.own s q → q ∈ rowsD σ.ds := fun q h hlt => by
    obtain ⟨f, hf, hfb⟩ := hT q h hlt
    obtain ⟨e, he, _, rfl⟩ := look_there hf
    exact rowsD_mem he hfb
  have hap : ∀ q, T q → ∀ e ∈ σ.ds, e.k ≠ p → e.a.bv.ownBlock ≠ some q := fun q h e he hne hbq => by
    obtain ⟨f, hf, hfb⟩ := hT q h (.inr (.inr (.inr (.inr (.inr (rowsD_mem he hbq))))))
    obtain ⟨e', he', hk', rfl⟩ := look_there hf
    have hnd := H.ad
    have : e = e' := by
      clear hT
      revert hnd
      unfold rowsD
      generalize σ.ds = l at he he'
      induction l with
      | nil => cases he
      | cons x l ih =>
        intro hnd
        rw [List.filterMap_cons] at hnd
        rcases List.mem_cons.1 he with rfl | h1 <;> rcases List.mem_cons.1 he' with rfl | h2
        · rfl
        · rw [hbq] at hnd
          exact absurd (List.mem_filterMap.2 ⟨e', h2, hfb⟩) (List.nodup_cons.1 hnd).1
        · rw [hfb] at hnd
          exact absurd (List.mem_filterMap.2 ⟨e, h1, hbq⟩) (List.nodup_cons.1 hnd).1
        · refine ih h1 h2 ?_
          split at hnd
          · exact hnd
          · exact (List.nodup_cons.1 hnd).2
    exact hne (this ▸ hk')
  obtain ⟨r1, r2⟩ := rows_lays (fun f : Di => f.bv.ownBlock) p f' b σ.ds H.kd H.ad (fun q h e he hne => hap q (hq q h) e he hne)
  have hs : ¬ (s = σ.dm ∨ T s) := fun h => h.elim n1 (fun h => H.not_s.2.2.2.2 (hold s h (.inl rfl)))
  have hf : ¬ (σ.fm = σ.dm ∨ T σ.fm) := fun h => h.elim H.ne.1 (fun h => (H.not_m m1).2.2 (hold _ h (.inr (.inl rfl))))
  have hh : ¬ (σ.hm = σ.dm ∨ T σ.hm) := fun h => h.elim (fun e => H.ne.2.2 e.symm) (fun h => (H.not_m m3).2.2 (hold _ h (.inr (.inr (.inr (.inl rfl))))))
  refine ⟨(hk.block s (heap_lt H.blk) hs).trans H.blk, ⟨c1, (hk.block _ (heap_lt m1) hf).trans m1⟩, hb, ⟨c3, (hk.block _ (heap_lt m3) hh).trans m3⟩, H.ne, fun e he => ⟨hk.ownsRow (H.rf e he).1 (fun g hg h => ?_), (H.rf e he).2⟩, fun e he => ?_, H.kf, keys_lays p f' b H.kd, H.kh, H.af, r1⟩
  · rcases h with rfl | h
    · exact n2 (rowsF_mem he hg)
    · exact H.rows_apart (rowsF_mem he hg) (hold g h (.inr (.inr (.inr (.inr (.inl (rowsF_mem he hg)))))))
  · by_cases hek : e.k = p
    · rcases lays_mem _ _ _ _ _ he with ⟨_, h1⟩ | h1
      · rw [h1]; exact ho
      · have h2 := look_lays σ.ds p f' b p
        rw [if_pos rfl] at h2
        have h3 : e.a = f' := by
          clear h1 r1 r2
          have hnd := keys_lays p f' b H.kd
          revert h2 he hnd
          generalize lays σ.ds p f' b = l
          intro he h2 hnd
          induction l with
          | nil => cases he
          | cons x l ih =>
            rw [look] at h2
            rw [List.map_cons, List.nodup_cons] at hnd
            by_cases hx : p = x.k
            · rw [if_pos hx] at h2
              cases h2
              rcases List.mem_cons.1 he with rfl | h4
              · rfl
              · exact absurd (show x.k ∈ l.map Me.k from (hx ▸ hek) ▸ List.mem_map_of_mem h4) hnd.1
            · rw [if_neg hx] at h2
              rcases List.mem_cons.1 he with rfl | h4
              · exact absurd hek.symm hx
              · exact ih h4 h2 hnd.2
        rw [h3]; exact ho
    · rcases lays_mem _ _ _ _ _ he with ⟨h1, _⟩ | h1
      · exact absurd h1 hek
      · refine hk.ownsRow (H.rd e h1) (fun g hg h => ?_)
        rcases h with rfl | h
        · exact n3 (rowsD_mem h1 hg)
        · exact hap g h e h1 hek hg
theorem Fs.setFl {w : World} {s : Nat} {σ : FSt} (H : Fs w s σ) (u : Int) : Fs (w.setCell ⟨s, 4, none⟩ (.int .i64 u)) s { σ with uf := u } :=
  H.setS (kept_set w ⟨s, 4, none⟩ _) (set_block w s 4 _ 76 (0, 0) H.blk _) rfl rfl rfl rfl rfl rfl

theorem split_p (HR : HighRunes) (p : By) (hp : p.length ≤ 16777216) (w : World) :
    Calls Try.prog 53 #[.string ⟨p.toArray⟩] w fun e w' => e = .returned (.tuple #[.string ⟨(splitOf p).1.toArray⟩, .string ⟨(splitOf p).2.1.toArray⟩, .int .i64 (splitOf p).2.2]) ∧ Kept (fun _ => False) w w' := by
  have h := split_any HR ⟨p.toArray⟩ (by simpa [ByteArray.size] using hp) w
  simpa using h
set_option maxHeartbeats 2000000 in
theorem spotat_any (HR : HighRunes) (p : By) (hp : p.length ≤ 16777216) (d : Bool) (w : World) :
    Calls Try.prog 67 #[.string ⟨p.toArray⟩, .bool d] w fun e w' => e = .returned (.agg #[.string ⟨p.toArray⟩, .string ⟨(splitOf p).2.1.toArray⟩, .bool d]) ∧ Kept (fun _ => False) w w' := by
  have HS := hid_of (split_p HR p hp)
  generalize (⟨p.toArray⟩ : ByteArray) = sp at *
  generalize (⟨(splitOf p).1.toArray⟩ : ByteArray) = s1 at *
  generalize (⟨(splitOf p).2.1.toArray⟩ : ByteArray) = s2 at *
  generalize (splitOf p).2.2 = s3 at *
  have hb : (w.alloc (.cells #[.string ⟨#[]⟩, .string ⟨#[]⟩, .bool false] 97)).heap[w.heap.size]? = some (.cells #[.string ⟨#[]⟩, .string ⟨#[]⟩, .bool false] 97 (0, 0)) := alloc_new _ _ rfl
  have hk0 : Kept (fun _ => False) w (w.alloc (.cells #[.string ⟨#[]⟩, .string ⟨#[]⟩, .bool false] 97)) := (Kept.refl _ w).alloc _
  have HB := hid_of hb
  have HK0 := hid_of hk0
  clear hb hk0
  go_enter Try.func67, Try.ntmps67
  go_wp2_with fail
  refine (HS.out _).mono ?_
  rintro e w1 ⟨rfl, hk1⟩
  have hb1 : w1.heap[w.heap.size]? = some (.cells #[.string ⟨#[]⟩, .string ⟨#[]⟩, .bool false] 97 (0, 0)) := (hk1.block _ (heap_lt HB.out) (fun f => f)).trans HB.out
  have hK1 := HK0.out.trans hk1
  have HSR := hid_of (setRow_heap w1 w.heap.size _ #[.string sp, .string s2, .bool d] 97 (0, 0) hb1)
  have HKE : Hid (Kept (fun _ => False) w (w1.setRow w.heap.size #[.string sp, .string s2, .bool d])) := hK1.setRow (.inl (Nat.le_refl _)) _
  have HB1 := hid_of hb1
  have i97 : (Try.prog.info? 97).map (·.size) = some (#[Value.string sp, .string s2, .bool d] : Array Value).size := by
    obtain ⟨i, hi, hz, hs, hby⟩ := info_parts info97
    rw [hi]
    simp [hs]
  have h1c : (#[Value.string sp, .string s2, .bool d] : Array Value).all (·.oneCell') = true := by simp [Value.oneCell']
  clear hk1 hK1 hb1 HS
  go_wp2_with (refine wpList_store_row rfl 97 _ _ rfl w.heap.size #[.string sp, .string s2, .bool d] rfl rfl 97 _ HB1.out i97 (by rfl) h1c ?_)
  refine bodyPost_ret (v := .agg #[.string sp, .string s2, .bool d]) ?_ rfl ⟨rfl, HKE.out⟩
  exact results_cell_row (fn := Try.f67) (p := 4) rfl _ _ w.heap.size 97 #[.string sp, .string s2, .bool d] (0, 0) _ (by rfl) HSR.out Try.underlying97 rfl i97
set_option maxHeartbeats 2000000 in
theorem above_any (HR : HighRunes) (p : By) (hp : p.length ≤ 16777216) (a2 : ByteArray) (d : Bool) (w : World) :
    Calls Try.prog 68 #[.agg #[.string ⟨p.toArray⟩, .string a2, .bool d]] w fun e w' => e = .returned (.string ⟨(splitOf p).1.toArray⟩) ∧ Kept (fun _ => False) w w' := by
  have HS := hid_of (split_p HR p hp)
  generalize (⟨p.toArray⟩ : ByteArray) = sp at *
  generalize (⟨(splitOf p).1.toArray⟩ : ByteArray) = s1 at *
  generalize (⟨(splitOf p).2.1.toArray⟩ : ByteArray) = s2 at *
  generalize (splitOf p).2.2 = s3 at *
  have HK0 : Hid (Kept (fun _ => False) w (w.alloc (.cells #[.string sp, .string a2, .bool d] 97))) := (Kept.refl _ w).alloc _
  go_enter Try.func68, Try.ntmps68
  go_wp2_with fail
  refine (HS.out _).mono ?_
  rintro e w1 ⟨rfl, hk1⟩
  have HK1 := hid_of (HK0.out.trans hk1)
  clear hk1 HS
  go_wp2
  exact bodyPost_ret (v := .string s1) (by simp [results, Try.results68, go_sem]) rfl ⟨rfl, HK1.out⟩
end Go.Proofs.Ytmkfjdfpcjkmnaa
