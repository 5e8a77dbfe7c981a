/-
  THd: Hd.
-/
import Derived.Test.YtcaadgcfceommaaGreatTHc
namespace Go.Proofs.YtcaadgcfceommaaGreat
open Go.RowKit
set_option linter.unusedVariables false
set_option linter.unusedSimpArgs false
set_option maxRecDepth 100000

def joinT (b : Int) : List Int → List Int → List Int → Option (List Int × List Int)
  | [], hs, l => some (hs, l)
  | m :: ms, hs, l => if hs.getD m.toNat 0 = -1 then joinT b ms (hs.set m.toNat b) (l ++ [m]) else if hs.getD m.toNat 0 = b then joinT b ms hs l else none
theorem joinT_H (b : Int) : ∀ (ms hs l l2 : List Int), (joinT b ms hs l).map (fun r => r.1) = (joinH b ms hs l2).map (fun r => r.1)
  | [], hs, l, l2 => rfl
  | m :: ms, hs, l, l2 => by
    rw [joinT, joinH]
    split
    · exact joinT_H b ms _ _ _
    · split
      · exact joinT_H b ms _ _ _
      · rfl
theorem joinT_val (n : Nat) (b : Int) (hb : b ≠ -1) (ms hs l hs' l' : List Int) (hl : hs.length = n) (hm : ∀ m ∈ ms, 0 ≤ m ∧ m < n) (h : joinT b ms hs l = some (hs', l')) :
    (∀ m ∈ ms, hs'.getD m.toNat 0 = b) ∧ (∀ i, i < n → hs.getD i 0 ≠ -1 → hs'.getD i 0 = hs.getD i 0) ∧ (∀ i, i < n → hs.getD i 0 = -1 → hs'.getD i 0 ≠ -1 → hs'.getD i 0 = b ∧ (i : Int) ∈ ms) := by
  have h1 := joinT_H b ms hs l []
  rw [h] at h1
  cases hj : joinH b ms hs [] with
  | none => rw [hj] at h1; cases h1
  | some r =>
    rw [hj] at h1
    have e : hs' = r.1 := by simpa using h1
    obtain ⟨r1, r2⟩ := r
    simp only at e
    subst e
    exact joinH_val n b hb ms hs [] hs' r2 hl hm hj
theorem joinT_list (n : Nat) (b : Int) (hb : 0 ≤ b ∧ b ≤ 256) : ∀ (ms hs l hs' l' : List Int), hs.length = n → (∀ x ∈ hs, -1 ≤ x ∧ x ≤ 256) → (∀ m ∈ ms, 0 ≤ m ∧ m < n) → joinT b ms hs l = some (hs', l') →
    hs'.length = n ∧ (∀ x ∈ hs', -1 ≤ x ∧ x ≤ 256) ∧ hs'.count (-1) + l'.length = hs.count (-1) + l.length ∧ (∀ x ∈ l, x ∈ l') ∧ (∀ i, i < n → hs.getD i 0 = -1 → hs'.getD i 0 ≠ -1 → (i : Int) ∈ l') ∧ (∀ x ∈ l', x ∈ l ∨ x ∈ ms)
  | [], hs, l, hs', l', hl, hr, hm, h => by
    simp only [joinT, Option.some.injEq, Prod.mk.injEq] at h
    obtain ⟨rfl, rfl⟩ := h
    exact ⟨hl, hr, rfl, fun x hx => hx, fun i _ h1 h2 => absurd h1 h2, fun x hx => .inl hx⟩
  | m :: ms, hs, l, hs', l', hl, hr, hm, h => by
    obtain ⟨hm0, hm1⟩ := hm m (by simp)
    have hml : m.toNat < hs.length := by rw [hl]; omega
    rw [joinT] at h
    split at h
    · rename_i h1
      have hr2 : ∀ x ∈ hs.set m.toNat b, -1 ≤ x ∧ x ≤ 256 := fun x hx => by
        rcases List.mem_or_eq_of_mem_set hx with hx | rfl
        · exact hr x hx
        · omega
      obtain ⟨a1, a2, a3, a4, a5, a6⟩ := joinT_list n b hb ms _ _ hs' l' (by rw [List.length_set]; exact hl) hr2 (fun x hx => hm x (by simp [hx])) h
      have hg : hs[m.toNat] = -1 := by rw [← h1]; simp [List.getD, List.getElem?_eq_getElem hml]
      have hc : (hs.set m.toNat b).count (-1) + 1 = hs.count (-1) := by
        have hpos : 0 < hs.count (-1) := List.count_pos_iff.2 (by rw [← hg]; exact List.getElem_mem hml)
        rw [List.count_set hml, hg]
        have : (b == -1) = false := by simp; omega
        rw [this]
        simp
        omega
      refine ⟨a1, a2, by rw [a3, List.length_append]; simp; omega, fun x hx => a4 x (by simp [hx]), fun i hi h2 h3 => ?_, fun x hx => ?_⟩
      · by_cases hne : m.toNat = i
        · have : (i : Int) = m := by omega
          rw [this]
          exact a4 m (by simp)
        · exact a5 i hi (by rw [getD_set_ne b hne]; exact h2) h3
      · rcases a6 x hx with h9 | h9
        · rcases List.mem_append.1 h9 with h9 | h9
          · exact .inl h9
          · simp at h9; exact .inr (by simp [h9])
        · exact .inr (by simp [h9])
    · rename_i h1
      split at h
      · obtain ⟨a1, a2, a3, a4, a5, a6⟩ := joinT_list n b hb ms _ _ hs' l' hl hr (fun x hx => hm x (by simp [hx])) h
        refine ⟨a1, a2, a3, a4, a5, fun x hx => ?_⟩
        rcases a6 x hx with h9 | h9
        · exact .inl h9
        · exact .inr (by simp [h9])
      · cases h
/-- The list behind a pick. -/
def pickL (l : List Int) (k : Nat) : List Int := (l.set k (l.getD (l.length - 1) 0)).take (l.length - 1)
theorem pickL_len (l : List Int) (k : Nat) : (pickL l k).length = l.length - 1 := by simp [pickL]
theorem pickL_keep (l : List Int) (k : Nat) (hk : k < l.length) (x : Int) (hx : x ∈ l) : x = l.getD k 0 ∨ x ∈ pickL l k := by
  obtain ⟨i, hi, rfl⟩ := List.getElem_of_mem hx
  by_cases e1 : i = k
  · left; subst e1; simp [List.getD, List.getElem?_eq_getElem hi]
  · right
    unfold pickL
    by_cases e2 : i = l.length - 1
    · refine List.mem_iff_getElem.2 ⟨k, by simp; omega, ?_⟩
      subst e2
      simp [List.getD, List.getElem?_eq_getElem hi]
    · refine List.mem_iff_getElem.2 ⟨i, by simp; omega, ?_⟩
      rw [List.getElem_take, List.getElem_set_ne (fun e => e1 e.symm)]
theorem pickL_mem (l : List Int) (k : Nat) (hk : k < l.length) (x : Int) (hx : x ∈ pickL l k) : x ∈ l := by
  have h1 := List.mem_of_mem_take hx
  rcases List.mem_or_eq_of_mem_set h1 with h | rfl
  · exact h
  · exact getD_mem (by omega)
/-- While places are taken. -/
structure TdP (ss : List ST) (nn : Nat) (hs l : List Int) (n : Nat) : Prop where
  fin : Fin ss nn hs l
  len : hs.length = nn
  lo : ∀ x ∈ hs, -1 ≤ x ∧ x ≤ 256
  el : ∀ m ∈ l, 0 ≤ m ∧ m < nn ∧ hs.getD m.toNat 0 ≠ -1
  cnt : n + hs.count (-1) + l.length = nn
theorem TdP.next {ss : List ST} {nn : Nat} {hs l : List Int} {n k : Nat} (h : TdP ss nn hs l n) (hok : SsOk ss nn) (hk : k < l.length) {at' : Nat} (ha : l.getD k 0 = (at' : Int)) {s : ST} (hs1 : ss[at']? = some s) (hf : faultS s (hs.getD at' 0) nn = 0) {hs' l' : List Int} (hj : joinT (behindS s (hs.getD at' 0)) s.nx hs (pickL l k) = some (hs', l')) : TdP ss nn hs' l' (n + 1) := by
  have hsm := List.mem_of_getElem? hs1
  obtain ⟨b1, b2, b3⟩ := fault_zero (hok.stb s hsm) (hok.cp s hsm) (fun m hm => (hok.nx s hsm).1 m hm) hf
  obtain ⟨e1, e2, e3⟩ := h.el _ (getD_mem hk)
  rw [ha] at e1 e2 e3
  simp only [Int.toNat_natCast] at e3
  have hlo := h.lo _ (getD_mem (show at' < hs.length by rw [h.len]; omega))
  obtain ⟨a1, a2, a3, a4, a5, a6⟩ := joinT_list nn _ ⟨b1, b2⟩ s.nx hs (pickL l k) hs' l' h.len h.lo b3 hj
  have hv := joinT_val nn _ (by omega) s.nx hs (pickL l k) hs' l' h.len b3 hj
  refine ⟨h.fin.next hok h.len (at' := at') (by omega) hs1 e3 (by omega) hf hv (fun x hx => ?_) a5, a1, a2, fun m hm => ?_, ?_⟩
  · rcases pickL_keep l k hk x hx with he | hin
    · left; rw [he, ha]
    · exact .inr (a4 _ hin)
  · rcases a6 m hm with hin | hin
    · obtain ⟨c1, c2, c3⟩ := h.el m (pickL_mem l k hk m hin)
      exact ⟨c1, c2, by rw [hv.2.1 m.toNat (by omega) c3]; exact c3⟩
    · obtain ⟨c1, c2⟩ := b3 m hin
      exact ⟨c1, c2, by rw [hv.1 m hin]; omega⟩
  · have := h.cnt
    rw [pickL_len] at a3
    omega
theorem TdP.none {ss : List ST} {nn : Nat} {hs l : List Int} {n k : Nat} (h : TdP ss nn hs l n) (hok : SsOk ss nn) (hk : k < l.length) {at' : Nat} (ha : l.getD k 0 = (at' : Int)) {s : ST} (hs1 : ss[at']? = some s) (hf : faultS s (hs.getD at' 0) nn ≠ 0 ∨ joinT (behindS s (hs.getD at' 0)) s.nx hs (pickL l k) = none) (H : List Int) : ¬ Fit ss nn H := fun hH => by
  obtain ⟨e1, e2, e3⟩ := h.el _ (getD_mem hk)
  rw [ha] at e1 e2 e3
  simp only [Int.toNat_natCast] at e3
  have hq := h.fin.orc H hH at' (by omega) e3
  obtain ⟨f1, c1⟩ := hH.ok at' s (by omega) hs1 (by rw [← hq]; exact e3)
  rw [← hq] at f1 c1
  rcases hf with hf | hf
  · exact hf f1
  · obtain ⟨r, hj⟩ := joinH_some (behindS s (hs.getD at' 0)) H s.nx hs [] (by rw [h.len, hH.len]) (fun m hm => by rw [hH.len]; exact c1 m hm) (fun i hi hne => h.fin.orc H hH i (by rw [← hH.len]; exact hi) hne)
    have h1 := joinT_H (behindS s (hs.getD at' 0)) s.nx hs (pickL l k) []
    rw [hf, hj] at h1
    cases h1
theorem TdP.done {ss : List ST} {nn : Nat} {hs : List Int} {n : Nat} (h : TdP ss nn hs [] n) : Fit ss nn hs := h.fin.fit h.len h.lo
theorem TdP.start (ss : List ST) (nn : Nat) (hn : 1 ≤ nn) : TdP ss nn ((List.replicate nn (-1)).set 0 0) [0] 0 := by
  refine ⟨Fin.start ss nn hn, by simp, fun x hx => ?_, fun m hm => ?_, ?_⟩
  · rcases List.mem_or_eq_of_mem_set hx with hx | rfl
    · rw [List.eq_of_mem_replicate hx]; omega
    · omega
  · simp at hm
    subst hm
    refine ⟨by omega, by omega, ?_⟩
    rw [show (0 : Int).toNat = 0 from rfl, getD_set_eq 0 (by simp; omega)]
    omega
  · rw [List.count_set (by simp; omega)]
    simp
    omega
/-- In memory. -/
structure TdK (w wr : World) (gb gh nn : Nat) (pv : Array Value) (rv : Value) (hs l : List Int) : Prop where
  box : wr.heap[gb]? = some (.cells pv 25 (0, 0))
  hr : OwnN wr w.heap.size (.slice (some ⟨gh, 0, none⟩) nn nn) hs
  rr : OwnN wr w.heap.size rv l
  ap : rv.ownBlock ≠ some gh
  kept : Kept (fun _ => False) w wr
  hl : hs.length = nn
section
variable {w wr w' : World} {gb gh nn : Nat} {pv : Array Value} {rv : Value} {hs l : List Int}
theorem TdK.same (h : TdK w wr gb gh nn pv rv hs l) (hk : Kept (fun _ => False) wr w') : TdK w w' gb gh nn pv rv hs l :=
  ⟨box_kept hk h.box (fun f => f), hk.ownsRow h.hr (fun _ _ f => f), hk.ownsRow h.rr (fun _ _ f => f), h.ap, h.kept.trans hk, h.hl⟩
theorem TdK.push (h : TdK w wr gb gh nn pv rv hs l) (x : Int) (hl : l.length ≤ 90000) :
    ∃ g c w', (Builtin.append_ #[30, 30] 30 #[rv, .slice (some ⟨wr.heap.size, 0, none⟩) 1 1]).run Tryz.prog (wr.alloc (.cells #[.int .i64 x] 3)) = .ok (.slice (some ⟨g, 0, none⟩) (l.length + 1) c) w' ∧ TdK w w' gb gh nn pv (.slice (some ⟨g, 0, none⟩) (l.length + 1) c) hs (l ++ [x]) ∧ Kept (fun k => rv.ownBlock = some k) wr w' ∧ (rv.ownBlock = some g ∨ wr.heap.size < g) := by
  obtain ⟨v', w', hr, ho, hg, hb⟩ := app_num (wr.alloc (.cells #[.int .i64 x] 3)) w.heap.size rv l ⟨wr.heap.size, 0, none⟩ 1 1 [x] (h.rr.alloc _) rfl (fun j hj => by
    have : j = 0 := by omega
    subst this
    rw [Addr.add_lit, cell_block _ _ _ _ _ _ (heap_alloc_new wr _)]
    rfl) (by omega) (by have := h.kept.size; simp; omega)
  have hk1 : Kept (fun k => rv.ownBlock = some k) wr w' := ((Kept.refl _ wr).alloc _).grown hg (fun k hk => .inr hk)
  have hlen : (l ++ [x]).length = l.length + 1 := by simp
  have hnb : ∃ g c, v' = .slice (some ⟨g, 0, none⟩) (l.length + 1) c := by
    rcases World.ownsRow.mk' ho with ⟨_, e⟩ | ⟨g, cap, e⟩
    · rw [hlen] at e; omega
    · rw [hlen] at e; exact ⟨g, cap, e⟩
  obtain ⟨g, c, rfl⟩ := hnb
  have hgg : rv.ownBlock = some g ∨ wr.heap.size < g := by
    rcases hb with hb | hb
    · exact .inl hb.symm
    · right
      simp [Value.ownBlock] at hb
      omega
  refine ⟨g, c, w', hr, ⟨box_kept hk1 h.box (own_box2 h.rr h.box (by decide)), hk1.ownsRow h.hr (fun q hq e => h.ap (by rw [e, ← hq]; rfl)), ho, ?_, h.kept.step hk1 (fun i hi e => by have := (h.rr.lt i e).1; omega), h.hl⟩, hk1, hgg⟩
  intro e
  have e' : g = gh := Option.some.inj e
  subst e'
  rcases hgg with h9 | h9
  · exact h.ap h9
  · have := (h.hr.lt g rfl).2
    omega
end
/-- A row of numbers that is handed in. -/
def RowN (w : World) (v : Value) (ns : List Int) : Prop := (ns = [] ∧ ∃ ao c, v = .slice ao 0 c) ∨ ∃ g o c, v = .slice (some ⟨g, o, none⟩) ns.length c ∧ g < w.heap.size ∧ ∀ i x, ns[i]? = some x → w.cell? ⟨g, o + i, none⟩ = some (.int .i64 x)
theorem RowN.same {w w' : World} {v : Value} {ns : List Int} (h : RowN w v ns) (hk : Kept (fun _ => False) w w') : RowN w' v ns := by
  rcases h with h | ⟨g, o, c, e, hg, hc⟩
  · exact .inl h
  · exact .inr ⟨g, o, c, e, Nat.lt_of_lt_of_le hg hk.size, fun i x hx => hk.cell (hc i x hx) (fun f => f)⟩
theorem RowN.shape {w : World} {v : Value} {ns : List Int} (h : RowN w v ns) : ∃ ao c, v = .slice ao ns.length c := by
  rcases h with ⟨rfl, ao, c, rfl⟩ | ⟨g, o, c, rfl, _⟩
  · exact ⟨ao, c, rfl⟩
  · exact ⟨_, c, rfl⟩
end Go.Proofs.YtcaadgcfceommaaGreat
