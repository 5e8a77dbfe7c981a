/-
  What the law spoils.
-/
import Derived.Test.YtnjhnlohjhdcpabRtw
import Derived.Test.YtnjhnlohjhdcpabInn
namespace Go.Proofs.Ytnjhnlohjhdcpab
open Go.ChangeShapes Go.WideShapes Go.ChangeAt Go.RowKit Go.Deep
set_option linter.unusedVariables false
set_option linter.unusedSimpArgs false
set_option maxRecDepth 100000

theorem wrap_u8' (x : Int) : 0 ≤ IntKind.u8.wrap x ∧ IntKind.u8.wrap x ≤ 255 := by
  simp [IntKind.wrap, IntKind.bits, IntKind.signed]
  omega
theorem bits_u8' (x y : Int) : 0 ≤ bits .xor .u8 x y ∧ bits .xor .u8 x y ≤ 255 := wrap_u8' _
theorem fcells_fn : ∀ (fs : List FN) (cvs : List Value) (i : Nat) (f : FN) (cv : Value), i < fs.length → cvs.length = fs.length → (((((fcells fs cvs).set (i * 4) (.int .i64 f.a)).set (i * 4 + 1) (.int .i64 f.l)).set (i * 4 + 2) (.int .i64 f.r)).set (i * 4 + 3) cv) = fcells (fs.set i f) (cvs.set i cv)
  | [], _, i, f, cv, hf, _ => by simp at hf
  | g :: fs, [], i, f, cv, hf, hl => by simp at hl
  | g :: fs, c :: cvs, 0, f, cv, hf, hl => by
    show ((((g.cells c ++ fcells fs cvs).set 0 _).set 1 _).set 2 _).set 3 _ = f.cells cv ++ fcells fs cvs
    simp [FN.cells]
  | g :: fs, c :: cvs, i + 1, f, cv, hf, hl => by
    have ih := fcells_fn fs cvs i f cv (by simpa using hf) (by simpa using hl)
    show ((((g.cells c ++ fcells fs cvs).set ((i + 1) * 4) _).set ((i + 1) * 4 + 1) _).set ((i + 1) * 4 + 2) _).set ((i + 1) * 4 + 3) _ = g.cells c ++ fcells (fs.set i f) (cvs.set i cv)
    have hlc : (g.cells c).length = 4 := rfl
    rw [List.set_append_right _ _ (by rw [hlc]; omega), List.set_append_right _ _ (by rw [hlc]; omega), List.set_append_right _ _ (by rw [hlc]; omega), List.set_append_right _ _ (by rw [hlc]; omega), ← ih, hlc]
    rw [show (i + 1) * 4 - 4 = i * 4 by omega, show (i + 1) * 4 + 1 - 4 = i * 4 + 1 by omega, show (i + 1) * 4 + 2 - 4 = i * 4 + 2 by omega, show (i + 1) * 4 + 3 - 4 = i * 4 + 3 by omega]
theorem OwnP.setNil {base : Nat} {w : World} {g n c i : Nat} {dv : Value} {cvs : List Value} {p : PG} (h : OwnP base w dv (.slice (some ⟨g, 0, none⟩) n c) cvs p) (hn : n = p.fns.length) (hi : i < p.fns.length) (a : Int) :
    OwnP base ((((w.setCell ⟨g, i * 4, none⟩ (.int .i64 a)).setCell ⟨g, i * 4 + 1, none⟩ (.int .i64 0)).setCell ⟨g, i * 4 + 2, none⟩ (.int .i64 0)).setCell ⟨g, i * 4 + 3, none⟩ (.slice none 0 0)) dv (.slice (some ⟨g, 0, none⟩) n c) (cvs.set i (.slice none 0 0)) { p with fns := p.fns.set i ⟨a, 0, 0, []⟩ } := by
  have hr := h.fns.row
  subst hn
  have hks := ((((kept_set w g (i * 4) (.int .i64 a)).trans (kept_set _ g (i * 4 + 1) (.int .i64 0))).trans (kept_set _ g (i * 4 + 2) (.int .i64 0))).trans (kept_set _ g (i * 4 + 3) (.slice none 0 0)))
  have hst := (World.ownsRow.stored (World.ownsRow.stored (World.ownsRow.stored (World.ownsRow.stored hr (i * 4) (.int .i64 a)).1 (i * 4 + 1) (.int .i64 0)).1 (i * 4 + 2) (.int .i64 0)).1 (i * 4 + 3) (.slice none 0 0)).1
  rw [fcells_fn p.fns cvs i ⟨a, 0, 0, []⟩ (.slice none 0 0) hi h.fns.len] at hst
  refine ⟨hks.ownsRow h.dat (fun q hq e => by subst e; exact own_unlike h.dat hr (by decide) _ hq rfl), ⟨by show (cvs.set i _).length = (p.fns.set i _).length; rw [List.length_set, List.length_set]; exact h.fns.len, by show World.ownsRow _ base 44 4 _ (p.fns.set i _).length _; rw [List.length_set]; exact hst, fun j G cv hG hc => ?_, fun j k c' c'' hjk hc1 hc2 q hq hq' => ?_⟩⟩
  · have hG2 : (p.fns.set i ⟨a, 0, 0, []⟩)[j]? = some G := hG
    clear hG
    rw [List.getElem?_set] at hG2 hc
    by_cases e : i = j
    · subst e
      rw [if_pos rfl] at hG2 hc
      rw [if_pos hi] at hG2
      rw [if_pos (by rw [h.fns.len]; exact hi)] at hc
      cases hG2
      cases hc
      exact World.ownsRow_nil _ _ _ _
    · rw [if_neg e] at hG2 hc
      have ho := h.fns.at' j G cv hG2 hc
      exact hks.ownsRow ho (fun q hq e => by subst e; exact own_unlike ho hr (by decide) _ hq rfl)
  · rw [List.getElem?_set] at hc1 hc2
    by_cases e1 : i = j
    · rw [if_pos e1, if_pos (by rw [h.fns.len]; exact hi)] at hc1
      cases hc1
      cases hq
    · rw [if_neg e1] at hc1
      by_cases e2 : i = k
      · rw [if_pos e2, if_pos (by rw [h.fns.len]; exact hi)] at hc2
        cases hc2
        cases hq'
      · rw [if_neg e2] at hc2
        exact h.fns.apart j k c' c'' hjk hc1 hc2 q hq hq'
/-- What holds while a program is spoilt. -/
structure SpK (w wr : World) (gb base top : Nat) (mem : Int) (da : Option Addr) (nd dc : Nat) (fa : Option Addr) (nf fc : Nat) (cvs : List Value) (q : PG) : Prop where
  own : OwnP base wr (.slice da nd dc) (.slice fa nf fc) cvs q
  ok : q.Ok
  me : nd = q.data.length ∧ nf = q.fns.length
  box : wr.heap[gb]? = some (.cells #[.int .i64 mem, .slice da nd dc, .slice fa nf fc] 25 (0, 0))
  lowd : ∀ b, (Value.slice da nd dc).ownBlock = some b → b < top
  lowf : ∀ b, (Value.slice fa nf fc).ownBlock = some b → b < top
  lowc : ∀ c ∈ cvs, ∀ b, c.ownBlock = some b → b < top
  kept : Kept (fun b => base ≤ b ∧ b < top) w wr
  off : top ≤ gb
section
variable {w wr : World} {gb base top : Nat} {mem : Int} {da : Option Addr} {nd dc : Nat} {fa : Option Addr} {nf fc : Nat} {cvs : List Value} {q : PG}
theorem SpK.dat {g : Nat} (h : SpK w wr gb base top mem (some ⟨g, 0, none⟩) nd dc fa nf fc cvs q) (k : Nat) (x : Int) (hx : 0 ≤ x ∧ x ≤ 255) : SpK w (wr.setCell ⟨g, k, none⟩ (.int .u8 x)) gb base top mem (some ⟨g, 0, none⟩) nd dc fa nf fc cvs { q with data := q.data.set k x } := by
  have h1 := (h.own.dat.lt g rfl).1
  have h2 := h.lowd g rfl
  have h3 := h.off
  exact ⟨h.own.setDat h.me.1 k x, h.ok.setDat k x hx, ⟨by show nd = (q.data.set k x).length; rw [List.length_set]; exact h.me.1, h.me.2⟩, box_kept (kept_set wr g k _) h.box (by omega), h.lowd, h.lowf, h.lowc, h.kept.trans ((kept_set wr g k _).mono (fun i _ e => by subst e; exact ⟨h1, h2⟩)), h.off⟩
theorem SpK.code {g n c i k : Nat} {f : FN} (h : SpK w wr gb base top mem da nd dc fa nf fc cvs q) (hf : q.fns[i]? = some f) (hc : cvs[i]? = some (.slice (some ⟨g, 0, none⟩) n c)) (hn : n = f.code.length) (hk : k < f.code.length) (y : IN) (hy : y.Ok) : SpK w ((wr.setCell ⟨g, k * 2, none⟩ (.int .i64 y.op)).setCell ⟨g, k * 2 + 1, none⟩ (.int .i64 y.a)) gb base top mem da nd dc fa nf fc cvs { q with fns := q.fns.set i { f with code := f.code.set k y } } := by
  have hfo := h.ok.fns f (List.mem_of_getElem? hf)
  have ho := h.own.fns.at' i f _ hf hc
  have h1 := (ho.lt g rfl).1
  have h2 := h.lowc _ (List.mem_of_getElem? hc) g rfl
  have h3 := h.off
  have hks := (kept_set wr g (k * 2) (.int .i64 y.op)).trans (kept_set _ g (k * 2 + 1) (.int .i64 y.a))
  refine ⟨h.own.setCode hf hc hn hk y, h.ok.setFn i _ ⟨hfo.a, hfo.l, hfo.r, fun z hz => ?_, ?_⟩, ⟨h.me.1, ?_⟩, box_kept hks h.box (by omega), h.lowd, h.lowf, h.lowc, h.kept.trans (hks.mono (fun i _ e => by subst e; exact ⟨h1, h2⟩)), h.off⟩
  · rcases List.mem_or_eq_of_mem_set hz with hz | rfl
    · exact hfo.code z hz
    · exact hy
  · show (f.code.set k y).length * 16 ≤ _
    rw [List.length_set]
    exact hfo.len
  · show nf = (q.fns.set i _).length
    rw [List.length_set]
    exact h.me.2
theorem SpK.fn {g i : Nat} (h : SpK w wr gb base top mem da nd dc (some ⟨g, 0, none⟩) nf fc cvs q) (hi : i < q.fns.length) : SpK w ((((wr.setCell ⟨g, i * 4, none⟩ (.int .i64 (-4))).setCell ⟨g, i * 4 + 1, none⟩ (.int .i64 0)).setCell ⟨g, i * 4 + 2, none⟩ (.int .i64 0)).setCell ⟨g, i * 4 + 3, none⟩ (.slice none 0 0)) gb base top mem da nd dc (some ⟨g, 0, none⟩) nf fc (cvs.set i (.slice none 0 0)) { q with fns := q.fns.set i ⟨-4, 0, 0, []⟩ } := by
  have h1 := (h.own.fns.row.lt g rfl).1
  have h2 := h.lowf g rfl
  have h3 := h.off
  have hks := ((((kept_set wr g (i * 4) (.int .i64 (-4))).trans (kept_set _ g (i * 4 + 1) (.int .i64 0))).trans (kept_set _ g (i * 4 + 2) (.int .i64 0))).trans (kept_set _ g (i * 4 + 3) (.slice none 0 0)))
  refine ⟨h.own.setNil h.me.2 hi (-4), h.ok.setFn i _ ⟨⟨by decide, by decide⟩, ⟨by decide, by decide⟩, ⟨by decide, by decide⟩, fun y hy => by simp at hy, by decide⟩, ⟨h.me.1, ?_⟩, box_kept hks h.box (by omega), h.lowd, h.lowf, fun c hc b hb => ?_, h.kept.trans (hks.mono (fun i _ e => by subst e; exact ⟨h1, h2⟩)), h.off⟩
  · show nf = (q.fns.set i _).length
    rw [List.length_set]
    exact h.me.2
  · rcases List.mem_or_eq_of_mem_set hc with hc | rfl
    · exact h.lowc c hc b hb
    · cases hb
end

set_option maxHeartbeats 16000000 in
theorem spoil_p (base top : Nat) (mem : Int) (da : Option Addr) (nd dc : Nat) (fa : Option Addr) (nf fc : Nat) (cvs : List Value) (q : PG) (w : World) (h : OwnP base w (.slice da nd dc) (.slice fa nf fc) cvs q) (ho : q.Ok) (hl : nd = q.data.length ∧ nf = q.fns.length) (h1 : ∀ b, (Value.slice da nd dc).ownBlock = some b → b < top) (h2 : ∀ b, (Value.slice fa nf fc).ownBlock = some b → b < top) (h3 : ∀ c ∈ cvs, ∀ b, c.ownBlock = some b → b < top) (h4 : top ≤ w.heap.size) :
    Calls Try.prog 10 #[.agg #[.int .i64 mem, .slice da nd dc, .slice fa nf fc]] w fun e w' => (∃ v, e = .returned v) ∧ Kept (fun b => base ≤ b ∧ b < top) w w' := by
  have hkA : Kept (fun b => base ≤ b ∧ b < top) w (w.alloc (.cells #[.int .i64 mem, .slice da nd dc, .slice fa nf fc] 25)) := (Kept.refl _ _).alloc _
  have hkF : Kept (fun _ => False) w (w.alloc (.cells #[.int .i64 mem, .slice da nd dc, .slice fa nf fc] 25)) := (Kept.refl _ _).alloc _
  have hbA := heap_alloc_new w (.cells #[.int .i64 mem, .slice da nd dc, .slice fa nf fc] 25)
  have HS0 : Hid (SpK w (w.alloc (.cells #[.int .i64 mem, .slice da nd dc, .slice fa nf fc] 25)) w.heap.size base top mem da nd dc fa nf fc cvs q) := ⟨h.kept hkF (fun _ _ f => f), ho, hl, hbA, h1, h2, h3, hkA, h4⟩
  have hndI : (nd : Int) ≤ 140737488351232 := by have := ho.data.2; omega
  have hnfI : (nf : Int) ≤ 140737488351232 := by have := ho.len; omega
  clear h ho hl h1 h2 h3 h4 hkA hkF hbA
  go_enter Try.func10, Try.ntmps10
  go_wp2_with fail
  generalize w.alloc (.cells #[.int .i64 mem, .slice da nd dc, .slice fa nf fc] 25) = w0 at *
  obtain ⟨gb, hgb⟩ : ∃ g, g = w.heap.size := ⟨_, rfl⟩
  rw [← hgb] at HS0 ⊢
  clear hgb
  go_loopw [2] (fun i wr => ∃ (k : Nat) (q : PG), k ≤ nd ∧ i = .int .i64 (k : Int) ∧ Hid (SpK w wr gb base top mem da nd dc fa nf fc cvs q)) (fun i _ => nd - (intOf i).toNat)
  case atStart => exact ⟨0, q, by omega, rfl, HS0⟩
  case round =>
    obtain ⟨k, q, hk, rfl, HSK⟩ := hrel
    clear HS0
    have d1 := cell_block _ gb 1 _ _ _ HSK.out.box
    by_cases hlt : k < nd
    · have hltI : (k : Int) < (nd : Int) := by omega
      obtain ⟨gd, hgd⟩ : ∃ g, da = some ⟨g, 0, none⟩ := by
        obtain ⟨g, c, e⟩ := own_at0 HSK.out.own.dat (by have := HSK.out.me.1; omega)
        simp only [Value.slice.injEq] at e
        exact ⟨g, e.1⟩
      subst hgd
      have hdr := HSK.out.own.dat
      rw [← HSK.out.me.1] at hdr
      obtain ⟨x0, hx0⟩ : ∃ x, q.data[k]? = some x := ⟨_, List.getElem?_eq_getElem (by have := HSK.out.me.1; omega)⟩
      have r0 : wr.drew.cell? ⟨gd, k, none⟩ = some (.int .u8 x0) := by
        show wr.cell? _ = _
        rw [hdr.cellAt _ (by omega), List.getElem?_map, hx0]
        rfl
      have rf : wr.drew.frozen? ⟨gd, k, none⟩ = false := World.ownsRow.frozenAt hdr _
      have HGD : Hid (¬ gb = gd) := fun e => own_box hdr HSK.out.box (by decide) (by rw [e]; rfl)
      have HBXD : Hid (wr.drew.heap[gb]? = some (.cells #[.int .i64 mem, .slice (some ⟨gd, 0, none⟩) nd dc, .slice fa nf fc] 25 (0, 0))) := HSK.out.box
      clear hdr hx0
      go_upto_region 4 with fail
      clear d1
      refine wp_region_held_drew (S := fun w' => w'.heap[gb]? = some (.cells #[.int .i64 mem, .slice (some ⟨gd, 0, none⟩) nd dc, .slice fa nf fc] 25 (0, 0))) (by kernel_rfl) HBXD.out (fun hHeld => ?_)
      refine wpAnyH_take (i := 0) (v := ?_) rfl (by kernel_rfl) (by kernel_rfl) (by kernel_rfl) (fun _ _ _ h => h) (Or.inl ⟨by rfl, ?_⟩) (by assumption) ?_
      rotate_left 1
      · intro w hSw
        go_simp
        try with_reducible rfl
      try simp only [Act.put, List.getElem_toArray, List.getElem_cons_zero, List.getElem_cons_succ, List.setIfInBounds_toArray, List.set_cons_zero, List.set_cons_succ]
      refine wpAnyH_take (i := 1) (v := ?_) rfl (by kernel_rfl) (by kernel_rfl) (by kernel_rfl) (fun _ _ _ h => h) (Or.inl ⟨by rfl, ?_⟩) (by assumption) ?_
      rotate_left 1
      · intro w hSw
        have q2 := cell_block _ gb 1 _ _ _ hSw
        go_simp
        try with_reducible rfl
      try simp only [Act.put, List.getElem_toArray, List.getElem_cons_zero, List.getElem_cons_succ, List.setIfInBounds_toArray, List.set_cons_zero, List.set_cons_succ]
      refine wpAnyH_take (i := 2) (v := ?_) rfl (by kernel_rfl) (by kernel_rfl) (by kernel_rfl) (fun _ _ _ h => h) (Or.inl ⟨by rfl, ?_⟩) (by assumption) ?_
      rotate_left 1
      · intro w hSw
        go_simp
        try with_reducible rfl
      try simp only [Act.put, List.getElem_toArray, List.getElem_cons_zero, List.getElem_cons_succ, List.setIfInBounds_toArray, List.set_cons_zero, List.set_cons_succ]
      refine wpAnyH_take (i := 3) (v := ?_) rfl (by kernel_rfl) (by kernel_rfl) (by kernel_rfl) (fun _ _ _ h => h) (Or.inl ⟨by rfl, ?_⟩) (by assumption) ?_
      rotate_left 1
      · intro w hSw
        go_simp
        try with_reducible rfl
      try simp only [Act.put, List.getElem_toArray, List.getElem_cons_zero, List.getElem_cons_succ, List.setIfInBounds_toArray, List.set_cons_zero, List.set_cons_succ]
      refine wpAnyH_take (i := 4) (v := ?_) rfl (by kernel_rfl) (by kernel_rfl) (by kernel_rfl) (fun _ _ _ h => h) (Or.inl ⟨by rfl, ?_⟩) (by assumption) ?_
      rotate_left 1
      · intro w hSw
        have q2 := cell_block _ gb 1 _ _ _ hSw
        go_simp
        try with_reducible rfl
      try simp only [Act.put, List.getElem_toArray, List.getElem_cons_zero, List.getElem_cons_succ, List.setIfInBounds_toArray, List.set_cons_zero, List.set_cons_succ]
      refine wpAnyH_take (i := 5) (v := ?_) rfl (by kernel_rfl) (by kernel_rfl) (by kernel_rfl) (fun _ _ _ h => h) (Or.inl ⟨by rfl, ?_⟩) (by assumption) ?_
      rotate_left 1
      · intro w hSw
        go_simp
        try with_reducible rfl
      try simp only [Act.put, List.getElem_toArray, List.getElem_cons_zero, List.getElem_cons_succ, List.setIfInBounds_toArray, List.set_cons_zero, List.set_cons_succ]
      refine wpAnyH_take (i := 6) (v := ?_) rfl (by kernel_rfl) (by kernel_rfl) (by kernel_rfl) (fun _ _ _ h => h) (Or.inl ⟨by rfl, ?_⟩) (by assumption) ?_
      rotate_left 1
      · intro w hSw
        go_simp
        try with_reducible rfl
      try simp only [Act.put, List.getElem_toArray, List.getElem_cons_zero, List.getElem_cons_succ, List.setIfInBounds_toArray, List.set_cons_zero, List.set_cons_succ]
      refine wpAnyH_ready (rs := [7]) (by kernel_rfl) (by simp) ?_
      refine AllReadyH.cons rfl (fun K hK => ?_) AllReadyH.nil
      go_simp
      refine hK.out _ _ hHeld (fun hHeld => ?_)
      clear hK K
      try simp only [Act.put, List.getElem_toArray, List.getElem_cons_zero, List.getElem_cons_succ, List.setIfInBounds_toArray, List.set_cons_zero, List.set_cons_succ]
      refine wpAnyH_take (i := 8) (v := ?_) rfl (by kernel_rfl) (by kernel_rfl) (by kernel_rfl) (fun _ _ _ h => h) (Or.inl ⟨by rfl, ?_⟩) (by assumption) ?_
      rotate_left 1
      · intro w hSw
        go_simp
        try with_reducible rfl
      try simp only [Act.put, List.getElem_toArray, List.getElem_cons_zero, List.getElem_cons_succ, List.setIfInBounds_toArray, List.set_cons_zero, List.set_cons_succ]
      refine wpAnyH_take (i := 9) (v := ?_) rfl (by kernel_rfl) (by kernel_rfl) (by kernel_rfl) (fun _ _ _ h => h) (Or.inl ⟨by rfl, ?_⟩) (by assumption) ?_
      rotate_left 1
      · intro w hSw
        go_simp
        try with_reducible rfl
      try simp only [Act.put, List.getElem_toArray, List.getElem_cons_zero, List.getElem_cons_succ, List.setIfInBounds_toArray, List.set_cons_zero, List.set_cons_succ]
      refine wpAnyH_ready (rs := [10]) (by kernel_rfl) (by simp) ?_
      refine AllReadyH.cons rfl (fun K hK => ?_) AllReadyH.nil
      go_simp
      refine hK.out _ _ (box_kept (kept_set _ gd k _) hHeld HGD.out) (fun hHeld => ?_)
      clear hK K r0 rf
      try simp only [Act.put, List.getElem_toArray, List.getElem_cons_zero, List.getElem_cons_succ, List.setIfInBounds_toArray, List.set_cons_zero, List.set_cons_succ]
      refine wpAnyH_done (by kernel_rfl) ?_ _
      obtain ⟨q2, hq2⟩ : ∃ q2, SpK w (wr.setCell ⟨gd, k, none⟩ (.int .u8 (bits .xor .u8 x0 85))).drew gb base top mem (some ⟨gd, 0, none⟩) nd dc fa nf fc cvs q2 := by
        have h9 := HSK.out.dat k _ (bits_u8' x0 85)
        have hd : Kept (fun _ => False) (wr.setCell ⟨gd, k, none⟩ (.int .u8 (bits .xor .u8 x0 85))) (wr.setCell ⟨gd, k, none⟩ (.int .u8 (bits .xor .u8 x0 85))).drew := (Kept.refl _ _).drew
        exact ⟨_, h9.own.kept hd (fun _ _ f => f), h9.ok, h9.me, h9.box, h9.lowd, h9.lowf, h9.lowc, h9.kept.trans (hd.mono (fun _ _ f => f.elim)), h9.off⟩
      have HQ2 := hid_of hq2
      clear hq2 hHeld HSK
      generalize (wr.setCell ⟨gd, k, none⟩ (.int .u8 (bits .xor .u8 x0 85))).drew = w2 at *
      go_wp2
      go_roundw
      case rel => exact ⟨k + 1, q2, by omega, by go_num, HQ2⟩
      case measure => simp [intOf]; omega
    · have hnl : ¬ ((k : Int) < (nd : Int)) := by omega
      go_wp2_with fail
      clear d1 hnl hlt hk
      go_loopw [3] (fun i wr => ∃ (m : Nat) (cvs : List Value) (q : PG), m ≤ nf ∧ i = .int .i64 (m : Int) ∧ Hid (SpK w wr gb base top mem da nd dc fa nf fc cvs q)) (fun i _ => nf - (intOf i).toNat)
      case atStart => exact ⟨0, cvs, q, by omega, rfl, HSK⟩
      case round =>
        clear HSK
        obtain ⟨m, cvs, q, hm, rfl, HSK⟩ := hrel
        have d2 := cell_block _ gb 2 _ _ _ HSK.out.box
        by_cases hlt : m < nf
        · have hltI : (m : Int) < (nf : Int) := by omega
          obtain ⟨gf, hgf⟩ : ∃ g, fa = some ⟨g, 0, none⟩ := by
            obtain ⟨g, c, e⟩ := own_at0 HSK.out.own.fns.row (by have := HSK.out.me.2; omega)
            simp only [Value.slice.injEq] at e
            exact ⟨g, e.1⟩
          subst hgf
          have hil : m < q.fns.length := by have := HSK.out.me.2; omega
          obtain ⟨f, hfi⟩ : ∃ f, q.fns[m]? = some f := ⟨_, List.getElem?_eq_getElem hil⟩
          obtain ⟨cv, hci⟩ : ∃ cv, cvs[m]? = some cv := ⟨_, List.getElem?_eq_getElem (by rw [HSK.out.own.fns.len]; exact hil)⟩
          have hoc := HSK.out.own.fns.at' m f cv hfi hci
          obtain ⟨cao, cc, hcs⟩ := ownsRow_shape hoc
          obtain ⟨nc, hnc⟩ : ∃ n, n = f.code.length := ⟨_, rfl⟩
          rw [← hnc] at hcs
          subst hcs
          have hncI : (nc : Int) ≤ 140737488351232 := by have := (HSK.out.ok.fns f (List.mem_of_getElem? hfi)).len; omega
          have HCI := hid_of hci
          have HF0 : Hid (q.fns[m]? = some f ∧ nc = f.code.length) := ⟨hfi, hnc⟩
          clear hoc hnc hfi hci hil
          go_wp2_with fail
          clear d2
          go_loopw [4] (fun i wr => ∃ (k : Nat) (f : FN) (q : PG), k ≤ nc ∧ i = .int .i64 (k : Int) ∧ Hid (q.fns[m]? = some f ∧ nc = f.code.length) ∧ Hid (SpK w wr gb base top mem da nd dc (some ⟨gf, 0, none⟩) nf fc cvs q)) (fun i _ => nc - (intOf i).toNat)
          case atStart => exact ⟨0, f, q, by omega, rfl, HF0, HSK⟩
          case round =>
            clear HSK HF0
            obtain ⟨k, f, q, hk, rfl, HFQ, HSK⟩ := hrel
            have d2 := cell_block _ gb 2 _ _ _ HSK.out.box
            have hil : m < q.fns.length := by have := HSK.out.me.2; omega
            have hrw := HSK.out.own.fns.row
            rw [← HSK.out.me.2] at hrw
            have x3 : wr.cell? ⟨gf, m * 4 + 3, none⟩ = some (.slice cao nc cc) := by
              rw [hrw.cellAt _ (by omega), fcells_at _ cvs m _ _ HFQ.out.1 HCI.out 3 (by omega)]
              rfl
            by_cases hlk : k < nc
            · have hkI : (k : Int) < (nc : Int) := by omega
              have hoc := HSK.out.own.fns.at' m f _ HFQ.out.1 HCI.out
              rw [← HFQ.out.2] at hoc
              obtain ⟨gc, hgc⟩ : ∃ g, cao = some ⟨g, 0, none⟩ := by
                obtain ⟨g, c, e⟩ := own_at0 hoc (by omega)
                simp only [Value.slice.injEq] at e
                exact ⟨g, e.1⟩
              subst hgc
              have hkl : k < f.code.length := by have := HFQ.out.2; omega
              obtain ⟨y0, hy0⟩ : ∃ y, f.code[k]? = some y := ⟨_, List.getElem?_eq_getElem hkl⟩
              have s0 : wr.cell? ⟨gc, k * 2, none⟩ = some (.int .i64 y0.op) := by
                have h9 := icells_at f.code k y0 hy0 0 (by omega)
                rw [hoc.cellAt _ (by omega)]
                exact h9
              have s1 : wr.cell? ⟨gc, k * 2 + 1, none⟩ = some (.int .i64 y0.a) := by
                rw [hoc.cellAt _ (by omega), icells_at f.code k y0 hy0 1 (by omega)]
                rfl
              have f0 : wr.frozen? ⟨gc, k * 2, none⟩ = false := World.ownsRow.frozenAt hoc _
              have f1 : wr.frozen? ⟨gc, k * 2 + 1, none⟩ = false := World.ownsRow.frozenAt hoc _
              have hS := HSK.out.code HFQ.out.1 HCI.out HFQ.out.2 hkl ⟨-5, (k : Int)⟩ ⟨⟨(by show (-9223372036854775808 : Int) ≤ -5; decide), (by show (-5 : Int) < 9223372036854775808; decide)⟩, (by show (-9223372036854775808 : Int) ≤ (k : Int); omega), (by show (k : Int) < 9223372036854775808; omega)⟩
              dsimp only at hS
              have HS2 := hid_of hS
              have HF2 : Hid (({ q with fns := q.fns.set m { f with code := f.code.set k ⟨-5, (k : Int)⟩ } } : PG).fns[m]? = some { f with code := f.code.set k ⟨-5, (k : Int)⟩ } ∧ nc = ({ f with code := f.code.set k ⟨-5, (k : Int)⟩ } : FN).code.length) := by
                refine ⟨?_, ?_⟩
                · show (q.fns.set m _)[m]? = _
                  rw [List.getElem?_set_self hil]
                · show nc = (f.code.set k _).length
                  rw [List.length_set]
                  exact HFQ.out.2
              clear hS hy0 hoc hrw HSK
              go_wp2
              go_roundw
              case rel => exact ⟨k + 1, _, _, by omega, by go_num, HF2, HS2⟩
              case measure => simp [intOf]; omega
            · have hnk : ¬ ((k : Int) < (nc : Int)) := by omega
              have o0 : ∃ u, wr.cell? ⟨gf, m * 4, none⟩ = some u := ⟨_, by rw [hrw.cellAt _ (by omega), show m * 4 = m * 4 + 0 from rfl, fcells_at _ cvs m _ _ HFQ.out.1 HCI.out 0 (by omega)]; rfl⟩
              have o1 : ∃ u, wr.cell? ⟨gf, m * 4 + 1, none⟩ = some u := ⟨_, by rw [hrw.cellAt _ (by omega), fcells_at _ cvs m _ _ HFQ.out.1 HCI.out 1 (by omega)]; rfl⟩
              have o2 : ∃ u, wr.cell? ⟨gf, m * 4 + 2, none⟩ = some u := ⟨_, by rw [hrw.cellAt _ (by omega), fcells_at _ cvs m _ _ HFQ.out.1 HCI.out 2 (by omega)]; rfl⟩
              obtain ⟨u0, o0⟩ := o0
              obtain ⟨u1, o1⟩ := o1
              obtain ⟨u2, o2⟩ := o2
              have f0 : wr.frozen? ⟨gf, m * 4, none⟩ = false := World.ownsRow.frozenAt hrw _
              have f1 : wr.frozen? ⟨gf, m * 4 + 1, none⟩ = false := World.ownsRow.frozenAt hrw _
              have f2 : wr.frozen? ⟨gf, m * 4 + 2, none⟩ = false := World.ownsRow.frozenAt hrw _
              have f3 : wr.frozen? ⟨gf, m * 4 + 3, none⟩ = false := World.ownsRow.frozenAt hrw _
              have HS2 := hid_of (HSK.out.fn hil)
              clear hrw HSK
              go_wp2
              go_roundw
              case rel => exact ⟨m + 1, _, _, by omega, by go_num, HS2⟩
              case measure => simp [intOf]; omega
        · have hnl : ¬ ((m : Int) < (nf : Int)) := by omega
          have HKE := hid_of HSK.out.kept
          clear HSK
          go_wp2
          try simp only [Exit.inBlock, Exit.then]
          refine bodyPost_end (results_none rfl _ _ _) rfl ?_
          exact ⟨⟨_, rfl⟩, HKE.out⟩
end Go.Proofs.Ytnjhnlohjhdcpab
