/-
  The reference's Encode by contract.
-/
import Derived.Test.YtcpkbajmilkhpabGreatDoorNrz
import Derived.Test.YtcpkbajmilkhpabGreatDoorNft
import Derived.Test.YtcpkbajmilkhpabGreatDoorNen
import Derived.Test.YtcpkbajmilkhpabGreatDoorNmw
import Derived.Laws.OwnMore
namespace Go.Proofs.YtcpkbajmilkhpabGreatDoor
open Go.RowKit
set_option linter.unusedVariables false
set_option linter.unusedSimpArgs false
set_option maxRecDepth 100000

theorem conv_back2 (w : World) (xs : List Int) (hx : ∀ x ∈ xs, 0 ≤ x ∧ x ≤ 255) : ∃ cp W', (convert 9 27 (.string (str xs))).run Tryz.prog w = .ok (.slice (some ⟨w.heap.size, 0, none⟩) xs.length cp) W' ∧ Kept (fun _ => False) w W' ∧ IsB W' (.slice (some ⟨w.heap.size, 0, none⟩) xs.length cp) xs ∧ ∃ cur f, W'.heap[w.heap.size]? = some (.cells cur 5 f) := by
  obtain ⟨cp, W', hr, hk, hib, _⟩ := conv_back w xs hx
  have h := run_bytes_of_string (P := Tryz.prog) w 9 27 5 (str xs) Tryz.underlying9 Tryz.underlying27 Tryz.underlying5
  have e := hr.symm.trans h
  injection e with e1 e2
  refine ⟨cp, W', hr, hk, hib, ?_⟩
  rw [e2]
  exact ⟨_, _, heap_alloc_new w.drew _⟩

theorem flat_len (its : List ItV) : (its.flatMap ItV.cells).length = its.length * 3 := by
  induction its with
  | nil => rfl
  | cons x l ih => rw [List.flatMap_cons, List.length_append, ih, List.length_cons]; simp [ItV.cells]; omega
theorem app_its (W : World) (v : Value) (base : Nat) (its new : List ItV) (hown : W.ownsRow base 58 3 v its.length (its.flatMap ItV.cells)) (hb : base ≤ W.heap.size) (hsz : (its.length + new.length) * 40 ≤ 140737488355328) (hone : ∀ x ∈ new, x.bv.oneCell' = true) :
    ∃ v' w', (Builtin.append_ #[59, 59] 59 #[v, .slice (some ⟨W.heap.size, 0, none⟩) new.length new.length]).run Tryz.prog (W.alloc (.cells (new.flatMap ItV.cells).toArray 58)) = .ok v' w' ∧ w'.ownsRow base 58 3 v' (its ++ new).length ((its ++ new).flatMap ItV.cells) ∧ Kept (fun k => v.ownBlock = some k) W w' := by
  obtain ⟨i0, hi, hz0, hz1, hz2⟩ := info_parts Tryz.info58
  obtain ⟨v', w', hr, h2, h3, _⟩ := run_append_own (P := Tryz.prog) (W.alloc (.cells (new.flatMap ItV.cells).toArray 58)) base 59 59 58 i0 _ 3 40 Tryz.underlying59 hi hz0 hz1 hz2 rfl (by decide) v its.length (its.flatMap ItV.cells) (hown.alloc _) ⟨W.heap.size, 0, none⟩ new.length new.length (new.flatMap ItV.cells) (flat_len new) (fun j u hj => by
    rw [Addr.add_lit, cell_block _ _ _ _ _ _ (heap_alloc_new W _), Nat.zero_add]
    simpa using hj) (fun u hu => by
    obtain ⟨x, hx, hu⟩ := List.mem_flatMap.1 hu
    simp [ItV.cells] at hu
    rcases hu with rfl | rfl | rfl
    · rfl
    · rfl
    · exact hone x hx) (by unfold maxLen; omega) hsz (by simp; omega)
  refine ⟨v', w', hr, by rw [List.length_append, List.flatMap_append]; exact h2, ?_⟩
  exact ((Kept.refl (fun k => v.ownBlock = some k) W).alloc _).grown h3 (fun k hk => .inr hk)

section
variable {P : Program} {ops : Array Oper} {o : Oper} {a : Act} {w : World} {K : Act → World → Prop} {Q : Exit → Act → World → Prop} {E : Prop}
theorem stp_app (hgd : o.guard = none) (s x : Operand) (t u : TypeId) (ho : o.op = .call { callee := .builtin .append, args := #[s, x], argTypes := #[t, u] }) (v bv : Value) (hs : a.eval s = v) (hx : a.eval x = bv) (v' : Value) (w' : World)
    (hr : (Builtin.append_ #[t, u] o.type #[v, bv]).run P w = .ok v' w') (h : K (a.put o.dst v') w') : if Region.wanted o (yielded ops a.tmps) = true then Oper.wp P o a w K Q else E := by
  have hw : Region.wanted o (yielded ops a.tmps) = true := by simp [Region.wanted, hgd]
  rw [if_pos hw]
  unfold Oper.wp execOp
  simp only [ho, resolve, invoke, builtin, Sem.run_bind, Sem.run_pure, Result.andThen_ok, List.map_toArray, List.map_cons, List.map_nil, hs, hx, hr]
  exact h
theorem stp_conv (hgd : o.guard = none) (x : Operand) (t u : TypeId) (ho : o.op = .convert t u x) (v : Value) (hx : a.eval x = v) (v' : Value) (w' : World)
    (hr : (convert t u v).run P w = .ok v' w') (h : K (a.put o.dst v') w') : if Region.wanted o (yielded ops a.tmps) = true then Oper.wp P o a w K Q else E := by
  have hw : Region.wanted o (yielded ops a.tmps) = true := by simp [Region.wanted, hgd]
  rw [if_pos hw]
  unfold Oper.wp execOp
  simp only [ho, hx, Sem.run_bind, Sem.run_pure, hr, Result.andThen_ok]
  exact h
end

/-- What holds of the things that are put. -/
structure EnJ (w wr : World) (tv : Value) (its : List ItV) : Prop where
  row : wr.ownsRow w.heap.size 58 3 tv its.length (its.flatMap ItV.cells)
  ok : ∀ x ∈ its, ItOk wr x
  typ : ∀ x ∈ its, ∀ g, x.bv.ownBlock = some g → ∃ cur f, wr.heap[g]? = some (.cells cur 5 f)
  kept : Kept (fun _ => False) w wr

theorem EnJ.other {w wr : World} {tv : Value} {its : List ItV} (h : EnJ w wr tv its) : ∀ x ∈ its, ∀ g, x.bv.ownBlock = some g → tv.ownBlock ≠ some g := by
  intro x hx g hg e
  obtain ⟨cur, f, hc⟩ := h.typ x hx g hg
  rcases h.row.2 with ⟨rfl, _⟩ | ⟨g', cap, cur', rfl, _, hg', _⟩
  · simp [Value.ownBlock] at e
  · have e' : g' = g := by simpa [Value.ownBlock] using e
    rw [e', hc] at hg'
    injection hg' with hg'
    injection hg' with h1 h2
    exact absurd h2 (by decide)
theorem EnJ.calm {w wr w' : World} {tv : Value} {its : List ItV} (h : EnJ w wr tv its) (hk : Kept (fun _ => False) wr w') : EnJ w w' tv its :=
  ⟨hk.ownsRow h.row (fun _ _ f => f), fun x hx => by
    obtain ⟨a, b, c, d, e, f⟩ := h.ok x hx
    exact ⟨a, b, c, d, e.kept hk (fun _ _ f => f), f⟩, fun x hx g hg => by
    obtain ⟨cur, f, hc⟩ := h.typ x hx g hg
    exact ⟨cur, f, (hk.block g (Array.getElem?_eq_some_iff.1 hc).1 (fun f => f)).trans hc⟩, h.kept.trans hk⟩
theorem EnJ.more {w wr w' : World} {tv tv' : Value} {its new : List ItV} (h : EnJ w wr tv its) (hn : ∀ x ∈ new, ItOk wr x) (ht : ∀ x ∈ new, ∀ g, x.bv.ownBlock = some g → ∃ cur f, wr.heap[g]? = some (.cells cur 5 f)) (hrow : w'.ownsRow w.heap.size 58 3 tv' (its ++ new).length ((its ++ new).flatMap ItV.cells)) (hk : Kept (fun k => tv.ownBlock = some k) wr w') : EnJ w w' tv' (its ++ new) := by
  have hall : ∀ x ∈ its ++ new, ItOk wr x ∧ (∀ g, x.bv.ownBlock = some g → tv.ownBlock ≠ some g) ∧ (∀ g, x.bv.ownBlock = some g → ∃ cur f, wr.heap[g]? = some (.cells cur 5 f)) := by
    intro x hx
    rcases List.mem_append.1 hx with hx | hx
    · exact ⟨h.ok x hx, h.other x hx, h.typ x hx⟩
    · refine ⟨hn x hx, fun g hg e => ?_, ht x hx⟩
      obtain ⟨cur, f, hc⟩ := ht x hx g hg
      rcases h.row.2 with ⟨rfl, _⟩ | ⟨g', cap, cur', rfl, _, hg', _⟩
      · simp [Value.ownBlock] at e
      · have e' : g' = g := by simpa [Value.ownBlock] using e
        rw [e', hc] at hg'
        injection hg' with hg'
        injection hg' with h1 h2
        exact absurd h2 (by decide)
  refine ⟨hrow, fun x hx => ?_, fun x hx g hg => ?_, h.kept.step hk (fun i hi e => ?_)⟩
  · obtain ⟨⟨a, b, c, d, e, f⟩, h2, _⟩ := hall x hx
    exact ⟨a, b, c, d, e.kept hk h2, f⟩
  · obtain ⟨_, h2, h3⟩ := hall x hx
    obtain ⟨cur, f, hc⟩ := h3 g hg
    exact ⟨cur, f, (hk.block g (Array.getElem?_eq_some_iff.1 hc).1 (h2 g hg)).trans hc⟩
  · exact absurd ((h.row.lt i e).1) (by omega)

def itN (n : Int) : ItV := ⟨1, n, .slice none 0 0, []⟩
theorem run_ent (its : List ItV) (y : EV) (nmv frv : Value) : run (its ++ [itN y.k, ⟨5, 0, nmv, y.nm⟩, ⟨4, 0, frv, y.fr⟩]) = (run its).ent y := by
  unfold run
  rw [List.foldl_append]
  rfl

set_option maxHeartbeats 4000000 in
theorem encode_ref (P : List Int → Bool) (HR : NameRC P) (h0 : P [] = false) (hP64 : ∀ nm, P nm = true → nm.length ≤ 64) (ao : Option Addr) (c : Nat) (ys : List EV) (w : World) (hv : RowE w (.slice ao ys.length c) ys) (hcap : ys.length ≤ c) (hcm : c ≤ 9223372036854775807) (hy : ∀ y ∈ ys, y.fr.length ≤ 32 ∧ endsZ y.fr = false) (hfb : ∀ y ∈ ys, ∀ x ∈ y.fr, 0 ≤ x ∧ x ≤ 255) (hb : ∀ y ∈ ys, (∀ x ∈ y.nm, 0 ≤ x ∧ x ≤ 255) ∧ y.nm.length ≤ 9223372036854775807) (hkr : ∀ y ∈ ys, -9223372036854775808 ≤ y.k ∧ y.k < 9223372036854775808) :
    Calls Tryz.prog 7 #[.slice ao ys.length c] w (EncR P ys w) := by
  have HC := hid_of (check_ref P HR h0 ao c ys w hv hcap hcm (fun y hy' => (hy y hy').1) hb)
  obtain ⟨n, hn⟩ : ∃ n, n = ys.length := ⟨_, rfl⟩
  have HN := hid_of hn
  have HV := hid_of hv
  have HY := hid_of hy
  have HFB := hid_of hfb
  have HB := hid_of hb
  have HKR := hid_of hkr
  by_cases hc0 : checkD P ys = 0
  · have HNL : Hid (∀ y ∈ ys, y.nm.length ≤ 64) := fun y hy => hP64 _ (goodE_each ys [] (checkD_zero hc0).2 y hy).2
    have hn4 : n ≤ 1024 := by have := (checkD_zero hc0).1; omega
    have HD : Hid (∀ e w', Kept (fun _ => False) w w' → (∃ v', e = .returned (.tuple #[v', .int .i64 (encS ys).err]) ∧ w'.ownsRow w.heap.size 5 1 v' (encS ys).bytes.length ((encS ys).bytes.map (Value.int .u8))) → EncR P ys w e w') := fun e w' h1 h2 => ⟨h1, by rw [if_pos hc0]; exact h2⟩
    rw [hc0] at HC
    rw [← hn] at HC ⊢
    clear hv hy hb hkr hfb hn hc0 HR h0 hP64
    go_enter Tryz.func7, Tryz.ntmps7
    go_wp2_with fail
    refine HC.out.mono ?_
    rintro e w1 ⟨rfl, hk1⟩
    have HJ : Hid (EnJ w1 (w1.alloc (.cells #[.int .i64 1, .int .i64 1, .slice none 0 0, .int .i64 1, .int .i64 (n : Int), .slice none 0 0] 58)) (.slice (some ⟨w1.heap.size, 0, none⟩) 2 2) [itN 1, itN n]) := by
      refine ⟨World.ownsRow_lit w1 _ 2 (Nat.le_refl _) (by unfold maxLen; omega) rfl, fun x hx => ?_, fun x hx g hg => ?_, (Kept.refl _ _).alloc _⟩
      · simp at hx
        rcases hx with rfl | rfl
        · exact ⟨by decide, by decide, by decide, by decide, .inl ⟨rfl, _, _, rfl⟩, by simp [itN], by simp [itN]⟩
        · exact ⟨by simp [itN], by simp [itN], by show (-9223372036854775808 : Int) ≤ (n : Int); omega, by show (n : Int) < 9223372036854775808; omega, .inl ⟨rfl, _, _, rfl⟩, by simp [itN], by simp [itN]⟩
      · simp at hx
        rcases hx with rfl | rfl <;> simp [itN, Value.ownBlock] at hg
    have HK1 := hid_of hk1
    clear hk1 HC
    have HEN : Hid (encS ys = (run [itN 1, itN n]).ents ys) := by unfold Hid encS; rw [HN.out]; rfl
    go_upto_region 5 with fail
    generalize w1.alloc (.cells _ 58) = w2 at *
    go_wp2
    go_loopw [5, 6] (fun tv iv wr => ∃ (i : Nat) (its : List ItV), i ≤ n ∧ iv = .int .i64 i ∧ its.length = 2 + 3 * i ∧ EnJ w1 wr tv its ∧ run its = (run [itN 1, itN n]).ents (ys.take i)) (fun _ iv _ => n - (intOf iv).toNat)
    case atStart => exact ⟨0, _, by omega, rfl, rfl, HJ.out, rfl⟩
    case round =>
      obtain ⟨i, its, hi, rfl, hil, hJ, hrun⟩ := hrel
      clear HJ
      by_cases hlt : i < n
      · have hltI : (i : Int) < (n : Int) := by omega
        have hi0 : (0 : Int) ≤ (i : Int) := by omega
        have hly : i < ys.length := by rw [← HN.out]; exact hlt
        obtain ⟨y, hyi⟩ : ∃ y, ys[i]? = some y := ⟨_, List.getElem?_eq_getElem hly⟩
        obtain ⟨hy32, hyz⟩ := HY.out y (List.mem_of_getElem? hyi)
        have hfrb := HFB.out y (List.mem_of_getElem? hyi)
        have hnb := (HB.out y (List.mem_of_getElem? hyi)).1
        have hnl := HNL.out y (List.mem_of_getElem? hyi)
        obtain ⟨hk0, hk9⟩ := HKR.out y (List.mem_of_getElem? hyi)
        have hst : (run [itN 1, itN n]).ents (ys.take (i + 1)) = (run its).ent y := by
          rw [hrun, List.take_add_one, hyi]
          exact St.ents_snoc _ _ _
        obtain ⟨g, o, e1, r1⟩ : ∃ g o, ao = some ⟨g, o, none⟩ ∧ w.rangeAt g (o + i * 34) y.cells := by
          rcases HV.out with ⟨e, _⟩ | ⟨g, o, c2, e, hc⟩
          · rw [e] at hly; simp at hly
          · cases e; exact ⟨g, o, rfl, hc i y hyi⟩
        subst e1
        have hdl := y.dig_len hy32
        have HR1 : Hid (∀ W, Kept (fun _ => False) w W → W.cell? ⟨g, o + i * 34, none⟩ = some (.string (str y.nm)) ∧ W.cell? ⟨g, o + i * 34 + 1, none⟩ = some (.int .i64 y.k) ∧ W.rangeAt g (o + i * 34 + 2) (y.dig.map (Value.int .u8))) := fun W hW => by
          refine ⟨hW.cell (by have := r1 0 (.string (str y.nm)) rfl; rwa [Nat.add_zero] at this) (fun f => f), hW.cell (r1 1 (.int .i64 y.k) rfl) (fun f => f), fun j u hj => hW.cell ?_ (fun f => f)⟩
          have := r1 (j + 2) u (by rw [EV.cells_dig, List.getElem?_cons_succ, List.getElem?_cons_succ]; exact hj)
          rw [show o + i * 34 + 2 + j = o + i * 34 + (j + 2) by omega]
          exact this
        have hs45 : (Tryz.prog.info? 39).map (·.size) = some (y.dig.map (Value.int .u8)).length := by rw [size45, List.length_map, hdl]
        have HKW : Hid (Kept (fun _ => False) w wr.drew) := (HK1.out.trans hJ.kept).drew
        have HJJ := hid_of hJ
        have HST := hid_of hst
        have HNB := hid_of hnb
        have HFR := hid_of hfrb
        clear hst hrun hyi hly r1 hJ hnb hfrb
        go_upto_region 8 with fail
        refine wp_region_held_drew (S := fun w' => Kept (fun k => u5.ownBlock = some k) wr w' ∧ (w'.cell? ⟨g, o + i * 34, none⟩ = some (.string (str y.nm)) ∧ w'.cell? ⟨g, o + i * 34 + 1, none⟩ = some (.int .i64 y.k) ∧ w'.rangeAt g (o + i * 34 + 2) (y.dig.map (Value.int .u8)))) (by kernel_rfl) ⟨(Kept.refl _ _).drew, HR1.out _ HKW.out⟩ (fun hHeld => ?_)
        refine wpAnyH_take (i := 0) (v := ?_) rfl (by kernel_rfl) (by kernel_rfl) (by kernel_rfl) (fun _ _ _ h => h) (Or.inl ⟨by rfl, ?_⟩) (by assumption) ?_
        rotate_left 1
        · intro w hSw
          go_simp
          try with_reducible rfl
        try simp only [Act.put, List.getElem_toArray, List.getElem_cons_zero, List.getElem_cons_succ, List.setIfInBounds_toArray, List.set_cons_zero, List.set_cons_succ]
        refine wpAnyH_take (i := 1) (v := ?_) rfl (by kernel_rfl) (by kernel_rfl) (by kernel_rfl) (fun _ _ _ h => h) (Or.inl ⟨by rfl, ?_⟩) (by assumption) ?_
        rotate_left 1
        · intro w hSw
          go_simp
          try with_reducible rfl
        try simp only [Act.put, List.getElem_toArray, List.getElem_cons_zero, List.getElem_cons_succ, List.setIfInBounds_toArray, List.set_cons_zero, List.set_cons_succ]
        refine wpAnyH_take (i := 2) (v := ?_) rfl (by kernel_rfl) (by kernel_rfl) (by kernel_rfl) (fun _ _ _ h => h) (Or.inl ⟨by rfl, ?_⟩) (by assumption) ?_
        rotate_left 1
        · intro w hSw
          go_simp
          try with_reducible rfl
        try simp only [Act.put, List.getElem_toArray, List.getElem_cons_zero, List.getElem_cons_succ, List.setIfInBounds_toArray, List.set_cons_zero, List.set_cons_succ]
        refine wpAnyH_take (i := 3) (v := ?_) rfl (by kernel_rfl) (by kernel_rfl) (by kernel_rfl) (fun _ _ _ h => h) (Or.inl ⟨by rfl, ?_⟩) (by assumption) ?_
        rotate_left 1
        · intro w hSw
          go_simp
          try with_reducible rfl
        try simp only [Act.put, List.getElem_toArray, List.getElem_cons_zero, List.getElem_cons_succ, List.setIfInBounds_toArray, List.set_cons_zero, List.set_cons_succ]
        refine wpAnyH_take (i := 4) (v := ?_) rfl (by kernel_rfl) (by kernel_rfl) (by kernel_rfl) (fun _ _ _ h => h) (Or.inl ⟨by rfl, ?_⟩) (by assumption) ?_
        rotate_left 1
        · intro w hSw
          go_simp
          try with_reducible rfl
        try simp only [Act.put, List.getElem_toArray, List.getElem_cons_zero, List.getElem_cons_succ, List.setIfInBounds_toArray, List.set_cons_zero, List.set_cons_succ]
        refine wpAnyH_take (i := 5) (v := ?_) rfl (by kernel_rfl) (by kernel_rfl) (by kernel_rfl) (fun _ _ _ h => h) (Or.inl ⟨by rfl, ?_⟩) (by assumption) ?_
        rotate_left 1
        · intro w hSw
          obtain ⟨_, hS0, hS1, _⟩ := hSw
          go_simp
          try with_reducible rfl
        try simp only [Act.put, List.getElem_toArray, List.getElem_cons_zero, List.getElem_cons_succ, List.setIfInBounds_toArray, List.set_cons_zero, List.set_cons_succ]
        refine wpAnyH_take (i := 6) (v := ?_) rfl (by kernel_rfl) (by kernel_rfl) (by kernel_rfl) (fun _ _ _ h => h) (Or.inl ⟨by rfl, ?_⟩) (by assumption) ?_
        rotate_left 1
        · intro w hSw
          go_simp
          try with_reducible rfl
        try simp only [Act.put, List.getElem_toArray, List.getElem_cons_zero, List.getElem_cons_succ, List.setIfInBounds_toArray, List.set_cons_zero, List.set_cons_succ]
        refine wpAnyH_take (i := 7) (v := ?_) rfl (by kernel_rfl) (by kernel_rfl) (by kernel_rfl) (fun _ _ _ h => h) (Or.inl ⟨by rfl, ?_⟩) (by assumption) ?_
        rotate_left 1
        · intro w hSw
          go_simp
          try with_reducible rfl
        try simp only [Act.put, List.getElem_toArray, List.getElem_cons_zero, List.getElem_cons_succ, List.setIfInBounds_toArray, List.set_cons_zero, List.set_cons_succ]
        refine wpAnyH_take (i := 8) (v := ?_) rfl (by kernel_rfl) (by kernel_rfl) (by kernel_rfl) (fun _ _ _ h => h) (Or.inl ⟨by rfl, ?_⟩) (by assumption) ?_
        rotate_left 1
        · intro w hSw
          go_simp
          try with_reducible rfl
        try simp only [Act.put, List.getElem_toArray, List.getElem_cons_zero, List.getElem_cons_succ, List.setIfInBounds_toArray, List.set_cons_zero, List.set_cons_succ]
        refine wpAnyH_take (i := 9) (v := ?_) rfl (by kernel_rfl) (by kernel_rfl) (by kernel_rfl) (fun _ _ _ h => h) (Or.inl ⟨by rfl, ?_⟩) (by assumption) ?_
        rotate_left 1
        · intro w hSw
          go_simp
          try with_reducible rfl
        try simp only [Act.put, List.getElem_toArray, List.getElem_cons_zero, List.getElem_cons_succ, List.setIfInBounds_toArray, List.set_cons_zero, List.set_cons_succ]
        refine wpAnyH_take (i := 10) (v := ?_) rfl (by kernel_rfl) (by kernel_rfl) (by kernel_rfl) (fun _ _ _ h => h) (Or.inl ⟨by rfl, ?_⟩) (by assumption) ?_
        rotate_left 1
        · intro w hSw
          go_simp
          try with_reducible rfl
        try simp only [Act.put, List.getElem_toArray, List.getElem_cons_zero, List.getElem_cons_succ, List.setIfInBounds_toArray, List.set_cons_zero, List.set_cons_succ]
        refine wpAnyH_take (i := 11) (v := ?_) rfl (by kernel_rfl) (by kernel_rfl) (by kernel_rfl) (fun _ _ _ h => h) (Or.inl ⟨by rfl, ?_⟩) (by assumption) ?_
        rotate_left 1
        · intro w hSw
          obtain ⟨_, hS0, hS1, _⟩ := hSw
          go_simp
          try with_reducible rfl
        try simp only [Act.put, List.getElem_toArray, List.getElem_cons_zero, List.getElem_cons_succ, List.setIfInBounds_toArray, List.set_cons_zero, List.set_cons_succ]
        refine wpAnyH_take (i := 14) (v := ?_) rfl (by kernel_rfl) (by kernel_rfl) (by kernel_rfl) (fun _ _ _ h => h) (Or.inl ⟨by rfl, ?_⟩) (by assumption) ?_
        rotate_left 1
        · intro w hSw
          go_simp
          try with_reducible rfl
        try simp only [Act.put, List.getElem_toArray, List.getElem_cons_zero, List.getElem_cons_succ, List.setIfInBounds_toArray, List.set_cons_zero, List.set_cons_succ]
        refine wpAnyH_take (i := 15) (v := ?_) rfl (by kernel_rfl) (by kernel_rfl) (by kernel_rfl) (fun _ _ _ h => h) (Or.inl ⟨by rfl, ?_⟩) (by assumption) ?_
        rotate_left 1
        · intro w hSw
          go_simp
          try with_reducible rfl
        try simp only [Act.put, List.getElem_toArray, List.getElem_cons_zero, List.getElem_cons_succ, List.setIfInBounds_toArray, List.set_cons_zero, List.set_cons_succ]
        refine wpAnyH_take (i := 16) (v := ?_) rfl (by kernel_rfl) (by kernel_rfl) (by kernel_rfl) (fun _ _ _ h => h) (Or.inl ⟨by rfl, ?_⟩) (by assumption) ?_
        rotate_left 1
        · intro w hSw
          go_simp
          try with_reducible rfl
        try simp only [Act.put, List.getElem_toArray, List.getElem_cons_zero, List.getElem_cons_succ, List.setIfInBounds_toArray, List.set_cons_zero, List.set_cons_succ]
        refine wpAnyH_take (i := 17) (v := ?_) rfl (by kernel_rfl) (by kernel_rfl) (by kernel_rfl) (fun _ _ _ h => h) (Or.inl ⟨by rfl, ?_⟩) (by assumption) ?_
        rotate_left 1
        · intro w hSw
          go_simp
          try with_reducible rfl
        try simp only [Act.put, List.getElem_toArray, List.getElem_cons_zero, List.getElem_cons_succ, List.setIfInBounds_toArray, List.set_cons_zero, List.set_cons_succ]
        refine wpAnyH_take (i := 18) (v := .agg (y.dig.map (Value.int .u8)).toArray) rfl (by kernel_rfl) (by kernel_rfl) (by kernel_rfl) (fun _ _ _ h => h) (yieldsIf_load_mid (by rfl) 39 _ rfl g (o + i * 34 + 2) rfl (y.dig.map (Value.int .u8)) _ (fun W hW => hW.2.2.2) Tryz.underlying39 rfl hs45) (by assumption) ?_
        try simp only [Act.put, List.getElem_toArray, List.getElem_cons_zero, List.getElem_cons_succ, List.setIfInBounds_toArray, List.set_cons_zero, List.set_cons_succ]
        refine wpAnyH_ready (rs := [12, 19]) (by kernel_rfl) (by simp) ?_
        refine AllReadyH.cons rfl (fun K hK => ?_) (AllReadyH.cons rfl (fun K hK => ?_) AllReadyH.nil)
        · obtain ⟨cp, wc, hrc, hkc, hibc, htyc⟩ := conv_back2 wr.drew y.nm HNB.out
          refine stp_conv rfl _ 9 27 rfl _ rfl _ _ hrc ?_
          have HCwc : Hid (Kept (fun _ => False) wr.drew wc) := hkc
          refine hK.out _ _ ⟨(Kept.refl _ _).drew.trans (HCwc.out.mono (fun _ _ f => f.elim)), HR1.out _ (HKW.out.trans HCwc.out)⟩ (fun hHeld => ?_)
          clear hK K hrc hkc
          try simp only [Act.put, List.getElem_toArray, List.getElem_cons_zero, List.getElem_cons_succ, List.setIfInBounds_toArray, List.set_cons_zero, List.set_cons_succ]
          refine wpAnyH_take (i := 13) (v := ?_) rfl (by kernel_rfl) (by kernel_rfl) (by kernel_rfl) (fun _ _ _ h => h) (Or.inl ⟨by rfl, ?_⟩) (by assumption) ?_
          rotate_left 1
          · intro w hSw
            go_simp
            try with_reducible rfl
          try simp only [Act.put, List.getElem_toArray, List.getElem_cons_zero, List.getElem_cons_succ, List.setIfInBounds_toArray, List.set_cons_zero, List.set_cons_succ]
          refine wpAnyH_ready (rs := [19]) (by kernel_rfl) (by simp) ?_
          refine AllReadyH.cons rfl (fun K hK => ?_) AllReadyH.nil
          go_simp
          refine (front_ref y wc hy32 hyz).mono ?_
          rintro e wd ⟨frv, rfl, hof, hkf⟩
          obtain ⟨fo, fc, hfv⟩ := (isB_own hof).shape
          subst hfv
          have HCwd : Hid (Kept (fun _ => False) wr.drew wd) := HCwc.out.trans hkf
          have HIN : Hid (IsB wd (.slice (some ⟨wr.drew.heap.size, 0, none⟩) y.nm.length cp) y.nm) := hibc.kept hkf (fun _ _ f => f)
          have HTN : Hid (∀ g, (Value.slice (some ⟨wr.drew.heap.size, 0, none⟩) y.nm.length cp).ownBlock = some g → ∃ cur f, wd.heap[g]? = some (.cells cur 5 f)) := fun g hg => by
            have e : wr.drew.heap.size = g := by simpa [Value.ownBlock] using hg
            obtain ⟨cur, f, hc⟩ := htyc
            rw [← e]
            exact ⟨cur, f, (hkf.block _ (Array.getElem?_eq_some_iff.1 hc).1 (fun f => f)).trans hc⟩
          have HIF := hid_of hof
          have HTF : Hid (∀ g, (Value.slice fo y.fr.length fc).ownBlock = some g → ∃ cur f, wd.heap[g]? = some (.cells cur 5 f)) := fun g hg => by
            rcases hof.2 with ⟨e0, _⟩ | ⟨g', cap, cur, e0, _, hg', _⟩
            · rw [e0] at hg; simp [Value.ownBlock] at hg
            · rw [e0] at hg
              have e : g' = g := by simpa [Value.ownBlock] using hg
              rw [← e]
              exact ⟨cur, _, hg'⟩
          refine hK.out _ _ ⟨(Kept.refl _ _).drew.trans (HCwd.out.mono (fun _ _ f => f.elim)), HR1.out _ (HKW.out.trans HCwd.out)⟩ (fun hHeld => ?_)
          clear hK K hof hkf hibc htyc
          try simp only [Act.put, List.getElem_toArray, List.getElem_cons_zero, List.getElem_cons_succ, List.setIfInBounds_toArray, List.set_cons_zero, List.set_cons_succ]
          refine wpAnyH_take (i := 20) (v := ?_) rfl (by kernel_rfl) (by kernel_rfl) (by kernel_rfl) (fun _ _ _ h => h) (Or.inl ⟨by rfl, ?_⟩) (by assumption) ?_
          rotate_left 1
          · intro w hSw
            go_simp
            try with_reducible rfl
          try simp only [Act.put, List.getElem_toArray, List.getElem_cons_zero, List.getElem_cons_succ, List.setIfInBounds_toArray, List.set_cons_zero, List.set_cons_succ]
          have hJ2 := HJJ.out.calm ((Kept.refl (fun _ => False) wr).drew.trans HCwd.out)
          have hone : ∀ x ∈ [itN y.k, ⟨5, 0, .slice (some ⟨wr.drew.heap.size, 0, none⟩) y.nm.length cp, y.nm⟩, ⟨4, 0, .slice fo y.fr.length fc, y.fr⟩], x.bv.oneCell' = true := by
            intro x hx
            simp at hx
            rcases hx with rfl | rfl | rfl
            · rfl
            · rfl
            · rfl
          obtain ⟨v8, w8, hr8, ho8, hk8⟩ := app_its wd u5 w1.heap.size its [itN y.k, ⟨5, 0, .slice (some ⟨wr.drew.heap.size, 0, none⟩) y.nm.length cp, y.nm⟩, ⟨4, 0, .slice fo y.fr.length fc, y.fr⟩] hJ2.row hJ2.kept.size (by simp; omega) hone
          have HREL : Hid (EnJ w1 w8 v8 (its ++ [itN y.k, ⟨5, 0, .slice (some ⟨wr.drew.heap.size, 0, none⟩) y.nm.length cp, y.nm⟩, ⟨4, 0, .slice fo y.fr.length fc, y.fr⟩])) := hJ2.more (fun x hx => by
            simp at hx
            rcases hx with rfl | rfl | rfl
            · exact ⟨show (1 : Int) ≤ 1 by decide, show (1 : Int) ≤ 6 by decide, hk0, hk9, .inl ⟨rfl, _, _, rfl⟩, by simp [itN], by simp [itN]⟩
            · exact ⟨show (1 : Int) ≤ 5 by decide, show (5 : Int) ≤ 6 by decide, show (-9223372036854775808 : Int) ≤ 0 by decide, show (0 : Int) < 9223372036854775808 by decide, HIN.out, HNB.out, by show y.nm.length ≤ 65536; omega⟩
            · exact ⟨show (1 : Int) ≤ 4 by decide, show (4 : Int) ≤ 6 by decide, show (-9223372036854775808 : Int) ≤ 0 by decide, show (0 : Int) < 9223372036854775808 by decide, (isB_own HIF.out), HFR.out, by show y.fr.length ≤ 65536; omega⟩) (fun x hx g hg => by
            simp at hx
            rcases hx with rfl | rfl | rfl
            · simp [itN, Value.ownBlock] at hg
            · exact HTN.out g hg
            · exact HTF.out g hg) ho8 hk8
          have HR8 := hid_of hr8
          have HK8 : Hid (Kept (fun k => u5.ownBlock = some k) wr w8) := (((Kept.refl _ _).drew.trans (HCwd.out.mono (fun _ _ f => f.elim))).trans hk8)
          have hown := HJJ.out.row.lt
          have HKW8 : Hid (Kept (fun _ => False) w w8) := (HKW.out.trans HCwd.out).step hk8 (fun k hk e => by have h1 := (hown k e).1; have h2 := HK1.out.size; omega)
          clear hr8 ho8 hk8 hJ2 hone hown
          refine wpAnyH_ready (rs := [21]) (by kernel_rfl) (by simp) ?_
          refine AllReadyH.cons rfl (fun K hK => ?_) AllReadyH.nil
          go_simp
          refine hK.out _ _ ⟨((Kept.refl _ _).drew.trans (HCwd.out.mono (fun _ _ f => f.elim))).alloc _, HR1.out _ ((HKW.out.trans HCwd.out).alloc _)⟩ (fun hHeld => ?_)
          clear hK K
          try simp only [Act.put, List.getElem_toArray, List.getElem_cons_zero, List.getElem_cons_succ, List.setIfInBounds_toArray, List.set_cons_zero, List.set_cons_succ]
          refine wpAnyH_ready (rs := [22]) (by kernel_rfl) (by simp) ?_
          refine AllReadyH.cons rfl (fun K hK => ?_) AllReadyH.nil
          refine stp_app rfl (.tmp 23) (.tmp 44) 59 59 rfl _ _ rfl rfl v8 w8 HR8.out ?_
          refine hK.out _ _ ⟨HK8.out, HR1.out _ HKW8.out⟩ (fun hHeld => ?_)
          clear hK K
          try simp only [Act.put, List.getElem_toArray, List.getElem_cons_zero, List.getElem_cons_succ, List.setIfInBounds_toArray, List.set_cons_zero, List.set_cons_succ]
          refine wpAnyH_take (i := 23) (v := ?_) rfl (by kernel_rfl) (by kernel_rfl) (by kernel_rfl) (fun _ _ _ h => h) (Or.inl ⟨by rfl, ?_⟩) (by assumption) ?_
          rotate_left 1
          · intro w hSw
            go_simp
            try with_reducible rfl
          try simp only [Act.put, List.getElem_toArray, List.getElem_cons_zero, List.getElem_cons_succ, List.setIfInBounds_toArray, List.set_cons_zero, List.set_cons_succ]
          refine wpAnyH_done (by kernel_rfl) ?_ _
          have HRUN : Hid (run (its ++ [itN y.k, ⟨5, 0, .slice (some ⟨wr.drew.heap.size, 0, none⟩) y.nm.length cp, y.nm⟩, ⟨4, 0, .slice fo y.fr.length fc, y.fr⟩]) = (run [itN 1, itN n]).ents (ys.take (i + 1))) := by unfold Hid; rw [run_ent, HST.out]
          have hll : (its ++ [itN y.k, ⟨5, 0, .slice (some ⟨wr.drew.heap.size, 0, none⟩) y.nm.length cp, y.nm⟩, ⟨4, 0, .slice fo y.fr.length fc, y.fr⟩]).length = 2 + 3 * (i + 1) := by rw [List.length_append, hil]; simp; omega
          clear HR8 HK8 HKW8 hHeld
          go_wp2
          go_roundw
          case rel => exact ⟨i + 1, _, by omega, by go_num, hll, HREL.out, HRUN.out⟩
          case measure => simp [intOf]; omega
        · go_simp
          refine (front_ref y wr.drew hy32 hyz).mono ?_
          rintro e wc ⟨frv, rfl, hof, hkf⟩
          obtain ⟨fo, fc, hfv⟩ := (isB_own hof).shape
          subst hfv
          have HCwc : Hid (Kept (fun _ => False) wr.drew wc) := hkf
          have HIF0 := hid_of hof
          refine hK.out _ _ ⟨(Kept.refl _ _).drew.trans (HCwc.out.mono (fun _ _ f => f.elim)), HR1.out _ (HKW.out.trans HCwc.out)⟩ (fun hHeld => ?_)
          clear hK K hof hkf
          try simp only [Act.put, List.getElem_toArray, List.getElem_cons_zero, List.getElem_cons_succ, List.setIfInBounds_toArray, List.set_cons_zero, List.set_cons_succ]
          refine wpAnyH_take (i := 20) (v := ?_) rfl (by kernel_rfl) (by kernel_rfl) (by kernel_rfl) (fun _ _ _ h => h) (Or.inl ⟨by rfl, ?_⟩) (by assumption) ?_
          rotate_left 1
          · intro w hSw
            go_simp
            try with_reducible rfl
          try simp only [Act.put, List.getElem_toArray, List.getElem_cons_zero, List.getElem_cons_succ, List.setIfInBounds_toArray, List.set_cons_zero, List.set_cons_succ]
          refine wpAnyH_ready (rs := [12]) (by kernel_rfl) (by simp) ?_
          refine AllReadyH.cons rfl (fun K hK => ?_) AllReadyH.nil
          obtain ⟨cp, wd, hrc, hkc, hibc, htyc⟩ := conv_back2 wc y.nm HNB.out
          refine stp_conv rfl _ 9 27 rfl _ rfl _ _ hrc ?_
          have HCwd : Hid (Kept (fun _ => False) wr.drew wd) := HCwc.out.trans hkc
          have HIN := hid_of hibc
          have HTN : Hid (∀ g, (Value.slice (some ⟨wc.heap.size, 0, none⟩) y.nm.length cp).ownBlock = some g → ∃ cur f, wd.heap[g]? = some (.cells cur 5 f)) := fun g hg => by
            have e : wc.heap.size = g := by simpa [Value.ownBlock] using hg
            rw [← e]
            exact htyc
          have HIF : Hid (wd.ownsRow wr.drew.heap.size 5 1 (.slice fo y.fr.length fc) y.fr.length (y.fr.map (Value.int .u8))) := hkc.ownsRow HIF0.out (fun _ _ f => f)
          have HTF : Hid (∀ g, (Value.slice fo y.fr.length fc).ownBlock = some g → ∃ cur f, wd.heap[g]? = some (.cells cur 5 f)) := fun g hg => by
            rcases HIF.out.2 with ⟨e0, _⟩ | ⟨g', cap, cur, e0, _, hg', _⟩
            · rw [e0] at hg; simp [Value.ownBlock] at hg
            · rw [e0] at hg
              have e : g' = g := by simpa [Value.ownBlock] using hg
              rw [← e]
              exact ⟨cur, _, hg'⟩
          refine hK.out _ _ ⟨(Kept.refl _ _).drew.trans (HCwd.out.mono (fun _ _ f => f.elim)), HR1.out _ (HKW.out.trans HCwd.out)⟩ (fun hHeld => ?_)
          clear hK K hrc hkc hibc htyc
          try simp only [Act.put, List.getElem_toArray, List.getElem_cons_zero, List.getElem_cons_succ, List.setIfInBounds_toArray, List.set_cons_zero, List.set_cons_succ]
          refine wpAnyH_take (i := 13) (v := ?_) rfl (by kernel_rfl) (by kernel_rfl) (by kernel_rfl) (fun _ _ _ h => h) (Or.inl ⟨by rfl, ?_⟩) (by assumption) ?_
          rotate_left 1
          · intro w hSw
            go_simp
            try with_reducible rfl
          try simp only [Act.put, List.getElem_toArray, List.getElem_cons_zero, List.getElem_cons_succ, List.setIfInBounds_toArray, List.set_cons_zero, List.set_cons_succ]
          have hJ2 := HJJ.out.calm ((Kept.refl (fun _ => False) wr).drew.trans HCwd.out)
          have hone : ∀ x ∈ [itN y.k, ⟨5, 0, .slice (some ⟨wc.heap.size, 0, none⟩) y.nm.length cp, y.nm⟩, ⟨4, 0, .slice fo y.fr.length fc, y.fr⟩], x.bv.oneCell' = true := by
            intro x hx
            simp at hx
            rcases hx with rfl | rfl | rfl
            · rfl
            · rfl
            · rfl
          obtain ⟨v8, w8, hr8, ho8, hk8⟩ := app_its wd u5 w1.heap.size its [itN y.k, ⟨5, 0, .slice (some ⟨wc.heap.size, 0, none⟩) y.nm.length cp, y.nm⟩, ⟨4, 0, .slice fo y.fr.length fc, y.fr⟩] hJ2.row hJ2.kept.size (by simp; omega) hone
          have HREL : Hid (EnJ w1 w8 v8 (its ++ [itN y.k, ⟨5, 0, .slice (some ⟨wc.heap.size, 0, none⟩) y.nm.length cp, y.nm⟩, ⟨4, 0, .slice fo y.fr.length fc, y.fr⟩])) := hJ2.more (fun x hx => by
            simp at hx
            rcases hx with rfl | rfl | rfl
            · exact ⟨show (1 : Int) ≤ 1 by decide, show (1 : Int) ≤ 6 by decide, hk0, hk9, .inl ⟨rfl, _, _, rfl⟩, by simp [itN], by simp [itN]⟩
            · exact ⟨show (1 : Int) ≤ 5 by decide, show (5 : Int) ≤ 6 by decide, show (-9223372036854775808 : Int) ≤ 0 by decide, show (0 : Int) < 9223372036854775808 by decide, HIN.out, HNB.out, by show y.nm.length ≤ 65536; omega⟩
            · exact ⟨show (1 : Int) ≤ 4 by decide, show (4 : Int) ≤ 6 by decide, show (-9223372036854775808 : Int) ≤ 0 by decide, show (0 : Int) < 9223372036854775808 by decide, (isB_own HIF.out), HFR.out, by show y.fr.length ≤ 65536; omega⟩) (fun x hx g hg => by
            simp at hx
            rcases hx with rfl | rfl | rfl
            · simp [itN, Value.ownBlock] at hg
            · exact HTN.out g hg
            · exact HTF.out g hg) ho8 hk8
          have HR8 := hid_of hr8
          have HK8 : Hid (Kept (fun k => u5.ownBlock = some k) wr w8) := (((Kept.refl _ _).drew.trans (HCwd.out.mono (fun _ _ f => f.elim))).trans hk8)
          have hown := HJJ.out.row.lt
          have HKW8 : Hid (Kept (fun _ => False) w w8) := (HKW.out.trans HCwd.out).step hk8 (fun k hk e => by have h1 := (hown k e).1; have h2 := HK1.out.size; omega)
          clear hr8 ho8 hk8 hJ2 hone hown
          refine wpAnyH_ready (rs := [21]) (by kernel_rfl) (by simp) ?_
          refine AllReadyH.cons rfl (fun K hK => ?_) AllReadyH.nil
          go_simp
          refine hK.out _ _ ⟨((Kept.refl _ _).drew.trans (HCwd.out.mono (fun _ _ f => f.elim))).alloc _, HR1.out _ ((HKW.out.trans HCwd.out).alloc _)⟩ (fun hHeld => ?_)
          clear hK K
          try simp only [Act.put, List.getElem_toArray, List.getElem_cons_zero, List.getElem_cons_succ, List.setIfInBounds_toArray, List.set_cons_zero, List.set_cons_succ]
          refine wpAnyH_ready (rs := [22]) (by kernel_rfl) (by simp) ?_
          refine AllReadyH.cons rfl (fun K hK => ?_) AllReadyH.nil
          refine stp_app rfl (.tmp 23) (.tmp 44) 59 59 rfl _ _ rfl rfl v8 w8 HR8.out ?_
          refine hK.out _ _ ⟨HK8.out, HR1.out _ HKW8.out⟩ (fun hHeld => ?_)
          clear hK K
          try simp only [Act.put, List.getElem_toArray, List.getElem_cons_zero, List.getElem_cons_succ, List.setIfInBounds_toArray, List.set_cons_zero, List.set_cons_succ]
          refine wpAnyH_take (i := 23) (v := ?_) rfl (by kernel_rfl) (by kernel_rfl) (by kernel_rfl) (fun _ _ _ h => h) (Or.inl ⟨by rfl, ?_⟩) (by assumption) ?_
          rotate_left 1
          · intro w hSw
            go_simp
            try with_reducible rfl
          try simp only [Act.put, List.getElem_toArray, List.getElem_cons_zero, List.getElem_cons_succ, List.setIfInBounds_toArray, List.set_cons_zero, List.set_cons_succ]
          refine wpAnyH_done (by kernel_rfl) ?_ _
          have HRUN : Hid (run (its ++ [itN y.k, ⟨5, 0, .slice (some ⟨wc.heap.size, 0, none⟩) y.nm.length cp, y.nm⟩, ⟨4, 0, .slice fo y.fr.length fc, y.fr⟩]) = (run [itN 1, itN n]).ents (ys.take (i + 1))) := by unfold Hid; rw [run_ent, HST.out]
          have hll : (its ++ [itN y.k, ⟨5, 0, .slice (some ⟨wc.heap.size, 0, none⟩) y.nm.length cp, y.nm⟩, ⟨4, 0, .slice fo y.fr.length fc, y.fr⟩]).length = 2 + 3 * (i + 1) := by rw [List.length_append, hil]; simp; omega
          clear HR8 HK8 HKW8 hHeld
          go_wp2
          go_roundw
          case rel => exact ⟨i + 1, _, by omega, by go_num, hll, HREL.out, HRUN.out⟩
          case measure => simp [intOf]; omega
      · have hnl : ¬ ((i : Int) < (n : Int)) := by omega
        have hie : i = n := by omega
        subst hie
        rw [List.take_of_length_le (by rw [HN.out]; exact Nat.le_refl _), ← HEN.out] at hrun
        have hDN := rdone_row u5 its wr (by omega) (World.ownsRow.mono hJ.row (Nat.zero_le _)) (fun k hk => hJ.ok _ (by rw [List.getD, List.getElem?_eq_getElem hk]; exact List.getElem_mem hk))
        rw [hrun] at hDN
        have HDN := hid_of hDN
        have HKE := hid_of (HK1.out.trans hJ.kept)
        have hs1 : w.heap.size ≤ wr.heap.size := HKE.out.size
        clear hJ hDN hrun
        go_wp2_with fail
        refine HDN.out.mono ?_
        rintro e w9 ⟨v', rfl, ho, hk9⟩
        have HRS : Hid (EncR P ys w (.returned (.tuple #[v', .int .i64 (encS ys).err])) w9) := HD.out _ _ (HKE.out.trans hk9) ⟨v', rfl, World.ownsRow.mono ho hs1⟩
        clear ho hk9 HDN
        go_wp2
        go_ret2
        exact HRS.out
  · have hcb : (checkD P ys != 0) = true := by simpa using hc0
    have HRS : Hid (∀ w', Kept (fun _ => False) w w' → EncR P ys w (.returned (.tuple #[.slice none 0 0, .int .i64 (checkD P ys)])) w') := fun w' h => ⟨h, by rw [if_neg hc0]⟩
    rw [← hn] at HC ⊢
    clear hv hy hb hkr hfb hn hc0 HR h0 hP64
    generalize checkD P ys = cd at *
    go_enter Tryz.func7, Tryz.ntmps7
    go_wp2_with fail
    refine HC.out.mono ?_
    rintro e w1 ⟨rfl, hk1⟩
    have HK := hid_of hk1
    clear hk1 HC
    go_wp2
    go_ret2
    exact HRS.out _ HK.out
end Go.Proofs.YtcpkbajmilkhpabGreatDoor
