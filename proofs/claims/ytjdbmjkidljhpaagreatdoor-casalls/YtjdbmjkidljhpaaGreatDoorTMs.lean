/-
 Ms: Crow, Cown.
-/
import Derived.Test.YtjdbmjkidljhpaaGreatDoorTMr
import Derived.Shelf.SlMaps.Clone
namespace Go.Proofs.YtjdbmjkidljhpaaGreatDoor
open Go.RowKit Go.Shelf
attribute [local go_sem] Oper.semAt_some
set_option linter.unusedVariables false
set_option linter.unusedSimpArgs false
set_option maxRecDepth 100000
section
variable {F : Fence} {n : Nat} {ops : Array Oper} {rest : List Oper} {o : Oper} {a : Act} {w : World} {Q : Exit → Act → World → Prop} {K : Act → World → Prop} {E : Prop}
theorem inList_mid28 (hgd : o.guard = none) (x : Operand) (ho : o.op = .load 29 x) (b f : Nat) (hx : a.eval x = .pointer (some ⟨b, f, none⟩)) (cs : List Value) (hc : w.rangeAt b f cs) (hi : (Tryz.prog.info? 29).map (·.size) = some cs.length)
  (h : wpListIn F n Tryz.prog ops Q rest (a.put o.dst (.agg cs.toArray)) w) : wpListIn F n Tryz.prog ops Q (o :: rest) a w := by
 refine wpListIn_plain hgd fun K hK => ?_
 unfold Oper.wpIn
 refine ⟨?_, ?_⟩
 ·simp [Oper.about, ho]
 ·rw [Oper.semAt_plain F _ _ (by rw [ho]; intro c hc; cases hc)]
  simp only [execOp, ho, hx, Instr.loadAt, Instr.sureAddr, Sem.run_bind, Sem.run_pure, Result.andThen_ok, run_loadVar_mid w b f 29 cs _ hc Tryz.underlying29 rfl hi]
  exact hK _ _ h
theorem stIn_load28 (hgd : o.guard = none) (x : Operand) (ho : o.op = .load 29 x) (g : Nat) (hx : a.eval x = .pointer (some ⟨g, 0, none⟩)) (t : TypeId) (cs : Array Value) (fr : Nat × Nat) (hg : w.heap[g]? = some (.cells cs t fr)) (hi : (Tryz.prog.info? 29).map (·.size) = some cs.size)
  (h : K (a.put o.dst (.agg cs)) w) : if Region.wanted o (yielded ops a.tmps) = true then Oper.wpIn F n Tryz.prog o a w K Q else E := by
 have hw : Region.wanted o (yielded ops a.tmps) = true := by simp [Region.wanted, hgd]
 rw [if_pos hw]
 unfold Oper.wpIn
 refine ⟨?_, ?_⟩
 ·simp [Oper.about, ho]
 ·rw [Oper.semAt_plain F _ _ (by rw [ho]; intro c hc; cases hc)]
  simp only [execOp, ho, hx, Instr.loadAt, Instr.sureAddr, Sem.run_bind, Sem.run_pure, Result.andThen_ok, run_loadVar_row w g t 29 cs fr _ hg Tryz.underlying29 rfl hi]
  exact h
end
set_option maxHeartbeats 2000000 in
theorem mclone_any (b clock : Nat) (es : Array MapEntry) (w : World) (hb : w.heap[b]? = some (.map es clock)) :
  Calls Tryz.prog 49 #[.map (some b)] w fun e w' => e = .returned (.map (some w.heap.size)) ∧ w' = w.alloc (.map es clock) := by
 have hq := fun w => run_eql_map_nil_sl (P := Tryz.prog) w 63 _ _ (some b) Tryz.underlying63
 go_enter Tryz.func49, Tryz.ntmps49
 go_wp2
 rw [run_callFunc_extern Tryz.func66 (by kernel_rfl) (by kernel_rfl) (by kernel_rfl) (e := Extern.MapsClone.clone) (by kernel_rfl), run_maps_clone_sl w 63 hb]
 simp only [Result.andThen]
 rw [Oper.upon_value]
 go_wp2
 rw [run_typeAssert_map_sl _ 63 20 _ _ _ Tryz.underlying63]
 simp only [Result.andThen]
 rw [Oper.upon_value]
 go_wp2
 go_ret
 exact ⟨rfl, rfl⟩
/-- Some blocks stay as they are. -/
structure KeepsB (Z : Nat → Prop) (A B : World) : Prop where
 size : A.heap.size ≤ B.heap.size
 same : ∀ k, Z k → k < A.heap.size → B.heap[k]? = A.heap[k]?
theorem KeepsB.refl (Z : Nat → Prop) (A : World) : KeepsB Z A A := ⟨Nat.le_refl _, fun _ _ _ => rfl⟩
theorem KeepsB.trans {Z : Nat → Prop} {A B C : World} (h : KeepsB Z A B) (k : KeepsB Z B C) : KeepsB Z A C := ⟨Nat.le_trans h.size k.size, fun i hi hl => (k.same i hi (Nat.lt_of_lt_of_le hl h.size)).trans (h.same i hi hl)⟩
theorem KeepsB.of_kept {Z : Nat → Prop} {A B : World} (h : Kept (fun _ => False) A B) : KeepsB Z A B := ⟨h.size, fun k _ hl => h.block k hl (fun f => f)⟩
theorem KeepsB.cell {Z : Nat → Prop} {A B : World} (h : KeepsB Z A B) {b i : Nat} {u : Value} (hz : Z b) (hc : A.cell? ⟨b, i, none⟩ = some u) : B.cell? ⟨b, i, none⟩ = some u := by
 obtain ⟨c, t, f, h1⟩ := cell_cells hc
 rw [← hc]
 exact World.cell?_of_block (a := ⟨b, i, none⟩) (h.same b hz (heap_lt h1))
/-- Digests in a row, and the map that they are looked up in. -/
structure RowAt (w : World) (B1 B2 r clock : Nat) (es : List En) (ds : List Dg) (ao : Option Addr) (cap : Nat) : Prop where
 b1 : w.cell? ⟨B1, 0, none⟩ = some (.slice ao ds.length cap)
 mp : ds ≠ [] → w.cell? ⟨B2, 0, none⟩ = some (.map (some r)) ∧ MapAt w r clock es
 len : ∀ e ∈ es, e.k.length = 32 ∧ ∀ x ∈ e.k, 0 ≤ x ∧ x < 256
 row : ∀ i d, ds[i]? = some d → ∃ g o, ao = some ⟨g, o, none⟩ ∧ w.rangeAt g (o + i * 32) (d.1.map (Value.int .u8))
 mem : ∀ d ∈ ds, d.1 ∈ es.map En.k
theorem RowAt.keep {Z : Nat → Prop} {A B : World} {B1 B2 r clock : Nat} {es : List En} {ds : List Dg} {ao : Option Addr} {cap : Nat} (h : RowAt A B1 B2 r clock es ds ao cap) (hk : KeepsB Z A B) (h1 : Z B1) (h2 : Z B2) (h3 : Z r) (h4 : ∀ g o, ao = some ⟨g, o, none⟩ → Z g) : RowAt B B1 B2 r clock es ds ao cap :=
 ⟨hk.cell h1 h.b1, fun h0 => ⟨hk.cell h2 (h.mp h0).1, (hk.same r h3 (heap_lt (h.mp h0).2.blk)).trans (h.mp h0).2.blk, (h.mp h0).2.len, (h.mp h0).2.low, (h.mp h0).2.nd⟩, h.len, fun i d hd => by
   obtain ⟨g, o, hg, hr⟩ := h.row i d hd
   exact ⟨g, o, hg, fun j u hj => hk.cell (h4 g o hg) (hr j u hj)⟩, h.mem⟩
theorem look_of_mem : ∀ (es : List En) (d : List Int), d ∈ es.map En.k → ∃ e, look es d = some e
 | [], d, h => by cases h
 | x :: es, d, h => by
  unfold look
  by_cases hk : d = x.k
  ·exact ⟨x, by rw [if_pos hk]⟩
  ·rw [if_neg hk]
   rw [List.map_cons, List.mem_cons] at h
   exact look_of_mem es d (h.resolve_left hk)
set_option maxHeartbeats 8000000 in
theorem row_stops (Z : Nat → Prop) (n : Nat) (hn : 1 ≤ n) (B1 B2 r clock : Nat) (es : List En) (ds : List Dg) (ao : Option Addr) (cap : Nat) (w : World) (hR : RowAt w B1 B2 r clock es ds ao cap) (z1 : Z B1) (z2 : Z B2) (z3 : Z r) (z4 : ∀ g o, ao = some ⟨g, o, none⟩ → Z g) (hZ : ∀ k, Z k → k < w.heap.size) (hdl : ds.length ≤ 1000000000) :
  SeqStopsK Fence.wide n Tryz.prog 55 #[.pointer (some ⟨B1, 0, none⟩), .pointer (some ⟨B2, 0, none⟩)] (fun x : Em es => #[dv x.1.k, x.1.bv]) (KeepsB Z) (fun ys => ys.map (·.1.k) = ds.map (·.1)) (fun _ => True) ds.length w := fun l J Jx W hW hJ hJx hY h0 => by
 have hRW : RowAt W B1 B2 r clock es ds ao cap := hR.keep (Z := fun k => k < w.heap.size) ⟨hW.size, fun k hk _ => hW.block k hk⟩ (hZ _ z1) (hZ _ z2) (hZ _ z3) (fun g o e => hZ _ (z4 g o e))
 have hJk : ∀ pre A B, J pre A → Kept (fun _ => False) A B → J pre B := fun pre A B h k => hJ pre A B none h k.grow (fun r e => by cases e)
 have HR := hid_of hRW
 have HJ := hid_of hJk
 have HY := hid_of hY
 have HZ : Hid (∀ A B, RowAt A B1 B2 r clock es ds ao cap → KeepsB Z A B → RowAt B B1 B2 r clock es ds ao cap) := fun A B h k => h.keep k z1 z2 z3 z4
 have H0 := hid_of h0
 have hb1 := hRW.b1
 clear hW hJ hJx hY h0 hR hRW hJk z1 z2 z3 z4 hZ
 refine callsIn_of_wp Tryz.func55 rfl trivial ?_ rfl
 simp only [Tryz.ntmps55, List.size_toArray, List.length_cons, List.length_nil, Nat.reduceAdd, Nat.reduceSub, Array.replicate_succ, Array.replicate_zero, List.push_toArray, List.append_toArray, List.nil_append, List.cons_append]
 gi_wp2
 gi_loopw [5, 8] (fun _ i wr => ∃ (j : Nat) (ss : List (Em es)), j ≤ ds.length ∧ i = .int .i64 j ∧ ss.map (·.1.k) = (ds.take j).map (·.1) ∧ RowAt wr B1 B2 r clock es ds ao cap ∧ J ss wr) (fun _ i _ => ds.length - (intOf i).toNat)
 case atStart => exact ⟨0, [], by omega, rfl, rfl, HR.out, H0.out⟩
 case round =>
  clear H0 HR
  obtain ⟨j, ss, hj, rfl, hss, hrow, hjs⟩ := hrel
  have HSS := hid_of hss
  have HRW := hid_of hrow
  have HJS := hid_of hjs
  clear hss hrow hjs
  by_cases hlt : j < ds.length
  ·obtain ⟨d, hd⟩ : ∃ d, ds[j]? = some d := ⟨_, List.getElem?_eq_getElem hlt⟩
   obtain ⟨g, o, hg, hra⟩ := HRW.out.row j d hd
   obtain ⟨e, hle⟩ := look_of_mem es d.1 (HRW.out.mem d (List.mem_of_getElem? hd))
   obtain ⟨hem, hek⟩ := look_mem _ _ _ hle
   have hjI : (j : Int) < (ds.length : Int) := by omega
   subst hg
   have HRA := hid_of hra
   have HD := hid_of hd
   have hi28 : (Tryz.prog.info? 29).map (·.size) = some (d.1.map (Value.int .u8)).length := by rw [size28_of d.1 d.2.1]; simp
   have hds := size28_of d.1 d.2.1
   have honed := oneCells .u8 d.1
   have HOD : Hid (32 = (d.1.map (Value.int .u8)).toArray.size) := by show 32 = _; simp [d.2.1]
   have HK3 : Hid (Kept (fun _ => False) wr (wr.alloc (.cells (d.1.map (Value.int .u8)).toArray 29)).drew) := ((Kept.refl _ wr).alloc _).drew
   have HB5 : Hid ((wr.alloc (.cells (d.1.map (Value.int .u8)).toArray 29)).drew.heap[wr.heap.size]? = some (.cells (d.1.map (Value.int .u8)).toArray 29 (0, 0))) := alloc_new wr _ rfl
   have HR3 := hid_of (HZ.out _ _ HRW.out (KeepsB.of_kept HK3.out))
   have hne : ds ≠ [] := fun e => by rw [e] at hlt; simp at hlt
   have HM3 := hid_of (HR3.out.mp hne)
   have hb2 := HM3.out.1
   clear hne
   have hlook : (Instr.lookup 63 (.map (some r)) (.agg (d.1.map (Value.int .u8)).toArray) false).run Tryz.prog (wr.alloc (.cells (d.1.map (Value.int .u8)).toArray 29)).drew = .ok (.agg #[e.bv, .int .i64 e.st]) (wr.alloc (.cells (d.1.map (Value.int .u8)).toArray 29)).drew := by
    have := run_look (wr.alloc (.cells (d.1.map (Value.int .u8)).toArray 29)).drew r clock es HM3.out.2.blk (fun e he => (HM3.out.2.len e he).1) d.1 d.2.1 false
    unfold lookV at this
    rw [hle] at this
    exact this
   obtain ⟨fn, tmps, assign, body, hy0, hRn⟩ := HY.out ss ⟨e, hem⟩ _ (HJ.out _ _ _ HJS.out HK3.out) (by
    have := congrArg List.length HSS.out
    simp at this
    omega)
   have hy : (Instr.yield l #[.agg (d.1.map (Value.int .u8)).toArray, e.bv]).run Tryz.prog (wr.alloc (.cells (d.1.map (Value.int .u8)).toArray 29)).drew = .ok (.round l fn tmps assign body) (wr.alloc (.cells (d.1.map (Value.int .u8)).toArray 29)).drew := by
    have := hy0
    rw [show (⟨e, hem⟩ : Em es).1.k = d.1 from hek] at this
    exact this
   have HEK := hid_of hek
   clear hle hra hd hy0 hek
   gi_wp2_with (first | (refine inList_mid28 rfl _ rfl g (o + j * 32) rfl (d.1.map (Value.int .u8)) HRA.out hi28 ?_) | (refine inList_store_row rfl 29 _ _ rfl wr.heap.size (d.1.map (Value.int .u8)).toArray rfl rfl 29 _ (alloc_new _ _ rfl) hds HOD.out honed ?_; rw [setRow_new _ _ _ _ rfl]))
   refine wpIn_region_any (by kernel_rfl) ?_
   change wpAnyIn _ _ _ _ _ _ _ _ _ (wr.alloc (Obj.cells (List.map (Value.int IntKind.u8) d.1).toArray 29)).drew
   generalize (wr.alloc (Obj.cells (List.map (Value.int IntKind.u8) d.1).toArray 29)).drew = w3 at *
   refine wpAnyIn_take (i := 0) (v := ?_) rfl rfl (by kernel_rfl) (by kernel_rfl) (by kernel_rfl) (fun _ _ _ h => h) ⟨Or.inl ⟨by rfl, ?_⟩, fun _ => rfl⟩ ?_
   rotate_left 1
   ·intro w
    go_simp
    try with_reducible rfl
   try simp only [Act.put, tdy]
   refine wpAnyIn_ready (rs := [1, 2, 3]) (by kernel_rfl) (by simp) ?_
   refine AllReadyIn.cons rfl (fun K hK => ?_) ?_
   ·refine stIn_load28 rfl _ rfl wr.heap.size rfl 29 (d.1.map (Value.int .u8)).toArray (0, 0) HB5.out hds ?_
    refine hK _ _ ?_
    clear hK K
    try simp only [Act.put, tdy]
    refine wpAnyIn_ready (rs := [2, 3]) (by kernel_rfl) (by simp) ?_
    refine AllReadyIn.cons rfl (fun K hK => ?_) ?_
    ·go_simp
     refine hK _ _ ?_
     clear hK K
     try simp only [Act.put, tdy]
     refine wpAnyIn_ready (rs := [3]) (by kernel_rfl) (by simp) ?_
     refine AllReadyIn.cons rfl (fun K hK => ?_) .nil
     refine stIn_load28 rfl _ rfl wr.heap.size rfl 29 (d.1.map (Value.int .u8)).toArray (0, 0) HB5.out hds ?_
     refine hK _ _ ?_
     clear hK K
     try simp only [Act.put, tdy]
     refine wpAnyIn_ready (rs := [4]) (by kernel_rfl) (by simp) ?_
     refine AllReadyIn.cons rfl (fun K hK => ?_) .nil
     go_simp
     refine hK _ _ ?_
     clear hK K
     try simp only [Act.put, tdy]
     refine wpAnyIn_ready (rs := [5]) (by kernel_rfl) (by simp) ?_
     refine AllReadyIn.cons rfl (fun K hK => ?_) .nil
     go_simp
     refine hK _ _ ?_
     clear hK K
     try simp only [Act.put, tdy]
     refine wpAnyIn_ready (rs := [6]) (by kernel_rfl) (by simp) ?_
     refine AllReadyIn.cons rfl (fun K hK => ?_) .nil
     go_simp
     refine hRn.mono ?_
     rintro e5 W5 (⟨rfl, hJ5, hk5⟩ | ⟨rfl, hJx5⟩)
     ·have HJ5 := hid_of hJ5
      have HR5 := hid_of (HZ.out _ _ HR3.out hk5)
      clear hJ5 hk5
      refine hK _ _ ?_
      clear hK K
      try simp only [Act.put, tdy]
      refine wpAnyIn_take (i := 7) (v := ?_) rfl rfl (by kernel_rfl) (by kernel_rfl) (by kernel_rfl) (fun _ _ _ h => h) ⟨Or.inl ⟨by rfl, ?_⟩, fun _ => rfl⟩ ?_
      rotate_left 1
      ·intro w
       go_simp
       try with_reducible rfl
      try simp only [Act.put, tdy]
      refine wpAnyIn_done (by kernel_rfl) ?_ _
      gi_wp2
      go_roundw
      case rel => exact ⟨j + 1, ss ++ [⟨e, hem⟩], by omega, by go_num, by rw [List.take_add_one, HD.out, List.map_append, List.map_append, HSS.out]; simp [HEK.out], HR5.out, HJ5.out⟩
      case measure => simp [intOf]; omega
     ·have HJ5 := hid_of hJx5
      clear hJx5
      refine hK _ _ ?_
      clear hK K
      try simp only [Act.put, tdy]
      refine wpAnyIn_take (i := 7) (v := ?_) rfl rfl (by kernel_rfl) (by kernel_rfl) (by kernel_rfl) (fun _ _ _ h => h) ⟨Or.inl ⟨by rfl, ?_⟩, fun _ => rfl⟩ ?_
      rotate_left 1
      ·intro w
       go_simp
       try with_reducible rfl
      try simp only [Act.put, tdy]
      refine wpAnyIn_done (by kernel_rfl) ?_ _
      gi_wp2
      refine bodyPost_ret (results_none rfl _ _ _) rfl ?_
      exact ⟨⟨_, rfl⟩, .inr ⟨_, trivial, HJ5.out⟩⟩
    refine AllReadyIn.cons rfl (fun K hK => ?_) .nil
    refine stIn_load28 rfl _ rfl wr.heap.size rfl 29 (d.1.map (Value.int .u8)).toArray (0, 0) HB5.out hds ?_
    refine hK _ _ ?_
    clear hK K
    try simp only [Act.put, tdy]
    refine wpAnyIn_ready (rs := [2]) (by kernel_rfl) (by simp) ?_
    refine AllReadyIn.cons rfl (fun K hK => ?_) .nil
    go_simp
    refine hK _ _ ?_
    clear hK K
    try simp only [Act.put, tdy]
    refine wpAnyIn_ready (rs := [4]) (by kernel_rfl) (by simp) ?_
    refine AllReadyIn.cons rfl (fun K hK => ?_) .nil
    go_simp
    refine hK _ _ ?_
    clear hK K
    try simp only [Act.put, tdy]
    refine wpAnyIn_ready (rs := [5]) (by kernel_rfl) (by simp) ?_
    refine AllReadyIn.cons rfl (fun K hK => ?_) .nil
    go_simp
    refine hK _ _ ?_
    clear hK K
    try simp only [Act.put, tdy]
    refine wpAnyIn_ready (rs := [6]) (by kernel_rfl) (by simp) ?_
    refine AllReadyIn.cons rfl (fun K hK => ?_) .nil
    go_simp
    refine hRn.mono ?_
    rintro e5 W5 (⟨rfl, hJ5, hk5⟩ | ⟨rfl, hJx5⟩)
    ·have HJ5 := hid_of hJ5
     have HR5 := hid_of (HZ.out _ _ HR3.out hk5)
     clear hJ5 hk5
     refine hK _ _ ?_
     clear hK K
     try simp only [Act.put, tdy]
     refine wpAnyIn_take (i := 7) (v := ?_) rfl rfl (by kernel_rfl) (by kernel_rfl) (by kernel_rfl) (fun _ _ _ h => h) ⟨Or.inl ⟨by rfl, ?_⟩, fun _ => rfl⟩ ?_
     rotate_left 1
     ·intro w
      go_simp
      try with_reducible rfl
     try simp only [Act.put, tdy]
     refine wpAnyIn_done (by kernel_rfl) ?_ _
     gi_wp2
     go_roundw
     case rel => exact ⟨j + 1, ss ++ [⟨e, hem⟩], by omega, by go_num, by rw [List.take_add_one, HD.out, List.map_append, List.map_append, HSS.out]; simp [HEK.out], HR5.out, HJ5.out⟩
     case measure => simp [intOf]; omega
    ·have HJ5 := hid_of hJx5
     clear hJx5
     refine hK _ _ ?_
     clear hK K
     try simp only [Act.put, tdy]
     refine wpAnyIn_take (i := 7) (v := ?_) rfl rfl (by kernel_rfl) (by kernel_rfl) (by kernel_rfl) (fun _ _ _ h => h) ⟨Or.inl ⟨by rfl, ?_⟩, fun _ => rfl⟩ ?_
     rotate_left 1
     ·intro w
      go_simp
      try with_reducible rfl
     try simp only [Act.put, tdy]
     refine wpAnyIn_done (by kernel_rfl) ?_ _
     gi_wp2
     refine bodyPost_ret (results_none rfl _ _ _) rfl ?_
     exact ⟨⟨_, rfl⟩, .inr ⟨_, trivial, HJ5.out⟩⟩
   refine AllReadyIn.cons rfl (fun K hK => ?_) ?_
   ·go_simp
    refine hK _ _ ?_
    clear hK K
    try simp only [Act.put, tdy]
    refine wpAnyIn_ready (rs := [1, 3]) (by kernel_rfl) (by simp) ?_
    refine AllReadyIn.cons rfl (fun K hK => ?_) ?_
    ·refine stIn_load28 rfl _ rfl wr.heap.size rfl 29 (d.1.map (Value.int .u8)).toArray (0, 0) HB5.out hds ?_
     refine hK _ _ ?_
     clear hK K
     try simp only [Act.put, tdy]
     refine wpAnyIn_ready (rs := [3]) (by kernel_rfl) (by simp) ?_
     refine AllReadyIn.cons rfl (fun K hK => ?_) .nil
     refine stIn_load28 rfl _ rfl wr.heap.size rfl 29 (d.1.map (Value.int .u8)).toArray (0, 0) HB5.out hds ?_
     refine hK _ _ ?_
     clear hK K
     try simp only [Act.put, tdy]
     refine wpAnyIn_ready (rs := [4]) (by kernel_rfl) (by simp) ?_
     refine AllReadyIn.cons rfl (fun K hK => ?_) .nil
     go_simp
     refine hK _ _ ?_
     clear hK K
     try simp only [Act.put, tdy]
     refine wpAnyIn_ready (rs := [5]) (by kernel_rfl) (by simp) ?_
     refine AllReadyIn.cons rfl (fun K hK => ?_) .nil
     go_simp
     refine hK _ _ ?_
     clear hK K
     try simp only [Act.put, tdy]
     refine wpAnyIn_ready (rs := [6]) (by kernel_rfl) (by simp) ?_
     refine AllReadyIn.cons rfl (fun K hK => ?_) .nil
     go_simp
     refine hRn.mono ?_
     rintro e5 W5 (⟨rfl, hJ5, hk5⟩ | ⟨rfl, hJx5⟩)
     ·have HJ5 := hid_of hJ5
      have HR5 := hid_of (HZ.out _ _ HR3.out hk5)
      clear hJ5 hk5
      refine hK _ _ ?_
      clear hK K
      try simp only [Act.put, tdy]
      refine wpAnyIn_take (i := 7) (v := ?_) rfl rfl (by kernel_rfl) (by kernel_rfl) (by kernel_rfl) (fun _ _ _ h => h) ⟨Or.inl ⟨by rfl, ?_⟩, fun _ => rfl⟩ ?_
      rotate_left 1
      ·intro w
       go_simp
       try with_reducible rfl
      try simp only [Act.put, tdy]
      refine wpAnyIn_done (by kernel_rfl) ?_ _
      gi_wp2
      go_roundw
      case rel => exact ⟨j + 1, ss ++ [⟨e, hem⟩], by omega, by go_num, by rw [List.take_add_one, HD.out, List.map_append, List.map_append, HSS.out]; simp [HEK.out], HR5.out, HJ5.out⟩
      case measure => simp [intOf]; omega
     ·have HJ5 := hid_of hJx5
      clear hJx5
      refine hK _ _ ?_
      clear hK K
      try simp only [Act.put, tdy]
      refine wpAnyIn_take (i := 7) (v := ?_) rfl rfl (by kernel_rfl) (by kernel_rfl) (by kernel_rfl) (fun _ _ _ h => h) ⟨Or.inl ⟨by rfl, ?_⟩, fun _ => rfl⟩ ?_
      rotate_left 1
      ·intro w
       go_simp
       try with_reducible rfl
      try simp only [Act.put, tdy]
      refine wpAnyIn_done (by kernel_rfl) ?_ _
      gi_wp2
      refine bodyPost_ret (results_none rfl _ _ _) rfl ?_
      exact ⟨⟨_, rfl⟩, .inr ⟨_, trivial, HJ5.out⟩⟩
    refine AllReadyIn.cons rfl (fun K hK => ?_) .nil
    refine stIn_load28 rfl _ rfl wr.heap.size rfl 29 (d.1.map (Value.int .u8)).toArray (0, 0) HB5.out hds ?_
    refine hK _ _ ?_
    clear hK K
    try simp only [Act.put, tdy]
    refine wpAnyIn_ready (rs := [1, 4]) (by kernel_rfl) (by simp) ?_
    refine AllReadyIn.cons rfl (fun K hK => ?_) ?_
    ·refine stIn_load28 rfl _ rfl wr.heap.size rfl 29 (d.1.map (Value.int .u8)).toArray (0, 0) HB5.out hds ?_
     refine hK _ _ ?_
     clear hK K
     try simp only [Act.put, tdy]
     refine wpAnyIn_ready (rs := [4]) (by kernel_rfl) (by simp) ?_
     refine AllReadyIn.cons rfl (fun K hK => ?_) .nil
     go_simp
     refine hK _ _ ?_
     clear hK K
     try simp only [Act.put, tdy]
     refine wpAnyIn_ready (rs := [5]) (by kernel_rfl) (by simp) ?_
     refine AllReadyIn.cons rfl (fun K hK => ?_) .nil
     go_simp
     refine hK _ _ ?_
     clear hK K
     try simp only [Act.put, tdy]
     refine wpAnyIn_ready (rs := [6]) (by kernel_rfl) (by simp) ?_
     refine AllReadyIn.cons rfl (fun K hK => ?_) .nil
     go_simp
     refine hRn.mono ?_
     rintro e5 W5 (⟨rfl, hJ5, hk5⟩ | ⟨rfl, hJx5⟩)
     ·have HJ5 := hid_of hJ5
      have HR5 := hid_of (HZ.out _ _ HR3.out hk5)
      clear hJ5 hk5
      refine hK _ _ ?_
      clear hK K
      try simp only [Act.put, tdy]
      refine wpAnyIn_take (i := 7) (v := ?_) rfl rfl (by kernel_rfl) (by kernel_rfl) (by kernel_rfl) (fun _ _ _ h => h) ⟨Or.inl ⟨by rfl, ?_⟩, fun _ => rfl⟩ ?_
      rotate_left 1
      ·intro w
       go_simp
       try with_reducible rfl
      try simp only [Act.put, tdy]
      refine wpAnyIn_done (by kernel_rfl) ?_ _
      gi_wp2
      go_roundw
      case rel => exact ⟨j + 1, ss ++ [⟨e, hem⟩], by omega, by go_num, by rw [List.take_add_one, HD.out, List.map_append, List.map_append, HSS.out]; simp [HEK.out], HR5.out, HJ5.out⟩
      case measure => simp [intOf]; omega
     ·have HJ5 := hid_of hJx5
      clear hJx5
      refine hK _ _ ?_
      clear hK K
      try simp only [Act.put, tdy]
      refine wpAnyIn_take (i := 7) (v := ?_) rfl rfl (by kernel_rfl) (by kernel_rfl) (by kernel_rfl) (fun _ _ _ h => h) ⟨Or.inl ⟨by rfl, ?_⟩, fun _ => rfl⟩ ?_
      rotate_left 1
      ·intro w
       go_simp
       try with_reducible rfl
      try simp only [Act.put, tdy]
      refine wpAnyIn_done (by kernel_rfl) ?_ _
      gi_wp2
      refine bodyPost_ret (results_none rfl _ _ _) rfl ?_
      exact ⟨⟨_, rfl⟩, .inr ⟨_, trivial, HJ5.out⟩⟩
    refine AllReadyIn.cons rfl (fun K hK => ?_) .nil
    go_simp
    refine hK _ _ ?_
    clear hK K
    try simp only [Act.put, tdy]
    refine wpAnyIn_ready (rs := [1, 5]) (by kernel_rfl) (by simp) ?_
    refine AllReadyIn.cons rfl (fun K hK => ?_) ?_
    ·refine stIn_load28 rfl _ rfl wr.heap.size rfl 29 (d.1.map (Value.int .u8)).toArray (0, 0) HB5.out hds ?_
     refine hK _ _ ?_
     clear hK K
     try simp only [Act.put, tdy]
     refine wpAnyIn_ready (rs := [5]) (by kernel_rfl) (by simp) ?_
     refine AllReadyIn.cons rfl (fun K hK => ?_) .nil
     go_simp
     refine hK _ _ ?_
     clear hK K
     try simp only [Act.put, tdy]
     refine wpAnyIn_ready (rs := [6]) (by kernel_rfl) (by simp) ?_
     refine AllReadyIn.cons rfl (fun K hK => ?_) .nil
     go_simp
     refine hRn.mono ?_
     rintro e5 W5 (⟨rfl, hJ5, hk5⟩ | ⟨rfl, hJx5⟩)
     ·have HJ5 := hid_of hJ5
      have HR5 := hid_of (HZ.out _ _ HR3.out hk5)
      clear hJ5 hk5
      refine hK _ _ ?_
      clear hK K
      try simp only [Act.put, tdy]
      refine wpAnyIn_take (i := 7) (v := ?_) rfl rfl (by kernel_rfl) (by kernel_rfl) (by kernel_rfl) (fun _ _ _ h => h) ⟨Or.inl ⟨by rfl, ?_⟩, fun _ => rfl⟩ ?_
      rotate_left 1
      ·intro w
       go_simp
       try with_reducible rfl
      try simp only [Act.put, tdy]
      refine wpAnyIn_done (by kernel_rfl) ?_ _
      gi_wp2
      go_roundw
      case rel => exact ⟨j + 1, ss ++ [⟨e, hem⟩], by omega, by go_num, by rw [List.take_add_one, HD.out, List.map_append, List.map_append, HSS.out]; simp [HEK.out], HR5.out, HJ5.out⟩
      case measure => simp [intOf]; omega
     ·have HJ5 := hid_of hJx5
      clear hJx5
      refine hK _ _ ?_
      clear hK K
      try simp only [Act.put, tdy]
      refine wpAnyIn_take (i := 7) (v := ?_) rfl rfl (by kernel_rfl) (by kernel_rfl) (by kernel_rfl) (fun _ _ _ h => h) ⟨Or.inl ⟨by rfl, ?_⟩, fun _ => rfl⟩ ?_
      rotate_left 1
      ·intro w
       go_simp
       try with_reducible rfl
      try simp only [Act.put, tdy]
      refine wpAnyIn_done (by kernel_rfl) ?_ _
      gi_wp2
      refine bodyPost_ret (results_none rfl _ _ _) rfl ?_
      exact ⟨⟨_, rfl⟩, .inr ⟨_, trivial, HJ5.out⟩⟩
    refine AllReadyIn.cons rfl (fun K hK => ?_) .nil
    go_simp
    refine hK _ _ ?_
    clear hK K
    try simp only [Act.put, tdy]
    refine wpAnyIn_ready (rs := [1]) (by kernel_rfl) (by simp) ?_
    refine AllReadyIn.cons rfl (fun K hK => ?_) .nil
    refine stIn_load28 rfl _ rfl wr.heap.size rfl 29 (d.1.map (Value.int .u8)).toArray (0, 0) HB5.out hds ?_
    refine hK _ _ ?_
    clear hK K
    try simp only [Act.put, tdy]
    refine wpAnyIn_ready (rs := [6]) (by kernel_rfl) (by simp) ?_
    refine AllReadyIn.cons rfl (fun K hK => ?_) .nil
    go_simp
    refine hRn.mono ?_
    rintro e5 W5 (⟨rfl, hJ5, hk5⟩ | ⟨rfl, hJx5⟩)
    ·have HJ5 := hid_of hJ5
     have HR5 := hid_of (HZ.out _ _ HR3.out hk5)
     clear hJ5 hk5
     refine hK _ _ ?_
     clear hK K
     try simp only [Act.put, tdy]
     refine wpAnyIn_take (i := 7) (v := ?_) rfl rfl (by kernel_rfl) (by kernel_rfl) (by kernel_rfl) (fun _ _ _ h => h) ⟨Or.inl ⟨by rfl, ?_⟩, fun _ => rfl⟩ ?_
     rotate_left 1
     ·intro w
      go_simp
      try with_reducible rfl
     try simp only [Act.put, tdy]
     refine wpAnyIn_done (by kernel_rfl) ?_ _
     gi_wp2
     go_roundw
     case rel => exact ⟨j + 1, ss ++ [⟨e, hem⟩], by omega, by go_num, by rw [List.take_add_one, HD.out, List.map_append, List.map_append, HSS.out]; simp [HEK.out], HR5.out, HJ5.out⟩
     case measure => simp [intOf]; omega
    ·have HJ5 := hid_of hJx5
     clear hJx5
     refine hK _ _ ?_
     clear hK K
     try simp only [Act.put, tdy]
     refine wpAnyIn_take (i := 7) (v := ?_) rfl rfl (by kernel_rfl) (by kernel_rfl) (by kernel_rfl) (fun _ _ _ h => h) ⟨Or.inl ⟨by rfl, ?_⟩, fun _ => rfl⟩ ?_
     rotate_left 1
     ·intro w
      go_simp
      try with_reducible rfl
     try simp only [Act.put, tdy]
     refine wpAnyIn_done (by kernel_rfl) ?_ _
     gi_wp2
     refine bodyPost_ret (results_none rfl _ _ _) rfl ?_
     exact ⟨⟨_, rfl⟩, .inr ⟨_, trivial, HJ5.out⟩⟩
   refine AllReadyIn.cons rfl (fun K hK => ?_) .nil
   refine stIn_load28 rfl _ rfl wr.heap.size rfl 29 (d.1.map (Value.int .u8)).toArray (0, 0) HB5.out hds ?_
   refine hK _ _ ?_
   clear hK K
   try simp only [Act.put, tdy]
   refine wpAnyIn_ready (rs := [1, 2]) (by kernel_rfl) (by simp) ?_
   refine AllReadyIn.cons rfl (fun K hK => ?_) ?_
   ·refine stIn_load28 rfl _ rfl wr.heap.size rfl 29 (d.1.map (Value.int .u8)).toArray (0, 0) HB5.out hds ?_
    refine hK _ _ ?_
    clear hK K
    try simp only [Act.put, tdy]
    refine wpAnyIn_ready (rs := [2]) (by kernel_rfl) (by simp) ?_
    refine AllReadyIn.cons rfl (fun K hK => ?_) .nil
    go_simp
    refine hK _ _ ?_
    clear hK K
    try simp only [Act.put, tdy]
    refine wpAnyIn_ready (rs := [4]) (by kernel_rfl) (by simp) ?_
    refine AllReadyIn.cons rfl (fun K hK => ?_) .nil
    go_simp
    refine hK _ _ ?_
    clear hK K
    try simp only [Act.put, tdy]
    refine wpAnyIn_ready (rs := [5]) (by kernel_rfl) (by simp) ?_
    refine AllReadyIn.cons rfl (fun K hK => ?_) .nil
    go_simp
    refine hK _ _ ?_
    clear hK K
    try simp only [Act.put, tdy]
    refine wpAnyIn_ready (rs := [6]) (by kernel_rfl) (by simp) ?_
    refine AllReadyIn.cons rfl (fun K hK => ?_) .nil
    go_simp
    refine hRn.mono ?_
    rintro e5 W5 (⟨rfl, hJ5, hk5⟩ | ⟨rfl, hJx5⟩)
    ·have HJ5 := hid_of hJ5
     have HR5 := hid_of (HZ.out _ _ HR3.out hk5)
     clear hJ5 hk5
     refine hK _ _ ?_
     clear hK K
     try simp only [Act.put, tdy]
     refine wpAnyIn_take (i := 7) (v := ?_) rfl rfl (by kernel_rfl) (by kernel_rfl) (by kernel_rfl) (fun _ _ _ h => h) ⟨Or.inl ⟨by rfl, ?_⟩, fun _ => rfl⟩ ?_
     rotate_left 1
     ·intro w
      go_simp
      try with_reducible rfl
     try simp only [Act.put, tdy]
     refine wpAnyIn_done (by kernel_rfl) ?_ _
     gi_wp2
     go_roundw
     case rel => exact ⟨j + 1, ss ++ [⟨e, hem⟩], by omega, by go_num, by rw [List.take_add_one, HD.out, List.map_append, List.map_append, HSS.out]; simp [HEK.out], HR5.out, HJ5.out⟩
     case measure => simp [intOf]; omega
    ·have HJ5 := hid_of hJx5
     clear hJx5
     refine hK _ _ ?_
     clear hK K
     try simp only [Act.put, tdy]
     refine wpAnyIn_take (i := 7) (v := ?_) rfl rfl (by kernel_rfl) (by kernel_rfl) (by kernel_rfl) (fun _ _ _ h => h) ⟨Or.inl ⟨by rfl, ?_⟩, fun _ => rfl⟩ ?_
     rotate_left 1
     ·intro w
      go_simp
      try with_reducible rfl
     try simp only [Act.put, tdy]
     refine wpAnyIn_done (by kernel_rfl) ?_ _
     gi_wp2
     refine bodyPost_ret (results_none rfl _ _ _) rfl ?_
     exact ⟨⟨_, rfl⟩, .inr ⟨_, trivial, HJ5.out⟩⟩
   refine AllReadyIn.cons rfl (fun K hK => ?_) .nil
   go_simp
   refine hK _ _ ?_
   clear hK K
   try simp only [Act.put, tdy]
   refine wpAnyIn_ready (rs := [1, 4]) (by kernel_rfl) (by simp) ?_
   refine AllReadyIn.cons rfl (fun K hK => ?_) ?_
   ·refine stIn_load28 rfl _ rfl wr.heap.size rfl 29 (d.1.map (Value.int .u8)).toArray (0, 0) HB5.out hds ?_
    refine hK _ _ ?_
    clear hK K
    try simp only [Act.put, tdy]
    refine wpAnyIn_ready (rs := [4]) (by kernel_rfl) (by simp) ?_
    refine AllReadyIn.cons rfl (fun K hK => ?_) .nil
    go_simp
    refine hK _ _ ?_
    clear hK K
    try simp only [Act.put, tdy]
    refine wpAnyIn_ready (rs := [5]) (by kernel_rfl) (by simp) ?_
    refine AllReadyIn.cons rfl (fun K hK => ?_) .nil
    go_simp
    refine hK _ _ ?_
    clear hK K
    try simp only [Act.put, tdy]
    refine wpAnyIn_ready (rs := [6]) (by kernel_rfl) (by simp) ?_
    refine AllReadyIn.cons rfl (fun K hK => ?_) .nil
    go_simp
    refine hRn.mono ?_
    rintro e5 W5 (⟨rfl, hJ5, hk5⟩ | ⟨rfl, hJx5⟩)
    ·have HJ5 := hid_of hJ5
     have HR5 := hid_of (HZ.out _ _ HR3.out hk5)
     clear hJ5 hk5
     refine hK _ _ ?_
     clear hK K
     try simp only [Act.put, tdy]
     refine wpAnyIn_take (i := 7) (v := ?_) rfl rfl (by kernel_rfl) (by kernel_rfl) (by kernel_rfl) (fun _ _ _ h => h) ⟨Or.inl ⟨by rfl, ?_⟩, fun _ => rfl⟩ ?_
     rotate_left 1
     ·intro w
      go_simp
      try with_reducible rfl
     try simp only [Act.put, tdy]
     refine wpAnyIn_done (by kernel_rfl) ?_ _
     gi_wp2
     go_roundw
     case rel => exact ⟨j + 1, ss ++ [⟨e, hem⟩], by omega, by go_num, by rw [List.take_add_one, HD.out, List.map_append, List.map_append, HSS.out]; simp [HEK.out], HR5.out, HJ5.out⟩
     case measure => simp [intOf]; omega
    ·have HJ5 := hid_of hJx5
     clear hJx5
     refine hK _ _ ?_
     clear hK K
     try simp only [Act.put, tdy]
     refine wpAnyIn_take (i := 7) (v := ?_) rfl rfl (by kernel_rfl) (by kernel_rfl) (by kernel_rfl) (fun _ _ _ h => h) ⟨Or.inl ⟨by rfl, ?_⟩, fun _ => rfl⟩ ?_
     rotate_left 1
     ·intro w
      go_simp
      try with_reducible rfl
     try simp only [Act.put, tdy]
     refine wpAnyIn_done (by kernel_rfl) ?_ _
     gi_wp2
     refine bodyPost_ret (results_none rfl _ _ _) rfl ?_
     exact ⟨⟨_, rfl⟩, .inr ⟨_, trivial, HJ5.out⟩⟩
   refine AllReadyIn.cons rfl (fun K hK => ?_) .nil
   go_simp
   refine hK _ _ ?_
   clear hK K
   try simp only [Act.put, tdy]
   refine wpAnyIn_ready (rs := [1, 5]) (by kernel_rfl) (by simp) ?_
   refine AllReadyIn.cons rfl (fun K hK => ?_) ?_
   ·refine stIn_load28 rfl _ rfl wr.heap.size rfl 29 (d.1.map (Value.int .u8)).toArray (0, 0) HB5.out hds ?_
    refine hK _ _ ?_
    clear hK K
    try simp only [Act.put, tdy]
    refine wpAnyIn_ready (rs := [5]) (by kernel_rfl) (by simp) ?_
    refine AllReadyIn.cons rfl (fun K hK => ?_) .nil
    go_simp
    refine hK _ _ ?_
    clear hK K
    try simp only [Act.put, tdy]
    refine wpAnyIn_ready (rs := [6]) (by kernel_rfl) (by simp) ?_
    refine AllReadyIn.cons rfl (fun K hK => ?_) .nil
    go_simp
    refine hRn.mono ?_
    rintro e5 W5 (⟨rfl, hJ5, hk5⟩ | ⟨rfl, hJx5⟩)
    ·have HJ5 := hid_of hJ5
     have HR5 := hid_of (HZ.out _ _ HR3.out hk5)
     clear hJ5 hk5
     refine hK _ _ ?_
     clear hK K
     try simp only [Act.put, tdy]
     refine wpAnyIn_take (i := 7) (v := ?_) rfl rfl (by kernel_rfl) (by kernel_rfl) (by kernel_rfl) (fun _ _ _ h => h) ⟨Or.inl ⟨by rfl, ?_⟩, fun _ => rfl⟩ ?_
     rotate_left 1
     ·intro w
      go_simp
      try with_reducible rfl
     try simp only [Act.put, tdy]
     refine wpAnyIn_done (by kernel_rfl) ?_ _
     gi_wp2
     go_roundw
     case rel => exact ⟨j + 1, ss ++ [⟨e, hem⟩], by omega, by go_num, by rw [List.take_add_one, HD.out, List.map_append, List.map_append, HSS.out]; simp [HEK.out], HR5.out, HJ5.out⟩
     case measure => simp [intOf]; omega
    ·have HJ5 := hid_of hJx5
     clear hJx5
     refine hK _ _ ?_
     clear hK K
     try simp only [Act.put, tdy]
     refine wpAnyIn_take (i := 7) (v := ?_) rfl rfl (by kernel_rfl) (by kernel_rfl) (by kernel_rfl) (fun _ _ _ h => h) ⟨Or.inl ⟨by rfl, ?_⟩, fun _ => rfl⟩ ?_
     rotate_left 1
     ·intro w
      go_simp
      try with_reducible rfl
     try simp only [Act.put, tdy]
     refine wpAnyIn_done (by kernel_rfl) ?_ _
     gi_wp2
     refine bodyPost_ret (results_none rfl _ _ _) rfl ?_
     exact ⟨⟨_, rfl⟩, .inr ⟨_, trivial, HJ5.out⟩⟩
   refine AllReadyIn.cons rfl (fun K hK => ?_) .nil
   go_simp
   refine hK _ _ ?_
   clear hK K
   try simp only [Act.put, tdy]
   refine wpAnyIn_ready (rs := [1]) (by kernel_rfl) (by simp) ?_
   refine AllReadyIn.cons rfl (fun K hK => ?_) .nil
   refine stIn_load28 rfl _ rfl wr.heap.size rfl 29 (d.1.map (Value.int .u8)).toArray (0, 0) HB5.out hds ?_
   refine hK _ _ ?_
   clear hK K
   try simp only [Act.put, tdy]
   refine wpAnyIn_ready (rs := [6]) (by kernel_rfl) (by simp) ?_
   refine AllReadyIn.cons rfl (fun K hK => ?_) .nil
   go_simp
   refine hRn.mono ?_
   rintro e5 W5 (⟨rfl, hJ5, hk5⟩ | ⟨rfl, hJx5⟩)
   ·have HJ5 := hid_of hJ5
    have HR5 := hid_of (HZ.out _ _ HR3.out hk5)
    clear hJ5 hk5
    refine hK _ _ ?_
    clear hK K
    try simp only [Act.put, tdy]
    refine wpAnyIn_take (i := 7) (v := ?_) rfl rfl (by kernel_rfl) (by kernel_rfl) (by kernel_rfl) (fun _ _ _ h => h) ⟨Or.inl ⟨by rfl, ?_⟩, fun _ => rfl⟩ ?_
    rotate_left 1
    ·intro w
     go_simp
     try with_reducible rfl
    try simp only [Act.put, tdy]
    refine wpAnyIn_done (by kernel_rfl) ?_ _
    gi_wp2
    go_roundw
    case rel => exact ⟨j + 1, ss ++ [⟨e, hem⟩], by omega, by go_num, by rw [List.take_add_one, HD.out, List.map_append, List.map_append, HSS.out]; simp [HEK.out], HR5.out, HJ5.out⟩
    case measure => simp [intOf]; omega
   ·have HJ5 := hid_of hJx5
    clear hJx5
    refine hK _ _ ?_
    clear hK K
    try simp only [Act.put, tdy]
    refine wpAnyIn_take (i := 7) (v := ?_) rfl rfl (by kernel_rfl) (by kernel_rfl) (by kernel_rfl) (fun _ _ _ h => h) ⟨Or.inl ⟨by rfl, ?_⟩, fun _ => rfl⟩ ?_
    rotate_left 1
    ·intro w
     go_simp
     try with_reducible rfl
    try simp only [Act.put, tdy]
    refine wpAnyIn_done (by kernel_rfl) ?_ _
    gi_wp2
    refine bodyPost_ret (results_none rfl _ _ _) rfl ?_
    exact ⟨⟨_, rfl⟩, .inr ⟨_, trivial, HJ5.out⟩⟩
  ·have hjI : ¬ (j : Int) < (ds.length : Int) := by omega
   obtain rfl : j = ds.length := by omega
   gi_wp2
   go_end0
   exact ⟨⟨_, rfl⟩, .inl ⟨ss, by have h7 := HSS.out; rw [List.take_length] at h7; simpa using h7, HJS.out⟩⟩
end Go.Proofs.YtjdbmjkidljhpaaGreatDoor
namespace Go.Proofs.YtjdbmjkidljhpaaGreatDoor
open Go.RowKit Go.Shelf
attribute [local go_sem] Oper.semAt_some
set_option linter.unusedVariables false
set_option linter.unusedSimpArgs false
set_option maxRecDepth 100000
/-- What a sequence promises a loop that no round leaves early, where the sequence may run loops of its own. -/
def SeqOwn {α : Type} (n g : Nat) (lb : Array Value) (encs : α → Array Value) (Y : Nat → Prop) (C : List α → α → World → Prop) (S : List α → Prop) (M : Nat) (w : World) : Prop :=
 ∀ (l : Nat) (J : List α → World → Prop) (W : World), Below w.heap.size w W → (∀ k, Y k → k < W.heap.size) → OwnFrom W.heap.size J →
  (∀ pre x W1, J pre W1 → C pre x W1 → pre.length < M → YieldAt Fence.wide (n - 1) Tryz.prog l (encs x) W1 fun e W' => e = .returned (.bool true) ∧ J (pre ++ [x]) W' ∧ Kept Y W1 W') →
  J [] W → CallsIn Fence.wide n Tryz.prog g (#[.func (.yield l) #[] #[]] ++ lb) W fun e W' => (∃ v, e = .returned v) ∧ ∃ xs, S xs ∧ J xs W'
theorem KeepsFrom.of_kept {Y : Nat → Prop} {B : Nat} {A C : World} (h : Kept Y A C) (hY : ∀ k, B ≤ k → ¬ Y k) : KeepsFrom B A C := ⟨h.size, fun k o hB hk _ => (h.block k (heap_lt hk) (hY k hB)).trans hk⟩
theorem KeepsB.of_kepts {Y Z : Nat → Prop} {A C : World} (h : Kept Y A C) (hY : ∀ k, Z k → ¬ Y k) : KeepsB Z A C := ⟨h.size, fun k hz hk => h.block k hk (hY k hz)⟩
/-- The loop over such a sequence, whose first variable lies in a block of its own. -/
theorem range_seqE {n : Nat} {α : Type} {g : Operand} {ps : Array Tmp} {assign body : Code} {Q : Exit → Act → World → Prop} {a : Act} {w : World} (h1 : 1 ≤ n) {gf : Nat} {lb : Array Value} (hg : a.eval g = .func (.func gf) #[] lb) (eg : ∀ args w, (callFunc gf args).run Tryz.prog w = .ok (.enter gf args) w)
  {encs : α → Array Value} {Y : Nat → Prop} {C : List α → α → World → Prop} {S : List α → Prop} {M : Nat} {w0 : World} (hC : ∀ (pre : List α) (x : α) (A B : World) (q : Nat) (L : Loop), A.heap[q]? = some (.loop L) → (∀ k, k ≠ q → B.heap[k]? = A.heap[k]?) → C pre x A → C pre x B) (hCa : ∀ (pre : List α) (x : α) (A B : World), Kept (fun _ => False) A B → C pre x A → C pre x B) (hseq : SeqOwn (n - 1) gf lb encs Y C S M w0) (hY : ∀ k, Y k → k < w.heap.size)
  (hb0 : Below w0.heap.size w0 w) (hps : ∀ x, (encs x).size = ps.size) (I : List α → World → Prop) (hI : OwnFrom w.heap.size I) (h0 : I [] w) (cs : α → Array Value) (tm : α → Nat → Array Value)
  (hassign : ∀ (l : Nat) (x : α) (W : World) (K : Act → World → Prop), K { tmps := tm x W.heap.size, defers := [] } (W.alloc (.cells (cs x) 29)) → assign.wpIn (Fence.wide.inRound l) (n - 1 - 1) Tryz.prog (Exit.then K (fun _ _ _ => False)) { tmps := (ps.zip (encs x)).foldl (fun t (p, v) => t.setIfInBounds p v) a.tmps, defers := [] } W)
  (hbody : ∀ (l : Nat) (pre : List α) (x : α) (B : Nat) (W : World), I pre W → C pre x W → w.heap.size ≤ B → W.heap[B]? = some (.cells (cs x) 29 (0, 0)) → pre.length < M → body.wpIn (Fence.wide.inRound l) (n - 1 - 1) Tryz.prog (fun e _ W' => e = .normal ∧ Kept Y W W' ∧ I (pre ++ [x]) W') { tmps := tm x B, defers := [] } W)
  (hdone : ∀ (D : Nat) (xs : List α) (W : World), w.heap.size ≤ D → S xs → I xs W → W.heap[D]? = some (.deferred (some [])) → Q .normal { a with defers := { target := .collected D, args := #[] } :: a.defers } W) :
  (Code.rangeFunc g ps assign body).wpIn Fence.wide n Tryz.prog Q a w := by
 have hw2 : (w.alloc (.deferred (some []))).heap.size = w.heap.size + 1 := by simp
 refine wpIn_rangeFunc fun fn hfn => ?_
 obtain ⟨L, hL⟩ : ∃ L : LoopState → Option Code → Loop, L = fun st pe => { state := st, pending := pe, fn := fn, tmps := a.tmps, params := ps, assign := assign, body := body, defers := w.heap.size } := ⟨_, rfl⟩
 obtain ⟨V, hV⟩ : ∃ V, V = (w.alloc (.deferred (some []))).alloc (.loop (L .ready none)) := ⟨_, rfl⟩
 have hk : Kept (fun _ => False) w V := by rw [hV]; exact ((Kept.refl _ w).alloc _).alloc _
 have hsV : V.heap.size = w.heap.size + 2 := by rw [hV]; simp
 have hl0 : V.heap[w.heap.size + 1]? = some (.loop (L .ready none)) := by rw [hV]; exact alloc_new _ _ hw2.symm
 have hd0 : V.heap[w.heap.size]? = some (.deferred (some [])) := by rw [hV]; exact alloc_old (alloc_new _ _ rfl)
 have hI0 : I [] V := hI [] w V none h0 hk.grow (fun r e => by cases e)
 refine ⟨w.heap.size + 1, [{ target := .collected w.heap.size, args := #[] }], V, { target := .fn (.func gf) lb, args := #[.func (.yield (w.heap.size + 1)) #[] #[]] }, V, gf, #[.func (.yield (w.heap.size + 1)) #[] #[]] ++ lb, V, ?_, ?_, fun _ _ => trivial, ?_, fun _ => h1, ?_⟩
 ·rw [hV, hL]
  exact run_enterLoop_outer _ _ _ _ _
 ·simp only [resolve, hg]
  simp [go_sem]
 ·simp [invoke, go_sem, eg]
 -- what is held between the rounds
 have abide : OwnFrom V.heap.size (fun (pre : List α) W => I pre W ∧ W.heap[w.heap.size + 1]? = some (.loop (L .ready none)) ∧ W.heap[w.heap.size]? = some (.deferred (some []))) := fun pre A B row hs hgr hr => by
  have far : ∀ k, k < w.heap.size + 2 → k < A.heap.size → B.heap[k]? = A.heap[k]? := fun k hk hA => hgr.block k hA (fun e => by have := (hr k e.symm).1; omega)
  exact ⟨hI pre A B row hs.1 hgr (fun r e => ⟨by have := (hr r e).1; omega, (hr r e).2⟩), (far _ (by omega) (heap_lt hs.2.1)).trans hs.2.1, (far _ (by omega) (heap_lt hs.2.2)).trans hs.2.2⟩
 refine (hseq (w.heap.size + 1) _ V (hb0.trans (hk.below hb0.size (fun _ f => f.elim))) (fun k hk' => by have := hY k hk'; omega) abide ?_ ⟨hI0, hl0, hd0⟩).mono ?_
 ·rintro pre x W ⟨hi, hl, hd⟩ hcx hlen
  have hy := run_yield (P := Tryz.prog) (args := encs x) hl (by rw [hL]; exact hps x)
  rw [hL] at hy
  have hwW : w.heap.size + 1 < W.heap.size := heap_lt hl
  obtain ⟨V1, hV1⟩ : ∃ V1, V1 = W.alloc (.cells (cs x) 29) := ⟨_, rfl⟩
  have hkV : Kept (fun _ => False) W V1 := by rw [hV1]; exact (Kept.refl _ W).alloc _
  have hBV : V1.heap[W.heap.size]? = some (.cells (cs x) 29 (0, 0)) := by rw [hV1]; exact alloc_new _ _ rfl
  have hl1 := (hkV.block _ (heap_lt hl) (fun f => f)).trans hl
  have hd1 := (hkV.block _ (heap_lt hd) (fun f => f)).trans hd
  have hi1 : I pre V1 := hI pre W V1 none hi hkV.grow (fun r e => by cases e)
  have hc1 : C pre x V1 := hCa pre x W V1 hkV hcx
  refine ⟨fn, _, assign, body, hy, roundIn_of_wpIn hfn (hassign _ x W _ ?_)⟩
  rw [← hV1]
  refine ⟨_, run_beginRound hl1 (by rw [hL]), ?_⟩
  clear hy
  obtain ⟨U, hU⟩ : ∃ U, U = V1.putObj (w.heap.size + 1) (.loop { L .ready none with state := .busy }) := ⟨_, rfl⟩
  have hlU : U.heap[w.heap.size + 1]? = some (.loop { L .ready none with state := .busy }) := by rw [hU]; exact World.putObj_heap_same (heap_lt hl1)
  have hdU : U.heap[w.heap.size]? = some (.deferred (some [])) := by rw [hU]; exact (World.putObj_heap_other (by omega)).trans hd1
  have hiU : I pre U := by rw [hU]; exact hI.putObj _ hi1 (by omega) hl1 rfl
  have hoU : ∀ k, k ≠ w.heap.size + 1 → U.heap[k]? = V1.heap[k]? := fun k hk => by rw [hU]; exact World.putObj_heap_other hk
  have hsU : U.heap.size = V1.heap.size := by rw [hU]; simp
  have hsV1 := hkV.size
  have hBU : U.heap[W.heap.size]? = some (.cells (cs x) 29 (0, 0)) := (hoU _ (by omega)).trans hBV
  rw [← hU]
  refine wpIn_mono (hbody _ pre x W.heap.size U hiU (hC pre x V1 U _ _ hl1 hoU hc1) (by omega) hBU hlen) ?_
  rintro e a' W' ⟨rfl, hkq, hi'⟩
  have hl' := (hkq.block _ (heap_lt hlU) (fun e => by have := hY _ e; omega)).trans hlU
  have hd' := (hkq.block _ (heap_lt hdU) (fun e => by have := hY _ e; omega)).trans hdU
  have hend := run_endRound (P := Tryz.prog) none hl'
  have hfin : (W'.putObj (w.heap.size + 1) (.loop { { L .ready none with state := .busy } with state := .ready, pending := none })).heap[w.heap.size + 1]? = some (.loop (L .ready none)) := by
   rw [World.putObj_heap_same (heap_lt hl'), hL]
  refine ⟨_, _, hend, rfl, ⟨hI.putObj _ hi' (by omega) hl' rfl, hfin, (World.putObj_heap_other (by omega)).trans hd'⟩, ⟨?_, ?_, ?_, ?_, fun k hk hn => ?_⟩⟩
  ·exact hkq.os.trans (by rw [hU]; exact hkV.os)
  ·exact hkq.tape.trans (by rw [hU]; exact hkV.tape)
  ·exact hkq.output.trans (by rw [hU]; exact hkV.output)
  ·have := hkq.size
   simp
   omega
  ·by_cases e : k = w.heap.size + 1
   ·subst e
    exact hfin.trans hl.symm
   ·rw [World.putObj_heap_other e, hkq.block k (by omega) hn, hoU k e, hkV.block k hk (fun f => f)]
 ·rintro e W ⟨⟨v, rfl⟩, xs, hS, hi, hl, hd⟩
  exact ⟨none, _, by have := run_endLoop (P := Tryz.prog) hl (by rw [hL]; simp); rw [hL] at this; exact this, hdone _ xs _ (Nat.le_refl _) hS (hI.putObj _ hi (by omega) hl rfl) ((World.putObj_heap_other (by omega)).trans hd)⟩
end Go.Proofs.YtjdbmjkidljhpaaGreatDoor
