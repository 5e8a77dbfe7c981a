/-
 The digests and their bytes, in their order, as a sequence.
-/
import Derived.Test.YtjdbmjkidljhpaaGreatDoorTMs
namespace Go.Proofs.YtjdbmjkidljhpaaGreatDoor
open Go.RowKit Go.Shelf
attribute [local go_sem] Oper.semAt_some
set_option linter.unusedVariables false
set_option linter.unusedSimpArgs false
set_option maxRecDepth 100000
set_option maxHeartbeats 8000000 in
theorem row_own (Y Z : Nat → Prop) (hYZ : ∀ k, Z k → ¬ Y k) (n : Nat) (hn : 1 ≤ n) (B1 B2 r clock : Nat) (es : List En) (ds : List Dg) (ao : Option Addr) (cap : Nat) (w : World) (hR : RowAt w B1 B2 r clock es ds ao cap) (z1 : Z B1) (z2 : Z B2) (z3 : Z r) (z4 : ∀ g o, ao = some ⟨g, o, none⟩ → Z g) (hZ : ∀ k, Z k → k < w.heap.size) (hdl : ds.length ≤ 1000000000) :
  SeqOwn n 55 #[.pointer (some ⟨B1, 0, none⟩), .pointer (some ⟨B2, 0, none⟩)] (fun x : Em es => #[dv x.1.k, x.1.bv]) Y (fun pre x _ => ∃ d, ds[pre.length]? = some d ∧ d.1 = x.1.k) (fun ys => ys.map (·.1.k) = ds.map (·.1)) ds.length w := fun l J W hW hYW hJ hY h0 => by
 have hRW : RowAt W B1 B2 r clock es ds ao cap := hR.keep (Z := fun k => k < w.heap.size) ⟨hW.size, fun k hk _ => hW.block k hk⟩ (hZ _ z1) (hZ _ z2) (hZ _ z3) (fun g o e => hZ _ (z4 g o e))
 have hJk : ∀ pre A B, J pre A → Kept (fun _ => False) A B → J pre B := fun pre A B h k => hJ pre A B none h k.grow (fun r e => by cases e)
 have HR := hid_of hRW
 have HYZ := hid_of hYZ
 have HJ := hid_of hJk
 have HY := hid_of hY
 have HZ : Hid (∀ A B, RowAt A B1 B2 r clock es ds ao cap → KeepsB Z A B → RowAt B B1 B2 r clock es ds ao cap) := fun A B h k => h.keep k z1 z2 z3 z4
 have H0 := hid_of h0
 have hb1 := hRW.b1
 clear hW hJ hY h0 hR hRW hJk z1 z2 z3 z4 hZ hYW
 refine callsIn_of_wp Tryz.func55 rfl trivial ?_ rfl
 simp only [Tryz.ntmps55, List.size_toArray, List.length_cons, List.length_nil, Nat.reduceAdd, Nat.reduceSub, Array.replicate_succ, Array.replicate_zero, List.push_toArray, List.append_toArray, List.nil_append, List.cons_append]
 gi_wp2
 gi_loopw [5, 8] (fun _ i wr => ∃ (j : Nat) (ss : List (Em es)), j ≤ ds.length ∧ i = .int .i64 j ∧ ss.map (·.1.k) = (ds.take j).map (·.1) ∧ RowAt wr B1 B2 r clock es ds ao cap ∧ J ss wr) (fun _ i _ => ds.length - (intOf i).toNat)
 case atStart => exact ⟨0, [], by omega, rfl, rfl, HR.out, H0.out⟩
 case round =>
  clear H0 HR
  obtain ⟨j, ss, hj, rfl, hss, hrow, hjs⟩ := hrel
  have HSS := hid_of hss
  have HRW := hid_of hrow
  have HJS := hid_of hjs
  clear hss hrow hjs
  by_cases hlt : j < ds.length
  ·obtain ⟨d, hd⟩ : ∃ d, ds[j]? = some d := ⟨_, List.getElem?_eq_getElem hlt⟩
   obtain ⟨g, o, hg, hra⟩ := HRW.out.row j d hd
   obtain ⟨e, hle⟩ := look_of_mem es d.1 (HRW.out.mem d (List.mem_of_getElem? hd))
   obtain ⟨hem, hek⟩ := look_mem _ _ _ hle
   have hjI : (j : Int) < (ds.length : Int) := by omega
   subst hg
   have HRA := hid_of hra
   have HD := hid_of hd
   have hi28 : (Tryz.prog.info? 29).map (·.size) = some (d.1.map (Value.int .u8)).length := by rw [size28_of d.1 d.2.1]; simp
   have hds := size28_of d.1 d.2.1
   have honed := oneCells .u8 d.1
   have HOD : Hid (32 = (d.1.map (Value.int .u8)).toArray.size) := by show 32 = _; simp [d.2.1]
   have HK3 : Hid (Kept (fun _ => False) wr (wr.alloc (.cells (d.1.map (Value.int .u8)).toArray 29)).drew) := ((Kept.refl _ wr).alloc _).drew
   have HB5 : Hid ((wr.alloc (.cells (d.1.map (Value.int .u8)).toArray 29)).drew.heap[wr.heap.size]? = some (.cells (d.1.map (Value.int .u8)).toArray 29 (0, 0))) := alloc_new wr _ rfl
   have HR3 := hid_of (HZ.out _ _ HRW.out (KeepsB.of_kept HK3.out))
   have hne : ds ≠ [] := fun e => by rw [e] at hlt; simp at hlt
   have HM3 := hid_of (HR3.out.mp hne)
   have hb2 := HM3.out.1
   clear hne
   have hlook : (Instr.lookup 63 (.map (some r)) (.agg (d.1.map (Value.int .u8)).toArray) false).run Tryz.prog (wr.alloc (.cells (d.1.map (Value.int .u8)).toArray 29)).drew = .ok (.agg #[e.bv, .int .i64 e.st]) (wr.alloc (.cells (d.1.map (Value.int .u8)).toArray 29)).drew := by
    have := run_look (wr.alloc (.cells (d.1.map (Value.int .u8)).toArray 29)).drew r clock es HM3.out.2.blk (fun e he => (HM3.out.2.len e he).1) d.1 d.2.1 false
    unfold lookV at this
    rw [hle] at this
    exact this
   obtain ⟨fn, tmps, assign, body, hy0, hRn⟩ := HY.out ss ⟨e, hem⟩ _ (HJ.out _ _ _ HJS.out HK3.out) ⟨d, by
    have h5 := congrArg List.length HSS.out
    simp at h5
    rw [show ss.length = j by omega]
    exact HD.out, hek.symm⟩ (by
    have := congrArg List.length HSS.out
    simp at this
    omega)
   have hy : (Instr.yield l #[.agg (d.1.map (Value.int .u8)).toArray, e.bv]).run Tryz.prog (wr.alloc (.cells (d.1.map (Value.int .u8)).toArray 29)).drew = .ok (.round l fn tmps assign body) (wr.alloc (.cells (d.1.map (Value.int .u8)).toArray 29)).drew := by
    have := hy0
    rw [show (⟨e, hem⟩ : Em es).1.k = d.1 from hek] at this
    exact this
   have HEK := hid_of hek
   clear hle hra hd hy0 hek
   gi_wp2_with (first | (refine inList_mid28 rfl _ rfl g (o + j * 32) rfl (d.1.map (Value.int .u8)) HRA.out hi28 ?_) | (refine inList_store_row rfl 29 _ _ rfl wr.heap.size (d.1.map (Value.int .u8)).toArray rfl rfl 29 _ (alloc_new _ _ rfl) hds HOD.out honed ?_; rw [setRow_new _ _ _ _ rfl]))
   refine wpIn_region_any (by kernel_rfl) ?_
   change wpAnyIn _ _ _ _ _ _ _ _ _ (wr.alloc (Obj.cells (List.map (Value.int IntKind.u8) d.1).toArray 29)).drew
   generalize (wr.alloc (Obj.cells (List.map (Value.int IntKind.u8) d.1).toArray 29)).drew = w3 at *
   refine wpAnyIn_take (i := 0) (v := ?_) rfl rfl (by kernel_rfl) (by kernel_rfl) (by kernel_rfl) (fun _ _ _ h => h) ⟨Or.inl ⟨by rfl, ?_⟩, fun _ => rfl⟩ ?_
   rotate_left 1
   ·intro w
    go_simp
    try with_reducible rfl
   try simp only [Act.put, tdy]
   refine wpAnyIn_ready (rs := [1, 2, 3]) (by kernel_rfl) (by simp) ?_
   refine AllReadyIn.cons rfl (fun K hK => ?_) ?_
   ·refine stIn_load28 rfl _ rfl wr.heap.size rfl 29 (d.1.map (Value.int .u8)).toArray (0, 0) HB5.out hds ?_
    refine hK _ _ ?_
    clear hK K
    try simp only [Act.put, tdy]
    refine wpAnyIn_ready (rs := [2, 3]) (by kernel_rfl) (by simp) ?_
    refine AllReadyIn.cons rfl (fun K hK => ?_) ?_
    ·go_simp
     refine hK _ _ ?_
     clear hK K
     try simp only [Act.put, tdy]
     refine wpAnyIn_ready (rs := [3]) (by kernel_rfl) (by simp) ?_
     refine AllReadyIn.cons rfl (fun K hK => ?_) .nil
     refine stIn_load28 rfl _ rfl wr.heap.size rfl 29 (d.1.map (Value.int .u8)).toArray (0, 0) HB5.out hds ?_
     refine hK _ _ ?_
     clear hK K
     try simp only [Act.put, tdy]
     refine wpAnyIn_ready (rs := [4]) (by kernel_rfl) (by simp) ?_
     refine AllReadyIn.cons rfl (fun K hK => ?_) .nil
     go_simp
     refine hK _ _ ?_
     clear hK K
     try simp only [Act.put, tdy]
     refine wpAnyIn_ready (rs := [5]) (by kernel_rfl) (by simp) ?_
     refine AllReadyIn.cons rfl (fun K hK => ?_) .nil
     go_simp
     refine hK _ _ ?_
     clear hK K
     try simp only [Act.put, tdy]
     refine wpAnyIn_ready (rs := [6]) (by kernel_rfl) (by simp) ?_
     refine AllReadyIn.cons rfl (fun K hK => ?_) .nil
     go_simp
     refine hRn.mono ?_
     rintro e5 W5 ⟨rfl, hJ5, hk5⟩
     ·have HJ5 := hid_of hJ5
      have HR5 := hid_of (HZ.out _ _ HR3.out (KeepsB.of_kepts hk5 HYZ.out))
      clear hJ5 hk5
      refine hK _ _ ?_
      clear hK K
      try simp only [Act.put, tdy]
      refine wpAnyIn_take (i := 7) (v := ?_) rfl rfl (by kernel_rfl) (by kernel_rfl) (by kernel_rfl) (fun _ _ _ h => h) ⟨Or.inl ⟨by rfl, ?_⟩, fun _ => rfl⟩ ?_
      rotate_left 1
      ·intro w
       go_simp
       try with_reducible rfl
      try simp only [Act.put, tdy]
      refine wpAnyIn_done (by kernel_rfl) ?_ _
      gi_wp2
      go_roundw
      case rel => exact ⟨j + 1, ss ++ [⟨e, hem⟩], by omega, by go_num, by rw [List.take_add_one, HD.out, List.map_append, List.map_append, HSS.out]; simp [HEK.out], HR5.out, HJ5.out⟩
      case measure => simp [intOf]; omega
    refine AllReadyIn.cons rfl (fun K hK => ?_) .nil
    refine stIn_load28 rfl _ rfl wr.heap.size rfl 29 (d.1.map (Value.int .u8)).toArray (0, 0) HB5.out hds ?_
    refine hK _ _ ?_
    clear hK K
    try simp only [Act.put, tdy]
    refine wpAnyIn_ready (rs := [2]) (by kernel_rfl) (by simp) ?_
    refine AllReadyIn.cons rfl (fun K hK => ?_) .nil
    go_simp
    refine hK _ _ ?_
    clear hK K
    try simp only [Act.put, tdy]
    refine wpAnyIn_ready (rs := [4]) (by kernel_rfl) (by simp) ?_
    refine AllReadyIn.cons rfl (fun K hK => ?_) .nil
    go_simp
    refine hK _ _ ?_
    clear hK K
    try simp only [Act.put, tdy]
    refine wpAnyIn_ready (rs := [5]) (by kernel_rfl) (by simp) ?_
    refine AllReadyIn.cons rfl (fun K hK => ?_) .nil
    go_simp
    refine hK _ _ ?_
    clear hK K
    try simp only [Act.put, tdy]
    refine wpAnyIn_ready (rs := [6]) (by kernel_rfl) (by simp) ?_
    refine AllReadyIn.cons rfl (fun K hK => ?_) .nil
    go_simp
    refine hRn.mono ?_
    rintro e5 W5 ⟨rfl, hJ5, hk5⟩
    ·have HJ5 := hid_of hJ5
     have HR5 := hid_of (HZ.out _ _ HR3.out (KeepsB.of_kepts hk5 HYZ.out))
     clear hJ5 hk5
     refine hK _ _ ?_
     clear hK K
     try simp only [Act.put, tdy]
     refine wpAnyIn_take (i := 7) (v := ?_) rfl rfl (by kernel_rfl) (by kernel_rfl) (by kernel_rfl) (fun _ _ _ h => h) ⟨Or.inl ⟨by rfl, ?_⟩, fun _ => rfl⟩ ?_
     rotate_left 1
     ·intro w
      go_simp
      try with_reducible rfl
     try simp only [Act.put, tdy]
     refine wpAnyIn_done (by kernel_rfl) ?_ _
     gi_wp2
     go_roundw
     case rel => exact ⟨j + 1, ss ++ [⟨e, hem⟩], by omega, by go_num, by rw [List.take_add_one, HD.out, List.map_append, List.map_append, HSS.out]; simp [HEK.out], HR5.out, HJ5.out⟩
     case measure => simp [intOf]; omega
   refine AllReadyIn.cons rfl (fun K hK => ?_) ?_
   ·go_simp
    refine hK _ _ ?_
    clear hK K
    try simp only [Act.put, tdy]
    refine wpAnyIn_ready (rs := [1, 3]) (by kernel_rfl) (by simp) ?_
    refine AllReadyIn.cons rfl (fun K hK => ?_) ?_
    ·refine stIn_load28 rfl _ rfl wr.heap.size rfl 29 (d.1.map (Value.int .u8)).toArray (0, 0) HB5.out hds ?_
     refine hK _ _ ?_
     clear hK K
     try simp only [Act.put, tdy]
     refine wpAnyIn_ready (rs := [3]) (by kernel_rfl) (by simp) ?_
     refine AllReadyIn.cons rfl (fun K hK => ?_) .nil
     refine stIn_load28 rfl _ rfl wr.heap.size rfl 29 (d.1.map (Value.int .u8)).toArray (0, 0) HB5.out hds ?_
     refine hK _ _ ?_
     clear hK K
     try simp only [Act.put, tdy]
     refine wpAnyIn_ready (rs := [4]) (by kernel_rfl) (by simp) ?_
     refine AllReadyIn.cons rfl (fun K hK => ?_) .nil
     go_simp
     refine hK _ _ ?_
     clear hK K
     try simp only [Act.put, tdy]
     refine wpAnyIn_ready (rs := [5]) (by kernel_rfl) (by simp) ?_
     refine AllReadyIn.cons rfl (fun K hK => ?_) .nil
     go_simp
     refine hK _ _ ?_
     clear hK K
     try simp only [Act.put, tdy]
     refine wpAnyIn_ready (rs := [6]) (by kernel_rfl) (by simp) ?_
     refine AllReadyIn.cons rfl (fun K hK => ?_) .nil
     go_simp
     refine hRn.mono ?_
     rintro e5 W5 ⟨rfl, hJ5, hk5⟩
     ·have HJ5 := hid_of hJ5
      have HR5 := hid_of (HZ.out _ _ HR3.out (KeepsB.of_kepts hk5 HYZ.out))
      clear hJ5 hk5
      refine hK _ _ ?_
      clear hK K
      try simp only [Act.put, tdy]
      refine wpAnyIn_take (i := 7) (v := ?_) rfl rfl (by kernel_rfl) (by kernel_rfl) (by kernel_rfl) (fun _ _ _ h => h) ⟨Or.inl ⟨by rfl, ?_⟩, fun _ => rfl⟩ ?_
      rotate_left 1
      ·intro w
       go_simp
       try with_reducible rfl
      try simp only [Act.put, tdy]
      refine wpAnyIn_done (by kernel_rfl) ?_ _
      gi_wp2
      go_roundw
      case rel => exact ⟨j + 1, ss ++ [⟨e, hem⟩], by omega, by go_num, by rw [List.take_add_one, HD.out, List.map_append, List.map_append, HSS.out]; simp [HEK.out], HR5.out, HJ5.out⟩
      case measure => simp [intOf]; omega
    refine AllReadyIn.cons rfl (fun K hK => ?_) .nil
    refine stIn_load28 rfl _ rfl wr.heap.size rfl 29 (d.1.map (Value.int .u8)).toArray (0, 0) HB5.out hds ?_
    refine hK _ _ ?_
    clear hK K
    try simp only [Act.put, tdy]
    refine wpAnyIn_ready (rs := [1, 4]) (by kernel_rfl) (by simp) ?_
    refine AllReadyIn.cons rfl (fun K hK => ?_) ?_
    ·refine stIn_load28 rfl _ rfl wr.heap.size rfl 29 (d.1.map (Value.int .u8)).toArray (0, 0) HB5.out hds ?_
     refine hK _ _ ?_
     clear hK K
     try simp only [Act.put, tdy]
     refine wpAnyIn_ready (rs := [4]) (by kernel_rfl) (by simp) ?_
     refine AllReadyIn.cons rfl (fun K hK => ?_) .nil
     go_simp
     refine hK _ _ ?_
     clear hK K
     try simp only [Act.put, tdy]
     refine wpAnyIn_ready (rs := [5]) (by kernel_rfl) (by simp) ?_
     refine AllReadyIn.cons rfl (fun K hK => ?_) .nil
     go_simp
     refine hK _ _ ?_
     clear hK K
     try simp only [Act.put, tdy]
     refine wpAnyIn_ready (rs := [6]) (by kernel_rfl) (by simp) ?_
     refine AllReadyIn.cons rfl (fun K hK => ?_) .nil
     go_simp
     refine hRn.mono ?_
     rintro e5 W5 ⟨rfl, hJ5, hk5⟩
     ·have HJ5 := hid_of hJ5
      have HR5 := hid_of (HZ.out _ _ HR3.out (KeepsB.of_kepts hk5 HYZ.out))
      clear hJ5 hk5
      refine hK _ _ ?_
      clear hK K
      try simp only [Act.put, tdy]
      refine wpAnyIn_take (i := 7) (v := ?_) rfl rfl (by kernel_rfl) (by kernel_rfl) (by kernel_rfl) (fun _ _ _ h => h) ⟨Or.inl ⟨by rfl, ?_⟩, fun _ => rfl⟩ ?_
      rotate_left 1
      ·intro w
       go_simp
       try with_reducible rfl
      try simp only [Act.put, tdy]
      refine wpAnyIn_done (by kernel_rfl) ?_ _
      gi_wp2
      go_roundw
      case rel => exact ⟨j + 1, ss ++ [⟨e, hem⟩], by omega, by go_num, by rw [List.take_add_one, HD.out, List.map_append, List.map_append, HSS.out]; simp [HEK.out], HR5.out, HJ5.out⟩
      case measure => simp [intOf]; omega
    refine AllReadyIn.cons rfl (fun K hK => ?_) .nil
    go_simp
    refine hK _ _ ?_
    clear hK K
    try simp only [Act.put, tdy]
    refine wpAnyIn_ready (rs := [1, 5]) (by kernel_rfl) (by simp) ?_
    refine AllReadyIn.cons rfl (fun K hK => ?_) ?_
    ·refine stIn_load28 rfl _ rfl wr.heap.size rfl 29 (d.1.map (Value.int .u8)).toArray (0, 0) HB5.out hds ?_
     refine hK _ _ ?_
     clear hK K
     try simp only [Act.put, tdy]
     refine wpAnyIn_ready (rs := [5]) (by kernel_rfl) (by simp) ?_
     refine AllReadyIn.cons rfl (fun K hK => ?_) .nil
     go_simp
     refine hK _ _ ?_
     clear hK K
     try simp only [Act.put, tdy]
     refine wpAnyIn_ready (rs := [6]) (by kernel_rfl) (by simp) ?_
     refine AllReadyIn.cons rfl (fun K hK => ?_) .nil
     go_simp
     refine hRn.mono ?_
     rintro e5 W5 ⟨rfl, hJ5, hk5⟩
     ·have HJ5 := hid_of hJ5
      have HR5 := hid_of (HZ.out _ _ HR3.out (KeepsB.of_kepts hk5 HYZ.out))
      clear hJ5 hk5
      refine hK _ _ ?_
      clear hK K
      try simp only [Act.put, tdy]
      refine wpAnyIn_take (i := 7) (v := ?_) rfl rfl (by kernel_rfl) (by kernel_rfl) (by kernel_rfl) (fun _ _ _ h => h) ⟨Or.inl ⟨by rfl, ?_⟩, fun _ => rfl⟩ ?_
      rotate_left 1
      ·intro w
       go_simp
       try with_reducible rfl
      try simp only [Act.put, tdy]
      refine wpAnyIn_done (by kernel_rfl) ?_ _
      gi_wp2
      go_roundw
      case rel => exact ⟨j + 1, ss ++ [⟨e, hem⟩], by omega, by go_num, by rw [List.take_add_one, HD.out, List.map_append, List.map_append, HSS.out]; simp [HEK.out], HR5.out, HJ5.out⟩
      case measure => simp [intOf]; omega
    refine AllReadyIn.cons rfl (fun K hK => ?_) .nil
    go_simp
    refine hK _ _ ?_
    clear hK K
    try simp only [Act.put, tdy]
    refine wpAnyIn_ready (rs := [1]) (by kernel_rfl) (by simp) ?_
    refine AllReadyIn.cons rfl (fun K hK => ?_) .nil
    refine stIn_load28 rfl _ rfl wr.heap.size rfl 29 (d.1.map (Value.int .u8)).toArray (0, 0) HB5.out hds ?_
    refine hK _ _ ?_
    clear hK K
    try simp only [Act.put, tdy]
    refine wpAnyIn_ready (rs := [6]) (by kernel_rfl) (by simp) ?_
    refine AllReadyIn.cons rfl (fun K hK => ?_) .nil
    go_simp
    refine hRn.mono ?_
    rintro e5 W5 ⟨rfl, hJ5, hk5⟩
    ·have HJ5 := hid_of hJ5
     have HR5 := hid_of (HZ.out _ _ HR3.out (KeepsB.of_kepts hk5 HYZ.out))
     clear hJ5 hk5
     refine hK _ _ ?_
     clear hK K
     try simp only [Act.put, tdy]
     refine wpAnyIn_take (i := 7) (v := ?_) rfl rfl (by kernel_rfl) (by kernel_rfl) (by kernel_rfl) (fun _ _ _ h => h) ⟨Or.inl ⟨by rfl, ?_⟩, fun _ => rfl⟩ ?_
     rotate_left 1
     ·intro w
      go_simp
      try with_reducible rfl
     try simp only [Act.put, tdy]
     refine wpAnyIn_done (by kernel_rfl) ?_ _
     gi_wp2
     go_roundw
     case rel => exact ⟨j + 1, ss ++ [⟨e, hem⟩], by omega, by go_num, by rw [List.take_add_one, HD.out, List.map_append, List.map_append, HSS.out]; simp [HEK.out], HR5.out, HJ5.out⟩
     case measure => simp [intOf]; omega
   refine AllReadyIn.cons rfl (fun K hK => ?_) .nil
   refine stIn_load28 rfl _ rfl wr.heap.size rfl 29 (d.1.map (Value.int .u8)).toArray (0, 0) HB5.out hds ?_
   refine hK _ _ ?_
   clear hK K
   try simp only [Act.put, tdy]
   refine wpAnyIn_ready (rs := [1, 2]) (by kernel_rfl) (by simp) ?_
   refine AllReadyIn.cons rfl (fun K hK => ?_) ?_
   ·refine stIn_load28 rfl _ rfl wr.heap.size rfl 29 (d.1.map (Value.int .u8)).toArray (0, 0) HB5.out hds ?_
    refine hK _ _ ?_
    clear hK K
    try simp only [Act.put, tdy]
    refine wpAnyIn_ready (rs := [2]) (by kernel_rfl) (by simp) ?_
    refine AllReadyIn.cons rfl (fun K hK => ?_) .nil
    go_simp
    refine hK _ _ ?_
    clear hK K
    try simp only [Act.put, tdy]
    refine wpAnyIn_ready (rs := [4]) (by kernel_rfl) (by simp) ?_
    refine AllReadyIn.cons rfl (fun K hK => ?_) .nil
    go_simp
    refine hK _ _ ?_
    clear hK K
    try simp only [Act.put, tdy]
    refine wpAnyIn_ready (rs := [5]) (by kernel_rfl) (by simp) ?_
    refine AllReadyIn.cons rfl (fun K hK => ?_) .nil
    go_simp
    refine hK _ _ ?_
    clear hK K
    try simp only [Act.put, tdy]
    refine wpAnyIn_ready (rs := [6]) (by kernel_rfl) (by simp) ?_
    refine AllReadyIn.cons rfl (fun K hK => ?_) .nil
    go_simp
    refine hRn.mono ?_
    rintro e5 W5 ⟨rfl, hJ5, hk5⟩
    ·have HJ5 := hid_of hJ5
     have HR5 := hid_of (HZ.out _ _ HR3.out (KeepsB.of_kepts hk5 HYZ.out))
     clear hJ5 hk5
     refine hK _ _ ?_
     clear hK K
     try simp only [Act.put, tdy]
     refine wpAnyIn_take (i := 7) (v := ?_) rfl rfl (by kernel_rfl) (by kernel_rfl) (by kernel_rfl) (fun _ _ _ h => h) ⟨Or.inl ⟨by rfl, ?_⟩, fun _ => rfl⟩ ?_
     rotate_left 1
     ·intro w
      go_simp
      try with_reducible rfl
     try simp only [Act.put, tdy]
     refine wpAnyIn_done (by kernel_rfl) ?_ _
     gi_wp2
     go_roundw
     case rel => exact ⟨j + 1, ss ++ [⟨e, hem⟩], by omega, by go_num, by rw [List.take_add_one, HD.out, List.map_append, List.map_append, HSS.out]; simp [HEK.out], HR5.out, HJ5.out⟩
     case measure => simp [intOf]; omega
   refine AllReadyIn.cons rfl (fun K hK => ?_) .nil
   go_simp
   refine hK _ _ ?_
   clear hK K
   try simp only [Act.put, tdy]
   refine wpAnyIn_ready (rs := [1, 4]) (by kernel_rfl) (by simp) ?_
   refine AllReadyIn.cons rfl (fun K hK => ?_) ?_
   ·refine stIn_load28 rfl _ rfl wr.heap.size rfl 29 (d.1.map (Value.int .u8)).toArray (0, 0) HB5.out hds ?_
    refine hK _ _ ?_
    clear hK K
    try simp only [Act.put, tdy]
    refine wpAnyIn_ready (rs := [4]) (by kernel_rfl) (by simp) ?_
    refine AllReadyIn.cons rfl (fun K hK => ?_) .nil
    go_simp
    refine hK _ _ ?_
    clear hK K
    try simp only [Act.put, tdy]
    refine wpAnyIn_ready (rs := [5]) (by kernel_rfl) (by simp) ?_
    refine AllReadyIn.cons rfl (fun K hK => ?_) .nil
    go_simp
    refine hK _ _ ?_
    clear hK K
    try simp only [Act.put, tdy]
    refine wpAnyIn_ready (rs := [6]) (by kernel_rfl) (by simp) ?_
    refine AllReadyIn.cons rfl (fun K hK => ?_) .nil
    go_simp
    refine hRn.mono ?_
    rintro e5 W5 ⟨rfl, hJ5, hk5⟩
    ·have HJ5 := hid_of hJ5
     have HR5 := hid_of (HZ.out _ _ HR3.out (KeepsB.of_kepts hk5 HYZ.out))
     clear hJ5 hk5
     refine hK _ _ ?_
     clear hK K
     try simp only [Act.put, tdy]
     refine wpAnyIn_take (i := 7) (v := ?_) rfl rfl (by kernel_rfl) (by kernel_rfl) (by kernel_rfl) (fun _ _ _ h => h) ⟨Or.inl ⟨by rfl, ?_⟩, fun _ => rfl⟩ ?_
     rotate_left 1
     ·intro w
      go_simp
      try with_reducible rfl
     try simp only [Act.put, tdy]
     refine wpAnyIn_done (by kernel_rfl) ?_ _
     gi_wp2
     go_roundw
     case rel => exact ⟨j + 1, ss ++ [⟨e, hem⟩], by omega, by go_num, by rw [List.take_add_one, HD.out, List.map_append, List.map_append, HSS.out]; simp [HEK.out], HR5.out, HJ5.out⟩
     case measure => simp [intOf]; omega
   refine AllReadyIn.cons rfl (fun K hK => ?_) .nil
   go_simp
   refine hK _ _ ?_
   clear hK K
   try simp only [Act.put, tdy]
   refine wpAnyIn_ready (rs := [1, 5]) (by kernel_rfl) (by simp) ?_
   refine AllReadyIn.cons rfl (fun K hK => ?_) ?_
   ·refine stIn_load28 rfl _ rfl wr.heap.size rfl 29 (d.1.map (Value.int .u8)).toArray (0, 0) HB5.out hds ?_
    refine hK _ _ ?_
    clear hK K
    try simp only [Act.put, tdy]
    refine wpAnyIn_ready (rs := [5]) (by kernel_rfl) (by simp) ?_
    refine AllReadyIn.cons rfl (fun K hK => ?_) .nil
    go_simp
    refine hK _ _ ?_
    clear hK K
    try simp only [Act.put, tdy]
    refine wpAnyIn_ready (rs := [6]) (by kernel_rfl) (by simp) ?_
    refine AllReadyIn.cons rfl (fun K hK => ?_) .nil
    go_simp
    refine hRn.mono ?_
    rintro e5 W5 ⟨rfl, hJ5, hk5⟩
    ·have HJ5 := hid_of hJ5
     have HR5 := hid_of (HZ.out _ _ HR3.out (KeepsB.of_kepts hk5 HYZ.out))
     clear hJ5 hk5
     refine hK _ _ ?_
     clear hK K
     try simp only [Act.put, tdy]
     refine wpAnyIn_take (i := 7) (v := ?_) rfl rfl (by kernel_rfl) (by kernel_rfl) (by kernel_rfl) (fun _ _ _ h => h) ⟨Or.inl ⟨by rfl, ?_⟩, fun _ => rfl⟩ ?_
     rotate_left 1
     ·intro w
      go_simp
      try with_reducible rfl
     try simp only [Act.put, tdy]
     refine wpAnyIn_done (by kernel_rfl) ?_ _
     gi_wp2
     go_roundw
     case rel => exact ⟨j + 1, ss ++ [⟨e, hem⟩], by omega, by go_num, by rw [List.take_add_one, HD.out, List.map_append, List.map_append, HSS.out]; simp [HEK.out], HR5.out, HJ5.out⟩
     case measure => simp [intOf]; omega
   refine AllReadyIn.cons rfl (fun K hK => ?_) .nil
   go_simp
   refine hK _ _ ?_
   clear hK K
   try simp only [Act.put, tdy]
   refine wpAnyIn_ready (rs := [1]) (by kernel_rfl) (by simp) ?_
   refine AllReadyIn.cons rfl (fun K hK => ?_) .nil
   refine stIn_load28 rfl _ rfl wr.heap.size rfl 29 (d.1.map (Value.int .u8)).toArray (0, 0) HB5.out hds ?_
   refine hK _ _ ?_
   clear hK K
   try simp only [Act.put, tdy]
   refine wpAnyIn_ready (rs := [6]) (by kernel_rfl) (by simp) ?_
   refine AllReadyIn.cons rfl (fun K hK => ?_) .nil
   go_simp
   refine hRn.mono ?_
   rintro e5 W5 ⟨rfl, hJ5, hk5⟩
   ·have HJ5 := hid_of hJ5
    have HR5 := hid_of (HZ.out _ _ HR3.out (KeepsB.of_kepts hk5 HYZ.out))
    clear hJ5 hk5
    refine hK _ _ ?_
    clear hK K
    try simp only [Act.put, tdy]
    refine wpAnyIn_take (i := 7) (v := ?_) rfl rfl (by kernel_rfl) (by kernel_rfl) (by kernel_rfl) (fun _ _ _ h => h) ⟨Or.inl ⟨by rfl, ?_⟩, fun _ => rfl⟩ ?_
    rotate_left 1
    ·intro w
     go_simp
     try with_reducible rfl
    try simp only [Act.put, tdy]
    refine wpAnyIn_done (by kernel_rfl) ?_ _
    gi_wp2
    go_roundw
    case rel => exact ⟨j + 1, ss ++ [⟨e, hem⟩], by omega, by go_num, by rw [List.take_add_one, HD.out, List.map_append, List.map_append, HSS.out]; simp [HEK.out], HR5.out, HJ5.out⟩
    case measure => simp [intOf]; omega
  ·have hjI : ¬ (j : Int) < (ds.length : Int) := by omega
   obtain rfl : j = ds.length := by omega
   gi_wp2
   go_end0
   exact ⟨⟨_, rfl⟩, ⟨ss, by have h7 := HSS.out; rw [List.take_length] at h7; simpa using h7, HJS.out⟩⟩
end Go.Proofs.YtjdbmjkidljhpaaGreatDoor
