/-
 Mt: Win, Cord, Csort, Crec, Creck.
-/
import Derived.Test.YtjdbmjkidljhpaaGreatDoorTCalla
import Derived.OrdersIn
import Derived.Deep.RegionHeld
import Derived.TacticsIn
import Derived.RangeFuncCalls
import Derived.Test.YtjdbmjkidljhpaaGreatDoorTMr
import Derived.Test.YtjdbmjkidljhpaaGreatDoorTMd
import Derived.Lib.BytesEntry
import Derived.Shelf.SlSortCmp.WholeK
import Derived.Test.YtjdbmjkidljhpaaGreatDoorTMn
import Derived.Shelf.Lay
import Derived.Ground.SlsfProg
import Derived.Test.YtjdbmjkidljhpaaGreatDoorTMo
namespace Go.Proofs.YtjdbmjkidljhpaaGreatDoor
open Go.RowKit
set_option linter.unusedVariables false
set_option linter.unusedSimpArgs false
set_option maxRecDepth 100000
section
variable {P : Program} {ops : Array Oper} {Q : Exit → Act → World → Prop} {md : Region.Mode}
/-- The fence that lets everything, within a round or not. -/
def IsWide (F : Fence) : Prop := F = Fence.wide ∨ ∃ l, F = Fence.wide.inRound l
theorem IsWide.in_ (l : Nat) : IsWide (Fence.wide.inRound l) := .inr ⟨l, rfl⟩
theorem IsWide.out_ : IsWide Fence.wide := .inl rfl
theorem IsWide.fn {F : Fence} (h : IsWide F) (f : FuncId) : F.fn f := by
 rcases h with rfl | ⟨l, rfl⟩ <;> exact trivial
theorem IsWide.depth {F : Fence} (h : IsWide F) : ¬ F.depth.isSome = true := by
 rcases h with rfl | ⟨l, rfl⟩ <;> (intro e; cases e)
theorem IsWide.calls {F : Fence} (h : IsWide F) {n : Nat} {f : FuncId} {args : Array Value} {w : World} {R : Ending → World → Prop} (hc : Calls P f args w R) : CallsIn F n P f args w R := by
 rcases h with rfl | ⟨l, rfl⟩
 ·exact callsIn_wide.2 hc
 ·exact CallsIn.inRound l (callsIn_wide.2 hc)
theorem IsWide.rows {F : Fence} (h : IsWide F) {n : Nat} {row : String} {args : Array Value} {w : World} {R : Value → World → Prop} (hc : Rows P row args w R) : RowsIn F n P row args w R := by
 have a : RowsIn Fence.wide n P row args w R := fun c cs _ => by
  obtain ⟨v, w', r, s⟩ := hc c cs
  exact ⟨v, w', r, stepsIn_wide.2 s⟩
 rcases h with rfl | ⟨l, rfl⟩
 ·exact a
 ·exact a
theorem IsWide.sem {F : Fence} {o : Oper} (h : IsWide F) (hd : ∀ c, o.op ≠ .defer c) (ρ : Operand → Value) : o.semAt F.round ρ = execOp ρ o := Oper.semAt_plain F ρ o hd
theorem wpOpIn_of {F : Fence} (hF : IsWide F) (n : Nat) (hno : ¬ LetsOut Q) (hd : ∀ o ∈ ops, ∀ c, o.op ≠ .defer c) {i : Nat} {K K' : Act → World → Prop} {a : Act} {w : World} (hK : ∀ a w, K a w → K' a w) (h : wpOp P ops Q i K a w) : wpOpIn F n P ops Q i K' a w := by
 unfold wpOp at h
 unfold wpOpIn
 cases ho : ops[i]? with
 | none => rw [ho] at h; exact hK _ _ h
 | some o =>
  rw [ho] at h
  simp only at h ⊢
  by_cases hw : Region.wanted o (yielded ops a.tmps) = true
  ·rw [if_pos hw] at h
   rw [if_pos hw]
   have h := h.resolve_right (fun e => hno e.2)
   refine ⟨fun f _ => hF.fn f, ?_⟩
   rw [hF.sem (hd o (Array.mem_of_getElem? ho))]
   unfold Oper.wp at h
   generalize (execOp a.eval o).run P w = rr at h ⊢
   cases rr with
   | ok x w' =>
    cases x <;> simp only [Oper.upon, Oper.uponIn] at h ⊢ <;>
     first
      | exact hK _ _ h
      | exact h.elim
      | exact ⟨fun e => absurd e hF.depth, hF.rows (Rows.mono h (fun v w2 he => hK _ _ he))⟩
      | exact ⟨fun e => absurd e hF.depth, (hF.calls (Calls.mono h (fun e w2 he => by cases e <;> first | exact hK _ _ he | exact he)))⟩
   | halt x w' =>
    cases x <;> exact h
  ·rw [if_neg hw] at h
   rw [if_neg hw]
   exact ⟨fun f _ => hF.fn f, hK _ _ h⟩
theorem wpAnyIn_of_any {F : Fence} (hF : IsWide F) (n : Nat) (hno : ¬ LetsOut Q) (hd : ∀ o ∈ ops, ∀ c, o.op ≠ .defer c) : ∀ (fuel : Nat) (listed : Array Bool) (a : Act) (w : World), wpAny P md ops Q fuel listed a w → wpAnyIn F n P md ops Q fuel listed a w
 | 0, _, _, _, h => h
 | fuel + 1, _, _, _, h => ⟨h.1, fun i hi => wpOpIn_of hF n hno hd (fun a' w' h' => wpAnyIn_of_any hF n hno hd fuel _ a' w' h') (h.2 i hi)⟩
/-- No operation of these defers. -/
def noDefer (ops : Array Oper) : Bool := ops.all fun o => match o.op with | .defer _ => false | _ => true
theorem noDefer_spec (h : noDefer ops = true) : ∀ o ∈ ops, ∀ c, o.op ≠ .defer c := fun o ho c e => by
 have := Array.all_eq_true_iff_forall_mem.1 h o ho
 rw [e] at this
 cases this
theorem wpIn_region_held {F : Fence} (hF : IsWide F) {n id : Nat} {S : World → Prop} {a : Act} {w : World} (hm : P.follows .mixedOrders = true) (hd : noDefer ops = true) (hno : ¬ LetsOut Q) (hS : S w.drew)
  (h : S w.drew → wpAnyH P .any ops Q S ops.size (Array.replicate ops.size false) a w.drew) : (Code.region id ops true).wpIn F n P Q a w :=
 wpIn_region_any hm (wpAnyIn_of_any hF n hno (noDefer_spec hd) _ _ _ _ (wpAny_of_held _ _ _ _ (h hS)))
end
end Go.Proofs.YtjdbmjkidljhpaaGreatDoor
namespace Go.Proofs.YtjdbmjkidljhpaaGreatDoor
open Go.RowKit
set_option linter.unusedVariables false
set_option linter.unusedSimpArgs false
set_option maxRecDepth 100000
set_option maxRecDepth 100000 in
set_option maxHeartbeats 1000000 in
theorem grow_drewN {w w2 : World} (h : ∃ os', w2 = Sort.grow w os') (n : Nat) : ∃ q os', w2.drewN n = Sort.grow (w.drewN q) os' := by
 obtain ⟨os', rfl⟩ := h
 exact ⟨n, os', rfl⟩
theorem lessq_any (a b : List Int) (ha : a.length = 32) (hb : b.length = 32) (hra : ∀ x ∈ a, 0 ≤ x ∧ x < 256) (hrb : ∀ x ∈ b, 0 ≤ x ∧ x < 256) (w : World) :
  Calls Tryz.prog 70 #[.agg (a.map (Value.int .u8)).toArray, .agg (b.map (Value.int .u8)).toArray] w fun e w' => e = .returned (.bool (ltB a b)) ∧ ∃ q os', w' = Sort.grow (w.drewN q) os' := by
 have hl := cmp_lt a b hra hrb
 have HL := hid_of hl
 clear hl hra hrb
 go_enter Tryz.func70, Tryz.ntmps70
 go_wp2
 have h1 := cells_list (w := ((w.alloc (Obj.cells (List.map (Value.int IntKind.u8) a).toArray 29)).alloc (Obj.cells (List.map (Value.int IntKind.u8) b).toArray 29))) (b := w.heap.size) (alloc_old (alloc_new _ _ rfl))
 have h2 := cells_list (w := ((w.alloc (Obj.cells (List.map (Value.int IntKind.u8) a).toArray 29)).alloc (Obj.cells (List.map (Value.int IntKind.u8) b).toArray 29))) (b := w.heap.size + 1) (alloc_new _ _ (by simp))
 have hk : ∃ os', (w.alloc (Obj.cells (List.map (Value.int IntKind.u8) a).toArray 29)).alloc (Obj.cells (List.map (Value.int IntKind.u8) b).toArray 29) = Sort.grow w os' := ⟨_, by rw [Sort.alloc_eq_grow, Sort.alloc_eq_grow, Sort.grow_grow]⟩
 generalize (w.alloc (Obj.cells (List.map (Value.int IntKind.u8) a).toArray 29)).alloc (Obj.cells (List.map (Value.int IntKind.u8) b).toArray 29) = w2 at *
 rw [ha] at h1
 rw [hb] at h2
 have HC : Hid (∀ n, Calls Tryz.prog 80 #[.slice (some ⟨w.heap.size, 0, none⟩) 32 32, .slice (some ⟨w.heap.size + 1, 0, none⟩) 32 32] (w2.drewN n) fun e w' => e = .returned (.int .i64 (Lib.compareBytes (Lib.bytesOf a) (Lib.bytesOf b))) ∧ w' = w2.drewN n) :=
  fun n => compare_any _ _ _ _ _ _ _ _ a b (w2.drewN n) ha hb (fun i hi => by rw [Nat.zero_add]; exact h1 i hi) (fun i hi => by rw [Nat.zero_add]; exact h2 i hi)
 have HK := hid_of hk
 clear h1 h2 hk
 go_quiet (first | (go_at_call 80; exact (HC.out _).mono (fun _ _ h => ⟨h.1, _, h.2⟩)))
 go_wp2
 go_ret
 exact ⟨by rw [← HL.out]; rfl, grow_drewN HK.out _⟩
/-- The order that the sort goes by. -/
def ordD (x y : Dg) : Int := if x.1 = y.1 then 0 else if ltB x.1 y.1 = true then -1 else 1
def encD (x : Dg) : List Value := x.1.map (Value.int .u8)
theorem ordD_lt (x y : Dg) : ltOf ordD x y = ltB x.1 y.1 := by
 unfold ltOf ordD
 by_cases h : x.1 = y.1
 ·rw [if_pos h, h, ltB_irr]
  rfl
 ·rw [if_neg h]
  cases hl : ltB x.1 y.1 <;> simp
theorem ordD_swo : Sort.SWO (ltOf ordD) where
 irrefl x := by rw [ordD_lt]; exact ltB_irr _
 trans x y z h1 h2 := by rw [ordD_lt] at *; exact ltB_trans _ _ _ h1 h2
 ntrans x y z h1 h2 := by
  rw [ordD_lt] at *
  cases h : ltB x.1 z.1 with
  | false => rfl
  | true =>
   cases h3 : ltB y.1 x.1 with
   | true =>
    have := ltB_trans _ _ _ h3 h
    rw [h2] at this
    cases this
   | false =>
    have e : x.1 = y.1 := ltB_total _ _ (by rw [x.2.1, y.2.1]) h1 h3
    rw [e, h2] at h
    cases h
set_option maxHeartbeats 2000000 in
theorem order_any (x y : Dg) (W : World) : Calls Tryz.prog 54 #[.agg (encD x).toArray, .agg (encD y).toArray] W fun e w' => e = .returned (.int .i64 (ordD x y)) ∧ ∃ q os', w' = Sort.grow (W.drewN q) os' := by
 have HL := hid_of (fun w => lessq_any x.1 y.1 x.2.1 y.2.1 x.2.2 y.2.2 w)
 have HEQ : Hid (∀ W' : World, (Op.equalIn 10000 29 (.agg (x.1.map (Value.int .u8)).toArray) (.agg (y.1.map (Value.int .u8)).toArray)).run Tryz.prog W' = .ok (decide (x.1 = y.1)) W') := fun W' => run_eq_arr W' 9998 29 32 x.1 y.1 Tryz.underlying29 x.2.1 y.2.1
 have hd1 := size28_of x.1 x.2.1
 have hd2 := size28_of y.1 y.2.1
 have HB1 : Hid (((W.alloc (.cells (x.1.map (Value.int .u8)).toArray 29)).alloc (.cells (y.1.map (Value.int .u8)).toArray 29)).heap[W.heap.size]? = some (.cells (x.1.map (Value.int .u8)).toArray 29 (0, 0))) := alloc_old (alloc_new _ _ rfl)
 have HB2 : Hid (((W.alloc (.cells (x.1.map (Value.int .u8)).toArray 29)).alloc (.cells (y.1.map (Value.int .u8)).toArray 29)).heap[W.heap.size + 1]? = some (.cells (y.1.map (Value.int .u8)).toArray 29 (0, 0))) := alloc_new _ _ (by simp)
 have HG : Hid (∃ os', (W.alloc (.cells (x.1.map (Value.int .u8)).toArray 29)).alloc (.cells (y.1.map (Value.int .u8)).toArray 29) = Sort.grow W os') := ⟨_, by rw [Sort.alloc_eq_grow, Sort.alloc_eq_grow, Sort.grow_grow]⟩
 unfold encD
 go_enter Tryz.func54, Tryz.ntmps54
 by_cases he : x.1 = y.1
 ·have hcf : ordD x y = 0 := by unfold ordD; rw [if_pos he]
  have hde : decide (x.1 = y.1) = true := by simp [he]
  rw [hde] at HEQ
  rw [hcf]
  clear hcf hde he
  have hq := HEQ.out ((W.alloc (.cells (x.1.map (Value.int .u8)).toArray 29)).alloc (.cells (y.1.map (Value.int .u8)).toArray 29))
  go_wp2_with (first | (refine wpList_load_row rfl 29 _ rfl W.heap.size rfl 29 (x.1.map (Value.int .u8)).toArray (0, 0) _ HB1.out Tryz.underlying29 rfl hd1 ?_) | (refine wpList_load_row rfl 29 _ rfl (W.heap.size + 1) rfl 29 (y.1.map (Value.int .u8)).toArray (0, 0) _ HB2.out Tryz.underlying29 rfl hd2 ?_))
  go_ret
  obtain ⟨os3, h3⟩ := HG.out
  exact ⟨rfl, 0, os3, h3⟩
 ·have hde : decide (x.1 = y.1) = false := by simp [he]
  rw [hde] at HEQ
  have hq := HEQ.out ((W.alloc (.cells (x.1.map (Value.int .u8)).toArray 29)).alloc (.cells (y.1.map (Value.int .u8)).toArray 29))
  go_wp2_with (first | (refine wpList_load_row rfl 29 _ rfl W.heap.size rfl 29 (x.1.map (Value.int .u8)).toArray (0, 0) _ HB1.out Tryz.underlying29 rfl hd1 ?_) | (refine wpList_load_row rfl 29 _ rfl (W.heap.size + 1) rfl 29 (y.1.map (Value.int .u8)).toArray (0, 0) _ HB2.out Tryz.underlying29 rfl hd2 ?_))
  refine (HL.out _).mono ?_
  rintro e w' ⟨rfl, q, os', rfl⟩
  have HF : Hid (∃ q' os2, Sort.grow (((W.alloc (.cells (x.1.map (Value.int .u8)).toArray 29)).alloc (.cells (y.1.map (Value.int .u8)).toArray 29)).drewN q) os' = Sort.grow (W.drewN q') os2) := by
   obtain ⟨os3, h3⟩ := HG.out
   rw [h3]
   exact ⟨q, os3 ++ os', by rw [← Sort.grow_grow]; rfl⟩
  generalize Sort.grow (((W.alloc (.cells (x.1.map (Value.int .u8)).toArray 29)).alloc (.cells (y.1.map (Value.int .u8)).toArray 29)).drewN q) os' = wz at *
  cases hl : ltB x.1 y.1 with
  | true =>
   have hcf : ordD x y = -1 := by unfold ordD; rw [if_neg he, if_pos hl]
   go_wp2
   go_ret
   exact ⟨by rw [hcf]; rfl, HF.out⟩
  | false =>
   have hcf : ordD x y = 1 := by unfold ordD; rw [if_neg he, if_neg (by rw [hl]; decide)]
   go_wp2
   go_ret
   exact ⟨by rw [hcf]; rfl, HF.out⟩
end Go.Proofs.YtjdbmjkidljhpaaGreatDoor
namespace Go.Proofs
open Go.Shelf
shelf_lay_g SlLaysF0.n6 Slsf 6 at Tryz 68 as Tryz.sortDg
end Go.Proofs
namespace Go.Proofs.YtjdbmjkidljhpaaGreatDoor
open Go.RowKit Go.Shelf
set_option linter.unusedVariables false
set_option linter.unusedSimpArgs false
set_option maxRecDepth 100000
theorem flatD_at : ∀ (xs : List Dg) (i : Nat) (x : Dg) (t : Nat), xs[i]? = some x → t < 32 → (flatD xs)[i * 32 + t]? = (x.1.map (Value.int .u8))[t]?
 | [], i, x, t, h, _ => by cases h
 | y :: xs, 0, x, t, h, ht => by
  obtain rfl : y = x := by simpa using h
  rw [flatD, Nat.zero_mul, Nat.zero_add, List.getElem?_append_left (by rw [List.length_map, y.2.1]; exact ht)]
 | y :: xs, i + 1, x, t, h, ht => by
  have hl : (y.1.map (Value.int .u8)).length = 32 := by rw [List.length_map, y.2.1]
  rw [flatD, List.getElem?_append_right (by omega), hl, show (i + 1) * 32 + t - 32 = i * 32 + t by omega]
  exact flatD_at xs i x t (by simpa using h) ht
theorem flatD_len : ∀ (xs : List Dg), (flatD xs).length = xs.length * 32
 | [] => rfl
 | y :: xs => by
  rw [flatD, List.length_append, flatD_len xs, List.length_map, y.2.1, List.length_cons]
  omega
theorem kept_sort {α : Type} [Inhabited α] (enc : α → List Value) (k : Nat) (w : World) (blk off n : Nat) (d : Array α) (os : Array Obj) (hb : blk < w.heap.size) : Kept (fun i => i = blk) w (sortWorldK enc k w blk off n d os) := by
 refine ⟨rfl, rfl, rfl, ?_, fun i hi hn => ?_⟩
 ·simp [sortWorldK, Sort.grow, Sort.putRowK, Sort.putRow, Sort.mapBlock, Sort.ahead]
 ·have hs : i < (Sort.putRowK enc k (Sort.ahead w n) blk off d).heap.size := by simpa [Sort.putRowK, Sort.putRow, Sort.mapBlock, Sort.ahead] using hi
  show ((Sort.putRowK enc k (Sort.ahead w n) blk off d).heap ++ os)[i]? = _
  rw [Array.getElem?_append_left hs]
  simp [Sort.putRowK, Sort.putRow, Sort.mapBlock, Sort.ahead, Array.getElem?_modify, Ne.symm hn]
theorem collect_full (Bn r clock : Nat) (es : List En) (w : World) (hM : MapAt w r clock es) (hn : es.length ≤ 1000000000) (hBn : Bn < w.heap.size) (hc : w.cell? ⟨Bn, 0, none⟩ = some (.map (some r))) :
  Calls Tryz.prog 67 #[.func (.func 69) #[] #[.pointer (some ⟨Bn, 0, none⟩)]] w fun e w' => ∃ v, ∃ ys : List Dg, e = .returned v ∧ (ys.map (·.1)).Perm (es.map En.k) ∧ w'.ownsRow w.heap.size 29 32 v ys.length (flatD ys) ∧ Kept (fun _ => False) w w' := by
 have HA := hid_of (aseq_full Bn r clock es w hM hn hBn hc)
 clear hc hM
 go_enter Tryz.func67, Tryz.ntmps67
 go_wp2_with fail
 refine HA.out.mono ?_
 rintro e w1 ⟨v, ys, rfl, h1, h2, h3⟩
 have HK := hid_of (And.intro h1 (And.intro h2 h3))
 clear h1 h2 h3
 go_wp2
 go_ret
 exact ⟨v, ys, rfl, HK.out.1, HK.out.2.1, HK.out.2.2⟩
theorem up_of (d' : Array Dg) [Inhabited Dg] (n : Nat) (hsz : d'.size = n) (hs : Sort.SortedIn (ltOf ordD) 0 n d') (hnd : (d'.toList.map (·.1)).Nodup) : (d'.toList.map (·.1)).Pairwise (fun x y => ltB x y = true) := by
 rw [List.pairwise_iff_getElem]
 intro i j hi hj hij
 have hi' : i < d'.size := by simpa using hi
 have hj' : j < d'.size := by simpa using hj
 have h := hs i j (Nat.zero_le _) hij (by omega)
 rw [ordD_lt, getElem!_pos d' j hj', getElem!_pos d' i hi'] at h
 have ei : (d'.toList.map (·.1))[i] = d'[i].1 := by simp
 have ej : (d'.toList.map (·.1))[j] = d'[j].1 := by simp
 cases hl : ltB d'[i].1 d'[j].1 with
 | true => rw [ei, ej]; exact hl
 | false =>
  have e := ltB_total _ _ (by rw [d'[i].2.1, d'[j].2.1]) hl h
  exact absurd (by rw [ei, ej]; exact e) ((List.pairwise_iff_getElem.1 hnd) i j hi hj hij)
set_option maxHeartbeats 2000000 in
theorem sorted_full (Bn r clock : Nat) (es : List En) (w : World) (hM : MapAt w r clock es) (hn : es.length ≤ 1000000000) (hkn : (es.map En.k).Nodup) (hBn : Bn < w.heap.size) (hc : w.cell? ⟨Bn, 0, none⟩ = some (.map (some r))) :
  Calls Tryz.prog 52 #[.func (.func 69) #[] #[.pointer (some ⟨Bn, 0, none⟩)], .func (.func 54) #[] #[]] w fun e w' => ∃ ao cap, ∃ ds : List Dg, e = .returned (.slice ao ds.length cap) ∧ (ds.map (·.1)).Perm (es.map En.k) ∧ (∀ i d, ds[i]? = some d → ∃ g o, ao = some ⟨g, o, none⟩ ∧ w'.rangeAt g (o + i * 32) (d.1.map (Value.int .u8))) ∧ (∀ g o, ao = some ⟨g, o, none⟩ → w.heap.size ≤ g ∧ g < w'.heap.size) ∧ Kept (fun _ => False) w w' ∧ (ds.map (·.1)).Pairwise (fun x y => ltB x y = true) := by
 have HA := hid_of (collect_full Bn r clock es w hM hn hBn hc)
 have HS0 := hid_of sortf_none
 have HND := hid_of hkn
 haveI : Inhabited Dg := ⟨⟨List.replicate 32 0, by simp, fun x hx => by rw [List.eq_of_mem_replicate hx]; decide⟩⟩
 clear hc hM
 go_enter Tryz.func52, Tryz.ntmps52
 go_wp2_with fail
 refine HA.out.mono ?_
 rintro e w1 ⟨v, ys, rfl, hperm, hown, hk⟩
 have HP := hid_of hperm
 have HK := hid_of hk
 rcases id hown.2 with ⟨rfl, h0⟩ | ⟨g, cap, cur, rfl, hbg, hg, hnc, hcm, hcs, htake⟩
 ·obtain rfl : ys = [] := List.eq_nil_of_length_eq_zero h0
  clear hperm hk hown HA
  go_wp2_with fail
  refine (HS0.out _).mono ?_
  rintro e w2 ⟨rfl, rfl⟩
  go_wp2
  go_ret
  exact ⟨none, 0, [], rfl, HP.out, fun i d h => (by cases h), fun g o h => (by cases h), HK.out, List.Pairwise.nil⟩
 ·have hH : Sort.HoldsK encD 32 w1 g 0 ys.toArray := fun j hj => by
   rw [Sort.size_flatK, List.size_toArray] at hj
   refine ⟨?_, frozen_block _ _ _ _ _ hg⟩
   obtain ⟨x, hx⟩ : ∃ x, ys[j / 32]? = some x := ⟨_, List.getElem?_eq_getElem (by omega)⟩
   have hlx : (x.1.map (Value.int .u8)).length = 32 := by rw [List.length_map, x.2.1]
   have h5 := flatD_at ys (j / 32) x (j % 32) hx (by omega)
   rw [show j / 32 * 32 + j % 32 = j by omega] at h5
   have h6 := hown.cells (g := g) rfl j _ (h5.trans (List.getElem?_eq_getElem (by omega)))
   rw [Addr.add_mid] at h6
   rw [h6, id, Sort.get_flatK _ _ _ _ (by rw [List.size_toArray]; exact hj)]
   have h7 : ys.toArray[j / 32]! = x := by
    have h8 := (List.getElem?_eq_some_iff.1 hx).1
    rw [getElem!_pos ys.toArray (j / 32) (by simpa using h8)]
    have h9 := (List.getElem?_eq_some_iff.1 hx).2
    simpa using h9
   rw [h7]
   unfold encD
   rw [getElem!_pos (x.1.map (Value.int .u8)) (j % 32) (by omega)]
  have eg : ∀ args w, (callFunc 54 args).run Tryz.prog w = .ok (.enter 54 args) w := enters_of Tryz.func54 (by kernel_rfl) rfl
  have hlen : ys.length ≤ 1000000000 := by
   have := HP.out.length_eq
   rw [List.length_map, List.length_map] at this
   omega
  have hcon := AnyQ.slices_SortFunc Tryz.sortDg 32 Tryz.isAgg29 Tryz.sizeOf29 encD (fun x => by unfold encD; rw [List.length_map, x.2.1]) (fun x v hv => by unfold encD at hv; obtain ⟨y, _, rfl⟩ := List.mem_map.1 hv; rfl) ordD ordD_swo 54 #[] g 0 cap ys.toArray w1 eg (fun _ _ _ _ x y => order_any x y _) hH (heap_lt hg) (by rw [List.size_toArray]; omega)
  change Calls Tryz.prog 68 _ _ _ at hcon
  rw [List.size_toArray] at hcon
  have HC := hid_of hcon
  have HH := hid_of hH
  have HG := hid_of hg
  clear hcon hH hperm hk hown HA hg htake
  go_wp2_with fail
  refine HC.out.mono ?_
  rintro e w2 ⟨rfl, d', m, os, hp', hso, rfl⟩
  have HSO := hid_of hso
  clear hso
  have HP2 := hid_of hp'
  have HK2 := hid_of (kept_sort encD 32 w1 g 0 m d' os (heap_lt HG.out))
  have HH2 := hid_of (holdsK_sortWorldK_c encD 32 w1 g 0 ys.toArray d' m os HH.out (heap_lt HG.out) hp'.1)
  generalize sortWorldK encD 32 w1 g 0 m d' os = w2 at *
  clear hp' HC
  go_wp2
  go_ret
  have hsz : d'.size = ys.length := by have := HP2.out.1; simpa using this
  refine ⟨some ⟨g, 0, none⟩, cap, d'.toList, ?_, ?_, fun i d hd => ⟨g, 0, rfl, ?_⟩, fun g' o h => ?_, ?_, ?_⟩
  ·have hl2 : d'.toList.length = ys.length := by simp [hsz]
   rw [hl2]
   rfl
  ·have h5 := HP2.out.2.2
   rw [show (d'.extract 0 ys.length) = d' by rw [← hsz]; simp, show (ys.toArray.extract 0 ys.length) = ys.toArray by simp] at h5
   exact (h5.map (·.1)).trans HP.out
  ·have hi : i < d'.size := by have := (List.getElem?_eq_some_iff.1 hd).1; simpa using this
   have hdi : d'[i]! = d := by
    rw [getElem!_pos d' i hi]
    have := (List.getElem?_eq_some_iff.1 hd).2
    simpa using this
   intro j u hj
   have hj2 := (List.getElem?_eq_some_iff.1 hj).1
   have hlx : (d.1.map (Value.int .u8)).length = 32 := by rw [List.length_map, d.2.1]
   have := (Sort.HoldsK.cell (enc := encD) HH2.out hi (show j < 32 by omega)).1
   rw [this, hdi, ← hj]
   unfold encD
   rw [getElem!_pos _ j hj2, List.getElem?_eq_getElem hj2]
  ·cases h
   exact ⟨hbg, Nat.lt_of_lt_of_le (heap_lt HG.out) HK2.out.size⟩
  ·exact HK.out.step HK2.out (fun i hi e => by omega)
  ·have h5 := HP2.out.2.2
   rw [show (d'.extract 0 ys.length) = d' by rw [← hsz]; simp, show (ys.toArray.extract 0 ys.length) = ys.toArray by simp] at h5
   exact up_of d' ys.length hsz HSO.out (((h5.map (·.1)).trans HP.out).nodup_iff.2 HND.out)
end Go.Proofs.YtjdbmjkidljhpaaGreatDoor
namespace Go.Proofs.YtjdbmjkidljhpaaGreatDoor
open Go.RowKit Go.Shelf
attribute [local go_sem] Oper.semAt_some
set_option linter.unusedVariables false
set_option linter.unusedSimpArgs false
set_option maxRecDepth 100000
theorem keys_box (r : Option Nat) (w : World) : Calls Tryz.prog 53 #[.map r] w fun e w' => e = .returned (.func (.func 69) #[] #[.pointer (some ⟨w.heap.size, 0, none⟩)]) ∧ w' = w.alloc (.cells #[.map r] 63) := by
 go_enter Tryz.func53, Tryz.ntmps53
 go_wp2
 go_ret
 exact ⟨rfl, rfl⟩
/-- What row leaves. -/
structure RowOf (w w' : World) (es : List En) (B1 B2 r clock : Nat) (ds : List Dg) (ao : Option Addr) (cap : Nat) : Prop where
 at_ : RowAt w' B1 B2 r clock es ds ao cap
 perm : (ds.map (·.1)).Perm (es.map En.k)
 n1 : w.heap.size ≤ B1 ∧ B1 < w'.heap.size
 n2 : w.heap.size ≤ B2 ∧ B2 < w'.heap.size
 n3 : w.heap.size ≤ r ∧ r < w'.heap.size
 n4 : ∀ g o, ao = some ⟨g, o, none⟩ → w.heap.size ≤ g ∧ g < w'.heap.size
 kp : Kept (fun _ => False) w w'
 up : (ds.map (·.1)).Pairwise (fun x y => ltB x y = true)
set_option maxHeartbeats 2000000 in
theorem row_full {w : World} {s : Nat} {mv : Value} {σ : Sg} (h : Stor w s mv σ) (hn : σ.es.length ≤ 1000000000) : Calls Tryz.prog 28 #[.pointer (some ⟨s, 0, none⟩)] w fun e w' => ∃ B1 B2 r clock ds ao cap, e = .returned (.func (.func 55) #[] #[.pointer (some ⟨B1, 0, none⟩), .pointer (some ⟨B2, 0, none⟩)]) ∧ RowOf w w' σ.es B1 B2 r clock ds ao cap := by
 have c2 : w.cell? ⟨s, 2, none⟩ = some mv := h.cell 2
 have HC2 := hid_of c2
 have HKB := hid_of keys_box
 rcases h.map with ⟨rfl, hes⟩ | ⟨r, clock, rfl, hb, hrs, hst⟩
 ·have HES := hid_of hes
  have HMC := hid_of mclone_none
  clear h hes
  go_enter Tryz.func28, Tryz.ntmps28
  go_wp2_with fail
  refine (HKB.out _ _).mono ?_
  rintro e w1 ⟨rfl, rfl⟩
  have HS := hid_of (sorted_none w.heap.size (w.alloc (.cells #[.map none] 63)) (by simp) ((cell_block _ _ _ _ _ _ (alloc_new _ _ rfl)).trans rfl))
  have HK1 : Hid (Kept (fun _ => False) w (w.alloc (.cells #[.map none] 63))) := (Kept.refl _ w).alloc _
  go_wp2_with fail
  refine HS.out.mono ?_
  rintro e w2 ⟨rfl, hk⟩
  have HK2 := hid_of (HK1.out.trans hk)
  have hsz := HK2.out.size
  have c3 := HK2.out.cell HC2.out (fun f => f)
  have c4 : (w2.alloc (.cells #[.slice none 0 0] 89)).cell? ⟨s, 2, none⟩ = some (.map none) := (HK2.out.alloc _).cell HC2.out (fun f => f)
  clear hk HS HK1 HKB c2 c3
  go_wp2_with fail
  refine (HMC.out _).mono ?_
  rintro e w3 ⟨rfl, rfl⟩
  go_wp2
  go_ret
  refine ⟨w2.heap.size, w2.heap.size + 1, w2.heap.size, 0, [], none, 0, rfl, ⟨⟨?_, fun h => absurd rfl h, fun e he => (by rw [HES.out] at he; cases he), fun i d hd => (by cases hd), fun d hd => (by cases hd)⟩, (by rw [HES.out]; exact List.Perm.refl _), (by simp; omega), (by simp; omega), (by simp; omega), fun g o h => (by cases h), (HK2.out.alloc _).alloc _, List.Pairwise.nil⟩⟩
  rw [cell_block _ _ _ _ _ _ (alloc_old (alloc_new w2 _ rfl))]
  rfl
 ·have HMP : Hid (MapAt w r clock σ.es) := ⟨hb, h.key, hst.1, hst.2.1⟩
  have HKN := hid_of hst.2.2
  have HMC := hid_of (fun w hb => mclone_any r clock (σ.es.map En.ent).toArray w hb)
  clear h hb hst
  go_enter Tryz.func28, Tryz.ntmps28
  go_wp2_with fail
  refine (HKB.out _ _).mono ?_
  rintro e w1 ⟨rfl, rfl⟩
  have HK1 : Hid (Kept (fun _ => False) w (w.alloc (.cells #[.map (some r)] 63))) := (Kept.refl _ w).alloc _
  have HS := hid_of (sorted_full w.heap.size r clock σ.es (w.alloc (.cells #[.map (some r)] 63)) (HMP.out.kept HK1.out (fun f => f)) hn HKN.out (by simp) ((cell_block _ _ _ _ _ _ (alloc_new _ _ rfl)).trans rfl))
  go_wp2_with fail
  refine HS.out.mono ?_
  rintro e w2 ⟨ao, cap, ds, rfl, hperm, hrow, hge, hk, hup⟩
  have HUP := hid_of hup
  clear hup
  have HK2 := hid_of (HK1.out.trans hk)
  have HPM := hid_of hperm
  have HRW := hid_of hrow
  have HGE := hid_of hge
  have hsz := HK2.out.size
  have c4 : (w2.alloc (.cells #[.slice ao ds.length cap] 89)).cell? ⟨s, 2, none⟩ = some (.map (some r)) := (HK2.out.alloc _).cell HC2.out (fun f => f)
  have HK3 : Hid (Kept (fun _ => False) w (w2.alloc (.cells #[.slice ao ds.length cap] 89))) := HK2.out.alloc _
  have HB1 : Hid ((w2.alloc (.cells #[.slice ao ds.length cap] 89)).heap[w2.heap.size]? = some (.cells #[.slice ao ds.length cap] 89 (0, 0))) := alloc_new _ _ rfl
  have HKR : Hid (Kept (fun _ => False) w2 (w2.alloc (.cells #[.slice ao ds.length cap] 89))) := (Kept.refl _ w2).alloc _
  have hs3 : (w2.alloc (.cells #[.slice ao ds.length cap] 89)).heap.size = w2.heap.size + 1 := by simp
  clear hk HS HK1 HKB c2 hperm hrow hge
  go_wp2_with fail
  generalize w2.alloc (.cells #[.slice ao ds.length cap] 89) = w3 at *
  refine (HMC.out _ (HMP.out.kept HK3.out (fun f => f)).blk).mono ?_
  rintro e w4 ⟨rfl, rfl⟩
  have HK5 : Hid (Kept (fun _ => False) w3 ((w3.alloc (.map (σ.es.map En.ent).toArray clock)).alloc (.cells #[.map (some w3.heap.size)] 63))) := ((Kept.refl _ w3).alloc _).alloc _
  have HM5 : Hid (((w3.alloc (.map (σ.es.map En.ent).toArray clock)).alloc (.cells #[.map (some w3.heap.size)] 63)).heap[w3.heap.size]? = some (.map (σ.es.map En.ent).toArray clock)) := alloc_old (alloc_new w3 _ rfl)
  have HB5 : Hid (((w3.alloc (.map (σ.es.map En.ent).toArray clock)).alloc (.cells #[.map (some w3.heap.size)] 63)).heap[w3.heap.size + 1]? = some (.cells #[.map (some w3.heap.size)] 63 (0, 0))) := alloc_new _ _ (by simp)
  have hs5 : ((w3.alloc (.map (σ.es.map En.ent).toArray clock)).alloc (.cells #[.map (some w3.heap.size)] 63)).heap.size = w3.heap.size + 2 := by simp
  rw [hs3] at HK5 HM5 HB5 hs5
  go_wp2
  generalize (w3.alloc (.map (σ.es.map En.ent).toArray clock)).alloc (.cells #[.map (some (w2.heap.size + 1))] 63) = w5 at *
  go_ret
  refine ⟨w2.heap.size, w2.heap.size + 1 + 1, w2.heap.size + 1, clock, ds, ao, cap, ?_, ⟨⟨?_, fun _ => ⟨?_, HM5.out, HMP.out.len, HMP.out.low, HMP.out.nd⟩, HMP.out.len, fun i d hd => ?_, fun d hd => HPM.out.mem_iff.1 (List.mem_map.2 ⟨d, hd, rfl⟩)⟩, HPM.out, (by omega), (by omega), (by omega), fun g o h => (by have := HGE.out g o h; simp at this; omega), HK3.out.trans HK5.out, HUP.out⟩⟩
  ·rfl
  ·exact HK5.out.cell ((cell_block _ _ _ _ _ _ HB1.out).trans rfl) (fun f => f)
  ·exact (cell_block _ _ _ _ _ _ HB5.out).trans rfl
  ·obtain ⟨g, o, hg, hr⟩ := HRW.out i d hd
   exact ⟨g, o, hg, fun j u hj => HK5.out.cell (HKR.out.cell (hr j u hj) (fun f => f)) (fun f => f)⟩
set_option maxHeartbeats 1000000 in
theorem all_full {w : World} {s : Nat} {mv : Value} {σ : Sg} (h : Stor w s mv σ) (hn : σ.es.length ≤ 1000000000) : Calls Tryz.prog 11 #[.pointer (some ⟨s, 0, none⟩)] w fun e w' => ∃ B0 B1 B2 r clock ds ao cap, e = .returned (.func (.func 29) #[] #[.pointer (some ⟨B0, 0, none⟩)]) ∧ RowOf w w' σ.es B1 B2 r clock ds ao cap ∧ w'.cell? ⟨B0, 0, none⟩ = some (.func (.func 55) #[] #[.pointer (some ⟨B1, 0, none⟩), .pointer (some ⟨B2, 0, none⟩)]) ∧ B0 < w'.heap.size := by
 have HR := hid_of (row_full h hn)
 clear h
 go_enter Tryz.func11, Tryz.ntmps11
 go_wp2_with fail
 refine HR.out.mono ?_
 rintro e w1 ⟨B1, B2, r, clock, ds, ao, cap, rfl, ho⟩
 have HO := hid_of ho
 have HK : Hid (Kept (fun _ => False) w1 (w1.alloc (.cells #[.func (.func 55) #[] #[.pointer (some ⟨B1, 0, none⟩), .pointer (some ⟨B2, 0, none⟩)]] 47))) := (Kept.refl _ w1).alloc _
 have HB : Hid ((w1.alloc (.cells #[.func (.func 55) #[] #[.pointer (some ⟨B1, 0, none⟩), .pointer (some ⟨B2, 0, none⟩)]] 47)).heap[w1.heap.size]? = some (.cells #[.func (.func 55) #[] #[.pointer (some ⟨B1, 0, none⟩), .pointer (some ⟨B2, 0, none⟩)]] 47 (0, 0))) := alloc_new _ _ rfl
 clear ho HR
 go_wp2
 generalize w1.alloc (.cells #[.func (.func 55) #[] #[.pointer (some ⟨B1, 0, none⟩), .pointer (some ⟨B2, 0, none⟩)]] 47) = w2 at *
 go_ret
 have hsz := HK.out.size
 have ho := HO.out
 have h1 := ho.n1
 have h2 := ho.n2
 have h3 := ho.n3
 refine ⟨w1.heap.size, B1, B2, r, clock, ds, ao, cap, rfl, ⟨ho.at_.keep (Z := fun _ => True) (KeepsB.of_kept HK.out) trivial trivial trivial (fun _ _ _ => trivial), ho.perm, by omega, by omega, by omega, (fun g o h => by have := ho.n4 g o h; omega), ho.kp.trans HK.out, ho.up⟩, (cell_block _ _ _ _ _ _ HB.out).trans rfl, heap_lt HB.out⟩
end Go.Proofs.YtjdbmjkidljhpaaGreatDoor
namespace Go.Proofs.YtjdbmjkidljhpaaGreatDoor
open Go.RowKit Go.Shelf
attribute [local go_sem] Oper.semAt_some
set_option linter.unusedVariables false
set_option linter.unusedSimpArgs false
set_option maxRecDepth 100000
theorem total_perm : ∀ {l m : List En}, l.Perm m → total l = total m := fun h => by
 induction h with
 | nil => rfl
 | cons x _ ih => rw [total, total, ih]
 | swap x y l => rw [total, total, total, total]; omega
 | trans _ _ h1 h2 => rw [h1, h2]
theorem total_snoc : ∀ (l : List En) (e : En), total (l ++ [e]) = total l + ((e.xs.length : Int) + 32)
 | [], e => by simp [total]
 | x :: l, e => by rw [List.cons_append, total, total, total_snoc l e]; omega
theorem total_le : ∀ (l : List En), (∀ e ∈ l, e.xs.length ≤ 1048576) → total l ≤ (l.length : Int) * 1048608
 | [], _ => by simp [total]
 | e :: l, h => by
  have h1 := total_le l (fun x hx => h x (List.mem_cons_of_mem _ hx))
  have h2 := h e (List.mem_cons_self ..)
  rw [total, List.length_cons]
  omega
theorem key_inj : ∀ {es : List En}, (es.map En.k).Nodup → ∀ {x y : En}, x ∈ es → y ∈ es → x.k = y.k → x = y
 | [], _, x, y, hx, _, _ => by cases hx
 | a :: es, h, x, y, hx, hy, e => by
  rw [List.map_cons, List.nodup_cons] at h
  rcases List.mem_cons.1 hx with h1 | h1
  ·rcases List.mem_cons.1 hy with h2 | h2
   ·rw [h1, h2]
   ·exact absurd (show a.k ∈ es.map En.k by rw [← h1, e]; exact List.mem_map.2 ⟨y, h2, rfl⟩) h.1
  ·rcases List.mem_cons.1 hy with h2 | h2
   ·exact absurd (show a.k ∈ es.map En.k by rw [← h2, ← e]; exact List.mem_map.2 ⟨x, h1, rfl⟩) h.1
   ·exact key_inj h.2 h1 h2 e
theorem Stor.keys {w : World} {s : Nat} {mv : Value} {σ : Sg} (h : Stor w s mv σ) : (σ.es.map En.k).Nodup := by
 rcases h.map with ⟨_, h1⟩ | ⟨r, c, _, _, _, h3⟩
 ·rw [h1]; exact List.nodup_nil
 ·exact h3.2.2
/-- What came is what lies there, in another order. -/
theorem came_all {es : List En} (hnd : (es.map En.k).Nodup) {ds : List Dg} (hp : (ds.map (·.1)).Perm (es.map En.k)) (ys : List (Eb es)) (hy : ys.map (·.1.1.1.k) = ds.map (·.1)) : (ys.map (·.1.1.1)).Perm es := by
 have hk : (ys.map (·.1.1.1)).map En.k = ds.map (·.1) := by rw [List.map_map]; exact hy
 refine perm_nodup ?_ (nodup_of_map En.k hnd) (fun x => ⟨fun h => ?_, fun h => ?_⟩)
 ·refine nodup_of_map En.k ?_
  rw [hk]
  exact (hp.nodup_iff).2 hnd
 ·obtain ⟨y, _, rfl⟩ := List.mem_map.1 h
  exact y.1.1.2
 ·have h1 : x.k ∈ ds.map (·.1) := hp.mem_iff.2 (List.mem_map.2 ⟨x, h, rfl⟩)
  rw [← hy] at h1
  obtain ⟨y, hy1, hy2⟩ := List.mem_map.1 h1
  have : y.1.1.1 = x := key_inj hnd y.1.1.2 h hy2
  exact List.mem_map.2 ⟨y, hy1, this⟩
theorem len_full {w : World} {s : Nat} {mv : Value} {σ : Sg} (h : Stor w s mv σ) : Calls Tryz.prog 19 #[.pointer (some ⟨s, 0, none⟩)] w fun e w' => e = .returned (.int .i64 (σ.es.length : Int)) ∧ w' = w := by
 have c' : w.cell? ⟨s, 2, none⟩ = some mv := h.cell 2
 have HL : Hid (∀ ty, (Builtin.len_ #[63] ty #[mv]).run Tryz.prog w = .ok (.int .i64 (σ.es.length : Int)) w) := fun ty => by
  rcases h.map with ⟨h1, h2⟩ | ⟨r, c, h1, h2, _⟩
  ·rw [h1, h2]
   simp [Builtin.len_, run_underlying Tryz.underlying63]
   rfl
  ·rw [h1]
   simp [Builtin.len_, run_underlying Tryz.underlying63, getObj, Sem.run, h2]
   rfl
 clear h
 have hl := HL.out 3
 go_enter Tryz.func19, Tryz.ntmps19
 go_wp2
 go_ret
 exact ⟨rfl, rfl⟩
end Go.Proofs.YtjdbmjkidljhpaaGreatDoor
