import Derived.Test.YtcahibbfejomcaaGreatDoorTTx49
import Derived.Lib.SmallJoins
namespace Go.Proofs.YtcahibbfejomcaaGreatDoor
open Go.RowKit
set_option linter.unusedVariables false
set_option linter.unusedSimpArgs false
def Hsh.zero : Hsh := ⟨⟨0, 0, 0, 0, 0, 0, 0, 0⟩, List.replicate 64 0, 0⟩
def zero51 : Array Value := Hsh.zero.cells.toArray
theorem info51 : (Tryz.prog.info? 91).map (fun i => (i.zero, i.size)) = some (some (.agg zero51), 73) := by kernel_rfl
theorem zeroV51 (w : World) : (zeroValue 91).run Tryz.prog w = .ok (.agg zero51) w := (zero_of_info info51).1 w
theorem size51 : (Tryz.prog.info? 91).map (·.size) = some 73 := (zero_of_info info51).2
theorem zero51_size : zero51.size = 73 := by kernel_rfl
theorem zero_of : Hsh.zero.Of [] := ⟨rfl, by simp [Hsh.zero], rfl, fun h => absurd h (by decide)⟩
theorem zero_is {w : World} {g : Nat} (h : w.heap[g]? = some (.cells zero51 91 (0, 0))) : HashAt w g [] :=
 ⟨Hsh.zero, ⟨h, by simp [Hsh.zero], fun x hx => by simp [Hsh.zero] at hx; subst hx; decide⟩, zero_of⟩
set_option maxRecDepth 100000 in
set_option maxHeartbeats 1000000 in
theorem s_new_any (w : World) : Calls Tryz.prog 19 #[] w fun e w' => e = .returned (.pointer (some ⟨w.heap.size, 0, none⟩)) ∧ w' = w.alloc (.cells zero51 91 (0, 0)) := by
 have hz := zeroV51
 go_enter Tryz.func19, Tryz.ntmps19
 go_wp2
 go_ret
 exact ⟨rfl, rfl⟩
theorem heap_lt {w : World} {k : Nat} {o : Obj} (h : w.heap[k]? = some o) : k < w.heap.size := (Array.getElem?_eq_some_iff.1 h).1
theorem setRow_new (w : World) (c c' : Array Value) (t : TypeId) {k : Nat} (hk : k = w.heap.size) : (w.alloc (.cells c t)).setRow k c' = w.alloc (.cells c' t) := by
 subst hk
 exact World.setRow_alloc_new w c c' t
theorem Hsh.one (h : Hsh) : h.cells.toArray.all (·.oneCell') = true := by
 rw [Array.all_eq_true_iff_forall_mem]
 intro v hv
 simp only [Hsh.cells, List.mem_toArray, List.mem_append, List.mem_cons, List.mem_map, List.not_mem_nil, or_false] at hv
 rcases hv with hv | ⟨x, _, rfl⟩ | rfl
 ·rcases hv with rfl | rfl | rfl | rfl | rfl | rfl | rfl | rfl <;> rfl
 ·rfl
 ·rfl
theorem zeros_lt (n : Nat) : zeros n < 64 := by unfold zeros; omega
theorem pad_range (n : Nat) : ∀ x ∈ pad n, 0 ≤ x ∧ x < 256 := by
 intro x hx
 simp only [pad, List.mem_cons, List.mem_append, List.mem_replicate, lenb, List.mem_map] at hx
 rcases hx with rfl | ⟨_, rfl⟩ | ⟨i, _, rfl⟩
 ·decide
 ·decide
 ·unfold lbyte; omega
set_option maxRecDepth 100000 in
set_option maxHeartbeats 1000000 in
theorem sum_any (g : Nat) (xs : List Int) (w : World) (H : HashAt w g xs) (hL : Laid w) (hw : w.heap.size ≠ 0) (hlen : xs.length < 1152921504606846976) :
  Calls Tryz.prog 21 #[.pointer (some ⟨g, 0, none⟩)] w fun e w' => e = .returned (.agg ((sha xs).map (Value.int .u8)).toArray) ∧ Kept (fun _ => False) w w' := by
 obtain ⟨h, hI, hO⟩ := H
 have hz := zeroV51
 have hn := hI.len
 have hs51 : (Tryz.prog.info? 91).map (·.size) = some h.cells.toArray.size := by rw [size51, Hsh.size h hI.2.1]
 have HI := hid_of hI
 have HO := hid_of hO
 have HL := hid_of hL
 clear hI hO hL
 go_enter Tryz.func21, Tryz.ntmps21
 have h1 := h.one
 have hn2 : ∀ o1 o2 : Obj, ((w.alloc o1).alloc o2).cell? ⟨g, 72, none⟩ = some (.int .i64 (h.n : Int)) := fun o1 o2 => (((Kept.refl (fun _ => False) w).alloc o1).alloc o2).cell hn id
 have hzs : zero51.size = h.cells.toArray.size := by rw [zero51_size, Hsh.size h HI.out.2.1]
 go_wp2_with (first | refine wpList_load_row rfl 91 _ rfl g rfl 91 h.cells.toArray (0, 0) _ (alloc_old HI.out.1) Tryz.underlying91 rfl hs51 ?_ | (refine wpList_store_row rfl 91 _ _ rfl (w.heap.size + 1) h.cells.toArray rfl rfl 91 zero51 (alloc_new _ _ (by simp)) hs51 hzs h1 ?_; rw [setRow_new _ _ _ _ (by simp)]))
 have hI2 : HashIs ((w.alloc (.cells #[.int .u8 0, .int .u8 0, .int .u8 0, .int .u8 0, .int .u8 0, .int .u8 0, .int .u8 0, .int .u8 0, .int .u8 0, .int .u8 0, .int .u8 0, .int .u8 0, .int .u8 0, .int .u8 0, .int .u8 0, .int .u8 0, .int .u8 0, .int .u8 0, .int .u8 0, .int .u8 0, .int .u8 0, .int .u8 0, .int .u8 0, .int .u8 0, .int .u8 0, .int .u8 0, .int .u8 0, .int .u8 0, .int .u8 0, .int .u8 0, .int .u8 0, .int .u8 0] 32)).alloc (.cells h.cells.toArray 91)) (w.heap.size + 1) h := ⟨alloc_new _ _ (by simp), HI.out.2⟩
 have hK2 : Kept (fun _ => False) w ((w.alloc (.cells #[.int .u8 0, .int .u8 0, .int .u8 0, .int .u8 0, .int .u8 0, .int .u8 0, .int .u8 0, .int .u8 0, .int .u8 0, .int .u8 0, .int .u8 0, .int .u8 0, .int .u8 0, .int .u8 0, .int .u8 0, .int .u8 0, .int .u8 0, .int .u8 0, .int .u8 0, .int .u8 0, .int .u8 0, .int .u8 0, .int .u8 0, .int .u8 0, .int .u8 0, .int .u8 0, .int .u8 0, .int .u8 0, .int .u8 0, .int .u8 0, .int .u8 0, .int .u8 0] 32)).alloc (.cells h.cells.toArray 91)) := ((Kept.refl _ w).alloc _).alloc _
 have hD2 : ((w.alloc (.cells #[.int .u8 0, .int .u8 0, .int .u8 0, .int .u8 0, .int .u8 0, .int .u8 0, .int .u8 0, .int .u8 0, .int .u8 0, .int .u8 0, .int .u8 0, .int .u8 0, .int .u8 0, .int .u8 0, .int .u8 0, .int .u8 0, .int .u8 0, .int .u8 0, .int .u8 0, .int .u8 0, .int .u8 0, .int .u8 0, .int .u8 0, .int .u8 0, .int .u8 0, .int .u8 0, .int .u8 0, .int .u8 0, .int .u8 0, .int .u8 0, .int .u8 0, .int .u8 0] 32)).alloc (.cells h.cells.toArray 91)).heap[w.heap.size]? = some (.cells #[.int .u8 0, .int .u8 0, .int .u8 0, .int .u8 0, .int .u8 0, .int .u8 0, .int .u8 0, .int .u8 0, .int .u8 0, .int .u8 0, .int .u8 0, .int .u8 0, .int .u8 0, .int .u8 0, .int .u8 0, .int .u8 0, .int .u8 0, .int .u8 0, .int .u8 0, .int .u8 0, .int .u8 0, .int .u8 0, .int .u8 0, .int .u8 0, .int .u8 0, .int .u8 0, .int .u8 0, .int .u8 0, .int .u8 0, .int .u8 0, .int .u8 0, .int .u8 0] 32) := alloc_old (alloc_new _ _ rfl)
 have hsz : ((w.alloc (.cells #[.int .u8 0, .int .u8 0, .int .u8 0, .int .u8 0, .int .u8 0, .int .u8 0, .int .u8 0, .int .u8 0, .int .u8 0, .int .u8 0, .int .u8 0, .int .u8 0, .int .u8 0, .int .u8 0, .int .u8 0, .int .u8 0, .int .u8 0, .int .u8 0, .int .u8 0, .int .u8 0, .int .u8 0, .int .u8 0, .int .u8 0, .int .u8 0, .int .u8 0, .int .u8 0, .int .u8 0, .int .u8 0, .int .u8 0, .int .u8 0, .int .u8 0, .int .u8 0] 32)).alloc (.cells h.cells.toArray 91)).heap.size = w.heap.size + 1 + 1 := by simp
 have hn3 : h.n = xs.length := HO.out.n
 generalize (w.alloc (.cells #[.int .u8 0, .int .u8 0, .int .u8 0, .int .u8 0, .int .u8 0, .int .u8 0, .int .u8 0, .int .u8 0, .int .u8 0, .int .u8 0, .int .u8 0, .int .u8 0, .int .u8 0, .int .u8 0, .int .u8 0, .int .u8 0, .int .u8 0, .int .u8 0, .int .u8 0, .int .u8 0, .int .u8 0, .int .u8 0, .int .u8 0, .int .u8 0, .int .u8 0, .int .u8 0, .int .u8 0, .int .u8 0, .int .u8 0, .int .u8 0, .int .u8 0, .int .u8 0] 32)).alloc (.cells h.cells.toArray 91) = w2 at *
 have HI2 := hid_of hI2
 have HK2 := hid_of hK2
 have HD2 := hid_of hD2
 have HS2 := hid_of hsz
 rw [hn3]
 clear hI2 hK2 hD2 hsz hn2
 refine (filling_any xs.length (by omega) w2).mono ?_
 rintro e w3 ⟨rfl, hP, hk3⟩
 have hI3 := HI2.out.kept hk3 id
 have hK3 := HK2.out.trans hk3
 have hB3 : BAt w3 (.slice (some ⟨w2.heap.size, 0, none⟩) (9 + zeros xs.length) (9 + zeros xs.length)) (pad xs.length) (w.heap.size + 1) := by
  refine .inr ⟨w2.heap.size, 0, 9 + zeros xs.length, by rw [pad_length], by rw [pad_length]; exact Nat.le_refl _, by rw [HS2.out]; omega, fun i hi => ?_⟩
  rw [cell_block _ _ _ _ _ _ hP]
  simp [List.getD, List.getElem?_eq_getElem hi]
 have hw3 := write_any (w.heap.size + 1) xs (pad xs.length) _ w3 ⟨h, hI3, HO.out⟩ hB3 (pad_range _) (laid_kept HL.out hK3 id) (by omega) (by rw [pad_length]; have := zeros_lt xs.length; omega)
 have HD3 := hid_of ((hk3.block _ (by rw [HS2.out]; omega) id).trans HD2.out)
 have HK3 := hid_of hK3
 clear hP hk3 hI3 hB3 hK3
 go_wp2_with fail
 refine hw3.mono ?_
 rintro e w4 ⟨rfl, ⟨h4, hI4, hO4⟩, hk4⟩
 obtain ⟨d0, d1, d2, d3, d4, d5, d6, d7⟩ := hI4.pasts
 have HX : Hid (dig h4.p = sha xs) := by
  have hfl := full_length xs.length
  rw [hO4.past (by rw [List.length_append, pad_length]; rw [pad_length] at hfl; omega), List.length_append]
  rfl
 have HK4 : Hid (Kept (fun _ => False) w w4) := HK3.out.step (T := fun k => k = w.heap.size + 1) hk4 (fun i hi e => by omega)
 have HD4 := hid_of ((hk4.block _ (heap_lt HD3.out) (by omega)).trans HD3.out)
 clear hI4 hO4 hk4 hw3
 go_wp2_with fail
 refine (digest_any h4.p w4).mono ?_
 rintro e w5 ⟨rfl, hk5⟩
 have hO5 := (hk5.block _ (heap_lt HD4.out) id).trans HD4.out
 have hK5 := HK4.out.trans hk5
 rw [HX.out]
 have h1' := oneCells .u8 (sha xs)
 have hsl : (sha xs).length = 32 := by rw [← HX.out, dig_length]
 have hs28 : (Tryz.prog.info? 32).map (·.size) = some ((sha xs).map (Value.int .u8)).toArray.size := by simp [size28, hsl]
 have hos : 32 = ((sha xs).map (Value.int .u8)).toArray.size := by simp [hsl]
 have HKR : Hid (Kept (fun _ => False) w (w5.setRow w.heap.size ((sha xs).map (Value.int .u8)).toArray)) := hK5.setRow (.inl (Nat.le_refl _)) _
 have HRR := hid_of (setRow_heap w5 w.heap.size _ ((sha xs).map (Value.int .u8)).toArray 32 (0, 0) hO5)
 clear hK5 hk5
 generalize hcs : ((sha xs).map (Value.int .u8)).toArray = cs at *
 have HC := hid_of hcs
 clear hcs
 go_wp2_with (refine wpList_store_row rfl 32 _ _ rfl w.heap.size cs rfl rfl 32 _ hO5 hs28 hos h1' ?_)
 simp only [Act.put]
 refine bodyPost_ret (v := .agg cs) ?_ rfl ⟨by rw [HC.out], HKR.out⟩
 exact results_cell_row (by rfl) _ _ w.heap.size 32 cs (0, 0) _ (by rfl) HRR.out Tryz.underlying32 rfl hs28
def BIn (w : World) (v : Value) (xs : List Int) : Prop :=
 ∃ ao c, v = .slice ao xs.length c ∧ xs.length ≤ c ∧ (xs = [] ∨ ∃ b o, ao = some ⟨b, o, none⟩ ∧ ∀ i, i < xs.length → w.cell? ⟨b, o + i, none⟩ = some (.int .u8 (xs.getD i 0)))
def PIn (w : World) (v : Value) (ls : List (List Int)) : Prop :=
 ∃ ao c, v = .slice ao ls.length c ∧ ∀ i, i < ls.length → ∃ b o u, ao = some ⟨b, o, none⟩ ∧ w.cell? ⟨b, o + i, none⟩ = some u ∧ BIn w u (ls.getD i [])
theorem BIn.out {w : World} {v : Value} {xs : List Int} (h : BIn w v xs) (g : Nat) (hg : w.heap.size ≤ g) : BAt w v xs g := by
 obtain ⟨ao, c, rfl, hc, rfl | ⟨b, o, rfl, hx⟩⟩ := h
 ·exact .inl ⟨rfl, ao, c, rfl⟩
 ·by_cases h0 : xs.length = 0
  ·exact .inl ⟨List.eq_nil_of_length_eq_zero h0, _, c, by rw [h0]⟩
  ·refine .inr ⟨b, o, c, rfl, hc, ?_, hx⟩
   have := World.block_lt_of_cell? w _ (hx 0 (by omega))
   simp only at this
   omega
theorem BIn.kept {S : Nat → Prop} {w w' : World} {v : Value} {xs : List Int} (h : BIn w v xs) (hk : Kept S w w') (hs : ∀ k, k < w.heap.size → ¬ S k) : BIn w' v xs := by
 obtain ⟨ao, c, rfl, hc, rfl | ⟨b, o, rfl, hx⟩⟩ := h
 ·exact ⟨ao, c, rfl, hc, .inl rfl⟩
 ·exact ⟨_, c, rfl, hc, .inr ⟨b, o, rfl, fun i hi => hk.cell (hx i hi) (hs _ (World.block_lt_of_cell? w _ (hx i hi)))⟩⟩
theorem Laid.size {w : World} (h : Laid w) : w.heap.size ≠ 0 := by
 have := World.block_lt_of_cell? w _ (h 0 (by decide))
 simp only at this
 omega
theorem flat_take (ls : List (List Int)) (k : Nat) (hk : k < ls.length) : (ls.take (k + 1)).flatten = (ls.take k).flatten ++ ls.getD k [] := by
 rw [List.take_add_one, List.getElem?_eq_getElem hk, List.flatten_append]
 simp [List.getD, List.getElem?_eq_getElem hk]
theorem flat_le (ls : List (List Int)) (k : Nat) : (ls.take k).flatten.length ≤ ls.flatten.length := by
 have := congrArg (fun l => (List.flatten l).length) (List.take_append_drop k ls)
 simp only [List.flatten_append, List.length_append] at this
 omega
set_option maxRecDepth 100000 in
set_option maxHeartbeats 1000000 in
theorem s_of_any (pv : Value) (ls : List (List Int)) (w : World) (hP : PIn w pv ls) (hr : ∀ l ∈ ls, ∀ x ∈ l, 0 ≤ x ∧ x < 256) (hL : Laid w) (hlen : ls.flatten.length < 1152921504606846976) (hll : ls.length < 9223372036854775807) :
  Calls Tryz.prog 7 #[pv] w fun e w' => e = .returned (.agg ((sha ls.flatten).map (Value.int .u8)).toArray) ∧ Kept (fun _ => False) w w' := by
 obtain ⟨ao, c, rfl, hp⟩ := hP
 have HP := hid_of hp
 have HR := hid_of hr
 have HL := hid_of hL
 have HLEN := hid_of hlen
 have hsz := hL.size
 clear hp hr hL hlen
 go_enter Tryz.func7, Tryz.ntmps7
 go_wp2_with fail
 refine (s_new_any _).mono ?_
 rintro e w1 ⟨rfl, rfl⟩
 have hH : HashAt ((w.alloc (.cells #[.int .u8 0, .int .u8 0, .int .u8 0, .int .u8 0, .int .u8 0, .int .u8 0, .int .u8 0, .int .u8 0, .int .u8 0, .int .u8 0, .int .u8 0, .int .u8 0, .int .u8 0, .int .u8 0, .int .u8 0, .int .u8 0, .int .u8 0, .int .u8 0, .int .u8 0, .int .u8 0, .int .u8 0, .int .u8 0, .int .u8 0, .int .u8 0, .int .u8 0, .int .u8 0, .int .u8 0, .int .u8 0, .int .u8 0, .int .u8 0, .int .u8 0, .int .u8 0] 32)).alloc (.cells zero51 91 (0, 0))) (w.heap.size + 1) (ls.take 0).flatten := zero_is (alloc_new _ _ (by simp))
 have hK : Kept (fun _ => False) w ((w.alloc (.cells #[.int .u8 0, .int .u8 0, .int .u8 0, .int .u8 0, .int .u8 0, .int .u8 0, .int .u8 0, .int .u8 0, .int .u8 0, .int .u8 0, .int .u8 0, .int .u8 0, .int .u8 0, .int .u8 0, .int .u8 0, .int .u8 0, .int .u8 0, .int .u8 0, .int .u8 0, .int .u8 0, .int .u8 0, .int .u8 0, .int .u8 0, .int .u8 0, .int .u8 0, .int .u8 0, .int .u8 0, .int .u8 0, .int .u8 0, .int .u8 0, .int .u8 0, .int .u8 0] 32)).alloc (.cells zero51 91 (0, 0))) := ((Kept.refl _ w).alloc _).alloc _
 have hD : ((w.alloc (.cells #[.int .u8 0, .int .u8 0, .int .u8 0, .int .u8 0, .int .u8 0, .int .u8 0, .int .u8 0, .int .u8 0, .int .u8 0, .int .u8 0, .int .u8 0, .int .u8 0, .int .u8 0, .int .u8 0, .int .u8 0, .int .u8 0, .int .u8 0, .int .u8 0, .int .u8 0, .int .u8 0, .int .u8 0, .int .u8 0, .int .u8 0, .int .u8 0, .int .u8 0, .int .u8 0, .int .u8 0, .int .u8 0, .int .u8 0, .int .u8 0, .int .u8 0, .int .u8 0] 32)).alloc (.cells zero51 91 (0, 0))).heap[w.heap.size]? = some (.cells #[.int .u8 0, .int .u8 0, .int .u8 0, .int .u8 0, .int .u8 0, .int .u8 0, .int .u8 0, .int .u8 0, .int .u8 0, .int .u8 0, .int .u8 0, .int .u8 0, .int .u8 0, .int .u8 0, .int .u8 0, .int .u8 0, .int .u8 0, .int .u8 0, .int .u8 0, .int .u8 0, .int .u8 0, .int .u8 0, .int .u8 0, .int .u8 0, .int .u8 0, .int .u8 0, .int .u8 0, .int .u8 0, .int .u8 0, .int .u8 0, .int .u8 0, .int .u8 0] 32) := alloc_old (alloc_new _ _ rfl)
 rw [show (w.alloc (.cells #[.int .u8 0, .int .u8 0, .int .u8 0, .int .u8 0, .int .u8 0, .int .u8 0, .int .u8 0, .int .u8 0, .int .u8 0, .int .u8 0, .int .u8 0, .int .u8 0, .int .u8 0, .int .u8 0, .int .u8 0, .int .u8 0, .int .u8 0, .int .u8 0, .int .u8 0, .int .u8 0, .int .u8 0, .int .u8 0, .int .u8 0, .int .u8 0, .int .u8 0, .int .u8 0, .int .u8 0, .int .u8 0, .int .u8 0, .int .u8 0, .int .u8 0, .int .u8 0] 32)).heap.size = w.heap.size + 1 by simp]
 generalize (w.alloc (.cells #[.int .u8 0, .int .u8 0, .int .u8 0, .int .u8 0, .int .u8 0, .int .u8 0, .int .u8 0, .int .u8 0, .int .u8 0, .int .u8 0, .int .u8 0, .int .u8 0, .int .u8 0, .int .u8 0, .int .u8 0, .int .u8 0, .int .u8 0, .int .u8 0, .int .u8 0, .int .u8 0, .int .u8 0, .int .u8 0, .int .u8 0, .int .u8 0, .int .u8 0, .int .u8 0, .int .u8 0, .int .u8 0, .int .u8 0, .int .u8 0, .int .u8 0, .int .u8 0] 32)).alloc (.cells zero51 91 (0, 0)) = w1 at *
 have HH := hid_of hH
 have HK := hid_of hK
 have HD := hid_of hD
 clear hH hK hD
 go_wp2_with fail
 go_loopw [9] (fun i wr => ∃ k : Nat, k ≤ ls.length ∧ i = .int .i64 k ∧ HashAt wr (w.heap.size + 1) (ls.take k).flatten ∧ Kept (fun _ => False) w wr ∧ wr.heap[w.heap.size]? = some (.cells #[.int .u8 0, .int .u8 0, .int .u8 0, .int .u8 0, .int .u8 0, .int .u8 0, .int .u8 0, .int .u8 0, .int .u8 0, .int .u8 0, .int .u8 0, .int .u8 0, .int .u8 0, .int .u8 0, .int .u8 0, .int .u8 0, .int .u8 0, .int .u8 0, .int .u8 0, .int .u8 0, .int .u8 0, .int .u8 0, .int .u8 0, .int .u8 0, .int .u8 0, .int .u8 0, .int .u8 0, .int .u8 0, .int .u8 0, .int .u8 0, .int .u8 0, .int .u8 0] 32)) (fun i _ => ls.length - (intOf i).toNat)
 case atStart => exact ⟨0, by omega, rfl, HH.out, HK.out, HD.out⟩
 case round =>
  clear HH HK HD
  obtain ⟨k, hk, rfl, hH, hK, hD⟩ := hrel
  by_cases hlt : k < ls.length
  ·obtain ⟨b, o, u, rfl, hu, hB⟩ := HP.out k hlt
   have hu' := hK.cell hu id
   have hmem : ls.getD k [] ∈ ls := by
    rw [List.getD, List.getElem?_eq_getElem hlt]
    simp
   have hle := flat_le ls (k + 1)
   rw [flat_take ls k hlt, List.length_append] at hle
   have hw := write_any (w.heap.size + 1) _ _ u wr hH ((hB.out (w.heap.size + 1) (by omega)).kept hK (fun _ f => f.elim)) (HR.out _ hmem) (laid_kept HL.out hK id) (by omega) (by have := HLEN.out; omega)
   rw [← flat_take ls k hlt] at hw
   have HW := hid_of hw
   have HK := hid_of hK
   have HD := hid_of hD
   clear hw hH hK hD hB hmem hle hu
   have hkI : (k : Int) < (ls.length : Int) := by omega
   go_wp2_with fail
   refine HW.out.mono ?_
   rintro e w2 ⟨rfl, hH2, hk2⟩
   have HH2 := hid_of hH2
   have HK2 : Hid (Kept (fun _ => False) w w2) := HK.out.step hk2 (fun i hi e => by omega)
   have HD2 := hid_of ((hk2.block _ (heap_lt HD.out) (by omega)).trans HD.out)
   clear hH2 hk2 HW HK HD
   go_wp2
   go_roundw
   case rel => exact ⟨k + 1, by omega, by go_num, HH2.out, HK2.out, HD2.out⟩
   case measure => simp [intOf]; omega
  ·obtain rfl : k = ls.length := by omega
   rw [List.take_length] at hH
   have hs := sum_any (w.heap.size + 1) ls.flatten wr hH (laid_kept HL.out hK id) (by have := hK.size; omega) HLEN.out
   have HS := hid_of hs
   have HK := hid_of hK
   have HD := hid_of hD
   clear hs hH hK hD
   go_wp2_with fail
   refine HS.out.mono ?_
   rintro e w5 ⟨rfl, hk5⟩
   have hO5 := (hk5.block _ (heap_lt HD.out) id).trans HD.out
   have hK5 := HK.out.trans hk5
   have h1' := oneCells .u8 (sha ls.flatten)
   have hsl : (sha ls.flatten).length = 32 := by simp [sha, dig]
   have hs28 : (Tryz.prog.info? 32).map (·.size) = some ((sha ls.flatten).map (Value.int .u8)).toArray.size := by simp [size28, hsl]
   have hos : 32 = ((sha ls.flatten).map (Value.int .u8)).toArray.size := by simp [hsl]
   have HKR : Hid (Kept (fun _ => False) w (w5.setRow w.heap.size ((sha ls.flatten).map (Value.int .u8)).toArray)) := hK5.setRow (.inl (Nat.le_refl _)) _
   have HRR := hid_of (setRow_heap w5 w.heap.size _ ((sha ls.flatten).map (Value.int .u8)).toArray 32 (0, 0) hO5)
   clear hK5 hk5 HS hsl
   generalize hcs : ((sha ls.flatten).map (Value.int .u8)).toArray = cs at *
   have HC := hid_of hcs
   clear hcs
   go_wp2_with (refine wpList_store_row rfl 32 _ _ rfl w.heap.size cs rfl rfl 32 _ hO5 hs28 hos h1' ?_)
   try simp only [Act.put]
   refine bodyPost_ret (v := .agg cs) ?_ rfl ⟨by rw [HC.out], HKR.out⟩
   exact results_cell_row (by rfl) _ _ w.heap.size 32 cs (0, 0) _ (by rfl) HRR.out Tryz.underlying32 rfl hs28
end Go.Proofs.YtcahibbfejomcaaGreatDoor
