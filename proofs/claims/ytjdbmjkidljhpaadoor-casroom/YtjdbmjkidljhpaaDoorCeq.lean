/-
  bytes.Equal, by contract.
-/
import Derived.Test.YtjdbmjkidljhpaaDoorCbytes
namespace Go.Proofs.YtjdbmjkidljhpaaDoor
open Go.RowKit
set_option linter.unusedVariables false
set_option linter.unusedSimpArgs false
set_option maxRecDepth 100000

/-- Bytes as a text. -/
def str (xs : List Int) : ByteArray := xs.foldl (fun r n => r.push (UInt8.ofNat n.toNat)) ByteArray.empty

theorem push_data (r : ByteArray) (b : UInt8) : (r.push b).data.toList = r.data.toList ++ [b] := by simp [ByteArray.push]
theorem fold_data (xs : List Int) : ∀ r : ByteArray, (xs.foldl (fun r n => r.push (UInt8.ofNat n.toNat)) r).data.toList = r.data.toList ++ xs.map fun n => UInt8.ofNat n.toNat := by
  induction xs with
  | nil => intro r; simp
  | cons x xs ih => intro r; rw [List.foldl_cons, ih, push_data]; simp
theorem str_data (xs : List Int) : (str xs).data.toList = xs.map fun n => UInt8.ofNat n.toNat := by
  unfold str
  rw [fold_data]
  rfl
theorem byte_inj : ∀ (xs ys : List Int), (∀ x ∈ xs, 0 ≤ x ∧ x < 256) → (∀ x ∈ ys, 0 ≤ x ∧ x < 256) → (xs.map fun n => UInt8.ofNat n.toNat) = (ys.map fun n => UInt8.ofNat n.toNat) → xs = ys
  | [], [], _, _, _ => rfl
  | [], y :: ys, _, _, h => by cases h
  | x :: xs, [], _, _, h => by cases h
  | x :: xs, y :: ys, hx, hy, h => by
    rw [List.map_cons, List.map_cons, List.cons.injEq] at h
    have h1 := hx x (List.mem_cons_self ..)
    have h2 := hy y (List.mem_cons_self ..)
    have h3 := congrArg UInt8.toNat h.1
    rw [UInt8.toNat_ofNat', UInt8.toNat_ofNat'] at h3
    have h4 : x = y := by omega
    rw [h4, byte_inj xs ys (fun z hz => hx z (List.mem_cons_of_mem _ hz)) (fun z hz => hy z (List.mem_cons_of_mem _ hz)) h.2]
theorem str_eq (xs ys : List Int) (hx : ∀ x ∈ xs, 0 ≤ x ∧ x < 256) (hy : ∀ x ∈ ys, 0 ≤ x ∧ x < 256) : ((str xs).toList == (str ys).toList) = decide (xs = ys) := by
  rw [Bool.eq_iff_iff, beq_iff_eq, decide_eq_true_iff, ByteArray.toList_eq, ByteArray.toList_eq, str_data, str_data]
  exact ⟨byte_inj xs ys hx hy, fun h => by rw [h]⟩

theorem conv_str (w : World) (v : Value) (xs : List Int) (h : BIn w v xs) : (convert 26 9 v).run Tryd.prog w = .ok (.string (str xs)) w := by
  obtain ⟨ao, c, rfl, hc, h1⟩ := h
  rw [run_convert_bytes_string w 26 9 5 ao xs.length c Tryd.underlying26 Tryd.underlying5 Tryd.underlying9]
  rcases h1 with rfl | ⟨b, o, rfl, h1⟩
  · cases ao with
    | none => simp [Conv.bytesToString, str]
    | some p => exact run_bytesToString w p 0 c [] (run_loadCells_list w p [] (fun j v h => by cases h))
  · refine run_bytesToString w _ _ c xs ?_
    have := run_loadCells_list (P := Tryd.prog) w ⟨b, o, none⟩ (xs.map (Value.int .u8)) (fun j u hj => by
      have hjl : j < xs.length := by
        have := (List.getElem?_eq_some_iff.1 hj).1
        simpa using this
      rw [Addr.add_mid, h1 j hjl]
      simp [List.getElem?_map, List.getElem?_eq_getElem hjl] at hj
      simp [List.getD, List.getElem?_eq_getElem hjl, hj])
    simpa using this

theorem equal_any (v v' : Value) (xs ys : List Int) (w : World) (hx : BIn w v xs) (hy : BIn w v' ys) (hxr : ∀ x ∈ xs, 0 ≤ x ∧ x < 256) (hyr : ∀ x ∈ ys, 0 ≤ x ∧ x < 256) :
    Calls Tryd.prog 29 #[v, v'] w fun e w' => e = .returned (.bool (decide (xs = ys))) ∧ w' = w := by
  have c1 := conv_str w v xs hx
  have c2 := conv_str w v' ys hy
  have HE := hid_of (str_eq xs ys hxr hyr)
  clear hx hy hxr hyr
  go_enter Tryd.func29, Tryd.ntmps29
  go_wp2
  go_ret
  exact ⟨by rw [← HE.out]; rfl, rfl⟩
end Go.Proofs.YtjdbmjkidljhpaaDoor
