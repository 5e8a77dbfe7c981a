/-
  Text by contract.
-/
import Derived.Test.YtdbogfjkaebeoaaDoorOf
import Derived.Laws.BytesString
import Derived.Deep.RegionLaw
namespace Go.Proofs.YtdbogfjkaebeoaaDoor
open Go.RowKit
set_option linter.unusedVariables false
set_option linter.unusedSimpArgs false

section
variable {P : Program} {w : World}
theorem step_own_at {ops : Array Oper} {o : Oper} {a : Act} {K : Act → World → Prop} {Q : Exit → Act → World → Prop} {E : Prop} (hg : o.guard = none) (s x : Operand) (t : TypeId)
    (ho : o.op = .call { callee := .builtin .append, args := #[s, x], argTypes := #[t, t] }) (base : Nat) (e : TypeId) (i : TypeInfo) (z : Value) (size bytes : Nat) (ht : P.underlying t = some (.slice e)) (hi : P.info? e = some i) (hz : i.zero = some z)
    (hsize : i.size = size) (hby : i.bytes = bytes) (hzs : z.cells.size = size) (hsz : 0 < size)
    (v : Value) (n : Nat) (xs : List Value) (hs : a.eval s = v) (hown : w.ownsRow base e size v n xs)
    (ad : Addr) (m c : Nat) (news : List Value) (hx : a.eval x = .slice (some ad) m c) (hl : news.length = m * size) (hnews : ∀ j u, news[j]? = some u → w.cell? (ad.add j) = some u) (h1 : ∀ u ∈ news, u.oneCell' = true)
    (h63 : n + m ≤ maxLen) (hbytes : (n + m) * bytes ≤ 140737488355328) (hbase : base ≤ w.heap.size)
    (h : ∀ v' w', w'.ownsRow base e size v' (n + m) (xs ++ news) → w.grownBy w' v.ownBlock → (v'.ownBlock = v.ownBlock ∨ v'.ownBlock = some w.heap.size) → K (a.put o.dst v') w') :
    if Region.wanted o (yielded ops a.tmps) = true then Oper.wp P o a w K Q else E := by
  have hw : Region.wanted o (yielded ops a.tmps) = true := by simp [Region.wanted, hg]
  rw [if_pos hw]
  obtain ⟨v', w', hr, h2, h3, h4, h5⟩ := run_append_own_at (P := P) w base t o.type e i z size bytes ht hi hz hsize hby hzs hsz v n xs hown ad m c news hl hnews h1 h63 hbytes hbase
  unfold Oper.wp
  simp [execOp, ho, resolve, invoke, builtin, hs, hx, hr, Result.andThen]
  exact h v' w' h2 h3 h5
end

theorem cell_two_new (w : World) (x y : Value) (t : TypeId) (j : Nat) (u : Value) (h : ([x, y] : List Value)[j]? = some u) : (w.alloc (.cells #[x, y] t)).cell? ((⟨w.heap.size, 0, none⟩ : Addr).add j) = some u := by
  rw [Addr.add_mid, cell_block _ _ _ _ _ _ (alloc_new _ _ rfl), Nat.zero_add]
  simpa using h

def hexd (n : Int) : Int := if n < 10 then 48 + n else 87 + n
def hexs : List Int → List Int
  | [] => []
  | c :: l => hexd (c / 16) :: hexd (c % 16) :: hexs l
theorem hexs_append : ∀ (a b : List Int), hexs (a ++ b) = hexs a ++ hexs b
  | [], _ => rfl
  | c :: l, b => by simp [hexs, hexs_append l b]
theorem hexs_length : ∀ a : List Int, (hexs a).length = 2 * a.length
  | [] => rfl
  | c :: l => by simp [hexs, hexs_length l]; omega
/-- A text of these bytes. -/
def strOf (l : List Int) : ByteArray := l.foldl (fun r n => r.push (UInt8.ofNat n.toNat)) ByteArray.empty

def digs : ByteArray := ⟨#[48, 49, 50, 51, 52, 53, 54, 55, 56, 57, 97, 98, 99, 100, 101, 102]⟩
theorem dig_at : ∀ n : Nat, n < 16 → (digs[n]!).toNat = (hexd n).toNat := by decide
theorem run_digs (w : World) (n : Int) (h0 : 0 ≤ n) (h1 : n < 16) : (Instr.index 9 (.string digs) (.int .u8 n)).run Tryd.prog w = .ok (.int .u8 (hexd n)) w := by
  obtain ⟨k, rfl⟩ := Int.eq_ofNat_of_zero_le h0
  have hk : k < 16 := by omega
  have hs : digs.size = 16 := rfl
  rw [run_index_string (P := Tryd.prog) w 9 digs .u8 (k : Int) Tryd.underlying9, dif_pos ⟨h0, by rw [hs]; omega⟩]
  have e : (digs[k]'(by omega)) = digs[k]! := by simp [hs, hk]
  simp only [Int.toNat_natCast]
  rw [e, dig_at k hk]
  have : 0 ≤ hexd (k : Int) := by unfold hexd; split <;> omega
  rw [Int.toNat_of_nonneg this]

theorem mk64 (W : World) : (Instr.makeSlice 25 (.int .i64 0) (.int .i64 64)).run Tryd.prog W = .ok (.slice (some ⟨W.heap.size, 0, none⟩) 0 64) (W.alloc (.cells (zer 64) 5)) := by
  obtain ⟨i0, hi, hz0, hz1, hz2⟩ := info_parts info5
  have := run_make (P := Tryd.prog) W 25 5 i0 (.int .u8 0) Tryd.underlying25 hi hz0 .i64 .i64 0 64 (by omega) (by omega) (by rw [hz2]; omega) (by omega)
  simpa [zer, hz1] using this
theorem and15 (c : Int) (h0 : 0 ≤ c) (h1 : c < 256) : bits .and .u8 c 15 = c % 16 := by
  rw [u8_and c 15 h0 h1 (by decide) (by decide)]
  have : c.toNat &&& (15 : Int).toNat = c.toNat % 16 := nat_mask4 _
  rw [this]
  omega

set_option maxRecDepth 100000 in
set_option maxHeartbeats 1000000 in
theorem text_any (ds : List Int) (hl : ds.length = 32) (hr : ∀ x ∈ ds, 0 ≤ x ∧ x < 256) (w : World) :
    Calls Tryd.prog 27 #[.agg (ds.map (Value.int .u8)).toArray] w fun e w' => e = .returned (.string (strOf (hexs ds))) ∧ Kept (fun _ => False) w w' := by
  have hs28 : (Tryd.prog.info? 28).map (·.size) = some (ds.map (Value.int .u8)).toArray.size := by simp [size28, hl]
  have mk := mk64
  have HR := hid_of hr
  clear hr
  go_enter Tryd.func27, Tryd.ntmps27
  go_wp2_with (first | refine wpList_load_row rfl 28 _ rfl w.heap.size rfl 28 (ds.map (Value.int .u8)).toArray (0, 0) _ (alloc_old (alloc_new _ _ rfl)) Tryd.underlying28 rfl hs28 ?_)
  clear mk
  obtain ⟨i0, hi, hz0, hz1, hz2⟩ := info_parts info5
  have HO0 : Hid (((w.alloc (Obj.cells (List.map (Value.int IntKind.u8) ds).toArray 28)).alloc (Obj.cells (zer 64) 5)).ownsRow (w.heap.size + 1) 5 1 (.slice (some ⟨w.heap.size + 1, 0, none⟩) 0 64) 0 ((hexs (ds.take 0)).map (Value.int .u8))) :=
    ⟨rfl, .inr ⟨w.heap.size + 1, 64, zer 64, rfl, Nat.le_refl _, alloc_new _ _ (by simp), by decide, by decide, by rw [zer_size], rfl⟩⟩
  go_loopw [3, 8] (fun v i wr => ∃ k : Nat, k ≤ 32 ∧ i = .int .i64 k ∧ wr.ownsRow (w.heap.size + 1) 5 1 v (2 * k) ((hexs (ds.take k)).map (Value.int .u8)) ∧ Kept (fun _ => False) w wr ∧ w.heap.size + 2 ≤ wr.heap.size) (fun _ i _ => 32 - (intOf i).toNat)
  case atStart => exact ⟨0, by omega, rfl, HO0.out, ((Kept.refl _ w).alloc _).alloc _, by simp⟩
  case round =>
    clear HO0
    obtain ⟨k, hk, rfl, hown, hK, hws⟩ := hrel
    by_cases hlt : k < 32
    · have hcr : 0 ≤ ds.getD k 0 ∧ ds.getD k 0 < 256 := HR.out _ (by rw [List.getD, List.getElem?_eq_getElem (by omega)]; simp)
      have hix : ∀ w, (Instr.index 28 (.agg (ds.map (Value.int .u8)).toArray) (.int .i64 (k : Int))).run Tryd.prog w = .ok (.int .u8 (ds.getD k 0)) w := fun w => run_index_agg w 28 5 32 _ _ k _ _ Tryd.underlying28 Tryd.underlying5 rfl size5 hlt (by simp [List.getD, hlt, hl])
      have hst : hexs (ds.take (k + 1)) = hexs (ds.take k) ++ [hexd (ds.getD k 0 / 16), hexd (ds.getD k 0 % 16)] := by
        rw [List.take_add_one, hexs_append, List.getElem?_eq_getElem (show k < ds.length by omega)]
        simp [hexs, List.getD, List.getElem?_eq_getElem (show k < ds.length by omega)]
      generalize ds.getD k 0 = c at *
      have h15 := and15 c hcr.1 hcr.2
      have hd1 := fun w => run_digs w (c / 16) (by omega) (by omega)
      have hd2 := fun w => run_digs w (c % 16) (by omega) (by omega)
      simp only [digs] at hd1 hd2
      have HS := hid_of hst
      have HOW := hid_of hown
      have HK := hid_of hK
      clear hst hown hK
      have hkI : (k : Int) < 32 := by omega
      go_wp2
      go_region_law (first | (refine step_own_at rfl (.tmp 11) (.tmp 18) 25 rfl (w.heap.size + 1) 5 i0 (.int .u8 0) 1 1 Tryd.underlying25 hi hz0 hz1 hz2 rfl (by decide) _ _ _ rfl (by exact HOW.out.alloc _) ⟨wr.heap.size, 0, none⟩ 2 2 [.int .u8 (hexd (c / 16)), .int .u8 (hexd (c % 16))] rfl rfl (by intro j u hj; exact cell_two_new _ _ _ 5 j u hj) (by intro u hu; simp at hu; rcases hu with rfl | rfl <;> rfl) (by unfold maxLen; omega) (by omega) (by simp; omega) ?_; intro v' w5 hown' hgrow hat))
      all_goals
        have HR5 : Hid (w5.ownsRow (w.heap.size + 1) 5 1 v' (2 * (k + 1)) ((hexs (ds.take (k + 1))).map (Value.int .u8))) := by
          rw [HS.out, List.map_append]
          exact hown'
        have HKa := HK.out.alloc (.cells #[.int .u8 (hexd (c / 16)), .int .u8 (hexd (c % 16))] 5)
        have HK5 : Hid (Kept (fun _ => False) w w5) := by
          refine Kept.grown ?_ hgrow (fun g hg => .inl (by have := (HOW.out.lt g hg).1; omega))
          exact ⟨HKa.os, HKa.tape, HKa.output, HKa.size, HKa.block⟩
        have HW5 : Hid (w.heap.size + 2 ≤ w5.heap.size) := by
          have h5 := hgrow.size
          simp at h5
          show _ ≤ _
          omega
        clear hown' hgrow hat HOW HK HKa
        go_wp2
        go_roundw
        case rel => exact ⟨k + 1, by omega, by go_num, HR5.out, HK5.out, HW5.out⟩
        case measure => simp [intOf]; omega
    · obtain rfl : k = 32 := by omega
      rw [List.take_of_length_le (by omega)] at hown
      obtain ⟨g, cap, rfl⟩ : ∃ g cap, u3 = .slice (some ⟨g, 0, none⟩) (2 * 32) cap := by
        rcases hown.2 with ⟨_, h⟩ | ⟨g, cap, _, h, _⟩
        · omega
        · exact ⟨g, cap, h⟩
      have hhl : (hexs ds).length = 2 * 32 := by rw [hexs_length, hl]
      have hld : (loadCells ⟨g, 0, none⟩ (2 * 32)).run Tryd.prog wr = .ok ((hexs ds).map (Value.int .u8)).toArray wr := by
        have := run_loadCells_list (P := Tryd.prog) wr ⟨g, 0, none⟩ ((hexs ds).map (Value.int .u8)) (fun j v hv => hown.cells (g := g) rfl j v hv)
        rw [List.length_map, hhl] at this
        exact this
      have hcv : (convert 25 9 (.slice (some ⟨g, 0, none⟩) (2 * 32) cap)).run Tryd.prog wr = .ok (.string (strOf (hexs ds))) wr := by
        rw [run_convert_bytes_string wr 25 9 5 _ _ cap Tryd.underlying25 Tryd.underlying5 Tryd.underlying9]
        exact run_bytesToString wr ⟨g, 0, none⟩ _ cap (hexs ds) hld
      have HK := hid_of hK
      clear hown hK hld hhl
      go_wp2
      go_ret
      exact ⟨rfl, HK.out⟩
end Go.Proofs.YtdbogfjkaebeoaaDoor
