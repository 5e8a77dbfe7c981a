/-
  Text by contract.
-/
import Derived.Test.YtjdbmjkidljhpaaDoorOf
import Derived.Laws.BytesString
import Derived.Deep.RegionLaw
namespace Go.Proofs.YtjdbmjkidljhpaaDoor
open Go.RowKit
set_option linter.unusedVariables false
set_option maxRecDepth 100000
set_option linter.unusedSimpArgs false

section
variable {P : Program} {w : World}
theorem step_own_at {ops : Array Oper} {o : Oper} {a : Act} {K : Act → World → Prop} {Q : Exit → Act → World → Prop} {E : Prop} (hg : o.guard = none) (s x : Operand) (t : TypeId)
    (ho : o.op = .call { callee := .builtin .append, args := #[s, x], argTypes := #[t, t] }) (base : Nat) (e : TypeId) (i : TypeInfo) (z : Value) (size bytes : Nat) (ht : P.underlying t = some (.slice e)) (hi : P.info? e = some i) (hz : i.zero = some z)
    (hsize : i.size = size) (hby : i.bytes = bytes) (hzs : z.cells.size = size) (hsz : 0 < size)
    (v : Value) (n : Nat) (xs : List Value) (hs : a.eval s = v) (hown : w.ownsRow base e size v n xs)
    (ad : Addr) (m c : Nat) (news : List Value) (hx : a.eval x = .slice (some ad) m c) (hl : news.length = m * size) (hnews : ∀ j u, news[j]? = some u → w.cell? (ad.add j) = some u) (h1 : ∀ u ∈ news, u.oneCell' = true)
    (h63 : n + m ≤ maxLen) (hbytes : (n + m) * bytes ≤ 140737488355328) (hbase : base ≤ w.heap.size)
    (h : ∀ v' w', w'.ownsRow base e size v' (n + m) (xs ++ news) → w.grownBy w' v.ownBlock → (v'.ownBlock = v.ownBlock ∨ v'.ownBlock = some w.heap.size) → K (a.put o.dst v') w') :
    if Region.wanted o (yielded ops a.tmps) = true then Oper.wp P o a w K Q else E := by
  have hw : Region.wanted o (yielded ops a.tmps) = true := by simp [Region.wanted, hg]
  rw [if_pos hw]
  obtain ⟨v', w', hr, h2, h3, h4, h5⟩ := run_append_own_at (P := P) w base t o.type e i z size bytes ht hi hz hsize hby hzs hsz v n xs hown ad m c news hl hnews h1 h63 hbytes hbase
  unfold Oper.wp
  simp [execOp, ho, resolve, invoke, builtin, hs, hx, hr, Result.andThen]
  exact h v' w' h2 h3 h5
end

theorem cell_two_new (w : World) (x y : Value) (t : TypeId) (j : Nat) (u : Value) (h : ([x, y] : List Value)[j]? = some u) : (w.alloc (.cells #[x, y] t)).cell? ((⟨w.heap.size, 0, none⟩ : Addr).add j) = some u := by
  rw [Addr.add_mid, cell_block _ _ _ _ _ _ (alloc_new _ _ rfl), Nat.zero_add]
  simpa using h

def hexd (n : Int) : Int := if n < 10 then 48 + n else 87 + n
def hexs : List Int → List Int
  | [] => []
  | c :: l => hexd (c / 16) :: hexd (c % 16) :: hexs l
theorem hexs_append : ∀ (a b : List Int), hexs (a ++ b) = hexs a ++ hexs b
  | [], _ => rfl
  | c :: l, b => by simp [hexs, hexs_append l b]
theorem hexs_length : ∀ a : List Int, (hexs a).length = 2 * a.length
  | [] => rfl
  | c :: l => by simp [hexs, hexs_length l]; omega
/-- A text of these bytes. -/
def strOf (l : List Int) : ByteArray := l.foldl (fun r n => r.push (UInt8.ofNat n.toNat)) ByteArray.empty

def digs : ByteArray := ⟨#[48, 49, 50, 51, 52, 53, 54, 55, 56, 57, 97, 98, 99, 100, 101, 102]⟩
theorem dig_at : ∀ n : Nat, n < 16 → (digs[n]!).toNat = (hexd n).toNat := by decide
theorem run_digs (w : World) (n : Int) (h0 : 0 ≤ n) (h1 : n < 16) : (Instr.index 9 (.string digs) (.int .u8 n)).run Tryd.prog w = .ok (.int .u8 (hexd n)) w := by
  obtain ⟨k, rfl⟩ := Int.eq_ofNat_of_zero_le h0
  have hk : k < 16 := by omega
  have hs : digs.size = 16 := rfl
  rw [run_index_string (P := Tryd.prog) w 9 digs .u8 (k : Int) Tryd.underlying9, dif_pos ⟨h0, by rw [hs]; omega⟩]
  have e : (digs[k]'(by omega)) = digs[k]! := by simp [hs, hk]
  simp only [Int.toNat_natCast]
  rw [e, dig_at k hk]
  have : 0 ≤ hexd (k : Int) := by unfold hexd; split <;> omega
  rw [Int.toNat_of_nonneg this]

theorem mk64 (W : World) : (Instr.makeSlice 26 (.int .i64 0) (.int .i64 64)).run Tryd.prog W = .ok (.slice (some ⟨W.heap.size, 0, none⟩) 0 64) (W.alloc (.cells (zer 64) 5)) := by
  obtain ⟨i0, hi, hz0, hz1, hz2⟩ := info_parts info5
  have := run_make (P := Tryd.prog) W 26 5 i0 (.int .u8 0) Tryd.underlying26 hi hz0 .i64 .i64 0 64 (by omega) (by omega) (by rw [hz2]; omega) (by omega)
  simpa [zer, hz1] using this
theorem and15 (c : Int) (h0 : 0 ≤ c) (h1 : c < 256) : bits .and .u8 c 15 = c % 16 := by
  rw [u8_and c 15 h0 h1 (by decide) (by decide)]
  have : c.toNat &&& (15 : Int).toNat = c.toNat % 16 := nat_mask4 _
  rw [this]
  omega

end Go.Proofs.YtjdbmjkidljhpaaDoor
