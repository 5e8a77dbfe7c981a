/-
  Entries that are handed in, opened.
-/
import Derived.Test.YtcpkbajmilkhpabGreatDoorNsm
import Derived.Test.YtcpkbajmilkhpabGreatDoorNrg
import Derived.OpenShut
import Derived.Deep.Strs
import Derived.ChangeSlices
import Derived.SizedLaws
namespace Go.Proofs.YtcpkbajmilkhpabGreatDoor
open Go.ChangeShapes Go.WideShapes Go.ChangeAt Go.WideMaps Go.WideElems Go.RowKit Go.Deep
set_option linter.unusedVariables false
set_option linter.unusedSimpArgs false
set_option maxRecDepth 100000

/-- Bytes without the zeros at their end. -/
def trimZ (xs : List Int) : List Int := (xs.reverse.dropWhile (· == 0)).reverse
theorem zeros_of : ∀ l : List Int, (∀ x ∈ l, x = 0) → l = List.replicate l.length 0
  | [], _ => rfl
  | x :: l, h => by rw [h x (List.mem_cons_self ..), List.length_cons, List.replicate_succ, ← zeros_of l (fun y hy => h y (List.mem_cons_of_mem _ hy))]
theorem trimZ_eq (xs : List Int) : trimZ xs ++ List.replicate (xs.length - (trimZ xs).length) 0 = xs := by
  have h1 : (xs.reverse.takeWhile (· == 0)) ++ (xs.reverse.dropWhile (· == 0)) = xs.reverse := List.takeWhile_append_dropWhile
  have h2 : xs = trimZ xs ++ (xs.reverse.takeWhile (· == 0)).reverse := by
    have := congrArg List.reverse h1
    rw [List.reverse_append, List.reverse_reverse] at this
    exact this.symm
  have h3 : (xs.reverse.takeWhile (· == 0)).reverse = List.replicate (xs.reverse.takeWhile (· == 0)).reverse.length 0 := zeros_of _ (fun x hx => by
    rw [List.mem_reverse] at hx
    have ha := List.all_takeWhile (p := (· == (0 : Int))) (l := xs.reverse)
    exact beq_iff_eq.1 (List.all_eq_true.1 ha x hx))
  have h4 : xs.length - (trimZ xs).length = (xs.reverse.takeWhile (· == 0)).reverse.length := by
    have := congrArg List.length h2
    rw [List.length_append] at this
    omega
  rw [h4, ← h3]
  exact h2.symm
theorem trimZ_le (xs : List Int) : (trimZ xs).length ≤ xs.length := by
  have := congrArg List.length (trimZ_eq xs)
  rw [List.length_append] at this
  omega
theorem trimZ_ends (xs : List Int) : endsZ (trimZ xs) = false := by
  unfold endsZ trimZ
  rw [List.getLast?_reverse]
  cases h : xs.reverse.dropWhile (· == 0) with
  | nil => rfl
  | cons a l =>
    have : (a == 0) = false := by
      have := List.head?_dropWhile_not (· == (0 : Int)) xs.reverse
      rw [h] at this
      simpa using this
    simpa using this

theorem cells3' : Tryz.prog.cellsOf 3 = 1 := by kernel_rfl
theorem cells5' : Tryz.prog.cellsOf 5 = 1 := by kernel_rfl
theorem cells9 : Tryz.prog.cellsOf 9 = 1 := by kernel_rfl
theorem cells45 : Tryz.prog.cellsOf 39 = 32 := by kernel_rfl
theorem cells47 : Tryz.prog.cellsOf 41 = 34 := by kernel_rfl
theorem str_back (s : ByteArray) : str (nums s) = s := by
  have h := str_list (nums s)
  rw [ByteArray.toList_eq] at h
  apply ByteArray.ext
  have e : (nums s).map (fun n => UInt8.ofNat n.toNat) = s.data.toList := by
    unfold nums
    rw [List.map_map]
    have : ((fun n : Int => UInt8.ofNat n.toNat) ∘ fun b : UInt8 => (b.toNat : Int)) = id := by
      funext b
      simp
    rw [this, List.map_id]
  rw [e] at h
  exact Array.toList_inj.1 h

/-- An entry that is as entries are handed in. -/
structure EV.Ok (y : EV) : Prop where
  nm : ∀ x ∈ y.nm, 0 ≤ x ∧ x ≤ 255
  k : -9223372036854775808 ≤ y.k ∧ y.k < 9223372036854775808
  fr : y.fr.length ≤ 32 ∧ endsZ y.fr = false
  frb : ∀ x ∈ y.fr, 0 ≤ x ∧ x ≤ 255
  nl : y.nm.length ≤ 9223372036854775807

section
variable {H : Type} {enc : TypeId × Value → H} {W : World} {base : Nat} {spare : Nat → Bool} {held : Bool}
theorem open_d {fuel : Nat} {cs : List Value} {x : DataW H × List MemPlace} (h : DataW.trod enc Tryz.prog W base spare held fuel 39 cs = some x) : ∃ d : List Int, d.length = 32 ∧ cs = d.map (Value.int .u8) ∧ ∀ y ∈ d, 0 ≤ y ∧ y < 256 := by
  obtain ⟨ys, m, _, _, hlen, hl, hel⟩ := DataW.trod_array Tryz.underlying39 h
  rw [cells45] at hlen
  have key : ∀ i, i < 32 → ∃ n : Int, cs[i]? = some (.int .u8 n) ∧ 0 ≤ n ∧ n < 256 := by
    intro i hi
    have h0 := hel i hi
    rw [cells5', Nat.mul_one, List.getElem?_eq_getElem (by omega)] at h0
    obtain ⟨n, e1, _, hw⟩ := DataW.trod_int Tryz.underlying5 h0
    have := congrArg (fun l => l[0]?) e1
    have b := bounds_u8 hw
    exact ⟨n, by simpa [List.getElem?_take, List.getElem?_drop] using this, b.1, by omega⟩
  refine ⟨cs.map intOf, by simp [hlen], ?_, fun y hy => ?_⟩
  · apply List.ext_getElem?
    intro i
    by_cases hi : i < 32
    · obtain ⟨n, hn, _⟩ := key i hi
      rw [hn]
      simp [hn, intOf]
    · rw [List.getElem?_eq_none (by omega), List.getElem?_eq_none (by simp; omega)]
  · obtain ⟨u, hu, rfl⟩ := List.mem_map.1 hy
    obtain ⟨i, hi, rfl⟩ := List.getElem_of_mem hu
    obtain ⟨n, hn, hn2⟩ := key i (by omega)
    rw [List.getElem?_eq_getElem hi] at hn
    rw [Option.some.inj hn]
    exact hn2

theorem open_ent {fuel : Nat} {cs : List Value} {x : DataW H × List MemPlace} (h : DataW.trod enc Tryz.prog W base spare held fuel 41 cs = some x) : ∃ y : EV, cs = y.cells ∧ y.Ok := by
  obtain ⟨ys, n, _, _, hl, hlen, hf⟩ := DataW.trod_struct Tryz.underlying41 h
  rw [cells47] at hl
  match ys, hlen with
  | [y0, y1, y2], _ =>
    have g0 : DataW.trod enc Tryz.prog W base spare held n 9 ((cs.drop 0).take 1) = some y0 := by simpa [cells9] using hf 0 _ rfl
    have g1 : DataW.trod enc Tryz.prog W base spare held n 3 ((cs.drop 1).take 1) = some y1 := by simpa [cells3'] using hf 1 _ rfl
    have g2 : DataW.trod enc Tryz.prog W base spare held n 39 ((cs.drop 2).take 32) = some y2 := by simpa [cells45] using hf 2 _ rfl
    obtain ⟨s, e0, _, hsl⟩ := DataW.trod_string Tryz.underlying9 g0
    obtain ⟨kd, e1, _, wk⟩ := DataW.trod_int Tryz.underlying3 g1
    obtain ⟨d, d1, d2, d3⟩ := open_d g2
    have hdig : trimZ d ++ List.replicate (32 - (trimZ d).length) 0 = d := by rw [← d1]; exact trimZ_eq d
    have b := bounds_i64 wk
    refine ⟨⟨nums s, kd, trimZ d⟩, ?_, ⟨fun x hx => ?_, ⟨b.1, show kd < 9223372036854775808 by omega⟩, ⟨by rw [← d1]; exact trimZ_le d, trimZ_ends d⟩, fun x hx => ?_, ?_⟩⟩
    · have q : cs = (cs.drop 0).take 1 ++ ((cs.drop 1).take 1 ++ (cs.drop 2).take 32) := by
        apply List.ext_getElem?
        intro i
        simp only [List.getElem?_append, List.length_take, List.length_drop, List.getElem?_take, List.getElem?_drop, hl]
        repeat' split
        all_goals (first | (congr 1; omega) | (rw [List.getElem?_eq_none (by omega)]) | omega)
      rw [e0, e1, d2] at q
      rw [q]
      simp only [EV.cells, str_back, hdig]
      rfl
    · unfold nums at hx
      obtain ⟨u, _, rfl⟩ := List.mem_map.1 hx
      have := u.toNat_lt
      constructor <;> omega
    · have hm : x ∈ d := by
        rw [← trimZ_eq d]
        exact List.mem_append_left _ hx
      have := d3 x hm
      constructor <;> omega
    · rw [nums_length]
      unfold maxLen at hsl
      omega

theorem open_ents {fuel : Nat} {v : Value} {x : DataW H × List MemPlace} (h : DataW.trod enc Tryz.prog W base spare held fuel 22 [v] = some x) : ∃ ys : List EV, RowE W v ys ∧ (∀ y ∈ ys, y.Ok) ∧ ys.length ≤ 9223372036854775807 := by
  rcases open_slice Tryz.underlying22 h with ⟨hcs, _⟩ | ⟨a, len, cap, m, n, D, Pl, hcs, hb, hl, hm, hm', _, hel⟩
  · cases hcs
    exact ⟨[], .inl ⟨rfl, none, 0, rfl⟩, by simp, by simp⟩
  · cases hcs
    by_cases h0 : len = 0
    · exact ⟨[], .inl ⟨rfl, some a, cap, by rw [h0]⟩, by simp, by simp⟩
    · have hlm : len ≤ m := by rw [hm']; split <;> omega
      rw [cells47] at hel
      have hin : Inhabited EV := ⟨⟨[], 0, []⟩⟩
      obtain ⟨f, hf⟩ := choose_lt (n := len) (p := fun i (y : EV) => W.cells? base (a.add (i * 34)) 34 = some y.cells ∧ y.Ok) (fun i hi => by
        obtain ⟨cs', h1, h2⟩ := hel i (by omega)
        obtain ⟨y, rfl, h3⟩ := open_ent h2
        exact ⟨y, h1, h3⟩)
      have hcell : ∀ i, i < len → ∀ j, j < 34 → W.cell? ((a.add (i * 34)).add j) = (f i).cells[j]? := fun i hi => (World.cells?_some (hf i hi).1).2.2
      have hlc : ∀ i, i < len → (f i).cells.length = 34 := fun i hi => (World.cells?_some (hf i hi).1).2.1
      obtain ⟨b, off, spot⟩ := a
      have hc0 : W.cell? (((⟨b, off, spot⟩ : Addr).add (0 * 34)).add 0) = some (.string (str (f 0).nm)) := hcell 0 (by omega) 0 (by omega)
      have hspot : spot = none := by simpa [Addr.add] using World.cell?_spot hc0
      subst hspot
      refine ⟨(List.range len).map f, .inr ⟨b, off, cap, by simp, fun i y hy j u hj => ?_⟩, fun y hy => ?_, by simp; unfold maxLen at hm; omega⟩
      · have hi : i < len := by
          have := (List.getElem?_eq_some_iff.1 hy).1
          simpa using this
        obtain rfl : f i = y := by simpa [hi] using hy
        have hj34 : j < 34 := by
          have := (List.getElem?_eq_some_iff.1 hj).1
          rw [hlc i hi] at this
          exact this
        have := hcell i hi j hj34
        rw [Addr.add_lit, Addr.add_lit] at this
        rw [this, hj]
      · obtain ⟨i, hi, rfl⟩ := List.mem_map.1 hy
        exact (hf i (List.mem_range.1 hi)).2
end
end Go.Proofs.YtcpkbajmilkhpabGreatDoor
