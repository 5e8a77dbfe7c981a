/-
  TMb: Mb.
-/
import Derived.Test.YtgoabnehdmdikaaGreatDoorTMa
import Derived.Laws.BytesString
import Derived.Deep.AppendSrc
import Derived.Deep.Strs
import Derived.OpenShut
import Derived.ChangeOld
import Derived.Defers
import Derived.Recover
import Derived.Laws.BitsAllLaws
import Derived.Laws.Bits64
namespace Go.Proofs.YtgoabnehdmdikaaGreatDoor
open Go.RowKit
set_option linter.unusedVariables false

theorem IsB.shape {w : World} {v : Value} {xs : List Int} (h : IsB w v xs) : ∃ ao c, v = .slice ao xs.length c := by
  rcases h with ⟨rfl, ao, c, rfl⟩ | ⟨g, o, c, rfl, hc⟩
  · exact ⟨_, _, rfl⟩
  · exact ⟨_, _, rfl⟩

theorem IsB.kept {w w' : World} {v : Value} {xs : List Int} {S : Nat → Prop} (h : IsB w v xs) (hk : Kept S w w') (hS : ∀ g, v.ownBlock = some g → ¬ S g) : IsB w' v xs := by
  rcases h with ⟨rfl, ao, c, rfl⟩ | ⟨g, o, c, rfl, hc⟩
  · exact .inl ⟨rfl, _, _, rfl⟩
  · exact .inr ⟨g, o, c, rfl, fun i hi => hk.cell (hc i hi) (hS g rfl)⟩

theorem IsB.kept2 {w w' : World} {v : Value} {xs : List Int} {S : Nat → Prop} (h : IsB w v xs) (hk : Kept S w w') (hS : xs ≠ [] → ∀ g, v.ownBlock = some g → ¬ S g) : IsB w' v xs := by
  rcases h with ⟨rfl, ao, c, rfl⟩ | ⟨g, o, c, rfl, hc⟩
  · exact .inl ⟨rfl, _, _, rfl⟩
  · exact .inr ⟨g, o, c, rfl, fun i hi => hk.cell (hc i hi) (hS (by intro e; rw [e] at hi; simp at hi) g rfl)⟩

/-- Bytes that are there lie in a block that is there. -/
theorem IsB.lt {w : World} {v : Value} {xs : List Int} (h : IsB w v xs) (hx : xs ≠ []) : ∀ g, v.ownBlock = some g → g < w.heap.size := by
  intro q hq
  rcases h with ⟨rfl, _⟩ | ⟨g, o, c, rfl, hc⟩
  · exact absurd rfl hx
  · have := World.block_lt_of_cell? _ _ (hc 0 (List.length_pos_iff.2 hx))
    rw [← Option.some.inj hq]
    exact this

theorem Lent.kept {w w' : World} {g : Nat} {xs : List Int} {j : Nat} {S : Nat → Prop} (h : Lent w g xs j) (hk : Kept S w w') (hS : ¬ S g) : Lent w' g xs j := by
  obtain ⟨cur, h0, r⟩ := h
  exact ⟨cur, (hk.block g (Array.getElem?_eq_some_iff.1 h0).1 hS).trans h0, r⟩

/-- Bytes as a string. -/
def str (xs : List Int) : ByteArray := xs.foldl (fun r n => r.push (UInt8.ofNat n.toNat)) ByteArray.empty

theorem push_data (r : ByteArray) (b : UInt8) : (r.push b).data.toList = r.data.toList ++ [b] := by simp [ByteArray.push]
theorem fold_data (xs : List Int) : ∀ r : ByteArray, (xs.foldl (fun r n => r.push (UInt8.ofNat n.toNat)) r).data.toList = r.data.toList ++ xs.map fun n => UInt8.ofNat n.toNat := by
  induction xs with
  | nil => intro r; simp
  | cons x xs ih => intro r; rw [List.foldl_cons, ih, push_data]; simp

theorem str_nums (xs : List Int) (h : ∀ x ∈ xs, 0 ≤ x ∧ x ≤ 255) : nums (str xs) = xs := by
  unfold nums str
  rw [fold_data]
  have e : (ByteArray.empty.data.toList : List UInt8) = [] := rfl
  rw [e, List.nil_append, List.map_map]
  conv => rhs; rw [← List.map_id xs]
  apply List.map_congr_left
  intro x hx
  have := h x hx
  simp only [Function.comp, id]
  rw [UInt8.toNat_ofNat']
  omega

theorem str_size (xs : List Int) : (str xs).size = xs.length := by
  have : (str xs).size = (str xs).data.toList.length := by simp
  rw [this]
  unfold str
  rw [fold_data]
  have e : (ByteArray.empty.data.toList : List UInt8) = [] := rfl
  simp

theorem conv_str (w : World) (v : Value) (xs : List Int) (h : IsB w v xs) : (convert 23 9 v).run Tryz.prog w = .ok (.string (str xs)) w := by
  rcases h with ⟨rfl, ao, c, rfl⟩ | ⟨g, o, c, rfl, hc⟩
  · rw [run_convert_bytes_string w 23 9 5 ao 0 c Tryz.underlying23 Tryz.underlying5 Tryz.underlying9]
    cases ao with
    | none => simp [Conv.bytesToString, str]
    | some p => exact run_bytesToString w p 0 c [] (run_loadCells_list w p [] (fun j v h => by cases h))
  · rw [run_convert_bytes_string w 23 9 5 _ _ c Tryz.underlying23 Tryz.underlying5 Tryz.underlying9]
    refine run_bytesToString w _ _ c xs ?_
    have := run_loadCells_list (P := Tryz.prog) w ⟨g, o, none⟩ (xs.map (Value.int .u8)) (map_cells rfl (fun i hi => by rw [Addr.add_lit]; exact hc i hi))
    simpa using this

/-- What a put of an item makes of a Writer's state. -/
def St.item (s : St) (k n : Int) (xs : List Int) : St :=
  if k = 1 then s.num n else if k = 2 then s.put (Mth.form (fold n)) else if k = 3 then s.put [if (n == 1) = true then 1 else 0]
  else if k = 4 then s.put (Mth.form xs.length ++ xs) else if k = 5 then s.put (Mth.form xs.length ++ xs) else s.put xs

/-- What a put of the statements' own leaves. -/
def PutB (a : Nat) (v : Value) (s : St) (w : World) (e : Ending) (w' : World) : Prop :=
  e = .returned (.bool true) ∧ ∃ v', WS w' a v' s ∧ Kept (fun k => k = a ∨ v.ownBlock = some k) w w' ∧ (∀ g, v'.ownBlock = some g → v.ownBlock = some g ∨ w.heap.size ≤ g)

/-- Behind the call: the lent bytes are given back. -/
theorem put_back {a g : Nat} {v v' : Value} {s : St} {w w2 w3 w4 : World} (hk2 : Kept (fun _ => False) w w2) (hg : w.heap.size ≤ g) (hg2 : g < w2.heap.size) (h1 : WS w3 a v' s) (h2 : Kept (fun k => k = a ∨ v.ownBlock = some k) w2 w3)
    (h3 : ∀ g, v'.ownBlock = some g → v.ownBlock = some g ∨ w2.heap.size ≤ g) (hv : ∀ q, v.ownBlock = some q → q < w.heap.size) (ha : a < w.heap.size) (h4 : Kept (fun k => k = g) w3 w4) : PutB a v s w (.returned (.bool true)) w4 := by
  have h34 : Kept (fun k => k = a ∨ v.ownBlock = some k) w w3 := (hk2.mono (fun _ _ f => f.elim)).trans h2
  refine ⟨rfl, v', h1.kept h4 (by omega) (fun q hq => ?_), h34.step h4 (fun i hi e => by omega), fun q hq => ?_⟩
  · rcases h3 q hq with h | h
    · have := hv q h; omega
    · omega
  · rcases h3 q hq with h | h
    · exact .inl h
    · exact .inr (Nat.le_trans hk2.size h)

/-- May the item be put? -/
def isOk (k : Int) (len : Nat) : Bool := decide (1 ≤ k ∧ k ≤ 6 ∧ len ≤ 65536)

end Go.Proofs.YtgoabnehdmdikaaGreatDoor

namespace Go.Proofs.YtgoabnehdmdikaaGreatDoor
open Go.RowKit
set_option linter.unusedVariables false

theorem be_snoc (m : Nat) (y : Int) : Mth.be (m + 1) y = Mth.be m (y / 256) ++ [y % 256] := by
  induction m with
  | zero => simp [Mth.be]
  | succ m ih =>
    have e : y / (256 : Int) ^ (m + 1) = y / 256 / (256 : Int) ^ m := by
      rw [Int.ediv_ediv_of_nonneg (by omega), Int.pow_succ, Int.mul_comm]
    rw [Mth.be, ih, Mth.be, e]
    rfl

theorem sz_step (y : Int) (h0 : 1 ≤ y) (h1 : y < 18446744073709551616) : Mth.sz y = Mth.sz (y / 256) + 1 := by
  have := Mth.sz_cases y
  have := Mth.sz_cases (y / 256)
  omega

theorem be_step (y : Int) (h0 : 1 ≤ y) (h1 : y < 18446744073709551616) : Mth.be (Mth.sz y) y = Mth.be (Mth.sz (y / 256)) (y / 256) ++ [y % 256] := by
  rw [sz_step y h0 h1, be_snoc]

theorem div_step (u : Int) (p : Nat) : u / (256 : Int) ^ (p + 1) = u / (256 : Int) ^ p / 256 := by
  rw [Int.pow_succ, Int.ediv_ediv_of_nonneg (Int.le_of_lt (Mth.pow_pos p))]

theorem div_le (u : Int) (p : Nat) (h0 : 0 ≤ u) : 0 ≤ u / (256 : Int) ^ p ∧ u / (256 : Int) ^ p ≤ u :=
  ⟨Int.ediv_nonneg h0 (Int.le_of_lt (Mth.pow_pos p)), Int.ediv_le_self _ h0⟩

/-- The row that Form makes, so far: the bytes of y without zeros ahead. -/
def Out (w wr : World) (v : Value) (y : Int) : Prop :=
  wr.ownsRow w.heap.size 5 1 v (Mth.sz y) ((Mth.be (Mth.sz y) y).map (Value.int .u8)) ∧ Kept (fun _ => False) w wr

theorem out_step {w wr w' : World} {v v' : Value} {o : Obj} {y : Int} (h0 : 1 ≤ y) (h1 : y < 18446744073709551616) (h : Out w wr v (y / 256))
    (hown' : w'.ownsRow w.heap.size 5 1 v' (Mth.sz (y / 256) + 1) ((Mth.be (Mth.sz (y / 256)) (y / 256)).map (Value.int .u8) ++ [.int .u8 (y % 256)])) (hgrow : (wr.alloc o).grownBy w' v.ownBlock) : Out w w' v' y := by
  refine ⟨?_, (h.2.alloc o).grown hgrow (fun g hg => .inl (h.1.lt g hg).1)⟩
  rw [be_step y h0 h1, sz_step y h0 h1]
  simpa using hown'

end Go.Proofs.YtgoabnehdmdikaaGreatDoor

namespace Go.Proofs.YtgoabnehdmdikaaGreatDoor
open Go.RowKit
set_option linter.unusedVariables false

/-- The bytes of an item. -/
def itemBytes (k n : Int) (xs : List Int) : List Int :=
  if k = 1 then Mth.form n else if k = 2 then Mth.form (fold n) else if k = 3 then [if (n == 1) = true then 1 else 0]
  else if k = 4 then Mth.form xs.length ++ xs else if k = 5 then Mth.form xs.length ++ xs else xs

/-- append of no bytes, from a nil slice. -/
theorem app_nil (W : World) (v : Value) (n base : Nat) (xs : List Value) (ty : TypeId) (c : Nat) (hown : W.ownsRow base 5 1 v n xs) : (Builtin.append_ #[23, 23] ty #[v, .slice none 0 c]).run Tryz.prog W = .ok v W := by
  obtain ⟨i0, hi, hz0, hz1, hz2⟩ := info_parts Tryz.info5
  rcases hown.2 with ⟨rfl, rfl⟩ | ⟨g, cap, cur, rfl, hb, hg, hn, hm, hs, ht⟩
  · simp [Builtin.append_, run_underlying Tryz.underlying23, sizeOf, typeInfo, hi, Builtin.lenOf, Builtin.firstCells]
  · have := run_append_room_src (P := Tryz.prog) W 23 23 ty 5 i0 Tryz.underlying23 hi g 0 n cap (.slice none 0 c) 0 [] (Src.ofNil W Tryz.underlying23 c) (by omega) (by simp) (by simp)
    simpa [World.setCells] using this

/-- append of bytes onto a row of one's own, from whatever slice they lie in. -/
theorem app_any (W : World) (v : Value) (n base : Nat) (l : List Int) (ty : TypeId) (bv : Value) (xs : List Int) (hown : W.ownsRow base 5 1 v n (l.map (Value.int .u8))) (hx : IsB W bv xs) (hb : base ≤ W.heap.size) (hsz : n + xs.length ≤ 140737488355328) :
    ∃ v' w', (Builtin.append_ #[23, 23] ty #[v, bv]).run Tryz.prog W = .ok v' w' ∧ w'.ownsRow base 5 1 v' (n + xs.length) ((l ++ xs).map (Value.int .u8)) ∧ W.grownBy w' v.ownBlock := by
  obtain ⟨i0, hi, hz0, hz1, hz2⟩ := info_parts Tryz.info5
  have key : ∀ (p : Addr) (c : Nat), (∀ i, i < xs.length → W.cell? (p.add i) = some (.int .u8 (xs.getD i 0))) → ∃ v' w', (Builtin.append_ #[23, 23] ty #[v, .slice (some p) xs.length c]).run Tryz.prog W = .ok v' w' ∧ w'.ownsRow base 5 1 v' (n + xs.length) ((l ++ xs).map (Value.int .u8)) ∧ W.grownBy w' v.ownBlock := by
    intro p c hc
    obtain ⟨v', w', hr, h2, h3, h4⟩ := run_append_own (P := Tryz.prog) W base 23 ty 5 i0 (.int .u8 0) 1 1 Tryz.underlying23 hi hz0 hz1 hz2 rfl (by decide) v n _ hown p xs.length c (xs.map (Value.int .u8)) (by simp) (map_cells rfl hc) (map_one xs) (by unfold maxLen; omega) (by omega) hb
    exact ⟨v', w', hr, by rw [List.map_append]; exact h2, h3⟩
  rcases hx with ⟨rfl, ao, c, rfl⟩ | ⟨g, o, c, rfl, hc⟩
  · cases ao with
    | none => exact ⟨v, W, app_nil W v n base _ ty c hown, by simpa using hown, ⟨rfl, rfl, rfl, Nat.le_refl _, fun _ _ _ => rfl⟩⟩
    | some p => exact key p c (fun i hi => absurd hi (by simp))
  · exact key ⟨g, o, none⟩ c (fun i hi => by rw [Addr.add_lit]; exact hc i hi)

/-- An append whose outcome is known, for the walk. -/
theorem wp_app {w : World} {ops : Array Oper} {rest : List Oper} {o : Oper} {a : Act} {Q : Exit → Act → World → Prop} (hgd : o.guard = none) (s x : Operand) (t u : TypeId)
    (ho : o.op = .call { callee := .builtin .append, args := #[s, x], argTypes := #[t, u] }) (v bv : Value) (hs : a.eval s = v) (hx : a.eval x = bv) (v' : Value) (w' : World)
    (hr : (Builtin.append_ #[t, u] o.type #[v, bv]).run Tryz.prog w = .ok v' w') (h : wpList Tryz.prog ops Q rest (a.put o.dst v') w') : wpList Tryz.prog ops Q (o :: rest) a w := by
  refine wpList_plain hgd fun K hK => ?_
  unfold Oper.wp execOp
  simp only [ho, resolve, invoke, builtin, Sem.run_bind, Sem.run_pure, Result.andThen_ok, List.map_toArray, List.map_cons, List.map_nil, hs, hx, hr]
  exact hK _ _ h

theorem own_less {w : World} {B B' : Nat} {v : Value} {m : Nat} {l : List Value} (h : w.ownsRow B' 5 1 v m l) (hB : B ≤ B') : w.ownsRow B 5 1 v m l := by
  refine ⟨h.1, ?_⟩
  rcases h.2 with h | ⟨g, cap, cur, e, hb, r⟩
  · exact .inl h
  · exact .inr ⟨g, cap, cur, e, by omega, r⟩
theorem own_one (W : World) (x : Value) (B : Nat) (hB : B ≤ W.heap.size) : (W.alloc (.cells #[x] 5)).ownsRow B 5 1 (.slice (some ⟨W.heap.size, 0, none⟩) 1 1) 1 [x] :=
  ⟨rfl, .inr ⟨W.heap.size, 1, #[x], rfl, hB, heap_alloc_new W _, Nat.le_refl _, by decide, rfl, rfl⟩⟩

end Go.Proofs.YtgoabnehdmdikaaGreatDoor

namespace Go.Proofs.YtgoabnehdmdikaaGreatDoor
open Go.RowKit
set_option linter.unusedVariables false

/-- An item as it lies in memory, and what its bytes read as. -/
structure ItV where
  k : Int
  n : Int
  bv : Value
  xs : List Int

def ItV.cells (x : ItV) : List Value := [.int .i64 x.k, .int .i64 x.n, x.bv]

/-- An item that may be put. -/
def ItOk (w : World) (x : ItV) : Prop :=
  1 ≤ x.k ∧ x.k ≤ 6 ∧ -9223372036854775808 ≤ x.n ∧ x.n < 9223372036854775808 ∧ IsB w x.bv x.xs ∧ (∀ y ∈ x.xs, 0 ≤ y ∧ y ≤ 255) ∧ x.xs.length ≤ 65536

def ItV.default : ItV := ⟨0, 0, .slice none 0 0, []⟩

/-- Items at a block: each has its three cells. -/
def ItemsAt (w : World) (g : Nat) (its : List ItV) : Prop :=
  ∀ i, i < its.length → w.cell? ⟨g, i * 3, none⟩ = some (.int .i64 (its.getD i ItV.default).k) ∧ w.cell? ⟨g, i * 3 + 1, none⟩ = some (.int .i64 (its.getD i ItV.default).n) ∧ w.cell? ⟨g, i * 3 + 2, none⟩ = some (its.getD i ItV.default).bv

/-- What all that was put makes. -/
def run (its : List ItV) : St := its.foldl (fun s x => s.item x.k x.n x.xs) (.ok [])

theorem fold_err (its : List ItV) (e : Int) : its.foldl (fun (s : St) x => s.item x.k x.n x.xs) (.error e) = .error e := by
  induction its with
  | nil => rfl
  | cons x its ih =>
    rw [List.foldl_cons]
    have : St.item (.error e) x.k x.n x.xs = .error e := by
      unfold St.item St.num
      repeat' split
      all_goals rfl
    rw [this, ih]

theorem run_snoc (its : List ItV) (x : ItV) : run (its ++ [x]) = (run its).item x.k x.n x.xs := by
  simp [run, List.foldl_append]

theorem take_snoc (its : List ItV) (i : Nat) (h : i < its.length) : its.take (i + 1) = its.take i ++ [its.getD i ItV.default] := by
  rw [List.take_succ_eq_append_getElem h]
  simp [List.getD, List.getElem?_eq_getElem h]

theorem run_take (its : List ItV) (i : Nat) (h : i < its.length) : run (its.take (i + 1)) = (run (its.take i)).item (its.getD i ItV.default).k (its.getD i ItV.default).n (its.getD i ItV.default).xs := by
  rw [take_snoc its i h, run_snoc]

theorem run_stops (its : List ItV) (i : Nat) (e : Int) (h : run (its.take i) = .error e) : run its = .error e := by
  have : run its = (its.drop i).foldl (fun (s : St) x => s.item x.k x.n x.xs) (run (its.take i)) := by
    unfold run
    rw [← List.foldl_append, List.take_append_drop]
  rw [this, h, fold_err]

theorem item_bytes (s : St) (k n : Int) (xs : List Int) (h1 : 1 ≤ k) (h2 : k ≤ 6) : s.item k n xs = if k = 1 ∧ n < 0 then s.fail 1 else s.put (itemBytes k n xs) := by
  unfold St.item itemBytes St.num
  by_cases e1 : k = 1
  · subst e1
    by_cases e2 : n < 0
    · simp [e2]
    · simp [e2]
  · simp only [e1, if_false, false_and]
    repeat' split
    all_goals rfl

theorem item_form (s : St) (k n : Int) (xs : List Int) : (∃ m, s.item k n xs = s.put m) ∨ s.item k n xs = s.fail 1 := by
  unfold St.item St.num
  by_cases e1 : k = 1
  · by_cases e2 : n < 0
    · right
      rw [if_pos e1, if_pos e2]
    · left
      exact ⟨_, by rw [if_pos e1, if_neg e2]⟩
  · left
    rw [if_neg e1]
    (repeat' split) <;> exact ⟨_, rfl⟩

theorem run_ok_len (its : List ItV) (l : List Int) : run its = .ok l → l.length ≤ 4194304 := by
  suffices H : ∀ (its : List ItV) (s : St), (∀ l, s = .ok l → l.length ≤ 4194304) → ∀ l, its.foldl (fun (s : St) x => s.item x.k x.n x.xs) s = .ok l → l.length ≤ 4194304 from
    H its (.ok []) (fun l h => by cases h; simp) l
  intro its
  induction its with
  | nil => intro s hs l h; exact hs l h
  | cons x its ih =>
    intro s hs l h
    refine ih _ ?_ l h
    intro l' h'
    have hput : ∀ m l', s.put m = .ok l' → l'.length ≤ 4194304 := by
      intro m l' h
      cases s with
      | error e => cases h
      | ok l0 =>
        simp only [St.put] at h
        split at h
        · cases h; simpa using ‹_›
        · cases h
    change s.item x.k x.n x.xs = .ok l' at h'
    rcases item_form s x.k x.n x.xs with ⟨m, e⟩ | e
    · rw [e] at h'
      exact hput m l' h'
    · rw [e] at h'
      cases s <;> cases h'

theorem itemBytes_len (k n : Int) (xs : List Int) (h : xs.length ≤ 65536) (h1 : -9223372036854775808 ≤ n) (h2 : n < 9223372036854775808) : (itemBytes k n xs).length ≤ 70000 := by
  have f1 := (Mth.form_length n (by omega)).2
  have f2 := (Mth.form_length (fold n) (fold_le n h1 h2).2).2
  have f3 := (Mth.form_length xs.length (by omega)).2
  unfold itemBytes
  (repeat' split) <;> first | omega | (rw [List.length_append]; omega) | (rw [List.length_cons, List.length_nil]; omega)

end Go.Proofs.YtgoabnehdmdikaaGreatDoor

namespace Go.Proofs.YtgoabnehdmdikaaGreatDoor
open Go.RowKit
set_option linter.unusedVariables false

theorem cell_three_new (w : World) (x y z : Value) (t : TypeId) : ∀ j u, [x, y, z][j]? = some u → (w.alloc (.cells #[x, y, z] t)).cell? ((⟨w.heap.size, 0, none⟩ : Addr).add j) = some u := by
  intro j u hj
  rw [Addr.add_lit, cell_block _ _ _ _ _ _ (heap_alloc_new w _), Nat.zero_add]
  simpa using hj

theorem flat_at (its : List ItV) (i j : Nat) (hi : i < its.length) (hj : j < 3) : (its.flatMap ItV.cells)[i * 3 + j]? = (its.getD i ItV.default).cells[j]? := by
  induction its generalizing i with
  | nil => simp at hi
  | cons x its ih =>
    have hc : x.cells.length = 3 := rfl
    rw [List.flatMap_cons]
    cases i with
    | zero =>
      rw [List.getElem?_append_left (by rw [hc]; omega)]
      simp
    | succ i =>
      rw [List.getElem?_append_right (by rw [hc]; omega), hc, show (i + 1) * 3 + j - 3 = i * 3 + j by omega, ih i (by simpa using hi)]
      simp

theorem row_len (its : List ItV) : (its.flatMap ItV.cells).length = its.length * 3 := by
  induction its with
  | nil => rfl
  | cons x its ih => rw [List.flatMap_cons, List.length_append, ih, List.length_cons]; show 3 + _ = _; omega

theorem World.ownsRow.mk' {w : World} {base : Nat} {e : TypeId} {size : Nat} {v : Value} {n : Nat} {xs : List Value} (h : w.ownsRow base e size v n xs) : (v = .slice none 0 0 ∧ n = 0) ∨ ∃ g cap, v = .slice (some ⟨g, 0, none⟩) n cap := by
  rcases h.2 with h | ⟨g, cap, _, e, _⟩
  · exact .inl h
  · exact .inr ⟨g, cap, e⟩

/-- An item as it was handed in. -/
def ArgOk (w : World) (x : ItV) : Prop :=
  -9223372036854775808 ≤ x.k ∧ x.k ≤ 9223372036854775807 ∧ -9223372036854775808 ≤ x.n ∧ x.n ≤ 9223372036854775807 ∧ IsB w x.bv x.xs ∧ (∀ y ∈ x.xs, 0 ≤ y ∧ y ≤ 255) ∧ x.xs.length ≤ maxLen

/-- The items of the argument, each at its three cells. -/
def ArgItems (w : World) (b o : Nat) (its : List ItV) : Prop :=
  ∀ i, i < its.length → w.cell? ⟨b, o + i * 3, none⟩ = some (.int .i64 (its.getD i ItV.default).k) ∧ w.cell? ⟨b, o + i * 3 + 1, none⟩ = some (.int .i64 (its.getD i ItV.default).n) ∧ w.cell? ⟨b, o + i * 3 + 2, none⟩ = some (its.getD i ItV.default).bv

theorem IsB.below {W wr : World} {v : Value} {xs : List Int} (h : IsB W v xs) (hb : Below W.heap.size W wr) : IsB wr v xs :=
  h.kept2 (kept_of_below hb) (fun hne g hg h' => by have := h.lt hne g hg; omega)

end Go.Proofs.YtgoabnehdmdikaaGreatDoor

namespace Go.Proofs.YtgoabnehdmdikaaGreatDoor
open Go.ChangeShapes Go.WideShapes Go.ChangeAt Go.RowKit Go.Deep
set_option linter.unusedVariables false

theorem cells25 : Tryz.prog.cellsOf 23 = 1 := by kernel_rfl
theorem cells3 : Tryz.prog.cellsOf 3 = 1 := by kernel_rfl
theorem cells5 : Tryz.prog.cellsOf 5 = 1 := by kernel_rfl

section
variable {H : Type} {enc : TypeId × Value → H} {W : World} {base : Nat} {spare : Nat → Bool} {held : Bool}

theorem open_bytes {fuel : Nat} {v : Value} {x : DataW H × List MemPlace} (h : DataW.trod enc Tryz.prog W base spare held fuel 23 [v] = some x) :
    ∃ xs : List Int, IsB W v xs ∧ (∀ y ∈ xs, 0 ≤ y ∧ y ≤ 255) ∧ xs.length ≤ maxLen := by
  rcases open_ints Tryz.underlying23 Tryz.underlying5 cells5 h with ⟨hcs, _⟩ | ⟨a, len, cap, zs, hcs, hb, hl, hm, hz, _, hcell, hwz⟩
  · cases hcs
    exact ⟨[], .inl ⟨rfl, _, _, rfl⟩, fun y hy => (by cases hy), Nat.zero_le _⟩
  · cases hcs
    have hle : len ≤ zs.length := by rw [hz]; split <;> omega
    have hlen : (zs.take len).length = len := by rw [List.length_take]; omega
    refine ⟨zs.take len, ?_, fun y hy => ?_, by rw [hlen]; omega⟩
    · cases len with
      | zero => exact .inl ⟨by simp, _, _, rfl⟩
      | succ len =>
        obtain ⟨b, off, spot⟩ := a
        have hc := hcell 0 (by omega)
        have hspot : spot = none := by simpa [Addr.add] using World.cell?_spot hc
        subst hspot
        refine .inr ⟨b, off, cap, by rw [hlen], fun i hi => ?_⟩
        rw [hlen] at hi
        have := hcell i (by omega)
        rw [Addr.add_lit] at this
        rw [this]
        simp [List.getD, hi]
    · have := hwz y (List.mem_of_mem_take hy)
      have := bounds_u8 this
      omega

end

namespace mintWrites
theorem own : ownKnob Tryz.prog.godebug = none := by kernel_rfl
theorem laidOut : laidOutB Tryz.prog = true := by kernel_rfl

end mintWrites

end Go.Proofs.YtgoabnehdmdikaaGreatDoor

namespace Go.Proofs.YtgoabnehdmdikaaGreatDoor
open Go.RowKit
set_option linter.unusedVariables false

/-- A Reader: its three fields. -/
def Rd (w : World) (r : Nat) (v : Value) (live : Bool) (f : Int) : Prop := w.heap[r]? = some (.cells #[v, .bool live, .int .i64 f] 284 (0, 0))

theorem Rd.cells {w : World} {r : Nat} {v : Value} {live : Bool} {f : Int} (h : Rd w r v live f) :
    w.cell? ⟨r, 0, none⟩ = some v ∧ w.cell? ⟨r, 1, none⟩ = some (.bool live) ∧ w.cell? ⟨r, 2, none⟩ = some (.int .i64 f) ∧ w.frozen? ⟨r, 0, none⟩ = false ∧ w.frozen? ⟨r, 1, none⟩ = false ∧ w.frozen? ⟨r, 2, none⟩ = false ∧ r < w.heap.size :=
  ⟨by rw [cell_block _ _ _ _ _ _ h]; rfl, by rw [cell_block _ _ _ _ _ _ h]; rfl, by rw [cell_block _ _ _ _ _ _ h]; rfl, frozen_block _ _ _ _ _ h, frozen_block _ _ _ _ _ h, frozen_block _ _ _ _ _ h, (Array.getElem?_eq_some_iff.1 h).1⟩

theorem Rd.set0 {w : World} {r : Nat} {v : Value} {live : Bool} {f : Int} (h : Rd w r v live f) (v' : Value) : Rd (w.setCell ⟨r, 0, none⟩ v') r v' live f := by
  unfold Rd
  rw [set_block _ _ _ _ _ _ h]
  rfl

theorem Rd.kept {w w' : World} {r : Nat} {v : Value} {live : Bool} {f : Int} {S : Nat → Prop} (h : Rd w r v live f) (hk : Kept S w w') (hS : ¬ S r) : Rd w' r v live f :=
  (hk.block r (Array.getElem?_eq_some_iff.1 h).1 hS).trans h

/-- What a Reader has left: a slice into block g. -/
def IsR (w : World) (g : Nat) (v : Value) (xs : List Int) : Prop :=
  (xs = [] ∧ ∃ ao : Option Addr, (ao = none ∨ ∃ o, ao = some ⟨g, o, none⟩) ∧ v = .slice ao 0 0) ∨
  ∃ o c, v = .slice (some ⟨g, o, none⟩) xs.length c ∧ xs.length ≤ c ∧ 0 < c ∧ c ≤ maxLen ∧ ∀ i, i < xs.length → w.cell? ⟨g, o + i, none⟩ = some (.int .u8 (xs.getD i 0))

theorem IsR.kept {w w' : World} {g : Nat} {v : Value} {xs : List Int} {S : Nat → Prop} (h : IsR w g v xs) (hk : Kept S w w') (hS : ¬ S g) : IsR w' g v xs := by
  rcases h with h | ⟨o, c, h1, h2, h3, h4, hc⟩
  · exact .inl h
  · exact .inr ⟨o, c, h1, h2, h3, h4, fun i hi => hk.cell (hc i hi) hS⟩

theorem IsR.shape {w : World} {g : Nat} {v : Value} {xs : List Int} (h : IsR w g v xs) : ∃ ao c, v = .slice ao xs.length c := by
  rcases h with ⟨rfl, ao, _, rfl⟩ | ⟨o, c, rfl, _⟩
  · exact ⟨_, _, rfl⟩
  · exact ⟨_, _, rfl⟩

theorem IsR.len {w : World} {g : Nat} {v : Value} {xs : List Int} (h : IsR w g v xs) : xs.length ≤ maxLen := by
  rcases h with ⟨rfl, _⟩ | ⟨o, c, _, h1, _, h2, _⟩
  · exact Nat.zero_le _
  · omega

/-- Behind a call that met no fault: what is left. -/
def After (w w' : World) (r g : Nat) (f : Int) (rest : List Int) : Prop := ∃ v', Rd w' r v' true f ∧ IsR w' g v' rest ∧ Kept (fun k => k = r) w w'

theorem getD_drop (xs : List Int) (n i : Nat) : (xs.drop n).getD i 0 = xs.getD (n + i) 0 := by simp [List.getD, List.getElem?_drop]
theorem getD_take (xs : List Int) (n i : Nat) (h : i < n) : (xs.take n).getD i 0 = xs.getD i 0 := by simp [List.getD, h]

set_option maxRecDepth 100000 in
set_option maxHeartbeats 1000000 in
theorem take_row (r g o len c n : Nat) (w : World) (f : Int) (hr : Rd w r (.slice (some ⟨g, o, none⟩) len c) true f) (hn : n ≤ len) (hc : len ≤ c) (hc0 : 0 < c) (hm : c ≤ maxLen) :
    Calls Tryz.prog 210 #[.pointer (some ⟨r, 0, none⟩), .int .i64 n] w fun e w' => e = .returned (.slice (some ⟨g, o, none⟩) n c) ∧
      ((c = n ∧ w' = w.setCell ⟨r, 0, none⟩ (.slice (some ⟨g, o, none⟩) (len - n) 0)) ∨ (c ≠ n ∧ w' = w.setCell ⟨r, 0, none⟩ (.slice (some ⟨g, o + n, none⟩) (len - n) (c - n)))) := by
  obtain ⟨h0, h1, h2, f0, f1, f2, hl⟩ := hr.cells
  unfold maxLen at hm
  have hnI : (n : Int) ≤ (len : Int) := by omega
  have hcI : (len : Int) ≤ (c : Int) := by omega
  clear hr
  go_enter Tryz.func210, Tryz.ntmps210
  go_wp2
  all_goals go_ret
  all_goals exact ⟨rfl, rfl⟩

set_option maxRecDepth 100000 in
set_option maxHeartbeats 1000000 in
theorem take_zero (r : Nat) (ao : Option Addr) (w : World) (f : Int) (hr : Rd w r (.slice ao 0 0) true f) :
    Calls Tryz.prog 210 #[.pointer (some ⟨r, 0, none⟩), .int .i64 0] w fun e w' => e = .returned (.slice ao 0 0) ∧ w' = w.setCell ⟨r, 0, none⟩ (.slice ao 0 0) := by
  obtain ⟨h0, h1, h2, f0, f1, f2, hl⟩ := hr.cells
  clear hr
  cases ao with
  | none =>
    go_enter Tryz.func210, Tryz.ntmps210
    go_wp2
    go_ret
    exact ⟨rfl, rfl⟩
  | some a =>
    go_enter Tryz.func210, Tryz.ntmps210
    go_wp2
    go_ret
    exact ⟨rfl, rfl⟩

/-- take, where so many bytes are left. -/
theorem take_ok (r g n : Nat) (v : Value) (xs : List Int) (w : World) (f : Int) (hr : Rd w r v true f) (hx : IsR w g v xs) (hgr : g ≠ r) (hn : n ≤ xs.length) :
    Calls Tryz.prog 210 #[.pointer (some ⟨r, 0, none⟩), .int .i64 n] w fun e w' => (∃ v1, e = .returned v1 ∧ IsB w' v1 (xs.take n) ∧ (∀ b, v1.ownBlock = some b → b = g) ∧ (v1.ownBlock = none → v1 = .slice none 0 0)) ∧ After w w' r g f (xs.drop n) := by
  rcases hx with ⟨rfl, ao, hao, rfl⟩ | ⟨o, c, rfl, h1, h2, h3, hc⟩
  · obtain rfl : n = 0 := by simpa using hn
    refine (take_zero r ao w f hr).mono ?_
    rintro e w' ⟨rfl, rfl⟩
    refine ⟨⟨_, rfl, .inl ⟨rfl, _, _, rfl⟩, fun b hb => ?_, fun hb => ?_⟩, _, hr.set0 _, .inl ⟨rfl, ao, hao, rfl⟩, kept_set _ _ _ _⟩
    · rcases hao with rfl | ⟨o, rfl⟩
      · cases hb
      · exact (Option.some.inj hb).symm
    · rcases hao with rfl | ⟨o, rfl⟩
      · rfl
      · cases hb
  · have hlt : (xs.take n).length = n := by rw [List.length_take]; omega
    have hld : (xs.drop n).length = xs.length - n := List.length_drop
    have hcell : ∀ (w' : World) u, w' = w.setCell ⟨r, 0, none⟩ u → ∀ i, i < xs.length → w'.cell? ⟨g, o + i, none⟩ = some (.int .u8 (xs.getD i 0)) := by
      rintro w' u rfl i hi
      exact (kept_set w r 0 u).cell (hc i hi) hgr
    refine (take_row r g o xs.length c n w f hr hn h1 h2 h3).mono ?_
    rintro e w' ⟨rfl, hw⟩
    have hB : ∀ w' : World, (∀ i, i < xs.length → w'.cell? ⟨g, o + i, none⟩ = some (.int .u8 (xs.getD i 0))) → IsB w' (.slice (some ⟨g, o, none⟩) n c) (xs.take n) := fun w' h => .inr ⟨g, o, c, by rw [hlt], fun i hi => by
      rw [hlt] at hi
      rw [getD_take xs n i hi]
      exact h i (by omega)⟩
    rcases hw with ⟨hcn, rfl⟩ | ⟨hcn, rfl⟩
    · have hnil : xs.drop n = [] := List.drop_of_length_le (by omega)
      refine ⟨⟨_, rfl, hB _ (hcell _ _ rfl), fun b hb => (Option.some.inj hb).symm, fun hb => (by cases hb)⟩, _, hr.set0 _, ?_, kept_set _ _ _ _⟩
      rw [hnil]
      exact .inl ⟨rfl, some ⟨g, o, none⟩, .inr ⟨o, rfl⟩, by rw [show xs.length - n = 0 by omega]⟩
    · refine ⟨⟨_, rfl, hB _ (hcell _ _ rfl), fun b hb => (Option.some.inj hb).symm, fun hb => (by cases hb)⟩, _, hr.set0 _, ?_, kept_set _ _ _ _⟩
      refine .inr ⟨o + n, c - n, by rw [hld], by rw [hld]; omega, by omega, by omega, fun i hi => ?_⟩
      rw [hld] at hi
      rw [getD_drop, Nat.add_assoc]
      exact hcell _ _ rfl (n + i) (by omega)

set_option maxRecDepth 100000 in
set_option maxHeartbeats 1000000 in
/-- A form of one byte. -/
theorem rdform_small (r g : Nat) (v : Value) (u : Int) (rest : List Int) (w : World) (f : Int) (hr : Rd w r v true f) (hx : IsR w g v (u :: rest)) (hgr : g ≠ r) (h0 : 0 ≤ u) (h1 : u ≤ 247) :
    Calls Tryz.prog 200 #[.pointer (some ⟨r, 0, none⟩)] w fun e w' => e = .returned (.int .u64 u) ∧ After w w' r g f rest := by
  obtain ⟨q0, q1, q2, _, _, _, hl⟩ := hr.cells
  have ht := hid_of (take_ok r g 1 v (u :: rest) w f hr hx hgr (by simp))
  clear hr hx
  go_enter Tryz.func200, Tryz.ntmps200
  go_wp2_with fail
  refine ht.out.mono ?_
  rintro e w1 ⟨⟨v1, rfl, hb, hbg, _⟩, haf⟩
  obtain ⟨b, o, c, rfl, hc⟩ : ∃ b o c, v1 = .slice (some ⟨b, o, none⟩) 1 c ∧ w1.cell? ⟨b, o, none⟩ = some (.int .u8 u) := by
    rcases hb with ⟨h, _⟩ | ⟨b, o, c, rfl, hc⟩
    · cases h
    · exact ⟨b, o, c, rfl, hc 0 (by simp)⟩
  have HA := hid_of haf
  clear ht haf hb hbg
  go_wp2
  go_ret
  exact ⟨rfl, HA.out⟩

end Go.Proofs.YtgoabnehdmdikaaGreatDoor

namespace Go.Proofs.YtgoabnehdmdikaaGreatDoor
open Go.RowKit
set_option linter.unusedVariables false

theorem or_step (q : Int) (h0 : 0 ≤ q) (h1 : q < 18446744073709551616) : bits .or .u64 (IntKind.u64.wrap (q / 256 * 256)) (q % 256) = q := by
  obtain ⟨n, rfl⟩ := Int.eq_ofNat_of_zero_le h0
  rw [IntKind.wrap_u64, Int.emod_eq_of_lt (by omega) (by omega), u64_or _ _ (by omega) (by omega) (by omega) (by omega)]
  rw [show ((n : Int) / 256 * 256).toNat = (n / 256) <<< 8 by rw [Nat.shiftLeft_eq]; omega, show ((n : Int) % 256).toNat = n % 256 by omega]
  rw [← Nat.shiftLeft_add_eq_or_of_lt (by omega), Nat.shiftLeft_eq]
  omega

set_option maxRecDepth 100000 in
set_option maxHeartbeats 2000000 in
/-- A form of more bytes. -/
theorem rdform_big (r g : Nat) (v : Value) (u : Int) (K : Nat) (rest : List Int) (w : World) (f : Int) (hr : Rd w r v true f) (hx : IsR w g v ((247 + (K : Int)) :: (Mth.be K u ++ rest))) (hgr : g ≠ r) (h0 : 247 < u) (h1 : u < 18446744073709551616) (hK : Mth.sz u = K) :
    Calls Tryz.prog 200 #[.pointer (some ⟨r, 0, none⟩)] w fun e w' => e = .returned (.int .u64 u) ∧ After w w' r g f rest := by
  obtain ⟨q0, q1, q2, _, _, _, hl⟩ := hr.cells
  have hK8 : K ≤ 8 := by rw [← hK]; exact Mth.sz_le u
  have hK1 : 1 ≤ K := by have := Mth.sz_cases u; omega
  have ht := hid_of (take_ok r g 1 v _ w f hr hx hgr (by simp))
  have HSZ := hid_of hK
  clear hr hx hK
  have hKI : (K : Int) ≤ 8 := by omega
  have hKI1 : (1 : Int) ≤ (K : Int) := by omega
  go_enter Tryz.func200, Tryz.ntmps200
  go_wp2_with fail
  refine ht.out.mono ?_
  rintro e w1 ⟨⟨v1, rfl, hb, hbg, _⟩, haf⟩
  obtain ⟨b, o, c, rfl, hc⟩ : ∃ b o c, v1 = .slice (some ⟨b, o, none⟩) 1 c ∧ w1.cell? ⟨b, o, none⟩ = some (.int .u8 (247 + (K : Int))) := by
    rcases hb with ⟨h, _⟩ | ⟨b, o, c, rfl, hc⟩
    · cases h
    · exact ⟨b, o, c, rfl, hc 0 (by simp)⟩
  obtain ⟨v2, hr2, hx2, hk2⟩ := haf
  have hx2' : IsR w1 g v2 (Mth.be K u ++ rest) := hx2
  have ht2 := take_ok r g K v2 (Mth.be K u ++ rest) w1 f hr2 hx2' hgr (by simp [Mth.be_length])
  rw [List.take_left' (Mth.be_length K u), List.drop_left' (Mth.be_length K u)] at ht2
  have HT2 := hid_of ht2
  have HK2 := hid_of hk2
  clear ht hb hbg hr2 hx2 hx2' hk2 ht2
  go_wp2_with fail
  rw [show (247 + (K : Int) - 247) = (K : Int) from by omega]
  refine HT2.out.mono ?_
  rintro e w3 ⟨⟨v3, rfl, hb3, hbg3, _⟩, haf3⟩
  have HA3 : Hid (After w w3 r g f rest) := by
    obtain ⟨v4, h4, h5, h6⟩ := haf3
    exact ⟨v4, h4, h5, HK2.out.trans h6⟩
  have hlb := Mth.be_length K u
  obtain ⟨b3, o3, c3, rfl, hc3⟩ : ∃ b o c, v3 = .slice (some ⟨b, o, none⟩) K c ∧ ∀ i, i < K → w3.cell? ⟨b, o + i, none⟩ = some (.int .u8 ((u / (256 : Int) ^ (K - 1 - i)) % 256)) := by
    rcases hb3 with ⟨h, _⟩ | ⟨b, o, c, rfl, hc⟩
    · rw [h] at hlb; simp at hlb; omega
    · rw [hlb] at hc ⊢
      refine ⟨b, o, c, rfl, fun i hi => ?_⟩
      rw [hc i hi, List.getD, Mth.be_get K u i hi]
      rfl
  have HC3 := hid_of hc3
  clear HT2 HK2 hb3 hbg3 haf3 hc3 hc hlb
  go_wp2
  go_loop [5, 28] (fun a i => ∃ j : Nat, j ≤ K ∧ i = .int .i64 j ∧ a = .int .u64 (u / (256 : Int) ^ (K - j))) (fun _ i => K - (intOf i).toNat)
  case atStart =>
    refine ⟨0, Nat.zero_le _, rfl, ?_⟩
    have := Mth.sz_spec u h1
    rw [HSZ.out] at this
    rw [Nat.sub_zero, Int.ediv_eq_zero_of_lt (by omega) this]
  case round =>
    obtain ⟨j, hj, rfl, rfl⟩ := hrel
    by_cases hlt : j < K
    · have hcell := HC3.out j hlt
      have hjI : (j : Int) < (K : Int) := by omega
      have hd := div_le u (K - 1 - j) (by omega)
      have E : bits .or .u64 (IntKind.u64.wrap (u / 256 ^ (K - j) * 256)) (u / 256 ^ (K - 1 - j) % 256) = u / 256 ^ (K - (j + 1)) := by
        rw [show K - j = (K - 1 - j) + 1 by omega, div_step, show K - (j + 1) = K - 1 - j by omega]
        exact or_step _ hd.1 (by omega)
      have HE := hid_of E
      clear hd E
      go_wp2
      refine ⟨⟨j + 1, by omega, by go_num, ?_⟩, ?_⟩
      · rw [HE.out]
      · simp [intOf]; omega
    · obtain rfl : j = K := by omega
      have e : u / (256 : Int) ^ (j - j) = u := by rw [Nat.sub_self]; simp
      rw [e]
      have hs := size_any u w3 (by omega) h1
      rw [HSZ.out] at hs
      have HS := hid_of hs
      have hd1 : decide (u ≤ 247) = false := by simp; omega
      clear hs e hlt hj
      go_wp2_with fail
      refine HS.out.mono ?_
      rintro e w4 ⟨rfl, rfl⟩
      go_wp2
      go_ret
      exact ⟨rfl, HA3.out⟩

/-- A number's form, read. -/
theorem rdform (r g : Nat) (v : Value) (u : Int) (rest : List Int) (w : World) (f : Int) (hr : Rd w r v true f) (hx : IsR w g v (Mth.form u ++ rest)) (hgr : g ≠ r) (h0 : 0 ≤ u) (h1 : u < 18446744073709551616) :
    Calls Tryz.prog 200 #[.pointer (some ⟨r, 0, none⟩)] w fun e w' => e = .returned (.int .u64 u) ∧ After w w' r g f rest := by
  unfold Mth.form at hx
  by_cases h : u ≤ 247
  · rw [if_pos h] at hx
    exact rdform_small r g v u rest w f hr hx hgr h0 h
  · rw [if_neg h] at hx
    exact rdform_big r g v u (Mth.sz u) rest w f hr hx hgr (by omega) h1 rfl

theorem hmf (fn : Fn) (first cap : Array Value) (w : World) : (Instr.makeFunc fn first cap).run Tryz.prog w = .ok (.func fn first cap) w := rfl
end Go.Proofs.YtgoabnehdmdikaaGreatDoor

namespace Go.Proofs.YtgoabnehdmdikaaGreatDoor
open Go.RowKit
set_option linter.unusedVariables false

set_option maxRecDepth 100000 in
set_option maxHeartbeats 1000000 in
theorem rnum (r g : Nat) (v : Value) (u : Int) (rest : List Int) (w : World) (f : Int) (hr : Rd w r v true f) (hx : IsR w g v (Mth.form u ++ rest)) (hgr : g ≠ r) (h0 : 0 ≤ u) (h1 : u ≤ 9223372036854775807) :
    Calls Tryz.prog 177 #[.pointer (some ⟨r, 0, none⟩)] w fun e w' => e = .returned (.int .i64 u) ∧ After w w' r g f rest := by
  have hf := hid_of (rdform r g v u rest w f hr hx hgr h0 (by omega))
  clear hr hx
  go_enter Tryz.func177, Tryz.ntmps177
  go_wp2_with fail
  refine hf.out.mono ?_
  rintro e w1 ⟨rfl, ha⟩
  have HA := hid_of ha
  clear hf ha
  go_wp2
  go_ret
  exact ⟨rfl, HA.out⟩

theorem i64_not_int (a : Int) (h0 : 0 ≤ a) (ha : a < 9223372036854775808) : bits .xor .i64 (-1) a = -1 - a := by
  obtain ⟨n, rfl⟩ := Int.eq_ofNat_of_zero_le h0
  show IntKind.i64.wrap ((BitVec.ofInt 64 (-1) ^^^ BitVec.ofInt 64 (n : Int)).toNat : Int) = _
  have h1 : BitVec.ofInt 64 (-1) = BitVec.allOnes 64 := by decide
  rw [h1, BitVec.allOnes_xor, BitVec.toNat_not, ofInt_u64 n (by omega)]
  simp [IntKind.wrap, IntKind.bits, IntKind.signed]
  omega

/-- bytes.Clone of what reads so: new memory, or nil of nil. -/
theorem clone_isB (v : Value) (xs : List Int) (w : World) (h : IsB w v xs) (hl : xs.length ≤ 140737488355328) (hsh : v.ownBlock = none → v = .slice none 0 0) :
    Calls Tryz.prog 125 #[v] w fun e w' => ∃ v', e = .returned v' ∧ w'.ownsRow w.heap.size 5 1 v' xs.length (xs.map (Value.int .u8)) ∧ Below w.heap.size w w' := by
  rcases h with ⟨rfl, ao, c, rfl⟩ | ⟨g, o, c, rfl, hc⟩
  · cases ao with
    | none =>
      have := hsh rfl
      cases this
      refine (clone_nil w).mono ?_
      rintro e w' ⟨rfl, rfl⟩
      exact ⟨_, rfl, World.ownsRow_nil _ _ _ _, Below.refl _ _⟩
    | some p =>
      refine (clone_any p 0 c [] w rfl (by omega) (fun i hi => absurd hi (by omega))).mono ?_
      rintro e w' ⟨v', rfl, h1, _, h2⟩
      exact ⟨v', rfl, h1, h2⟩
  · refine (clone_any ⟨g, o, none⟩ xs.length c xs w rfl hl (fun i hi => by rw [Addr.add_lit]; exact hc i hi)).mono ?_
    rintro e w' ⟨v', rfl, h1, _, h2⟩
    exact ⟨v', rfl, h1, h2⟩

theorem After.trans {w w1 w2 : World} {r g : Nat} {f f' : Int} {a b : List Int} (h : After w w1 r g f a) (h2 : After w1 w2 r g f' b) : After w w2 r g f' b := by
  obtain ⟨v1, _, _, k1⟩ := h
  obtain ⟨v2, q1, q2, k2⟩ := h2
  exact ⟨v2, q1, q2, k1.trans k2⟩

theorem After.new {w w1 w2 : World} {r g : Nat} {f : Int} {a : List Int} (h : After w w1 r g f a) (hr : r < w.heap.size) (hg : g < w.heap.size) (hb : Below w1.heap.size w1 w2) : After w w2 r g f a := by
  obtain ⟨v1, q1, q2, k1⟩ := h
  have hs := k1.size
  have hk := kept_of_below hb
  exact ⟨v1, q1.kept hk (by omega), q2.kept hk (by omega), k1.trans (hk.mono (fun k hk h => absurd h (by omega)))⟩

end Go.Proofs.YtgoabnehdmdikaaGreatDoor

namespace Go.Proofs.YtgoabnehdmdikaaGreatDoor
open Go.RowKit
set_option linter.unusedVariables false

/-- The fault behind the end: bytes that are left are one. -/
def tailOf (n : Nat) (f : Int) : Int := if 0 < n then 13 else f

/-- What end makes of a Reader. -/
theorem end_close {w : World} {r : Nat} {v : Value} {live : Bool} {f f' : Int} (h : Rd w r v live f) :
    Rd ((w.setCell ⟨r, 1, none⟩ (.bool false)).setCell ⟨r, 0, none⟩ (.slice none 0 0)) r (.slice none 0 0) false f ∧ Kept (fun k => k = r) w ((w.setCell ⟨r, 1, none⟩ (.bool false)).setCell ⟨r, 0, none⟩ (.slice none 0 0)) ∧
    Rd (((w.setCell ⟨r, 2, none⟩ (.int .i64 f')).setCell ⟨r, 1, none⟩ (.bool false)).setCell ⟨r, 0, none⟩ (.slice none 0 0)) r (.slice none 0 0) false f' ∧ Kept (fun k => k = r) w (((w.setCell ⟨r, 2, none⟩ (.int .i64 f')).setCell ⟨r, 1, none⟩ (.bool false)).setCell ⟨r, 0, none⟩ (.slice none 0 0)) := by
  refine ⟨?_, (kept_set _ _ _ _).trans (kept_set _ _ _ _), ?_, ((kept_set _ _ _ _).trans (kept_set _ _ _ _)).trans (kept_set _ _ _ _)⟩
  · unfold Rd
    rw [set_block _ _ _ _ _ _ (set_block _ _ _ _ _ _ h _)]
    rfl
  · unfold Rd
    rw [set_block _ _ _ _ _ _ (set_block _ _ _ _ _ _ (set_block _ _ _ _ _ _ h _) _)]
    rfl

/-- What the function that is handed to Read leaves, where it returns: the Reader, with so much left; the variable that the deferred function looks at. -/
def Led (r p : Nat) (n : Nat) (f : Int) (w' : World) : Prop :=
  w'.cell? ⟨p, 0, none⟩ = some (.pointer (some ⟨r, 0, none⟩)) ∧ ∃ ao c live, Rd w' r (.slice ao n c) live f

end Go.Proofs.YtgoabnehdmdikaaGreatDoor
