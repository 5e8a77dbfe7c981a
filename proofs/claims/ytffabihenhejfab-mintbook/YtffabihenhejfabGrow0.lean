/-
  Lists of bytes that lie apart: marks, rows, what an append leaves of the old row.
-/
import Derived.Test.YtffabihenhejfabSheet
namespace Go.Proofs.Ytffabihenhejfab
open Go.RowKit
set_option linter.unusedVariables false

/-- The byte j of the marks of list i. -/
def markB (i j : Nat) : Int := if j % 3 = 0 then (i : Int) % 256 else if j % 3 = 1 then (i : Int) / 256 % 256 else (j : Int) % 256

theorem markB_le (i j : Nat) : 0 ≤ markB i j ∧ markB i j ≤ 255 := by
  unfold markB
  repeat' split
  all_goals omega

set_option maxRecDepth 100000 in
set_option maxHeartbeats 1000000 in
theorem mark_any (i j : Nat) (w : World) (hi : i ≤ 1000000) (hj : j ≤ 100000000) :
    Calls Try.prog 37 #[.int .i64 (i : Int), .int .i64 (j : Int)] w fun e w' => e = .returned (.int .u8 (markB i j)) ∧ w' = w := by
  have hm : (j : Int).tmod 3 = ((j % 3 : Nat) : Int) := by rw [Int.tmod_eq_emod_of_nonneg (by omega)]; omega
  unfold markB
  by_cases h0 : j % 3 = 0
  · rw [if_pos h0]
    rw [h0] at hm
    go_enter Try.func37, Try.ntmps37
    go_wp2
    go_ret
    exact ⟨rfl, rfl⟩
  · rw [if_neg h0]
    by_cases h1 : j % 3 = 1
    · rw [if_pos h1]
      rw [h1] at hm
      go_enter Try.func37, Try.ntmps37
      go_wp2
      go_ret
      exact ⟨rfl, rfl⟩
    · rw [if_neg h1]
      have h2 : j % 3 = 2 := by omega
      rw [h2] at hm
      go_enter Try.func37, Try.ntmps37
      go_wp2
      go_ret
      exact ⟨rfl, rfl⟩

def marks (i n : Nat) : List Int := (List.range n).map (markB i)
def anti (i n : Nat) : List Int := (List.range n).map (fun j => 255 - markB i j)
theorem marks_len (i n : Nat) : (marks i n).length = n := by simp [marks]
theorem anti_len (i n : Nat) : (anti i n).length = n := by simp [anti]
theorem marks_succ (i n : Nat) : marks i (n + 1) = marks i n ++ [markB i n] := by simp [marks, List.range_succ]
theorem anti_succ (i n : Nat) : anti i (n + 1) = anti i n ++ [255 - markB i n] := by simp [anti, List.range_succ]
theorem marks_at (i n j : Nat) (h : j < n) : (marks i n)[j]? = some (markB i j) := by simp [marks, h]
theorem anti_at (i n j : Nat) (h : j < n) : (anti i n)[j]? = some (255 - markB i j) := by simp [anti, h]

/-- A list of bytes: its slice, its bytes. -/
structure BL where
  v : Value
  xs : List Int
def BL.default : BL := ⟨.slice none 0 0, []⟩
/-- A row of bytes that is one's own. -/
def Own8 (w : World) (v : Value) (xs : List Int) : Prop := w.ownsRow 0 5 1 v xs.length (xs.map (Value.int .u8))

theorem Own8.lt {w : World} {v : Value} {xs : List Int} (h : Own8 w v xs) (q : Nat) (hq : v.ownBlock = some q) : q < w.heap.size := (World.ownsRow.lt h q hq).2
theorem Own8.kept {w w' : World} {v : Value} {xs : List Int} {S : Nat → Prop} (h : Own8 w v xs) (hk : Kept S w w') (hS : ∀ q, v.ownBlock = some q → ¬ S q) : Own8 w' v xs := hk.ownsRow h hS
theorem Own8.cell {w : World} {v : Value} {xs : List Int} (h : Own8 w v xs) {g : Nat} (hg : v.ownBlock = some g) (j : Nat) (x : Int) (hj : xs[j]? = some x) : w.cell? ⟨g, j, none⟩ = some (.int .u8 x) := by
  have := World.ownsRow.cells h hg j (.int .u8 x) (by rw [List.getElem?_map, hj]; rfl)
  rw [Addr.add_lit, Nat.zero_add] at this
  exact this
/-- A list that has a byte lies in a block. -/
theorem Own8.at {w : World} {v : Value} {xs : List Int} (h : Own8 w v xs) (hn : 0 < xs.length) : ∃ g c, v = .slice (some ⟨g, 0, none⟩) xs.length c := by
  rcases h.2 with ⟨_, h0⟩ | ⟨g, cap, cur, e, _⟩
  · omega
  · exact ⟨g, cap, e⟩
theorem Own8.shape {w : World} {v : Value} {xs : List Int} (h : Own8 w v xs) : ∃ ao c, v = .slice ao xs.length c := ownsRow_shape h
theorem Own8.isB {w : World} {v : Value} {xs : List Int} (h : Own8 w v xs) : IsB w v xs := isB_own h
/-- A byte is stored. -/
theorem Own8.set {w : World} {g n c : Nat} {xs : List Int} (h : Own8 w (.slice (some ⟨g, 0, none⟩) n c) xs) (j : Nat) (x : Int) : Own8 (w.setCell ⟨g, j, none⟩ (.int .u8 x)) (.slice (some ⟨g, 0, none⟩) n c) (xs.set j x) := by
  have hn : n = xs.length := by obtain ⟨ao, c', e⟩ := h.shape; cases e; rfl
  subst hn
  have := (World.ownsRow.stored h j (.int .u8 x)).1
  unfold Own8
  rw [List.length_set, List.map_set]
  exact this
theorem Own8.frozen {w : World} {g n c : Nat} {xs : List Int} (h : Own8 w (.slice (some ⟨g, 0, none⟩) n c) xs) (j : Nat) : w.frozen? ⟨g, j, none⟩ = false := by
  have hn : n = xs.length := by obtain ⟨ao, c', e⟩ := h.shape; cases e; rfl
  subst hn
  exact World.ownsRow.frozenAt h j

section
variable {P : Program} (w : World)
/-- What lay in the old row lies there still behind an append onto it. -/
theorem append_old (base : Nat) (t ty e : TypeId) (i : TypeInfo) (z : Value) (size bytes : Nat) (ht : P.underlying t = some (.slice e)) (hi : P.info? e = some i) (hz : i.zero = some z)
    (hsize : i.size = size) (hby : i.bytes = bytes) (hzs : z.cells.size = size) (hsz : 0 < size)
    (v : Value) (n : Nat) (xs : List Value) (hown : w.ownsRow base e size v n xs)
    (a : Addr) (m c : Nat) (news : List Value) (hl : news.length = m * size) (hnews : ∀ j u, news[j]? = some u → w.cell? (a.add j) = some u) (h1 : ∀ u ∈ news, u.oneCell' = true)
    (h63 : n + m ≤ maxLen) (hbytes : (n + m) * bytes ≤ 140737488355328) (hbase : base ≤ w.heap.size) :
    ∃ v' w', (Builtin.append_ #[t, t] ty #[v, .slice (some a) m c]).run P w = .ok v' w' ∧ w'.ownsRow base e size v' (n + m) (xs ++ news) ∧ w.grownBy w' v.ownBlock ∧
      (v'.ownBlock = v.ownBlock ∨ v'.ownBlock = some w.heap.size) ∧ (∀ g, v.ownBlock = some g → ∀ j u, xs[j]? = some u → w'.cell? ⟨g, j, none⟩ = some u) := by
  obtain ⟨v', w', hr, h2, h3, h4, h5⟩ := run_append_own_at (P := P) w base t ty e i z size bytes ht hi hz hsize hby hzs hsz v n xs hown a m c news hl hnews h1 h63 hbytes hbase
  refine ⟨v', w', hr, h2, h3, h5, fun g hg j u hu => ?_⟩
  subst hsize
  subst hby
  rcases hown.2 with ⟨rfl, rfl⟩ | ⟨g', cap, cur, rfl, hbg, hgg, hnc, hcm, hcs, htake⟩
  · cases hg
  · have eg : g' = g := Option.some.inj hg
    subst eg
    by_cases hroom : n + m ≤ cap
    · have hfit : n * i.size + news.length ≤ cur.size := by rw [hl, hcs, ← Nat.add_mul]; exact Nat.mul_le_mul_right _ hroom
      have hr' := run_append_room (P := P) w t ty e i ht hi g' n cap cur hgg a m c news hl hnews h1 hroom hfit
      rw [hr'] at hr
      cases hr
      have := h2.cells (g := g') rfl j u (by rw [List.getElem?_append_left (List.getElem?_eq_some_iff.1 hu).1]; exact hu)
      rw [Addr.add_lit, Nat.zero_add] at this
      exact this
    · have holds : ∀ j u, xs[j]? = some u → w.cell? ((⟨g', 0, none⟩ : Addr).add j) = some u := hown.cells (g := g') rfl
      have hr' := run_append_grow (P := P) w t ty e i z ht hi hz ⟨g', 0, none⟩ n cap xs hown.1 holds a m c news hl hnews (by omega) (by simp only [maxLen] at h63; omega) (growslice_fits (by omega) hbytes)
      rw [hr'] at hr
      cases hr
      have hq := holds j u hu
      rw [Addr.add_lit, Nat.zero_add] at hq
      have hlt := World.block_lt_of_cell? w _ hq
      rw [World.cell?_of_block (w := w) (show (w.drew.alloc _).heap[g']? = w.heap[g']? from Below.heap_alloc w.drew _ _ hlt)]
      exact hq

theorem wpList_append_old {ops : Array Oper} {rest : List Oper} {o : Oper} {a : Act} {Q : Exit → Act → World → Prop} (hgd : o.guard = none) (s x : Operand) (t : TypeId)
    (ho : o.op = .call { callee := .builtin .append, args := #[s, x], argTypes := #[t, t] })
    (base : Nat) (e : TypeId) (i : TypeInfo) (z : Value) (size bytes : Nat) (ht : P.underlying t = some (.slice e)) (hi : P.info? e = some i) (hz : i.zero = some z)
    (hsize : i.size = size) (hby : i.bytes = bytes) (hzs : z.cells.size = size) (hsz : 0 < size)
    (v : Value) (n : Nat) (xs : List Value) (hs : a.eval s = v) (hown : w.ownsRow base e size v n xs)
    (ad : Addr) (m c : Nat) (news : List Value) (hx : a.eval x = .slice (some ad) m c) (hl : news.length = m * size) (hnews : ∀ j u, news[j]? = some u → w.cell? (ad.add j) = some u) (h1 : ∀ u ∈ news, u.oneCell' = true)
    (h63 : n + m ≤ maxLen) (hbytes : (n + m) * bytes ≤ 140737488355328) (hbase : base ≤ w.heap.size)
    (h : ∀ v' w', w'.ownsRow base e size v' (n + m) (xs ++ news) → w.grownBy w' v.ownBlock → (v'.ownBlock = v.ownBlock ∨ v'.ownBlock = some w.heap.size) → (∀ g, v.ownBlock = some g → ∀ j u, xs[j]? = some u → w'.cell? ⟨g, j, none⟩ = some u) → wpList P ops Q rest (a.put o.dst v') w') :
    wpList P ops Q (o :: rest) a w := by
  refine wpList_plain hgd fun K hK => ?_
  obtain ⟨v', w', hr, h2, h3, h4, h5⟩ := append_old (P := P) w base t o.type e i z size bytes ht hi hz hsize hby hzs hsz v n xs hown ad m c news hl hnews h1 h63 hbytes hbase
  unfold Oper.wp execOp
  simp only [ho, resolve, invoke, builtin, Sem.run_bind, Sem.run_pure, Result.andThen_ok, List.map_toArray, List.map_cons, List.map_nil, hs, hx, hr]
  exact hK _ _ (h v' w' h2 h3 h4 h5)
end

/-- Lists of bytes in a row of their own, all apart. -/
structure BLs (w : World) (lv : Value) (ls : List BL) : Prop where
  row : w.ownsRow 0 31 1 lv ls.length (ls.map BL.v)
  own : ∀ i, i < ls.length → Own8 w (ls.getD i BL.default).v (ls.getD i BL.default).xs
  apart : ∀ i j, i < j → j < ls.length → ∀ q, (ls.getD i BL.default).v.ownBlock = some q → (ls.getD j BL.default).v.ownBlock ≠ some q
  off : ∀ i, i < ls.length → ∀ q, (ls.getD i BL.default).v.ownBlock = some q → lv.ownBlock ≠ some q

theorem bl_snoc (l : List BL) (y : BL) (i : Nat) (h : i < l.length + 1) : (l ++ [y]).getD i BL.default = if i = l.length then y else l.getD i BL.default := by
  by_cases e : i = l.length
  · subst e; simp [List.getD]
  · rw [if_neg e, List.getD, List.getElem?_append_left (by omega)]; rfl

theorem BLs.nil (w : World) : BLs w (.slice none 0 0) [] := ⟨World.ownsRow_nil _ _ _ _, fun i hi => absurd hi (by simp), fun i j _ hj => absurd hj (by simp), fun i hi => absurd hi (by simp)⟩

theorem BLs.lt {w : World} {lv : Value} {ls : List BL} (h : BLs w lv ls) : ∀ q, lv.ownBlock = some q → q < w.heap.size := fun q hq => (World.ownsRow.lt h.row q hq).2

theorem BLs.kept {w w' : World} {lv : Value} {ls : List BL} {S : Nat → Prop} (h : BLs w lv ls) (hk : Kept S w w') (h1 : ∀ q, lv.ownBlock = some q → ¬ S q) (h2 : ∀ i, i < ls.length → ∀ q, (ls.getD i BL.default).v.ownBlock = some q → ¬ S q) : BLs w' lv ls :=
  ⟨hk.ownsRow h.row h1, fun i hi => (h.own i hi).kept hk (h2 i hi), h.apart, h.off⟩

/-- One more list is put behind. -/
theorem BLs.push {w w' : World} {lv lv' : Value} {ls : List BL} {b : BL} (h : BLs w lv ls) (hb : Own8 w b.v b.xs) (hba : ∀ i, i < ls.length → ∀ q, (ls.getD i BL.default).v.ownBlock = some q → b.v.ownBlock ≠ some q) (hbv : ∀ q, b.v.ownBlock = some q → lv.ownBlock ≠ some q)
    (hown : w'.ownsRow 0 31 1 lv' (ls.length + 1) (ls.map BL.v ++ [b.v])) (hk : Kept (fun q => lv.ownBlock = some q) w w') (hat : lv'.ownBlock = lv.ownBlock ∨ ∀ q, lv'.ownBlock = some q → w.heap.size ≤ q) : BLs w' lv' (ls ++ [b]) := by
  have hoff : ∀ q, q < w.heap.size → lv.ownBlock ≠ some q → lv'.ownBlock ≠ some q := by
    intro q hq hn e
    rcases hat with e' | e'
    · rw [e'] at e; exact hn e
    · have := e' q e; omega
  refine ⟨by rw [List.length_append, List.map_append]; exact hown, fun i hi => ?_, fun i j hij hj q hq => ?_, fun i hi q hq => ?_⟩
  · rw [bl_snoc ls b i (by simpa using hi)]
    by_cases e : i = ls.length
    · rw [if_pos e]
      exact hb.kept hk (fun q hq e => hbv q hq e)
    · rw [if_neg e]
      have hi' : i < ls.length := by simp at hi; omega
      exact (h.own i hi').kept hk (fun q hq e => h.off i hi' q hq e)
  · have hj' : j < ls.length + 1 := by simpa using hj
    rw [bl_snoc ls b i (by omega), if_neg (by omega)] at hq
    rw [bl_snoc ls b j hj']
    by_cases e : j = ls.length
    · rw [if_pos e]; exact hba i (by omega) q hq
    · rw [if_neg e]; exact h.apart i j hij (by omega) q hq
  · have hi' : i < ls.length + 1 := by simpa using hi
    rw [bl_snoc ls b i hi'] at hq
    by_cases e : i = ls.length
    · rw [if_pos e] at hq
      exact hoff q (hb.lt q hq) (hbv q hq)
    · rw [if_neg e] at hq
      exact hoff q ((h.own i (by omega)).lt q hq) (h.off i (by omega) q hq)

theorem BLs.cell {w : World} {lv : Value} {ls : List BL} (h : BLs w lv ls) {g : Nat} (hg : lv.ownBlock = some g) (i : Nat) (hi : i < ls.length) : w.cell? ⟨g, i, none⟩ = some (ls.getD i BL.default).v := by
  have := World.ownsRow.cells h.row hg i (ls.getD i BL.default).v (by simp [List.getElem?_map, List.getElem?_eq_getElem hi, List.getD])
  rw [Addr.add_lit, Nat.zero_add] at this
  exact this

/-- The lists' own blocks. -/
def Blk (ls : List BL) (q : Nat) : Prop := ∃ i, i < ls.length ∧ (ls.getD i BL.default).v.ownBlock = some q

theorem Try.info31 : (Try.prog.info? 31).map (fun i => (i.zero, i.size, i.bytes)) = some (some (.slice none 0 0), 1, 24) := by kernel_rfl
end Go.Proofs.Ytffabihenhejfab
