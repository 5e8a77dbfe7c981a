/-
  An FS in memory: its maps, its files' bytes, its directories' rows.
-/
import Derived.Test.YtmkfjdfpcjkmnaaMem
import Derived.Test.YtmkfjdfpcjkmnaaGm
namespace Go.Proofs.Ytmkfjdfpcjkmnaa
open Go.RowKit
set_option linter.unusedVariables false
set_option linter.unusedSimpArgs false

theorem heap_lt {w : World} {k : Nat} {o : Obj} (h : w.heap[k]? = some o) : k < w.heap.size := (Array.getElem?_eq_some_iff.1 h).1
theorem kept_over (w : World) (r : Nat) (o : Obj) : Kept (fun k => k = r) w (World.over w r o) :=
  ⟨rfl, rfl, rfl, by simp [World.over], fun k _ hn => by
    show (w.heap.setIfInBounds r o)[k]? = _
    rw [Array.getElem?_setIfInBounds, if_neg (fun h => hn h.symm)]⟩

abbrev By := List UInt8
def strB (p : By) : Value := .string ⟨p.toArray⟩
/-- A file: its path and name, its bytes. -/
structure Fi where
  p : By
  nm : By
  dv : Value
  xs : List Int
/-- A spot. -/
structure Sp where
  p : By
  nm : By
  d : Bool
/-- A directory. -/
structure Di where
  p : By
  nm : By
  d : Bool
  bv : Value
  bl : List Sp
/-- A handle. -/
structure Ha where
  p : By
  pl : Int
  md : Int
def Fi.val (f : Fi) : Value := .agg #[strB f.p, strB f.nm, .bool false, f.dv]
def Di.val (f : Di) : Value := .agg #[strB f.p, strB f.nm, .bool f.d, f.bv]
def Ha.val (f : Ha) : Value := .agg #[strB f.p, .int .i64 f.pl, .int .i64 f.md]
def Sp.cells (s : Sp) : List Value := [strB s.p, strB s.nm, .bool s.d]
def spots (l : List Sp) : List Value := l.flatMap Sp.cells
def cF : Cod By Fi := ⟨strB, Fi.val⟩
def cD : Cod By Di := ⟨strB, Di.val⟩
def cH : Cod Int Ha := ⟨.int .i64, Ha.val⟩
def zF : Value := .agg #[.string ⟨#[]⟩, .string ⟨#[]⟩, .bool false, .slice none 0 0]
def zH : Value := .agg #[.string ⟨#[]⟩, .int .i64 0, .int .i64 0]

theorem strB_eq (a b : By) : ((⟨a.toArray⟩ : ByteArray) == ⟨b.toArray⟩) = decide (a = b) := by
  have h := Go.MapKept.bytes_beq (⟨a.toArray⟩ : ByteArray) ⟨b.toArray⟩
  by_cases e : a = b
  · rw [decide_eq_true e, h, e]
  · rw [decide_eq_false e]
    cases hb : ((⟨a.toArray⟩ : ByteArray) == ⟨b.toArray⟩) with
    | false => rfl
    | true =>
      rw [h] at hb
      injection hb with hb
      exact absurd (List.toArray_inj hb) e
theorem check9 (w : World) (b : Bool) (n : Nat) (x : ByteArray) : (Instr.checkKey b (n + 1) 9 (.string x)).run Try.prog w = .ok () w := by
  unfold Instr.checkKey
  simp [run_underlying Try.underlying9, Sem.run_pure]
theorem check3 (w : World) (b : Bool) (n : Nat) (x : Int) : (Instr.checkKey b (n + 1) 3 (.int .i64 x)).run Try.prog w = .ok () w := by
  unfold Instr.checkKey
  simp [run_underlying Try.underlying3, Sem.run_pure]
theorem bits9 (x : ByteArray) : Instr.sameBits 10000 (.string x) (.string x) = true := by
  have h := Go.MapKept.bytes_beq x x
  unfold Instr.sameBits
  first | exact h.2 rfl | simp [h]
theorem bits3 (x : Int) : Instr.sameBits 10000 (.int .i64 x) (.int .i64 x) = true := by
  unfold Instr.sameBits
  simp
theorem fitsF : cF.Fits Try.prog 72 zF :=
  ⟨⟨9, 99, _, Try.underlying72, Try.underlying9, fun a b => by show some (_ == _) = _; rw [strB_eq], fun a b n w => check9 w b n _, fun w => by kernel_rfl⟩, fun a => bits9 _⟩
theorem fitsD : cD.Fits Try.prog 73 zF :=
  ⟨⟨9, 103, _, Try.underlying73, Try.underlying9, fun a b => by show some (_ == _) = _; rw [strB_eq], fun a b n w => check9 w b n _, fun w => by kernel_rfl⟩, fun a => bits9 _⟩
theorem fitsH : cH.Fits Try.prog 74 zH :=
  ⟨⟨3, 82, _, Try.underlying74, Try.underlying3, fun a b => by
    show (if IntKind.i64 = IntKind.i64 then some (a == b) else none) = _
    rw [if_pos rfl]
    congr 1, fun a b n w => check3 w b n _, fun w => by kernel_rfl⟩, fun a => bits3 _⟩

theorem shapeF (es : List (Me By Fi)) (p : By) : ∃ a b v, lookV cF zF es p = .agg #[.string a, .string b, .bool false, v] ∧ (∀ f, look es p = some f → a = ⟨f.p.toArray⟩ ∧ b = ⟨f.nm.toArray⟩ ∧ v = f.dv) ∧ (look es p = none → a = ⟨#[]⟩ ∧ b = ⟨#[]⟩ ∧ v = .slice none 0 0) := by
  unfold lookV
  cases h : look es p with
  | none => exact ⟨_, _, _, rfl, fun _ h => (by cases h), fun _ => ⟨rfl, rfl, rfl⟩⟩
  | some f => exact ⟨_, _, _, rfl, fun _ h => (by cases h; exact ⟨rfl, rfl, rfl⟩), fun h => (by cases h)⟩
theorem shapeD (es : List (Me By Di)) (p : By) : ∃ a b d v, lookV cD zF es p = .agg #[.string a, .string b, .bool d, v] ∧ (∀ f, look es p = some f → a = ⟨f.p.toArray⟩ ∧ b = ⟨f.nm.toArray⟩ ∧ d = f.d ∧ v = f.bv) ∧ (look es p = none → a = ⟨#[]⟩ ∧ b = ⟨#[]⟩ ∧ d = false ∧ v = .slice none 0 0) := by
  unfold lookV
  cases h : look es p with
  | none => exact ⟨_, _, _, _, rfl, fun _ h => (by cases h), fun _ => ⟨rfl, rfl, rfl, rfl⟩⟩
  | some f => exact ⟨_, _, _, _, rfl, fun _ h => (by cases h; exact ⟨rfl, rfl, rfl, rfl⟩), fun h => (by cases h)⟩
theorem shapeH (es : List (Me Int Ha)) (h : Int) : ∃ p a m, lookV cH zH es h = .agg #[.string p, .int .i64 a, .int .i64 m] ∧ (∀ f, look es h = some f → p = ⟨f.p.toArray⟩ ∧ a = f.pl ∧ m = f.md) := by
  unfold lookV
  cases e : look es h with
  | none => exact ⟨_, _, _, rfl, fun _ h => by cases h⟩
  | some f => exact ⟨_, _, _, rfl, fun _ h => by cases h; exact ⟨rfl, rfl, rfl⟩⟩

/-- An FS's state: quota, what is used, its three maps. -/
structure FSt where
  qb : Int
  qf : Int
  qo : Int
  ub : Int
  uf : Int
  uo : Int
  fm : Nat
  dm : Nat
  hm : Nat
  fs : List (Me By Fi)
  ds : List (Me By Di)
  hs : List (Me Int Ha)
def FSt.cells (σ : FSt) : Array Value := #[.int .i64 σ.qb, .int .i64 σ.qf, .int .i64 σ.qo, .int .i64 σ.ub, .int .i64 σ.uf, .int .i64 σ.uo, .map (some σ.fm), .map (some σ.dm), .map (some σ.hm)]
/-- Blocks of rows. -/
def rowsF (l : List (Me By Fi)) : List Nat := l.filterMap fun e => e.a.dv.ownBlock
def rowsD (l : List (Me By Di)) : List Nat := l.filterMap fun e => e.a.bv.ownBlock
structure Fs (w : World) (s : Nat) (σ : FSt) : Prop where
  blk : w.heap[s]? = some (.cells σ.cells 76 (0, 0))
  mf : ∃ c, w.heap[σ.fm]? = some (.map (σ.fs.map cF.ent).toArray c)
  md : ∃ c, w.heap[σ.dm]? = some (.map (σ.ds.map cD.ent).toArray c)
  mh : ∃ c, w.heap[σ.hm]? = some (.map (σ.hs.map cH.ent).toArray c)
  ne : σ.fm ≠ σ.dm ∧ σ.fm ≠ σ.hm ∧ σ.dm ≠ σ.hm
  rf : ∀ e ∈ σ.fs, w.ownsRow 0 5 1 e.a.dv e.a.xs.length (e.a.xs.map (Value.int .u8)) ∧ e.a.xs.length ≤ 1048576
  rd : ∀ e ∈ σ.ds, w.ownsRow 0 97 3 e.a.bv e.a.bl.length (spots e.a.bl)
  kf : (σ.fs.map Me.k).Nodup
  kd : (σ.ds.map Me.k).Nodup
  kh : (σ.hs.map Me.k).Nodup
  af : (rowsF σ.fs).Nodup
  ad : (rowsD σ.ds).Nodup
/-- The blocks of an FS. -/
def FSt.own (σ : FSt) (s q : Nat) : Prop := q = s ∨ q = σ.fm ∨ q = σ.dm ∨ q = σ.hm ∨ q ∈ rowsF σ.fs ∨ q ∈ rowsD σ.ds
theorem rowsF_mem {l : List (Me By Fi)} {e : Me By Fi} (h : e ∈ l) {q : Nat} (hq : e.a.dv.ownBlock = some q) : q ∈ rowsF l := List.mem_filterMap.2 ⟨e, h, hq⟩
theorem rowsD_mem {l : List (Me By Di)} {e : Me By Di} (h : e ∈ l) {q : Nat} (hq : e.a.bv.ownBlock = some q) : q ∈ rowsD l := List.mem_filterMap.2 ⟨e, h, hq⟩
theorem Fs.kept {S : Nat → Prop} {w w' : World} {s : Nat} {σ : FSt} (H : Fs w s σ) (hk : Kept S w w') (hs : ∀ q, σ.own s q → ¬ S q) : Fs w' s σ := by
  obtain ⟨c1, h1⟩ := H.mf
  obtain ⟨c2, h2⟩ := H.md
  obtain ⟨c3, h3⟩ := H.mh
  refine ⟨(hk.block s (heap_lt H.blk) (hs s (.inl rfl))).trans H.blk, ⟨c1, (hk.block _ (heap_lt h1) (hs _ (.inr (.inl rfl)))).trans h1⟩, ⟨c2, (hk.block _ (heap_lt h2) (hs _ (.inr (.inr (.inl rfl))))).trans h2⟩, ⟨c3, (hk.block _ (heap_lt h3) (hs _ (.inr (.inr (.inr (.inl rfl)))))).trans h3⟩, H.ne, fun e he => ⟨hk.ownsRow (H.rf e he).1 (fun g hg => hs g (.inr (.inr (.inr (.inr (.inl (rowsF_mem he hg))))))), (H.rf e he).2⟩, fun e he => hk.ownsRow (H.rd e he) (fun g hg => hs g (.inr (.inr (.inr (.inr (.inr (rowsD_mem he hg))))))), H.kf, H.kd, H.kh, H.af, H.ad⟩
theorem Fs.same {w w' : World} {s : Nat} {σ : FSt} (H : Fs w s σ) (hk : Kept (fun _ => False) w w') : Fs w' s σ := H.kept hk (fun _ _ f => f)
/-- All blocks of an FS are there. -/
theorem Fs.lt {w : World} {s : Nat} {σ : FSt} (H : Fs w s σ) {q : Nat} (hq : σ.own s q) : q < w.heap.size := by
  obtain ⟨c1, h1⟩ := H.mf
  obtain ⟨c2, h2⟩ := H.md
  obtain ⟨c3, h3⟩ := H.mh
  rcases hq with rfl | rfl | rfl | rfl | hq | hq
  · exact heap_lt H.blk
  · exact heap_lt h1
  · exact heap_lt h2
  · exact heap_lt h3
  · obtain ⟨e, he, hb⟩ := List.mem_filterMap.1 hq
    obtain ⟨_, ⟨hv, _⟩ | ⟨g, cap, cur, hv, _, hg, _⟩⟩ := (H.rf e he).1
    · rw [hv] at hb; cases hb
    · rw [hv] at hb; cases hb; exact heap_lt hg
  · obtain ⟨e, he, hb⟩ := List.mem_filterMap.1 hq
    obtain ⟨_, ⟨hv, _⟩ | ⟨g, cap, cur, hv, _, hg, _⟩⟩ := H.rd e he
    · rw [hv] at hb; cases hb
    · rw [hv] at hb; cases hb; exact heap_lt hg

theorem isopen_any {w : World} {s : Nat} {σ : FSt} (H : Fs w s σ) (h : Int) :
    Calls Try.prog 31 #[.pointer (some ⟨s, 0, none⟩), .int .i64 h] w fun e w' => e = .returned (.bool (look σ.hs h).isSome) ∧ Kept (fun _ => False) w w' := by
  obtain ⟨c, hb⟩ := H.mh
  have hc : w.cell? ⟨s, 8, none⟩ = some (.map (some σ.hm)) := (cell_block _ _ 8 _ _ _ H.blk).trans rfl
  have hl : (Instr.lookup 74 (.map (some σ.hm)) (.int .i64 h) true).run Try.prog w = _ := run_look fitsH w σ.hm c σ.hs hb h true
  obtain ⟨p, a, m, hv, _⟩ := shapeH σ.hs h
  rw [hv, if_pos rfl] at hl
  generalize (look σ.hs h).isSome = b at *
  generalize σ.hm = hm at *
  clear hv hb H
  go_enter Try.func31, Try.ntmps31
  go_wp2
  exact bodyPost_ret (v := .bool b) (by simp [results, Try.results31, go_sem]) rfl ⟨rfl, (Kept.refl _ w).alloc _⟩
end Go.Proofs.Ytmkfjdfpcjkmnaa
