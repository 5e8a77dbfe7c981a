/-
  A number brought into 0 .. n-1; programs of one's own, changed.
-/
import Derived.Test.YtnjhnlohjhdcpabSef
namespace Go.Proofs.Ytnjhnlohjhdcpab
open Go.ChangeShapes Go.WideShapes Go.ChangeAt Go.RowKit Go.Deep
set_option linter.unusedVariables false
set_option linter.unusedSimpArgs false
set_option maxRecDepth 100000

set_option maxHeartbeats 2000000 in
theorem in_any (v : Int) (n : Nat) (w : World) (h0 : -9223372036854775808 ≤ v) (h1 : v < 9223372036854775808) (hn : 0 < n) (hn1 : n ≤ 9223372036854775807) :
    Calls Try.prog 17 #[.int .i64 v, .int .i64 (n : Int)] w fun e w' => (∃ j : Nat, j < n ∧ e = .returned (.int .i64 (j : Int))) ∧ w' = w := by
  have hz : ¬ ((n : Int) = 0) := by omega
  have hnI : (0 : Int) < (n : Int) := by omega
  obtain ⟨r, hr⟩ : ∃ r, r = v.tmod (n : Int) := ⟨_, rfl⟩
  have hlt : r < (n : Int) := by rw [hr]; exact Int.tmod_lt_of_pos v hnI
  have hgt : -(n : Int) < r := by
    rw [hr]
    have := Int.tmod_lt_of_pos (-v) hnI
    rw [Int.neg_tmod] at this
    omega
  have hw1 : IntKind.i64.wrap r = r := by simp [IntKind.wrap, IntKind.bits, IntKind.signed]; omega
  by_cases hneg : r < 0
  · have hw2 : IntKind.i64.wrap (r + (n : Int)) = r + (n : Int) := by simp [IntKind.wrap, IntKind.bits, IntKind.signed]; omega
    go_enter Try.func17, Try.ntmps17
    go_wp2
    go_ret
    refine ⟨⟨(r + (n : Int)).toNat, by omega, ?_⟩, rfl⟩
    rw [Int.toNat_of_nonneg (by omega), hr]
    rfl
  · go_enter Try.func17, Try.ntmps17
    go_wp2
    go_ret
    refine ⟨⟨r.toNat, by omega, ?_⟩, rfl⟩
    rw [Int.toNat_of_nonneg (by omega), hr]
    rfl
/-- A row whose block is said. -/
theorem own_at0 {w : World} {b e s n : Nat} {v : Value} {xs : List Value} (h : w.ownsRow b e s v n xs) (hn : 0 < n) : ∃ g c, v = .slice (some ⟨g, 0, none⟩) n c := by
  rcases World.ownsRow.mk' h with ⟨_, e⟩ | ⟨g, cap, e⟩
  · omega
  · exact ⟨g, cap, e⟩
theorem OwnP.setDat {base : Nat} {w : World} {g n c : Nat} {fv : Value} {cvs : List Value} {p : PG} (h : OwnP base w (.slice (some ⟨g, 0, none⟩) n c) fv cvs p) (hn : n = p.data.length) (k : Nat) (x : Int) :
    OwnP base (w.setCell ⟨g, k, none⟩ (.int .u8 x)) (.slice (some ⟨g, 0, none⟩) n c) fv cvs { p with data := p.data.set k x } := by
  have hd := h.dat
  subst hn
  have hks := kept_set w g k (.int .u8 x)
  have hst := (World.ownsRow.stored hd k (.int .u8 x)).1
  refine ⟨?_, h.fns.kept' hks (fun q hq e => by subst e; exact own_unlike h.fns.row hd (by decide) _ hq rfl) (fun c' hc q hq e => by
    subst e
    obtain ⟨i, F, _, _, ho⟩ := h.fns.mem hc
    exact own_unlike ho hd (by decide) _ hq rfl)⟩
  show World.ownsRow _ base 5 1 _ (p.data.set k x).length ((p.data.set k x).map (Value.int .u8))
  rw [List.length_set, List.map_set]
  exact hst
theorem fcells_res : ∀ (fs : List FN) (cvs : List Value) (i : Nat) (f : FN) (x : Int), fs[i]? = some f → cvs.length = fs.length → (fcells fs cvs).set (i * 4 + 2) (.int .i64 x) = fcells (fs.set i { f with r := x }) cvs
  | [], _, i, f, x, hf, _ => by simp at hf
  | g :: fs, [], i, f, x, hf, hl => by simp at hl
  | g :: fs, cv :: cvs, 0, f, x, hf, hl => by
    have e : g = f := by simpa using hf
    subst e
    show (g.cells cv ++ fcells fs cvs).set 2 (.int .i64 x) = ({ g with r := x } : FN).cells cv ++ fcells fs cvs
    simp [FN.cells]
  | g :: fs, cv :: cvs, i + 1, f, x, hf, hl => by
    have ih := fcells_res fs cvs i f x (by simpa using hf) (by simpa using hl)
    show (g.cells cv ++ fcells fs cvs).set ((i + 1) * 4 + 2) (.int .i64 x) = g.cells cv ++ fcells (fs.set i { f with r := x }) cvs
    rw [List.set_append_right _ _ (by simp [FN.cells]; omega), ← ih]
    congr 2
    simp [FN.cells]
    omega
theorem fcells_code : ∀ (fs : List FN) (cvs : List Value) (i : Nat) (f : FN) (ys : List IN), fs[i]? = some f → fcells (fs.set i { f with code := ys }) cvs = fcells fs cvs
  | [], _, i, f, ys, hf => by simp at hf
  | g :: fs, [], i, f, ys, hf => by cases i <;> rfl
  | g :: fs, cv :: cvs, 0, f, ys, hf => by
    have e : g = f := by simpa using hf
    subst e
    rfl
  | g :: fs, cv :: cvs, i + 1, f, ys, hf => by
    have ih := fcells_code fs cvs i f ys (by simpa using hf)
    show g.cells cv ++ fcells (fs.set i { f with code := ys }) cvs = g.cells cv ++ fcells fs cvs
    rw [ih]
theorem icells_set : ∀ (ys : List IN) (k : Nat) (y : IN), k < ys.length → ((icells ys).set (k * 2) (.int .i64 y.op)).set (k * 2 + 1) (.int .i64 y.a) = icells (ys.set k y)
  | [], k, y, h => by simp at h
  | z :: ys, 0, y, h => by
    show ((z.cells ++ icells ys).set 0 _).set 1 _ = y.cells ++ icells ys
    simp [IN.cells]
  | z :: ys, k + 1, y, h => by
    have ih := icells_set ys k y (by simpa using h)
    show ((z.cells ++ icells ys).set ((k + 1) * 2) _).set ((k + 1) * 2 + 1) _ = z.cells ++ icells (ys.set k y)
    rw [List.set_append_right _ _ (by simp [IN.cells]; omega), List.set_append_right _ _ (by simp [IN.cells]; omega), ← ih]
    congr 2
    · congr 1
      simp [IN.cells]
      omega
    · simp [IN.cells]
      omega
theorem OwnP.setRes {base : Nat} {w : World} {g n c i : Nat} {dv : Value} {cvs : List Value} {p : PG} {f : FN} (h : OwnP base w dv (.slice (some ⟨g, 0, none⟩) n c) cvs p) (hn : n = p.fns.length) (hf : p.fns[i]? = some f) (x : Int) :
    OwnP base (w.setCell ⟨g, i * 4 + 2, none⟩ (.int .i64 x)) dv (.slice (some ⟨g, 0, none⟩) n c) cvs { p with fns := p.fns.set i { f with r := x } } := by
  have hr := h.fns.row
  subst hn
  have hks := kept_set w g (i * 4 + 2) (.int .i64 x)
  have hst := (World.ownsRow.stored hr (i * 4 + 2) (.int .i64 x)).1
  rw [fcells_res p.fns cvs i f x hf h.fns.len] at hst
  refine ⟨hks.ownsRow h.dat (fun q hq e => by subst e; exact own_unlike h.dat hr (by decide) _ hq rfl), ⟨by show cvs.length = (p.fns.set i _).length; rw [List.length_set]; exact h.fns.len, by show World.ownsRow _ base 44 4 _ (p.fns.set i _).length _; rw [List.length_set]; exact hst, fun j G cv hG hc => ?_, h.fns.apart⟩⟩
  have hG' : ∃ G0, p.fns[j]? = some G0 ∧ G.code = G0.code := by
    have hG2 : (p.fns.set i { f with r := x })[j]? = some G := hG
    clear hG
    rw [List.getElem?_set] at hG2
    split at hG2
    · rename_i e
      subst e
      split at hG2
      · cases hG2; exact ⟨f, hf, rfl⟩
      · cases hG2
    · exact ⟨G, hG2, rfl⟩
  obtain ⟨G0, hG0, e⟩ := hG'
  have ho := h.fns.at' j G0 cv hG0 hc
  rw [e]
  exact hks.ownsRow ho (fun q hq e => by subst e; exact own_unlike ho hr (by decide) _ hq rfl)
theorem OwnP.setCode {base : Nat} {w : World} {g n c i k : Nat} {dv fv : Value} {cvs : List Value} {p : PG} {f : FN} (h : OwnP base w dv fv cvs p) (hf : p.fns[i]? = some f) (hc : cvs[i]? = some (.slice (some ⟨g, 0, none⟩) n c)) (hn : n = f.code.length) (hk : k < f.code.length) (y : IN) :
    OwnP base ((w.setCell ⟨g, k * 2, none⟩ (.int .i64 y.op)).setCell ⟨g, k * 2 + 1, none⟩ (.int .i64 y.a)) dv fv cvs { p with fns := p.fns.set i { f with code := f.code.set k y } } := by
  have ho := h.fns.at' i f _ hf hc
  subst hn
  have hks := (kept_set w g (k * 2) (.int .i64 y.op)).trans (kept_set _ g (k * 2 + 1) (.int .i64 y.a))
  have hst := (World.ownsRow.stored (World.ownsRow.stored ho (k * 2) (.int .i64 y.op)).1 (k * 2 + 1) (.int .i64 y.a)).1
  rw [icells_set f.code k y hk] at hst
  refine ⟨hks.ownsRow h.dat (fun q hq e => by subst e; exact own_unlike h.dat ho (by decide) _ hq rfl), ⟨by show cvs.length = (p.fns.set i _).length; rw [List.length_set]; exact h.fns.len, ?_, fun j G cv hG hcj => ?_, h.fns.apart⟩⟩
  · show World.ownsRow _ base 44 4 fv (p.fns.set i _).length (fcells (p.fns.set i _) cvs)
    rw [List.length_set, fcells_code p.fns cvs i f _ hf]
    exact hks.ownsRow h.fns.row (fun q hq e => by subst e; exact own_unlike h.fns.row ho (by decide) _ hq rfl)
  · have hG2 : (p.fns.set i { f with code := f.code.set k y })[j]? = some G := hG
    clear hG
    rw [List.getElem?_set] at hG2
    split at hG2
    · rename_i e
      subst e
      split at hG2
      · cases hG2
        rw [hc] at hcj
        cases hcj
        show World.ownsRow _ base 46 2 _ (f.code.set k y).length (icells (f.code.set k y))
        rw [List.length_set]
        exact hst
      · cases hG2
    · rename_i hij
      have hoj := h.fns.at' j G cv hG2 hcj
      refine hks.ownsRow hoj (fun q hq e => ?_)
      subst e
      rcases Nat.lt_or_gt_of_ne hij with hlt | hgt
      · exact h.fns.apart i j _ _ hlt hc hcj q rfl hq
      · exact h.fns.apart j i _ _ hgt hcj hc q hq rfl
theorem PG.Ok.setDat {p : PG} (h : p.Ok) (k : Nat) (x : Int) (hx : 0 ≤ x ∧ x ≤ 255) : ({ p with data := p.data.set k x } : PG).Ok :=
  ⟨h.mem, ⟨fun z hz => by
    rcases List.mem_or_eq_of_mem_set hz with hz | rfl
    · exact h.data.1 z hz
    · exact hx, by show (p.data.set k x).length ≤ _; rw [List.length_set]; exact h.data.2⟩, h.fns, h.len⟩
theorem PG.Ok.setFn {p : PG} (h : p.Ok) (i : Nat) (f : FN) (hf : f.Ok) : ({ p with fns := p.fns.set i f } : PG).Ok :=
  ⟨h.mem, h.data, fun z hz => by
    rcases List.mem_or_eq_of_mem_set hz with hz | rfl
    · exact h.fns z hz
    · exact hf, by show (p.fns.set i f).length * 48 ≤ _; rw [List.length_set]; exact h.len⟩
end Go.Proofs.Ytnjhnlohjhdcpab
