/-
  NodeOwn: found; entries stored and appended.
-/
import Derived.Test.YtcpkbajmilkhpabGreatDoorGro
import Derived.Test.YtcpkbajmilkhpabGreatDoorNgn
import Derived.Test.YtcpkbajmilkhpabGreatDoorNre
import Derived.Test.YtcpkbajmilkhpabGreatDoorNkn
import Derived.Test.YtcpkbajmilkhpabGreatDoorLnd
namespace Go.Proofs.YtcpkbajmilkhpabGreatDoor
open Go.ChangeShapes Go.WideShapes Go.ChangeAt Go.RowKit Go.Deep
set_option linter.unusedVariables false
set_option linter.unusedSimpArgs false
set_option maxRecDepth 100000

section
variable {ops : Array Oper} {o : Oper} {a : Act} {w : World} {Q : Exit → Act → World → Prop} {rest : List Oper}
theorem wpList_eql_same (hg : o.guard = none) (x y : Operand) (ho : o.op = .binOp .eql 41 x y 41) (Y : EV) (hY : Y.fr.length ≤ 32) (hx : a.eval x = .agg Y.cells.toArray) (hy : a.eval y = .agg Y.cells.toArray)
    (h : wpList Tryz.prog ops Q rest (a.put o.dst (.bool true)) w) : wpList Tryz.prog ops Q (o :: rest) a w :=
  wpList_plain hg fun K hK => by
    have e := run_eql47 w Y Y hY hY
    rw [eqE_refl] at e
    unfold Oper.wp execOp
    simp only [ho, hx, hy, Sem.run_bind, Sem.run_pure, run_eqGuard_agg w .eql 41 _ _ _ _ guard47, e, Result.andThen_ok]
    exact hK _ _ h
theorem wpList_two_wanted (hw : Region.wanted o (yielded ops a.tmps) = true) (nm : ByteArray) (k : Int) (ho : o.op = .build 41 #[(0, .const (.string nm)), (1, .const (.int .i64 k))])
    (h : wpList Tryz.prog ops Q rest (a.put o.dst (.agg (entA nm k []))) w) : wpList Tryz.prog ops Q (o :: rest) a w :=
  wpList_step fun K hK => by
    have e : (#[((0 : Nat), Operand.const (.string nm)), (1, .const (.int .i64 k))].map fun (i, z) => (i, a.eval z)).toList = [(0, .string nm), (1, .int .i64 k)] := by simp [Act.eval]
    rw [if_pos hw]
    refine wp_build 41 _ ho (by rw [e, built_two]; rfl) ?_
    rw [e, built_two]
    exact hK _ _ h
end

theorem foundE_fr {ys : List EV} (h : ∀ y ∈ ys, y.fr.length ≤ 32) (s : List Int) : (foundE (findL ys s)).fr.length ≤ 32 := by
  unfold foundE findL
  cases e : ys.find? (fun y => nmEq y s) with
  | none => simp
  | some y => exact h y (List.mem_of_find?_eq_some e)

set_option maxHeartbeats 2000000 in
theorem found_any (ao : Option Addr) (c : Nat) (ys : List EV) (s : List Int) (w : World) (hv : RowE w (.slice ao ys.length c) ys) (hy : ∀ y ∈ ys, y.fr.length ≤ 32) (hs : ∀ y ∈ ys, (str y.nm).size ≤ 281474976710656) (hn : ys.length ≤ 1000000) (hu : Up ys) :
    Calls Tryz.prog 35 #[.slice ao ys.length c, .string (str s)] w fun e w' => e = .returned (.bool true) ∧ Kept (fun _ => False) w w' := by
  obtain ⟨fy, hfy⟩ : ∃ fy, fy = foundE (findL ys s) := ⟨_, rfl⟩
  obtain ⟨ob, hob⟩ : ∃ b, b = (findL ys s).isSome := ⟨_, rfl⟩
  obtain ⟨n, hN⟩ : ∃ n, n = ys.length := ⟨_, rfl⟩
  have h1 := find_any ao c ys s w hv hy hs hn hu
  have h2 := fun W (hk : Kept (fun _ => False) w W) => find_ref ao c ys s W (hv.kept hk (fun _ _ f => f)) hy hn
  unfold FindOut at h1 h2
  rw [← hfy, ← hob, ← hN] at h1
  have HF1 := hid_of h1
  have HF2 : Hid (∀ W, Kept (fun _ => False) w W → Calls Tryz.prog 58 #[.slice ao n c, .string (str s)] W fun e w' => e = .returned (.tuple #[.agg fy.cells.toArray, .bool ob]) ∧ Kept (fun _ => False) W w') := fun W hk => by
    have := h2 W hk
    rw [← hfy, ← hob, ← hN] at this
    exact this
  have HFF : Hid (fy.fr.length ≤ 32) := by unfold Hid; rw [hfy]; exact foundE_fr hy s
  have h1y : fy.cells.toArray.all (·.oneCell') = true := all_oneCell_toArray (EV.one _)
  have hsy : (Tryz.prog.info? 41).map (·.size) = some fy.cells.toArray.size := by rw [List.size_toArray, EV.clen fy HFF.out]; exact size47
  have H1Y := hid_of h1y
  have HSY := hid_of hsy
  rw [← hN]
  clear hv hy hs hu h1 h2 hfy hob hN hn h1y hsy
  go_enter Tryz.func35, Tryz.ntmps35
  go_wp2_with fail
  refine HF1.out.mono ?_
  rintro e w1 ⟨rfl, hk1⟩
  have HK1 := hid_of hk1
  clear hk1 HF1
  obtain ⟨Z, hZ, hZs, hO9, hX9, hkX9⟩ := new_varE w1 fy HFF.out
  rw [entA_new] at hZ
  subst hZ
  go_upto_region 2 with (refine wpList_store_row rfl 41 _ _ rfl w1.heap.size fy.cells.toArray rfl rfl 41 _ hO9 HSY.out hZs H1Y.out ?_)
  clear hO9 hZs
  generalize (w1.alloc (.cells _ 41)).setRow w1.heap.size fy.cells.toArray = w2 at *
  have HK2 := hid_of (HK1.out.trans hkX9)
  have HX2 := hid_of hX9
  generalize w1.heap.size = gx at *
  clear hX9 hkX9 HK1
  go_wp2_with fail
  refine (HF2.out _ HK2.out).mono ?_
  rintro e w3 ⟨rfl, hk3⟩
  have HK3 := hid_of (HK2.out.trans hk3)
  have HX3 : Hid (w3.heap[gx]? = some (.cells fy.cells.toArray 41 (0, 0))) := (hk3.block gx (Array.getElem?_eq_some_iff.1 HX2.out).1 (fun f => f)).trans HX2.out
  clear hk3 HK2 HX2 HF2
  obtain ⟨Z, hZ, hZs, hO9, hX9, hkX9⟩ := new_varE w3 fy HFF.out
  rw [entA_new] at hZ
  subst hZ
  go_upto_region 3 with (refine wpList_store_row rfl 41 _ _ rfl w3.heap.size fy.cells.toArray rfl rfl 41 _ hO9 HSY.out hZs H1Y.out ?_)
  clear hO9 hZs
  generalize (w3.alloc (.cells _ 41)).setRow w3.heap.size fy.cells.toArray = w4 at *
  have HK4 := hid_of (HK3.out.trans hkX9)
  have HX4 : Hid (w4.heap[gx]? = some (.cells fy.cells.toArray 41 (0, 0))) := (hkX9.block gx (Array.getElem?_eq_some_iff.1 HX3.out).1 (fun f => f)).trans HX3.out
  have HY4 := hid_of hX9
  generalize w3.heap.size = gy at *
  clear hX9 hkX9 HK3 HX3
  go_wp2_with (first | refine wpList_load_row rfl 41 _ rfl gx rfl 41 fy.cells.toArray (0, 0) _ HX4.out Tryz.underlying41 rfl HSY.out ?_ | refine wpList_load_row rfl 41 _ rfl gy rfl 41 fy.cells.toArray (0, 0) _ HY4.out Tryz.underlying41 rfl HSY.out ?_ | refine wpList_eql_same rfl _ _ rfl fy HFF.out rfl rfl ?_)
  go_wp2
  go_ret
  exact ⟨by simp, HK4.out⟩

/-- The cells of entries that lie somewhere. -/
theorem rowE_cells {w : World} {g o c : Nat} {ys : List EV} (h : RowE w (.slice (some ⟨g, o, none⟩) ys.length c) ys) (hy : ∀ y ∈ ys, y.fr.length ≤ 32) : ∀ j u, (ents ys)[j]? = some u → w.cell? ((⟨g, o, none⟩ : Addr).add j) = some u := by
  intro j u hu
  have hj : j < ys.length * 34 := by have := (List.getElem?_eq_some_iff.1 hu).1; rwa [ents_len ys hy] at this
  have hi : j / 34 < ys.length := by omega
  obtain ⟨y, hyi⟩ : ∃ y, ys[j / 34]? = some y := ⟨_, List.getElem?_eq_getElem hi⟩
  have h1 := ents_at ys hy (j / 34) y hyi (j % 34) (Nat.mod_lt _ (by decide))
  rw [show j / 34 * 34 + j % 34 = j by omega, hu] at h1
  rcases h with ⟨e, _⟩ | ⟨g', o', c', e, hc⟩
  · rw [e] at hi; simp at hi
  · cases e
    have := hc (j / 34) y hyi (j % 34) u h1.symm
    rw [Addr.add_lit]
    rw [show o + j / 34 * 34 + j % 34 = o + j by omega] at this
    exact this

/-- append of entries that lie somewhere onto a row of one's own. -/
theorem app_ents (W : World) (v : Value) (base : Nat) (l : List EV) (ao : Option Addr) (c : Nat) (ys : List EV) (hown : W.ownsRow base 41 34 v l.length (ents l)) (hr : RowE W (.slice ao ys.length c) ys) (hy : ∀ y ∈ ys, y.fr.length ≤ 32) (hb : base ≤ W.heap.size) (hsz : (l.length + ys.length) * 56 ≤ 140737488355328) (ha : ao = none → ys.length = 0) :
    ∃ (o2 : Option Addr) (c2 : Nat) (w' : World), (Builtin.append_ #[22, 22] 22 #[v, .slice ao ys.length c]).run Tryz.prog W = .ok (.slice o2 (l ++ ys).length c2) w' ∧ w'.ownsRow base 41 34 (.slice o2 (l ++ ys).length c2) (l ++ ys).length (ents (l ++ ys)) ∧ Kept (fun k => v.ownBlock = some k) W w' := by
  obtain ⟨i0, hi, hz0, hz1, hz2⟩ := info_parts info47
  cases ao with
  | none =>
    have h0 := ha rfl
    have e : ys = [] := List.length_eq_zero_iff.1 h0
    subst e
    have hrun : (Builtin.append_ #[22, 22] 22 #[v, .slice none 0 c]).run Tryz.prog W = .ok v W := by
      rcases hown.2 with ⟨rfl, h1⟩ | ⟨g, cap, cur, rfl, hb, hg, hn, hm, hs, ht⟩
      · simp [Builtin.append_, run_underlying Tryz.underlying22, sizeOf, typeInfo, hi, Builtin.lenOf, Builtin.firstCells]
      · have h1 : l.length ≤ cap := hn
        simp [Builtin.append_, run_underlying Tryz.underlying22, sizeOf, typeInfo, hi, Builtin.lenOf, Builtin.firstCells, h1, storeCells]
    obtain ⟨o2, c2, rfl⟩ := ownsRow_shape hown
    rw [List.append_nil]
    exact ⟨o2, c2, W, hrun, hown, Kept.refl _ _⟩
  | some p =>
    by_cases h0 : ys = []
    · subst h0
      obtain ⟨v', w', h1, h2, h3, _⟩ := run_append_own (P := Tryz.prog) W base 22 22 41 i0 _ 34 56 Tryz.underlying22 hi hz0 hz1 hz2 (entA_size _ _ _ (by decide)) (by decide) v l.length (ents l) hown p 0 c [] rfl (fun j u hu => by simp at hu) (fun u hu => by simp at hu) (by unfold maxLen; omega) (by omega) hb
      rw [List.append_nil] at h2
      obtain ⟨o2, c2, rfl⟩ := ownsRow_shape h2
      rw [List.append_nil]
      exact ⟨o2, c2, w', h1, h2, (Kept.refl (fun k => v.ownBlock = some k) W).grown h3 (fun k hk => .inr hk)⟩
    · obtain ⟨g, o, rfl⟩ : ∃ g o, p = ⟨g, o, none⟩ := by
        rcases hr with ⟨e, _⟩ | ⟨g, o, c', e, _⟩
        · exact absurd e h0
        · cases e; exact ⟨g, o, rfl⟩
      obtain ⟨v', w', h1, h2, h3, _⟩ := run_append_own (P := Tryz.prog) W base 22 22 41 i0 _ 34 56 Tryz.underlying22 hi hz0 hz1 hz2 (entA_size _ _ _ (by decide)) (by decide) v l.length (ents l) hown ⟨g, o, none⟩ ys.length c (ents ys) (ents_len ys hy) (rowE_cells hr hy) (ents_one ys) (by unfold maxLen; omega) hsz hb
      rw [← ents_append] at h2
      obtain ⟨o2, c2, rfl⟩ := ownsRow_shape h2
      rw [List.length_append]
      exact ⟨o2, c2, w', h1, h2, (Kept.refl (fun k => v.ownBlock = some k) W).grown h3 (fun k hk => .inr hk)⟩
theorem own_noneE (w : World) (base : Nat) (hb : base ≤ w.heap.size) : (w.alloc (.cells #[] 41)).ownsRow base 41 34 (.slice (some ⟨w.heap.size, 0, none⟩) 0 0) 0 (ents []) :=
  ⟨rfl, .inr ⟨w.heap.size, 0, #[], rfl, hb, heap_alloc_new _ _, Nat.le_refl _, by unfold maxLen; omega, rfl, rfl⟩⟩
theorem kept_new {w w' : World} {o : Obj} {v : Value} (hk : Kept (fun k => v.ownBlock = some k) (w.alloc o) w') (hv : ∀ k, v.ownBlock = some k → w.heap.size ≤ k) : Kept (fun _ => False) w w' :=
  ((Kept.refl _ w).alloc o).step hk (fun i hi e => absurd (hv i e) (by omega))

/-- The cells behind a store into an entry of a row. -/
theorem ents_set : ∀ (us : List EV) (j : Nat) (y y' : EV) (o : Nat) (u : Value), (∀ z ∈ us, z.fr.length ≤ 32) → us[j]? = some y → o < 34 → y'.cells = y.cells.set o u → (ents us).set (j * 34 + o) u = ents (us.set j y')
  | [], j, y, y', o, u, _, h, _, _ => by simp at h
  | z :: zs, 0, y, y', o, u, hz, h, ho, hy => by
    have e : z = y := by simpa using h
    subst e
    rw [Nat.zero_mul, Nat.zero_add]
    show (z.cells ++ ents zs).set o u = y'.cells ++ ents zs
    rw [List.set_append, if_pos (by rw [EV.clen z (hz z (List.mem_cons_self ..))]; exact ho), hy]
  | z :: zs, j + 1, y, y', o, u, hz, h, ho, hy => by
    have ih := ents_set zs j y y' o u (fun x hx => hz x (List.mem_cons_of_mem _ hx)) (by simpa using h) ho hy
    have hl := EV.clen z (hz z (List.mem_cons_self ..))
    show (z.cells ++ ents zs).set ((j + 1) * 34 + o) u = z.cells ++ ents (zs.set j y')
    rw [List.set_append, if_neg (by rw [hl]; omega), hl, show (j + 1) * 34 + o - 34 = j * 34 + o by omega, ih]
/-- An entry with one byte of its digest turned. -/
def EV.turn (y : EV) (t : Nat) (v : Int) : EV := ⟨y.nm, y.k, trimZ (y.dig.set t v)⟩
theorem EV.turn_cells (y : EV) (t : Nat) (v : Int) (h : y.fr.length ≤ 32) (ht : t < 32) : (y.turn t v).cells = y.cells.set (2 + t) (.int .u8 v) := by
  have hl : (y.dig.set t v).length = 32 := by rw [List.length_set, y.dig_len h]
  have e := trimZ_eq (y.dig.set t v)
  rw [hl] at e
  show Value.string (str y.nm) :: Value.int .i64 y.k :: ((trimZ (y.dig.set t v) ++ List.replicate (32 - (trimZ (y.dig.set t v)).length) 0).map (Value.int .u8)) = _
  rw [e, List.map_set, show 2 + t = t + 1 + 1 by omega]
  rfl
theorem mem_trimZ {xs : List Int} {x : Int} (h : x ∈ trimZ xs) : x ∈ xs := by
  have e := trimZ_eq xs
  rw [← e]
  exact List.mem_append_left _ h
theorem EV.turn_ok {y : EV} (h : y.Ok) (t : Nat) {v : Int} (hv : 0 ≤ v ∧ v ≤ 255) : (y.turn t v).Ok := by
  have hl : (y.dig.set t v).length = 32 := by rw [List.length_set, y.dig_len h.fr.1]
  refine ⟨h.nm, h.k, ⟨?_, trimZ_ends _⟩, fun x hx => ?_, h.nl⟩
  · have := trimZ_le (y.dig.set t v)
    rw [hl] at this
    exact this
  · rcases List.mem_or_eq_of_mem_set (mem_trimZ hx) with h1 | rfl
    · unfold EV.dig at h1
      rcases List.mem_append.1 h1 with h1 | h1
      · exact h.frb x h1
      · rw [List.mem_replicate] at h1; omega
    · exact hv
/-- An entry of another kind. -/
def EV.kind (y : EV) (k : Int) : EV := ⟨y.nm, k, y.fr⟩
theorem EV.kind_cells (y : EV) (k : Int) : (y.kind k).cells = y.cells.set 1 (.int .i64 k) := rfl
theorem EV.kind_ok {y : EV} (h : y.Ok) {k : Int} (hk : -9223372036854775808 ≤ k ∧ k < 9223372036854775808) : (y.kind k).Ok := ⟨h.nm, hk, h.fr, h.frb, h.nl⟩
theorem dig_byte {y : EV} (h : y.Ok) {t : Nat} {x : Int} (hx : y.dig[t]? = some x) : 0 ≤ x ∧ x ≤ 255 := by
  have h1 := List.mem_of_getElem? hx
  unfold EV.dig at h1
  rcases List.mem_append.1 h1 with h1 | h1
  · exact h.frb x h1
  · rw [List.mem_replicate] at h1; omega
theorem cell_dig (y : EV) (t : Nat) : y.cells[2 + t]? = y.dig[t]?.map (Value.int .u8) := by
  show (Value.string (str y.nm) :: Value.int .i64 y.k :: (y.dig.map (Value.int .u8)))[2 + t]? = _
  rw [show 2 + t = t + 1 + 1 by omega, List.getElem?_cons_succ, List.getElem?_cons_succ, List.getElem?_map]
/-- What Encode answers, as a row of one's own. -/
def encX (ys : List EV) : List Int := if checkD nameP ys = 0 then encB ys else []
theorem EncR.own {ys : List EV} {w w' : World} {e : Ending} (hy : ∀ y ∈ ys, y.Ok) (h : EncR nameP ys w e w') : ∃ o n c, e = .returned (.tuple #[.slice o n c, .int .i64 (checkD nameP ys)]) ∧ n = (encX ys).length ∧ w'.ownsRow w.heap.size 5 1 (.slice o n c) n ((encX ys).map (Value.int .u8)) ∧ Kept (fun _ => False) w w' := by
  obtain ⟨hk, h⟩ := encR_out (fun h => (right_enc hy h).1) h
  unfold encX
  rcases h with ⟨h0, v', rfl, ho⟩ | ⟨h0, rfl⟩
  · rw [if_pos h0, h0]
    obtain ⟨o, c, rfl⟩ := ownsRow_shape ho
    exact ⟨o, _, c, rfl, rfl, ho, hk⟩
  · rw [if_neg h0]
    exact ⟨none, 0, 0, rfl, rfl, World.ownsRow_nil _ _ _ _, hk⟩
theorem set_ok {us : List EV} (h : ∀ y ∈ us, y.Ok) (j : Nat) {z : EV} (hz : z.Ok) : ∀ y ∈ us.set j z, y.Ok := by
  intro y hy
  rcases List.mem_or_eq_of_mem_set hy with h1 | rfl
  · exact h y h1
  · exact hz
end Go.Proofs.YtcpkbajmilkhpabGreatDoor
