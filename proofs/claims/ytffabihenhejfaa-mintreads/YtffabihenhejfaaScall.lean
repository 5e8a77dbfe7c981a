/-
  (*Script).call: one call of a Reader.
-/
import Derived.Test.YtffabihenhejfaaRep
import Derived.Deep.RegionLaw
import Derived.Deep.RegionHeld3
import Derived.Deep.DeepCutAuto
import Derived.Deep.CutBlock
namespace Go.Proofs.Ytffabihenhejfaa
open Go.RowKit Go.Deep
set_option linter.unusedVariables false
set_option linter.unusedSimpArgs false

/-- The Readers that are live, with what each has left. -/
def Live (w : World) (rb gs : List Nat) (rs : List (List Int)) : Prop :=
  rs.length = rb.length ∧ gs.length = rb.length ∧ ∀ i, i < rb.length → ∃ v, Rd w (rb.getD i 0) v true 0 ∧ IsR w (gs.getD i 0) v (rs.getD i [])

/-- Bytes, and not too many. -/
def BytesOk (xs : List Int) : Prop := (∀ x ∈ xs, 0 ≤ x ∧ x ≤ 255) ∧ xs.length ≤ 140737488351232

/-- Which Reader a call is of. -/
def whichR (o : Int) (D : Nat) : Nat := D - 1 - (o % (D : Int)).toNat

/-- What a call leaves. -/
def CallPost (w : World) (κ : Nat → Nat) (sb : Nat) (callsV : Value) (rb kb gs : List Nat) (rV kV eV : Value) (s : PS) (c : CV) (e : Ending) (w' : World) : Prop :=
  (∃ t, callP c s = (t, none) ∧ e = .returned (.tuple #[]) ∧ ∃ κ' tV' told', Rep w' κ' sb callsV rb kb gs rV kV tV' eV told' t ∧ Live w' rb gs t.rs ∧ Kept (fun q => κ q = 1 ∨ κ q = 4 ∨ q ∈ rb) w w' ∧ ∀ q, q < w.heap.size → κ' q = κ q) ∨
  ∃ (j : Nat) (flt : Int), callP c s = (s, some (j, flt)) ∧ j < rb.length ∧ e = .panicked [{ v := thrownV (rb.getD j 0), recovered := false }] ∧ Rd w' (rb.getD j 0) (.slice none 0 0) false flt ∧ Kept (fun q => q = rb.getD j 0) w w'

theorem callP_ok {c : CV} {s : PS} (h : 1 ≤ c.k ∧ c.k ≤ 9) {g : Int × List Int} {rest : List Int} (ho : oneD c.k c.n (s.rs.getD (whichR c.o s.rs.length) []) = .ok (g, rest)) : callP c s = ({ s with rs := s.rs.set (whichR c.o s.rs.length) rest, told := s.told ++ [(c.k, g.1, g.2)] }, none) := by
  unfold callP
  rw [if_pos h]
  unfold whichR at ho ⊢
  rw [ho]
theorem callP_bad {c : CV} {s : PS} (h : 1 ≤ c.k ∧ c.k ≤ 9) {flt : Int} (ho : oneD c.k c.n (s.rs.getD (whichR c.o s.rs.length) []) = .error flt) : callP c s = (s, some (whichR c.o s.rs.length, flt)) := by
  unfold callP
  rw [if_pos h]
  unfold whichR at ho ⊢
  rw [ho]

theorem call_thrown {w w1 w' : World} {κ : Nat → Nat} {sb : Nat} {callsV : Value} {rb kb gs : List Nat} {rV kV eV : Value} {s : PS} {c : CV} {e : Ending} {flt : Int} (hk : 1 ≤ c.k ∧ c.k ≤ 9) (hrs : s.rs.length = rb.length) (hj : whichR c.o rb.length < rb.length) (ho : oneD c.k c.n (s.rs.getD (whichR c.o rb.length) []) = .error flt) (hk1 : Kept (fun _ => False) w w1) (h : ThrewF (rb.getD (whichR c.o rb.length) 0) flt w1 e w') : CallPost w κ sb callsV rb kb gs rV kV eV s c e w' := by
  obtain ⟨h1, h2, h3⟩ := h
  exact .inr ⟨whichR c.o rb.length, flt, by rw [callP_bad hk (by rw [hrs]; exact ho), hrs], hj, h1, h2, (hk1.mono (fun _ _ f => f.elim)).trans h3⟩

theorem ownsRow_at {w : World} {v : Value} {l : List Nat} (h : w.ownsRow 0 56 1 v l.length (l.map ptrV)) {g : Nat} (hg : v.ownBlock = some g) (i : Nat) (hi : i < l.length) : w.cell? ⟨g, i, none⟩ = some (ptrV (l.getD i 0)) := by
  have := World.ownsRow.cells h hg i (ptrV (l.getD i 0)) (by simp [List.getElem?_map, List.getElem?_eq_getElem hi, List.getD])
  rw [Addr.add_lit, Nat.zero_add] at this
  exact this

theorem getD_ne {l : List Nat} (hn : l.Nodup) {i j : Nat} (hi : i < l.length) (hj : j < l.length) (h : i ≠ j) : l.getD i 0 ≠ l.getD j 0 := by
  rw [List.getD, List.getElem?_eq_getElem hi, List.getD, List.getElem?_eq_getElem hj]
  have hp := List.pairwise_iff_getElem.1 hn
  intro e
  rcases Nat.lt_or_gt_of_ne h with h' | h'
  · exact hp i j hi hj h' e
  · exact hp j i hj hi h' e.symm

theorem call_told {w w3 w5 : World} {κ κ1 : Nat → Nat} {sb : Nat} {callsV : Value} {rb kb gs : List Nat} {rV kV tV eV tV' : Value} {told : List ItV} {s : PS} {c : CV} {j : Nat} {y : ItV} {rest' : List Int} (hrep0 : Rep w κ sb callsV rb kb gs rV kV tV eV told s) (hrep : Rep w3 κ1 sb callsV rb kb gs rV kV tV eV told s) (hag : ∀ q, q < w.heap.size → κ1 q = κ q)
    (hlive : Live w rb gs s.rs) (hj : whichR c.o rb.length = j) (hjD : j < rb.length) (hk3 : Kept (fun q => q = rb.getD j 0) w w3) (hrd : ∃ v2, Rd w3 (rb.getD j 0) v2 true 0 ∧ IsR w3 (gs.getD j 0) v2 rest') (hck : 1 ≤ c.k ∧ c.k ≤ 9) (hyk : y.k = c.k) (hone : oneD c.k c.n (s.rs.getD j []) = .ok ((y.n, y.xs), rest'))
    (hy : IsB w3 y.bv y.xs) (hy8 : ∀ q, y.bv.ownBlock = some q → κ1 q = 8 ∧ q < w3.heap.size) (hown : w5.ownsRow 0 54 3 tV' (told.length + 1) (told.flatMap ItV.cells ++ y.cells)) (hk : Kept (fun q => tV.ownBlock = some q) w3 w5) (hat : tV'.ownBlock = tV.ownBlock ∨ ∀ q, tV'.ownBlock = some q → w3.heap.size ≤ q) :
    CallPost w κ sb callsV rb kb gs rV kV eV s c (.returned (.tuple #[])) (w5.setCell ⟨sb, 4, none⟩ tV') := by
  obtain ⟨l1, l2, l3⟩ := hlive
  obtain ⟨r1, r2, r3⟩ := hrep.tell hy hy8 hown hk hat
  have hs3 := hk3.size
  have mem : ∀ i, i < rb.length → rb.getD i 0 ∈ rb := fun i hi => by rw [List.getD, List.getElem?_eq_getElem hi]; exact List.getElem_mem hi
  have memg : ∀ i, i < rb.length → gs.getD i 0 ∈ gs := fun i hi => by rw [List.getD, List.getElem?_eq_getElem (show i < gs.length by omega)]; exact List.getElem_mem _
  have hc6 : ∀ i, i < rb.length → κ1 (rb.getD i 0) = 6 := fun i hi => (hrep.c6 _ (hrep.sub _ (mem i hi))).1
  have hc7 : ∀ i, i < rb.length → κ1 (gs.getD i 0) = 7 := fun i hi => (hrep.c7 _ (memg i hi)).1
  refine .inl ⟨{ s with rs := s.rs.set j rest', told := s.told ++ [(c.k, y.n, y.xs)] }, ?_, rfl, named κ1 tV' 4, tV', told ++ [y], ?_, ⟨?_, l2, fun i hi => ?_⟩, ?_, fun q hq => ?_⟩
  · rw [callP_ok hck (by rw [l1, hj]; exact hone), l1, hj]
  · have := r1.setrs (s.rs.set j rest')
    rw [hyk] at this
    exact this
  · rw [List.length_set]; exact l1
  · by_cases e : i = j
    · subst e
      obtain ⟨v2, h1, h2⟩ := hrd
      refine ⟨v2, h1.kept r2 (fun h => ?_), ?_⟩
      · rw [hc6 i hi] at h; omega
      · rw [show (s.rs.set i rest').getD i [] = rest' from by simp [List.getD, show i < s.rs.length by omega]]
        exact h2.kept r2 (fun h => by rw [hc7 i hi] at h; omega)
    · obtain ⟨v2, h1, h2⟩ := l3 i hi
      refine ⟨v2, (h1.kept hk3 (getD_ne hrep.nr hi hjD e)).kept r2 (fun h => by rw [hc6 i hi] at h; omega), ?_⟩
      rw [show (s.rs.set j rest').getD i [] = s.rs.getD i [] from by simp [List.getD, List.getElem?_set, show ¬ j = i from fun h => e h.symm]]
      refine (h2.kept hk3 (fun h => ?_)).kept r2 (fun h => by rw [hc7 i hi] at h; omega)
      have h1' := hc7 i hi
      rw [h, hc6 j hjD] at h1'
      omega
  · refine (hk3.mono (fun q hq e => ?_)).step r2 (fun q hq e => ?_)
    · exact .inr (.inr (by rw [e]; exact mem j hjD))
    · rw [hag q hq] at e
      rcases e with e | e
      · exact .inl e
      · exact .inr (.inl e)
  · rw [r3 q (by omega)]; exact hag q hq

theorem CallPost.drew {w w' : World} {κ : Nat → Nat} {sb : Nat} {callsV : Value} {rb kb gs : List Nat} {rV kV eV : Value} {s : PS} {c : CV} (h : CallPost w κ sb callsV rb kb gs rV kV eV s c (.returned (.tuple #[])) w') : CallPost w κ sb callsV rb kb gs rV kV eV s c (.returned (.tuple #[])) w'.drew := by
  have hk : Kept (fun _ => False) w' w'.drew := (Kept.refl _ _).drew
  rcases h with ⟨t, h1, h2, κ', tV', told', h3, ⟨h4, h5, h6⟩, h7, h8⟩ | ⟨j, flt, _, _, h, _⟩
  · exact .inl ⟨t, h1, h2, κ', tV', told', h3.new hk, ⟨h4, h5, fun i hi => by obtain ⟨u, u1, u2⟩ := h6 i hi; exact ⟨u, u1.kept hk (fun f => f), u2.kept hk (fun f => f)⟩⟩, h7.drew, h8⟩
  · cases h

theorem Try.info54 : (Try.prog.info? 54).map (fun i => (i.zero, i.size, i.bytes)) = some (some (.agg #[.int .i64 0, .int .i64 0, .slice none 0 0]), 3, 40) := by kernel_rfl

theorem step_call2 {P : Program} {w : World} {ops : Array Oper} {o : Oper} {a : Act} {K : Act → World → Prop} {Q : Exit → Act → World → Prop} {E : Prop} (hg : o.guard = none) (F : FuncId) (x y : Operand) (t u : TypeId)
    (ho : o.op = .call { callee := .value (.func F), args := #[x, y], argTypes := #[t, u] }) (v1 v2 : Value) (hx : a.eval x = v1) (hy : a.eval y = v2) (v' : Value) (hent : (callFunc F #[v1, v2]).run P w = .ok (.enter F #[v1, v2]) w) (h : Calls P F #[v1, v2] w fun e w' => e = .returned v' ∧ w' = w) (hK : K (a.put o.dst v') w) :
    if Region.wanted o (yielded ops a.tmps) = true then Oper.wp P o a w K Q else E := by
  have hw : Region.wanted o (yielded ops a.tmps) = true := by simp [Region.wanted, hg]
  rw [if_pos hw]
  unfold Oper.wp
  have e1 : (Deferred.ofValue (a.eval (Operand.func F)) #[v1, v2]).run P w = .ok { target := .fn (.func F) #[], args := #[v1, v2] } w := by simp [go_sem]
  simp [execOp, ho, resolve, invoke, hx, hy, Result.andThen]
  rw [e1]
  simp [hent]
  rw [Oper.upon_enter]
  refine h.mono ?_
  rintro e w' ⟨rfl, rfl⟩
  exact hK
theorem ent25 (v u : Value) (w : World) : (callFunc 25 #[v, u]).run Try.prog w = .ok (.enter 25 #[v, u]) w := by
  simp [callFunc, Try.func25]
  rw [if_neg (by decide +kernel)]
  rfl

theorem bytesD_bytes {xs ys rest : List Int} (hb : ∀ x ∈ xs, 0 ≤ x ∧ x ≤ 255) (h : bytesD xs = .ok (ys, rest)) : ∀ y ∈ ys, 0 ≤ y ∧ y ≤ 255 := by
  unfold bytesD at h
  cases hd : numD xs with
  | error e => rw [hd] at h; cases h
  | ok p =>
    obtain ⟨u, r⟩ := p
    rw [hd] at h
    dsimp only at h
    obtain ⟨hx, _⟩ := numD_split hb hd
    unfold rawD at h
    split at h
    · cases h
    · split at h
      · cases h
      · cases h
        intro y hy
        exact hb y (by rw [hx]; exact List.mem_append_right _ (List.mem_of_mem_take hy))

set_option maxRecDepth 100000 in
set_option maxHeartbeats 4000000 in
theorem scall_any (w : World) (κ : Nat → Nat) (sb : Nat) (callsV : Value) (rb kb gs : List Nat) (rV kV tV eV : Value) (told : List ItV) (s : PS) (ck cn co : Int) (cao : Option Addr) (cl cc : Nat) (cxs : List Int)
    (hrep : Rep w κ sb callsV rb kb gs rV kV tV eV told s) (hlive : Live w rb gs s.rs) (hbo : ∀ i, i < rb.length → BytesOk (s.rs.getD i [])) (hD : 0 < rb.length) (hD20 : rb.length ≤ 20) (hT : told.length ≤ 1000) (hn0 : -9223372036854775808 ≤ cn) (hn1 : cn ≤ 9223372036854775807) (ho0 : -9223372036854775808 ≤ co) (ho1 : co ≤ 9223372036854775807) :
    Calls Try.prog 38 #[.pointer (some ⟨sb, 0, none⟩), .agg #[.int .i64 ck, .int .i64 cn, .int .i64 co, .slice cao cl cc], .int .i64 (rb.length : Int)] w (CallPost w κ sb callsV rb kb gs rV kV eV s ⟨ck, cn, co, .slice cao cl cc, cxs⟩) := by
  obtain ⟨i54, hi54, z540, z541, z542⟩ := info_parts Try.info54
  obtain ⟨l1, l2, l3⟩ := hlive
  have hmr := Int.emod_nonneg co (show ((rb.length : Nat) : Int) ≠ 0 by omega)
  have hmr2 := Int.emod_lt_of_pos co (show (0 : Int) < ((rb.length : Nat) : Int) by omega)
  obtain ⟨m, hm⟩ := Int.eq_ofNat_of_zero_le hmr
  have hround := fun w' => round_any co (rb.length : Int) w' ho0 ho1 (by omega) (by omega)
  rw [hm] at hround hmr2
  have hwj : whichR co rb.length = rb.length - 1 - m := by unfold whichR; rw [hm]; rfl
  obtain ⟨j, hj⟩ : ∃ j, j = rb.length - 1 - m := ⟨_, rfl⟩
  have hjD : j < rb.length := by omega
  obtain ⟨v, hv1, hv2⟩ := l3 j hjD
  have hbj := hbo j hjD
  obtain ⟨gR, rc, hrV⟩ : ∃ gR rc, rV = .slice (some ⟨gR, 0, none⟩) rb.length rc := by
    rcases World.ownsRow.mk' hrep.rrow with ⟨_, h0⟩ | ⟨g, cap, e⟩
    · omega
    · exact ⟨g, cap, e⟩
  have hcR := ownsRow_at hrep.rrow (g := gR) (by rw [hrV]; rfl) j hjD
  have hrjm : rb.getD j 0 ∈ rb := by rw [List.getD, List.getElem?_eq_getElem hjD]; exact List.getElem_mem hjD
  have hgjm : gs.getD j 0 ∈ gs := by rw [List.getD, List.getElem?_eq_getElem (show j < gs.length by omega)]; exact List.getElem_mem _
  have hk6 := (hrep.c6 _ (hrep.sub _ hrjm)).1
  have hk7 := (hrep.c7 _ hgjm).1
  have hgl := (hrep.c7 _ hgjm).2
  have hrl := (hrep.c6 _ (hrep.sub _ hrjm)).2
  have hgr : gs.getD j 0 ≠ rb.getD j 0 := fun e => by rw [e, hk6] at hk7; omega
  obtain ⟨s0, s1, s2, s3, s4, s5, s6⟩ := hrep.cells
  rw [hrV] at s2
  obtain ⟨D, hDD⟩ : ∃ D, D = rb.length := ⟨_, rfl⟩
  obtain ⟨xs, hxs⟩ : ∃ xs, xs = s.rs.getD j [] := ⟨_, rfl⟩
  obtain ⟨rj, hrj⟩ : ∃ rj, rj = rb.getD j 0 := ⟨_, rfl⟩
  obtain ⟨gj, hgj⟩ : ∃ gj, gj = gs.getD j 0 := ⟨_, rfl⟩
  rw [← hrj] at hv1 hcR hgr hrl hk6
  rw [← hgj, ← hxs] at hv2
  rw [← hgj] at hgr hgl hk7
  rw [← hxs] at hbj
  obtain ⟨hbb, hbl⟩ := hbj
  have HREP := hid_of hrep
  have HL3 := hid_of l3
  have HHR := hid_of hround
  have HJ : Hid (whichR co rb.length = j ∧ j < rb.length ∧ s.rs.length = rb.length ∧ gs.length = rb.length ∧ xs = s.rs.getD j [] ∧ rj = rb.getD j 0 ∧ gj = gs.getD j 0 ∧ rb.getD j 0 ∈ rb) := ⟨by rw [hwj, hj], hjD, l1, l2, hxs, hrj, hgj, hrjm⟩
  have HTH : Hid (∀ (flt : Int) (w1 w' : World) (e : Ending), (1 ≤ ck ∧ ck ≤ 9) → oneD ck cn xs = .error flt → Kept (fun _ => False) w w1 → ThrewF rj flt w1 e w' → CallPost w κ sb callsV rb kb gs rV kV eV s ⟨ck, cn, co, .slice cao cl cc, cxs⟩ e w') := fun flt w1 w' e hk ho hk1 h => by
    have hwj' : whichR co rb.length = j := by rw [hwj, hj]
    exact call_thrown hk l1 (by rw [show (⟨ck, cn, co, .slice cao cl cc, cxs⟩ : CV).o = co from rfl, hwj']; exact hjD) (by rw [show (⟨ck, cn, co, .slice cao cl cc, cxs⟩ : CV).o = co from rfl, hwj', ← hxs]; exact ho) hk1 (by rw [show (⟨ck, cn, co, .slice cao cl cc, cxs⟩ : CV).o = co from rfl, hwj', ← hrj]; exact h)
  have HV1 := hid_of hv1
  have HV2 := hid_of hv2
  have HBB := hid_of hbb
  have hT4 : told.length ≤ 1000 := hT
  rw [← hDD] at hjD hmr2 hD hD20 s2 HHR hj ⊢
  have HDD := hid_of hDD
  clear hDD l1 l2
  have hjI : (D : Int) - 1 - (m : Int) = (j : Int) := by omega
  have hjI2 : (j : Int) < (D : Int) := by omega
  have hsl := hrep.lt
  have hgRl : gR < w.heap.size := World.block_lt_of_cell? _ _ hcR
  have hpc : ∀ q : Nat, q < w.heap.size → (w.alloc (.cells #[.int .i64 ck, .int .i64 cn, .int .i64 co, .slice cao cl cc] 85)).heap[q]? = w.heap[q]? := fun q hq => Below.heap_alloc _ _ _ hq
  have hcb := heap_alloc_new w (.cells #[.int .i64 ck, .int .i64 cn, .int .i64 co, .slice cao cl cc] 85)
  have hkB : Kept (fun _ => False) w (w.alloc (.cells #[.int .i64 ck, .int .i64 cn, .int .i64 co, .slice cao cl cc] 85)) := (Kept.refl _ _).alloc _
  have b0 : (w.alloc (.cells #[.int .i64 ck, .int .i64 cn, .int .i64 co, .slice cao cl cc] 85)).cell? ⟨w.heap.size, 0, none⟩ = some (.int .i64 ck) := by rw [cell_block _ _ _ _ _ _ hcb]; rfl
  have b1 : (w.alloc (.cells #[.int .i64 ck, .int .i64 cn, .int .i64 co, .slice cao cl cc] 85)).cell? ⟨w.heap.size, 1, none⟩ = some (.int .i64 cn) := by rw [cell_block _ _ _ _ _ _ hcb]; rfl
  have b2 : (w.alloc (.cells #[.int .i64 ck, .int .i64 cn, .int .i64 co, .slice cao cl cc] 85)).cell? ⟨w.heap.size, 2, none⟩ = some (.int .i64 co) := by rw [cell_block _ _ _ _ _ _ hcb]; rfl
  have t2 := hkB.cell s2 (fun f => f)
  have tR : (w.alloc (.cells #[.int .i64 ck, .int .i64 cn, .int .i64 co, .slice cao cl cc] 85)).cell? ⟨gR, j, none⟩ = some (.pointer (some ⟨rj, 0, none⟩)) := hkB.cell hcR (fun f => f)
  clear hrep l3 hround hv1 hv2 hbb hrV s0 s1 s2 s3 s4 s5 s6 hcR hm hwj hj hxs hrj hgj hrjm hgjm hbo hcb hpc
  go_enter Try.func38, Try.ntmps38
  go_wp2_with fail
  have hw9 : IntKind.i64.wrap ((D : Int) - 1) = (D : Int) - 1 := by simp [IntKind.wrap, IntKind.bits, IntKind.signed]; omega
  have hw8 : IntKind.i64.wrap (j : Int) = (j : Int) := by simp [IntKind.wrap, IntKind.bits, IntKind.signed]; omega
  go_region_held3 (fun w' => w'.cell? ⟨sb, 2, none⟩ = some (.slice (some ⟨gR, 0, none⟩) D rc) ∧ w'.cell? ⟨gR, j, none⟩ = some (.pointer (some ⟨rj, 0, none⟩)) ∧ w'.cell? ⟨w.heap.size, 2, none⟩ = some (.int .i64 co)) (first | exact ⟨t2, tR, b2⟩ | assumption | go_keep) (first | (go_at_call 25; refine (HHR.out _).mono ?_; rintro e w5 ⟨rfl, rfl⟩))
  have hkA : Kept (fun _ => False) w ((w.alloc (.cells #[.int .i64 ck, .int .i64 cn, .int .i64 co, .slice cao cl cc] 85)).alloc (.cells #[.int .i64 ck, .int .i64 0, .slice none 0 0] 54)).drew := (((Kept.refl _ _).alloc _).alloc _).drew
  have hszA : ((w.alloc (.cells #[.int .i64 ck, .int .i64 cn, .int .i64 co, .slice cao cl cc] 85)).alloc (.cells #[.int .i64 ck, .int .i64 0, .slice none 0 0] 54)).drew.heap.size = w.heap.size + 1 + 1 := by show (World.heap (World.alloc _ _)).size = _; simp
  have hpx : ((w.alloc (.cells #[.int .i64 ck, .int .i64 cn, .int .i64 co, .slice cao cl cc] 85)).alloc (.cells #[.int .i64 ck, .int .i64 0, .slice none 0 0] 54)).drew.heap[w.heap.size + 1]? = some (.cells #[.int .i64 ck, .int .i64 0, .slice none 0 0] 54 (0, 0)) := by
    have := heap_alloc_new (w.alloc (.cells #[.int .i64 ck, .int .i64 cn, .int .i64 co, .slice cao cl cc] 85)) (.cells #[.int .i64 ck, .int .i64 0, .slice none 0 0] 54)
    rw [show (w.alloc (.cells #[.int .i64 ck, .int .i64 cn, .int .i64 co, .slice cao cl cc] 85)).heap.size = w.heap.size + 1 from by simp] at this
    exact this
  have a0 : ((w.alloc (.cells #[.int .i64 ck, .int .i64 cn, .int .i64 co, .slice cao cl cc] 85)).alloc (.cells #[.int .i64 ck, .int .i64 0, .slice none 0 0] 54)).drew.cell? ⟨w.heap.size, 0, none⟩ = some (.int .i64 ck) := (((Kept.refl (fun _ => False) _).alloc _).drew).cell b0 (fun f => f)
  have a1 : ((w.alloc (.cells #[.int .i64 ck, .int .i64 cn, .int .i64 co, .slice cao cl cc] 85)).alloc (.cells #[.int .i64 ck, .int .i64 0, .slice none 0 0] 54)).drew.cell? ⟨w.heap.size, 1, none⟩ = some (.int .i64 cn) := (((Kept.refl (fun _ => False) _).alloc _).drew).cell b1 (fun f => f)
  have HV1A := hid_of (HV1.out.kept hkA (fun f => f))
  have HV2A := hid_of (HV2.out.kept hkA (fun f => f))
  have HPX := hid_of hpx
  have HKA := hid_of hkA
  clear b0 b1 b2 t2 tR hpx hkA HV1 HV2 hkB
  go_upto_block 0 with fail
  generalize hwA : ((w.alloc (.cells #[.int .i64 ck, .int .i64 cn, .int .i64 co, .slice cao cl cc] 85)).alloc (.cells #[.int .i64 ck, .int .i64 0, .slice none 0 0] 54)).drew = wA at *
  go_cut [7] (fun xv wx => xv = .pointer (some ⟨w.heap.size + 1, 0, none⟩) ∧ ∃ (y : ItV) (rest' : List Int), wx.heap[w.heap.size + 1]? = some (.cells #[.int .i64 y.k, .int .i64 y.n, y.bv] 54 (0, 0)) ∧ (y.k = ck ∧ (1 ≤ ck ∧ ck ≤ 9) ∧ oneD ck cn xs = .ok ((y.n, y.xs), rest')) ∧ (∃ v2, Rd wx rj v2 true 0 ∧ IsR wx gj v2 rest') ∧ Kept (fun q => q = rj) w wx ∧ IsB wx y.bv y.xs ∧ ∀ q, y.bv.ownBlock = some q → w.heap.size ≤ q ∧ q < wx.heap.size)
  case first =>
    by_cases hck : 1 ≤ ck ∧ ck ≤ 9
    · have hkk : ck = 1 ∨ ck = 2 ∨ ck = 3 ∨ ck = 4 ∨ ck = 5 ∨ ck = 6 ∨ ck = 7 ∨ ck = 8 ∨ ck = 9 := by omega
      clear hck
      rcases hkk with rfl | rfl | rfl | rfl | rfl | rfl | rfl | rfl | rfl
      · skip
        have hc0 := num_x rj gj v xs wA 0 HV1A.out HV2A.out hgr HBB.out
        cases hd : numD xs with
        | error flt =>
            rw [hd] at hc0
            have hcall := hid_of hc0
            clear hc0
            go_wp2_with fail
            refine hcall.out.mono ?_
            rintro e w2 ⟨rfl, h2, h3⟩
            exact ⟨rfl, HTH.out flt wA w2 _ (by decide) (by simp [oneD, lift1, hd]) HKA.out ⟨rfl, h2, h3⟩⟩
        | ok p =>
            obtain ⟨u, rest'⟩ := p
            rw [hd] at hc0
            have hcall := hid_of hc0
            clear hc0
            go_wp2_with fail
            refine hcall.out.mono ?_
            rintro e w2 ⟨⟨rfl, h0, h1⟩, v2, h21, h22, h23⟩
            have hb2 := (h23.block (w.heap.size + 1) (by rw [hszA]; omega) (by omega)).trans HPX.out
            have p1 : w2.cell? ⟨w.heap.size + 1, 1, none⟩ = some (.int .i64 0) := by rw [cell_block _ _ _ _ _ _ hb2]; rfl
            have pf := frozen_block _ _ 1 _ _ hb2
            have HM : Hid (∃ (y : ItV) (rest' : List Int), (w2.setCell ⟨w.heap.size + 1, 1, none⟩ (.int .i64 u)).heap[w.heap.size + 1]? = some (.cells #[.int .i64 y.k, .int .i64 y.n, y.bv] 54 (0, 0)) ∧ (y.k = 1 ∧ (1 ≤ (1 : Int) ∧ (1 : Int) ≤ 9) ∧ oneD 1 cn xs = .ok ((y.n, y.xs), rest')) ∧ (∃ v2, Rd (w2.setCell ⟨w.heap.size + 1, 1, none⟩ (.int .i64 u)) rj v2 true 0 ∧ IsR (w2.setCell ⟨w.heap.size + 1, 1, none⟩ (.int .i64 u)) gj v2 rest') ∧ Kept (fun q => q = rj) w (w2.setCell ⟨w.heap.size + 1, 1, none⟩ (.int .i64 u)) ∧ IsB (w2.setCell ⟨w.heap.size + 1, 1, none⟩ (.int .i64 u)) y.bv y.xs ∧ ∀ q, y.bv.ownBlock = some q → w.heap.size ≤ q ∧ q < (w2.setCell ⟨w.heap.size + 1, 1, none⟩ (.int .i64 u)).heap.size) := ⟨⟨1, u, .slice none 0 0, []⟩, rest', by rw [set_block _ _ _ _ _ _ hb2]; rfl, ⟨rfl, by decide, by simp [oneD, lift1, hd]⟩, ⟨v2, h21.kept (kept_set _ _ _ _) (by omega), h22.kept (kept_set _ _ _ _) (by omega)⟩, ((HKA.out.mono (fun _ _ f => f.elim)).trans h23).setCell (.inl (Nat.le_succ _)) _, .inl ⟨rfl, _, _, rfl⟩, fun q hq => (by cases hq)⟩
            clear hcall h21 h22 h23 hb2 HPX HTH
            go_wp2_with fail
            go_meet
            exact ⟨rfl, HM.out⟩
      · skip
        have hc0 := int_x rj gj v xs wA 0 HV1A.out HV2A.out hgr HBB.out
        cases hd : intD xs with
        | error flt =>
            rw [hd] at hc0
            have hcall := hid_of hc0
            clear hc0
            go_wp2_with fail
            refine hcall.out.mono ?_
            rintro e w2 ⟨rfl, h2, h3⟩
            exact ⟨rfl, HTH.out flt wA w2 _ (by decide) (by simp [oneD, lift1, hd]) HKA.out ⟨rfl, h2, h3⟩⟩
        | ok p =>
            obtain ⟨u, rest'⟩ := p
            rw [hd] at hc0
            have hcall := hid_of hc0
            clear hc0
            go_wp2_with fail
            refine hcall.out.mono ?_
            rintro e w2 ⟨⟨rfl, h0, h1⟩, v2, h21, h22, h23⟩
            have hb2 := (h23.block (w.heap.size + 1) (by rw [hszA]; omega) (by omega)).trans HPX.out
            have p1 : w2.cell? ⟨w.heap.size + 1, 1, none⟩ = some (.int .i64 0) := by rw [cell_block _ _ _ _ _ _ hb2]; rfl
            have pf := frozen_block _ _ 1 _ _ hb2
            have HM : Hid (∃ (y : ItV) (rest' : List Int), (w2.setCell ⟨w.heap.size + 1, 1, none⟩ (.int .i64 u)).heap[w.heap.size + 1]? = some (.cells #[.int .i64 y.k, .int .i64 y.n, y.bv] 54 (0, 0)) ∧ (y.k = 2 ∧ (1 ≤ (2 : Int) ∧ (2 : Int) ≤ 9) ∧ oneD 2 cn xs = .ok ((y.n, y.xs), rest')) ∧ (∃ v2, Rd (w2.setCell ⟨w.heap.size + 1, 1, none⟩ (.int .i64 u)) rj v2 true 0 ∧ IsR (w2.setCell ⟨w.heap.size + 1, 1, none⟩ (.int .i64 u)) gj v2 rest') ∧ Kept (fun q => q = rj) w (w2.setCell ⟨w.heap.size + 1, 1, none⟩ (.int .i64 u)) ∧ IsB (w2.setCell ⟨w.heap.size + 1, 1, none⟩ (.int .i64 u)) y.bv y.xs ∧ ∀ q, y.bv.ownBlock = some q → w.heap.size ≤ q ∧ q < (w2.setCell ⟨w.heap.size + 1, 1, none⟩ (.int .i64 u)).heap.size) := ⟨⟨2, u, .slice none 0 0, []⟩, rest', by rw [set_block _ _ _ _ _ _ hb2]; rfl, ⟨rfl, by decide, by simp [oneD, lift1, hd]⟩, ⟨v2, h21.kept (kept_set _ _ _ _) (by omega), h22.kept (kept_set _ _ _ _) (by omega)⟩, ((HKA.out.mono (fun _ _ f => f.elim)).trans h23).setCell (.inl (Nat.le_succ _)) _, .inl ⟨rfl, _, _, rfl⟩, fun q hq => (by cases hq)⟩
            clear hcall h21 h22 h23 hb2 HPX HTH
            go_wp2_with fail
            go_meet
            exact ⟨rfl, HM.out⟩
      · skip
        have hc0 := bool_x rj gj v xs wA 0 HV1A.out HV2A.out hgr HBB.out
        cases hd : boolD xs with
        | error flt =>
            rw [hd] at hc0
            have hcall := hid_of hc0
            clear hc0
            go_wp2_with fail
            refine hcall.out.mono ?_
            rintro e w2 ⟨rfl, h2, h3⟩
            exact ⟨rfl, HTH.out flt wA w2 _ (by decide) (by simp [oneD, lift1, hd]) HKA.out ⟨rfl, h2, h3⟩⟩
        | ok p =>
            obtain ⟨u, rest'⟩ := p
            rw [hd] at hc0
            have hcall := hid_of hc0
            clear hc0
            go_wp2_with fail
            refine hcall.out.mono ?_
            rintro e w2 ⟨⟨rfl, h0, h1⟩, v2, h21, h22, h23⟩
            have hb2 := (h23.block (w.heap.size + 1) (by rw [hszA]; omega) (by omega)).trans HPX.out
            have p1 : w2.cell? ⟨w.heap.size + 1, 1, none⟩ = some (.int .i64 0) := by rw [cell_block _ _ _ _ _ _ hb2]; rfl
            have pf := frozen_block _ _ 1 _ _ hb2
            have hu01 : u = 0 ∨ u = 1 := by omega
            rcases hu01 with rfl | rfl
            · have HM : Hid (∃ (y : ItV) (rest' : List Int), w2.heap[w.heap.size + 1]? = some (.cells #[.int .i64 y.k, .int .i64 y.n, y.bv] 54 (0, 0)) ∧ (y.k = 3 ∧ (1 ≤ (3 : Int) ∧ (3 : Int) ≤ 9) ∧ oneD 3 cn xs = .ok ((y.n, y.xs), rest')) ∧ (∃ v2, Rd w2 rj v2 true 0 ∧ IsR w2 gj v2 rest') ∧ Kept (fun q => q = rj) w w2 ∧ IsB w2 y.bv y.xs ∧ ∀ q, y.bv.ownBlock = some q → w.heap.size ≤ q ∧ q < w2.heap.size) := ⟨⟨3, 0, .slice none 0 0, []⟩, rest', hb2, ⟨rfl, by decide, by simp [oneD, lift1, hd]⟩, ⟨v2, h21, h22⟩, (HKA.out.mono (fun _ _ f => f.elim)).trans h23, .inl ⟨rfl, _, _, rfl⟩, fun q hq => (by cases hq)⟩
              clear hcall h21 h22 h23 hb2 HPX HTH
              go_wp2_with fail
              go_meet
              exact ⟨rfl, HM.out⟩
            · have HM : Hid (∃ (y : ItV) (rest' : List Int), (w2.setCell ⟨w.heap.size + 1, 1, none⟩ (.int .i64 1)).heap[w.heap.size + 1]? = some (.cells #[.int .i64 y.k, .int .i64 y.n, y.bv] 54 (0, 0)) ∧ (y.k = 3 ∧ (1 ≤ (3 : Int) ∧ (3 : Int) ≤ 9) ∧ oneD 3 cn xs = .ok ((y.n, y.xs), rest')) ∧ (∃ v2, Rd (w2.setCell ⟨w.heap.size + 1, 1, none⟩ (.int .i64 1)) rj v2 true 0 ∧ IsR (w2.setCell ⟨w.heap.size + 1, 1, none⟩ (.int .i64 1)) gj v2 rest') ∧ Kept (fun q => q = rj) w (w2.setCell ⟨w.heap.size + 1, 1, none⟩ (.int .i64 1)) ∧ IsB (w2.setCell ⟨w.heap.size + 1, 1, none⟩ (.int .i64 1)) y.bv y.xs ∧ ∀ q, y.bv.ownBlock = some q → w.heap.size ≤ q ∧ q < (w2.setCell ⟨w.heap.size + 1, 1, none⟩ (.int .i64 1)).heap.size) := ⟨⟨3, 1, .slice none 0 0, []⟩, rest', by rw [set_block _ _ _ _ _ _ hb2]; rfl, ⟨rfl, by decide, by simp [oneD, lift1, hd]⟩, ⟨v2, h21.kept (kept_set _ _ _ _) (by omega), h22.kept (kept_set _ _ _ _) (by omega)⟩, ((HKA.out.mono (fun _ _ f => f.elim)).trans h23).setCell (.inl (Nat.le_succ _)) _, .inl ⟨rfl, _, _, rfl⟩, fun q hq => (by cases hq)⟩
              clear hcall h21 h22 h23 hb2 HPX HTH
              go_wp2_with fail
              go_meet
              exact ⟨rfl, HM.out⟩
      · skip
        have hc0 := bytes_x rj gj v xs wA 0 HV1A.out HV2A.out hgr (by rw [hszA]; omega) (by omega) HBB.out
        cases hd : bytesD xs with
        | error flt =>
            rw [hd] at hc0
            have hcall := hid_of hc0
            clear hc0
            go_wp2_with fail
            refine hcall.out.mono ?_
            rintro e w2 ⟨rfl, h2, h3⟩
            exact ⟨rfl, HTH.out flt wA w2 _ (by decide) (by simp [oneD, lift2, hd]) HKA.out ⟨rfl, h2, h3⟩⟩
        | ok p =>
            obtain ⟨ys, rest'⟩ := p
            rw [hd] at hc0
            have hcall := hid_of hc0
            clear hc0
            go_wp2_with fail
            refine hcall.out.mono ?_
            rintro e w2 ⟨⟨b2v, rfl, ho2⟩, v2, h21, h22, h23⟩
            have hb2 := (h23.block (w.heap.size + 1) (by rw [hszA]; omega) (by omega)).trans HPX.out
            have p1 : w2.cell? ⟨w.heap.size + 1, 2, none⟩ = some (.slice none 0 0) := by rw [cell_block _ _ _ _ _ _ hb2]; rfl
            have pf := frozen_block _ _ 2 _ _ hb2
            rw [hszA] at ho2
            obtain ⟨bao2, bc2, rfl⟩ := ownsRow_shape ho2
            have HM : Hid (∃ (y : ItV) (rest' : List Int), (w2.setCell ⟨w.heap.size + 1, 2, none⟩ (.slice bao2 ys.length bc2)).heap[w.heap.size + 1]? = some (.cells #[.int .i64 y.k, .int .i64 y.n, y.bv] 54 (0, 0)) ∧ (y.k = 4 ∧ (1 ≤ (4 : Int) ∧ (4 : Int) ≤ 9) ∧ oneD 4 cn xs = .ok ((y.n, y.xs), rest')) ∧ (∃ v2, Rd (w2.setCell ⟨w.heap.size + 1, 2, none⟩ (.slice bao2 ys.length bc2)) rj v2 true 0 ∧ IsR (w2.setCell ⟨w.heap.size + 1, 2, none⟩ (.slice bao2 ys.length bc2)) gj v2 rest') ∧ Kept (fun q => q = rj) w (w2.setCell ⟨w.heap.size + 1, 2, none⟩ (.slice bao2 ys.length bc2)) ∧ IsB (w2.setCell ⟨w.heap.size + 1, 2, none⟩ (.slice bao2 ys.length bc2)) y.bv y.xs ∧ ∀ q, y.bv.ownBlock = some q → w.heap.size ≤ q ∧ q < (w2.setCell ⟨w.heap.size + 1, 2, none⟩ (.slice bao2 ys.length bc2)).heap.size) := by
              refine ⟨⟨4, 0, .slice bao2 ys.length bc2, ys⟩, rest', by rw [set_block _ _ _ _ _ _ hb2]; rfl, ⟨rfl, by decide, by simp [oneD, lift2, hd]⟩, ⟨v2, h21.kept (kept_set _ _ _ _) (by omega), h22.kept (kept_set _ _ _ _) (by omega)⟩, ((HKA.out.mono (fun _ _ f => f.elim)).trans h23).setCell (.inl (Nat.le_succ _)) _, isB_own ((kept_set _ _ _ _).ownsRow ho2 (fun q hq e => by have := (ho2.lt q hq).1; omega)), fun q hq => ?_⟩
              have hq1 := ho2.lt q hq
              exact ⟨by omega, Nat.lt_of_lt_of_le hq1.2 (kept_set w2 _ _ _).size⟩
            clear hcall h21 h22 h23 hb2 HPX HTH ho2
            go_wp2_with fail
            go_meet
            exact ⟨rfl, HM.out⟩
      · skip
        have hc0 := text_x rj gj v xs wA 0 HV1A.out HV2A.out hgr (by omega) HBB.out
        cases hd : bytesD xs with
        | error flt =>
            rw [hd] at hc0
            have hcall := hid_of hc0
            clear hc0
            go_wp2_with fail
            refine hcall.out.mono ?_
            rintro e w2 ⟨rfl, h2, h3⟩
            exact ⟨rfl, HTH.out flt wA w2 _ (by decide) (by simp [oneD, lift2, hd]) HKA.out ⟨rfl, h2, h3⟩⟩
        | ok p =>
            obtain ⟨ys, rest'⟩ := p
            rw [hd] at hc0
            have hcall := hid_of hc0
            have hyb : ∀ y ∈ ys, 0 ≤ y ∧ y ≤ 255 := bytesD_bytes HBB.out hd
            clear hc0
            go_wp2_with fail
            refine hcall.out.mono ?_
            rintro e w2 ⟨rfl, v2, h21, h22, h23⟩
            obtain ⟨cp, wv, hcv, hkv, hbv, hszv⟩ := conv_back w2 ys hyb
            have hs23 := h23.size
            rw [hszA] at hs23
            have hb2 := (hkv.block (w.heap.size + 1) (by omega) (fun f => f)).trans ((h23.block (w.heap.size + 1) (by rw [hszA]; omega) (by omega)).trans HPX.out)
            have p1 : wv.cell? ⟨w.heap.size + 1, 2, none⟩ = some (.slice none 0 0) := by rw [cell_block _ _ _ _ _ _ hb2]; rfl
            have pf := frozen_block _ _ 2 _ _ hb2
            have HM : Hid (∃ (y : ItV) (rest' : List Int), (wv.setCell ⟨w.heap.size + 1, 2, none⟩ (.slice (some ⟨w2.heap.size, 0, none⟩) ys.length cp)).heap[w.heap.size + 1]? = some (.cells #[.int .i64 y.k, .int .i64 y.n, y.bv] 54 (0, 0)) ∧ (y.k = 5 ∧ (1 ≤ (5 : Int) ∧ (5 : Int) ≤ 9) ∧ oneD 5 cn xs = .ok ((y.n, y.xs), rest')) ∧ (∃ v2, Rd (wv.setCell ⟨w.heap.size + 1, 2, none⟩ (.slice (some ⟨w2.heap.size, 0, none⟩) ys.length cp)) rj v2 true 0 ∧ IsR (wv.setCell ⟨w.heap.size + 1, 2, none⟩ (.slice (some ⟨w2.heap.size, 0, none⟩) ys.length cp)) gj v2 rest') ∧ Kept (fun q => q = rj) w (wv.setCell ⟨w.heap.size + 1, 2, none⟩ (.slice (some ⟨w2.heap.size, 0, none⟩) ys.length cp)) ∧ IsB (wv.setCell ⟨w.heap.size + 1, 2, none⟩ (.slice (some ⟨w2.heap.size, 0, none⟩) ys.length cp)) y.bv y.xs ∧ ∀ q, y.bv.ownBlock = some q → w.heap.size ≤ q ∧ q < (wv.setCell ⟨w.heap.size + 1, 2, none⟩ (.slice (some ⟨w2.heap.size, 0, none⟩) ys.length cp)).heap.size) := by
              refine ⟨⟨5, 0, .slice (some ⟨w2.heap.size, 0, none⟩) ys.length cp, ys⟩, rest', by rw [set_block _ _ _ _ _ _ hb2]; rfl, ⟨rfl, by decide, by simp [oneD, lift2, hd]⟩, ⟨v2, (h21.kept hkv (fun f => f)).kept (kept_set _ _ _ _) (by omega), (h22.kept hkv (fun f => f)).kept (kept_set _ _ _ _) (by omega)⟩, (((HKA.out.mono (fun _ _ f => f.elim)).trans h23).trans (hkv.mono (fun _ _ f => f.elim))).setCell (.inl (Nat.le_succ _)) _, hbv.kept (kept_set _ _ _ _) (fun q hq e => by have := Option.some.inj hq; simp at this; omega), fun q hq => ?_⟩
              have hq1 : w2.heap.size = q := Option.some.inj hq
              exact ⟨by omega, by have := (kept_set wv (w.heap.size + 1) 2 (.slice (some ⟨w2.heap.size, 0, none⟩) ys.length cp)).size; omega⟩
            clear hcall h21 h22 h23 hb2 HPX HTH hkv hbv hszv hs23
            go_wp2_with fail
            go_meet
            exact ⟨rfl, HM.out⟩
      · skip
        have hc0 := raw_x rj gj cn v xs wA 0 HV1A.out HV2A.out hgr (by rw [hszA]; omega) (by omega) hn1
        cases hd : rawD cn xs with
        | error flt =>
            rw [hd] at hc0
            have hcall := hid_of hc0
            clear hc0
            go_wp2_with fail
            refine hcall.out.mono ?_
            rintro e w2 ⟨rfl, h2, h3⟩
            exact ⟨rfl, HTH.out flt wA w2 _ (by decide) (by simp [oneD, lift2, hd]) HKA.out ⟨rfl, h2, h3⟩⟩
        | ok p =>
            obtain ⟨ys, rest'⟩ := p
            rw [hd] at hc0
            have hcall := hid_of hc0
            clear hc0
            go_wp2_with fail
            refine hcall.out.mono ?_
            rintro e w2 ⟨⟨b2v, rfl, ho2⟩, v2, h21, h22, h23⟩
            have hb2 := (h23.block (w.heap.size + 1) (by rw [hszA]; omega) (by omega)).trans HPX.out
            have p1 : w2.cell? ⟨w.heap.size + 1, 2, none⟩ = some (.slice none 0 0) := by rw [cell_block _ _ _ _ _ _ hb2]; rfl
            have pf := frozen_block _ _ 2 _ _ hb2
            rw [hszA] at ho2
            obtain ⟨bao2, bc2, rfl⟩ := ownsRow_shape ho2
            have HM : Hid (∃ (y : ItV) (rest' : List Int), (w2.setCell ⟨w.heap.size + 1, 2, none⟩ (.slice bao2 ys.length bc2)).heap[w.heap.size + 1]? = some (.cells #[.int .i64 y.k, .int .i64 y.n, y.bv] 54 (0, 0)) ∧ (y.k = 6 ∧ (1 ≤ (6 : Int) ∧ (6 : Int) ≤ 9) ∧ oneD 6 cn xs = .ok ((y.n, y.xs), rest')) ∧ (∃ v2, Rd (w2.setCell ⟨w.heap.size + 1, 2, none⟩ (.slice bao2 ys.length bc2)) rj v2 true 0 ∧ IsR (w2.setCell ⟨w.heap.size + 1, 2, none⟩ (.slice bao2 ys.length bc2)) gj v2 rest') ∧ Kept (fun q => q = rj) w (w2.setCell ⟨w.heap.size + 1, 2, none⟩ (.slice bao2 ys.length bc2)) ∧ IsB (w2.setCell ⟨w.heap.size + 1, 2, none⟩ (.slice bao2 ys.length bc2)) y.bv y.xs ∧ ∀ q, y.bv.ownBlock = some q → w.heap.size ≤ q ∧ q < (w2.setCell ⟨w.heap.size + 1, 2, none⟩ (.slice bao2 ys.length bc2)).heap.size) := by
              refine ⟨⟨6, 0, .slice bao2 ys.length bc2, ys⟩, rest', by rw [set_block _ _ _ _ _ _ hb2]; rfl, ⟨rfl, by decide, by simp [oneD, lift2, hd]⟩, ⟨v2, h21.kept (kept_set _ _ _ _) (by omega), h22.kept (kept_set _ _ _ _) (by omega)⟩, ((HKA.out.mono (fun _ _ f => f.elim)).trans h23).setCell (.inl (Nat.le_succ _)) _, isB_own ((kept_set _ _ _ _).ownsRow ho2 (fun q hq e => by have := (ho2.lt q hq).1; omega)), fun q hq => ?_⟩
              have hq1 := ho2.lt q hq
              exact ⟨by omega, Nat.lt_of_lt_of_le hq1.2 (kept_set w2 _ _ _).size⟩
            clear hcall h21 h22 h23 hb2 HPX HTH ho2
            go_wp2_with fail
            go_meet
            exact ⟨rfl, HM.out⟩
      · skip
        have hc0 := most_x rj gj cn v xs wA 0 HV1A.out HV2A.out hgr HBB.out
        cases hd : mostD cn xs with
        | error flt =>
            rw [hd] at hc0
            have hcall := hid_of hc0
            clear hc0
            go_wp2_with fail
            refine hcall.out.mono ?_
            rintro e w2 ⟨rfl, h2, h3⟩
            exact ⟨rfl, HTH.out flt wA w2 _ (by decide) (by simp [oneD, lift1, hd]) HKA.out ⟨rfl, h2, h3⟩⟩
        | ok p =>
            obtain ⟨u, rest'⟩ := p
            rw [hd] at hc0
            have hcall := hid_of hc0
            clear hc0
            go_wp2_with fail
            refine hcall.out.mono ?_
            rintro e w2 ⟨⟨rfl, h0, h1⟩, v2, h21, h22, h23⟩
            have hb2 := (h23.block (w.heap.size + 1) (by rw [hszA]; omega) (by omega)).trans HPX.out
            have p1 : w2.cell? ⟨w.heap.size + 1, 1, none⟩ = some (.int .i64 0) := by rw [cell_block _ _ _ _ _ _ hb2]; rfl
            have pf := frozen_block _ _ 1 _ _ hb2
            have HM : Hid (∃ (y : ItV) (rest' : List Int), (w2.setCell ⟨w.heap.size + 1, 1, none⟩ (.int .i64 u)).heap[w.heap.size + 1]? = some (.cells #[.int .i64 y.k, .int .i64 y.n, y.bv] 54 (0, 0)) ∧ (y.k = 7 ∧ (1 ≤ (7 : Int) ∧ (7 : Int) ≤ 9) ∧ oneD 7 cn xs = .ok ((y.n, y.xs), rest')) ∧ (∃ v2, Rd (w2.setCell ⟨w.heap.size + 1, 1, none⟩ (.int .i64 u)) rj v2 true 0 ∧ IsR (w2.setCell ⟨w.heap.size + 1, 1, none⟩ (.int .i64 u)) gj v2 rest') ∧ Kept (fun q => q = rj) w (w2.setCell ⟨w.heap.size + 1, 1, none⟩ (.int .i64 u)) ∧ IsB (w2.setCell ⟨w.heap.size + 1, 1, none⟩ (.int .i64 u)) y.bv y.xs ∧ ∀ q, y.bv.ownBlock = some q → w.heap.size ≤ q ∧ q < (w2.setCell ⟨w.heap.size + 1, 1, none⟩ (.int .i64 u)).heap.size) := ⟨⟨7, u, .slice none 0 0, []⟩, rest', by rw [set_block _ _ _ _ _ _ hb2]; rfl, ⟨rfl, by decide, by simp [oneD, lift1, hd]⟩, ⟨v2, h21.kept (kept_set _ _ _ _) (by omega), h22.kept (kept_set _ _ _ _) (by omega)⟩, ((HKA.out.mono (fun _ _ f => f.elim)).trans h23).setCell (.inl (Nat.le_succ _)) _, .inl ⟨rfl, _, _, rfl⟩, fun q hq => (by cases hq)⟩
            clear hcall h21 h22 h23 hb2 HPX HTH
            go_wp2_with fail
            go_meet
            exact ⟨rfl, HM.out⟩
      · skip
        have hcall := hid_of (rleft rj gj v xs wA true 0 HV1A.out HV2A.out)
        go_wp2_with fail
        refine hcall.out.mono ?_
        rintro e w2 ⟨rfl, hw2⟩
        have hw2s := hw2.symm
        subst hw2s
        have p1 : wA.cell? ⟨w.heap.size + 1, 1, none⟩ = some (.int .i64 0) := by rw [cell_block _ _ _ _ _ _ HPX.out]; rfl
        have pf := frozen_block _ _ 1 _ _ HPX.out
        have HM : Hid (∃ (y : ItV) (rest' : List Int), (wA.setCell ⟨w.heap.size + 1, 1, none⟩ (.int .i64 (xs.length : Int))).heap[w.heap.size + 1]? = some (.cells #[.int .i64 y.k, .int .i64 y.n, y.bv] 54 (0, 0)) ∧ (y.k = 8 ∧ (1 ≤ (8 : Int) ∧ (8 : Int) ≤ 9) ∧ oneD 8 cn xs = .ok ((y.n, y.xs), rest')) ∧ (∃ v2, Rd (wA.setCell ⟨w.heap.size + 1, 1, none⟩ (.int .i64 (xs.length : Int))) rj v2 true 0 ∧ IsR (wA.setCell ⟨w.heap.size + 1, 1, none⟩ (.int .i64 (xs.length : Int))) gj v2 rest') ∧ Kept (fun q => q = rj) w (wA.setCell ⟨w.heap.size + 1, 1, none⟩ (.int .i64 (xs.length : Int))) ∧ IsB (wA.setCell ⟨w.heap.size + 1, 1, none⟩ (.int .i64 (xs.length : Int))) y.bv y.xs ∧ ∀ q, y.bv.ownBlock = some q → w.heap.size ≤ q ∧ q < (wA.setCell ⟨w.heap.size + 1, 1, none⟩ (.int .i64 (xs.length : Int))).heap.size) := ⟨⟨8, xs.length, .slice none 0 0, []⟩, xs, by rw [set_block _ _ _ _ _ _ HPX.out]; rfl, ⟨rfl, by decide, by simp [oneD]⟩, ⟨v, HV1A.out.kept (kept_set _ _ _ _) (by omega), HV2A.out.kept (kept_set _ _ _ _) (by omega)⟩, (HKA.out.mono (fun _ _ f => f.elim)).setCell (.inl (Nat.le_succ _)) _, .inl ⟨rfl, _, _, rfl⟩, fun q hq => (by cases hq)⟩
        clear hcall HPX HTH hw2
        go_wp2_with fail
        go_meet
        exact ⟨rfl, HM.out⟩
      · skip
        by_cases hn : cn = 0
        · subst hn
          have HM : Hid (∃ (y : ItV) (rest' : List Int), wA.heap[w.heap.size + 1]? = some (.cells #[.int .i64 y.k, .int .i64 y.n, y.bv] 54 (0, 0)) ∧ (y.k = 9 ∧ (1 ≤ (9 : Int) ∧ (9 : Int) ≤ 9) ∧ oneD 9 0 xs = .ok ((y.n, y.xs), rest')) ∧ (∃ v2, Rd wA rj v2 true 0 ∧ IsR wA gj v2 rest') ∧ Kept (fun q => q = rj) w wA ∧ IsB wA y.bv y.xs ∧ ∀ q, y.bv.ownBlock = some q → w.heap.size ≤ q ∧ q < wA.heap.size) := ⟨⟨9, 0, .slice none 0 0, []⟩, xs, HPX.out, ⟨rfl, by decide, by simp [oneD]⟩, ⟨v, HV1A.out, HV2A.out⟩, HKA.out.mono (fun _ _ f => f.elim), .inl ⟨rfl, _, _, rfl⟩, fun q hq => (by cases hq)⟩
          have hcall := hid_of (fail_ok rj wA)
          go_wp2_with fail
          refine hcall.out.mono ?_
          rintro e w2 ⟨rfl, hw2⟩
          have hw2s := hw2.symm
          subst hw2s
          clear hcall HPX HTH hw2
          go_wp2_with fail
          go_meet
          exact ⟨rfl, HM.out⟩
        · have hcall := hid_of (fail_x rj v 0 cn wA HV1A.out hn)
          go_wp2_with fail
          refine hcall.out.mono ?_
          rintro e w2 ⟨rfl, h2, h3⟩
          exact ⟨rfl, HTH.out cn wA w2 _ (by decide) (by simp [oneD, hn]) HKA.out ⟨rfl, h2, h3⟩⟩
    · have n1 : (ck == 1) = false := by simp; omega
      have n2 : (ck == 2) = false := by simp; omega
      have n3 : (ck == 3) = false := by simp; omega
      have n4 : (ck == 4) = false := by simp; omega
      have n5 : (ck == 5) = false := by simp; omega
      have n6 : (ck == 6) = false := by simp; omega
      have n7 : (ck == 7) = false := by simp; omega
      have n8 : (ck == 8) = false := by simp; omega
      have n9 : (ck == 9) = false := by simp; omega
      have HPO : Hid (CallPost w κ sb callsV rb kb gs rV kV eV s ⟨ck, cn, co, .slice cao cl cc, cxs⟩ (.returned (.tuple #[])) wA) := by
        obtain ⟨_, _, l1, l2, _⟩ := HJ.out
        exact .inl ⟨s, by unfold callP; rw [if_neg hck], rfl, κ, tV, told, HREP.out.new HKA.out, ⟨l1, l2, fun i hi => by obtain ⟨u, u1, u2⟩ := HL3.out i hi; exact ⟨u, u1.kept HKA.out (fun f => f), u2.kept HKA.out (fun f => f)⟩⟩, HKA.out.mono (fun _ _ f => f.elim), fun _ _ => rfl⟩
      go_wp2
      refine body_retv rfl rfl ?_
      exact HPO.out
  case rest =>
    obtain ⟨hx7, ⟨yk, yn, ybv, yxs⟩, rest', hpb, ⟨hyk, hck, hone⟩, hrd, hkx, hyb, hyo⟩ := hcut
    subst hx7
    obtain ⟨yao, yc, hyv⟩ := hyb.shape
    dsimp only at hyv hpb hyk hone hyo
    subst hyv
    subst hyk
    rename World => w3
    obtain ⟨hwj, hjD2, l1, l2, hxs, hrj, hgj, hrm⟩ := HJ.out
    have hag : ∀ q, q < w.heap.size → named κ (.slice yao yxs.length yc) 8 q = κ q := fun q hq => by
      unfold named
      rw [if_neg (fun e => by have := (hyo q e).1; omega)]
    have HR3 := hid_of (HREP.out.kept hkx (fun q hq e => .inl (by rw [e]; exact hk6)) hag)
    have HDONE : Hid (∀ (tV' : Value) (w5 : World), w5.ownsRow 0 54 3 tV' (told.length + 1) (told.flatMap ItV.cells ++ [.int .i64 yk, .int .i64 yn, .slice yao yxs.length yc]) → Kept (fun q => tV.ownBlock = some q) w3 w5 → (tV'.ownBlock = tV.ownBlock ∨ ∀ q, tV'.ownBlock = some q → w3.heap.size ≤ q) → CallPost w κ sb callsV rb kb gs rV kV eV s ⟨yk, cn, co, .slice cao cl cc, cxs⟩ (.returned (.tuple #[])) (w5.setCell ⟨sb, 4, none⟩ tV')) := fun tV' w5 hown hk hat =>
      call_told (y := ⟨yk, yn, .slice yao yxs.length yc, yxs⟩) HREP.out HR3.out hag ⟨l1, l2, HL3.out⟩ hwj hjD2 (by rw [← hrj]; exact hkx) (by rw [← hrj, ← hgj]; exact hrd) hck rfl (by rw [← hxs]; exact hone) hyb (fun q hq => ⟨named_new q hq, (hyo q hq).2⟩) hown hk hat
    have p0 : w3.cell? ⟨w.heap.size + 1, 0, none⟩ = some (.int .i64 yk) := by rw [cell_block _ _ _ _ _ _ hpb]; rfl
    have p1 : w3.cell? ⟨w.heap.size + 1, 1, none⟩ = some (.int .i64 yn) := by rw [cell_block _ _ _ _ _ _ hpb]; rfl
    have p2 : w3.cell? ⟨w.heap.size + 1, 2, none⟩ = some (.slice yao yxs.length yc) := by rw [cell_block _ _ _ _ _ _ hpb]; rfl
    have hpl : w.heap.size + 1 < w3.heap.size := (Array.getElem?_eq_some_iff.1 hpb).1
    have d1 := HR3.out.cells.2.2.2.2.1
    have hs3 := HR3.out.lt
    have HROW := hid_of HR3.out.trow
    have HTS : Hid (∀ w5 : World, Kept (fun q => tV.ownBlock = some q) w3 w5 → w5.cell? ⟨sb, 4, none⟩ = some tV ∧ w5.frozen? ⟨sb, 4, none⟩ = false) := fun w5 hk5 => by
      have h5 := (hk5.block sb HR3.out.lt (fun e => by have := HR3.out.c4 sb e; rw [HR3.out.c1] at this; omega)).trans HR3.out.blk
      exact ⟨by rw [cell_block _ _ _ _ _ _ h5]; rfl, frozen_block _ _ _ _ _ h5⟩
    clear hpb hrd hkx hyb hyo hag hone HREP HR3 HJ HL3 HTH HV1A HV2A HPX HKA hwA hxs hrj hgj hrm a0 a1 HHR HBB HDD
    go_wp2_with fail
    go_region_law (first | (refine step_own_at rfl (.tmp 81) (.tmp 83) 35 rfl 0 54 i54 (.agg #[.int .i64 0, .int .i64 0, .slice none 0 0]) 3 40 Try.underlying35 hi54 z540 z541 z542 rfl (by decide) tV told.length (told.flatMap ItV.cells) rfl (by exact HROW.out.alloc _) ⟨w3.heap.size, 0, none⟩ 1 1 [.int .i64 yk, .int .i64 yn, .slice yao yxs.length yc] rfl rfl (by intro j u hj; simpa using cell_three_new w3 _ _ _ 54 j u hj) (by intro u hu; simp at hu; rcases hu with rfl | rfl | rfl <;> rfl) (by unfold maxLen; omega) (by omega) (Nat.zero_le _) ?_; intro tV' w5 hown' hgrow hat; have hk5 := kept_app (w3 := w3) hgrow (by first | exact (Kept.refl _ w3).alloc _ | exact ((Kept.refl _ w3).alloc _).drew | exact ((Kept.refl _ w3).drew).alloc _); obtain ⟨k1, k2⟩ := HTS.out w5 hk5; have HR6 := hid_of (HDONE.out tV' w5 hown' hk5 (hat_of hat (by simp))); obtain ⟨tao, tcap, rfl⟩ := ownsRow_shape hown'; clear hown' hgrow hat hk5))
    all_goals (try go_wp2)
    all_goals (try go_end0)
    all_goals first | exact HR6.out | exact HR6.out.drew
end Go.Proofs.Ytffabihenhejfaa
