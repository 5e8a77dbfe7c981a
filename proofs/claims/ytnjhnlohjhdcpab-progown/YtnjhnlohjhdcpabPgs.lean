/-
  ProgOwn: the programs that are told, in a row; what holds along the walk.
-/
import Derived.Test.YtnjhnlohjhdcpabSpo
import Derived.Test.YtnjhnlohjhdcpabGwn
import Derived.Test.YtnjhnlohjhdcpabBp
import Derived.Test.YtnjhnlohjhdcpabQl
namespace Go.Proofs.Ytnjhnlohjhdcpab
open Go.RowKit
set_option linter.unusedVariables false
set_option linter.unusedSimpArgs false

/-- Programs of their own, apart. -/
structure Progs (w : World) (ps : List PR) : Prop where
  own : ∀ (i : Nat) (x : PR), ps[i]? = some x → OwnP 0 w x.dv x.fv x.cvs x.p
  ok : ∀ x ∈ ps, x.p.Ok
  dap : ∀ (i j : Nat) (x y : PR), i < j → ps[i]? = some x → ps[j]? = some y → ∀ q, x.dv.ownBlock = some q → y.dv.ownBlock ≠ some q
  cap : ∀ (i j : Nat) (x y : PR), i < j → ps[i]? = some x → ps[j]? = some y → ∀ c ∈ x.cvs, ∀ c' ∈ y.cvs, ∀ q, c.ownBlock = some q → c'.ownBlock ≠ some q
theorem Progs.nil (w : World) : Progs w [] := ⟨fun i x h => by simp at h, fun x h => by simp at h, fun i j x y _ h => by simp at h, fun i j x y _ h => by simp at h⟩
theorem OwnP.dlt {b : Nat} {w : World} {dv fv : Value} {cvs : List Value} {p : PG} (h : OwnP b w dv fv cvs p) {q : Nat} (hq : dv.ownBlock = some q) : b ≤ q ∧ q < w.heap.size := h.dat.lt q hq
theorem OwnP.clt {b : Nat} {w : World} {dv fv : Value} {cvs : List Value} {p : PG} (h : OwnP b w dv fv cvs p) {q : Nat} {c : Value} (hc : c ∈ cvs) (hq : c.ownBlock = some q) : b ≤ q ∧ q < w.heap.size := by
  obtain ⟨i, f, _, _, ho⟩ := h.fns.mem hc
  exact ho.lt q hq
theorem OwnP.blk {b : Nat} {w : World} {x : PR} (h : OwnP b w x.dv x.fv x.cvs x.p) {q : Nat} (hq : PBlk [x] q) : b ≤ q ∧ q < w.heap.size := by
  obtain ⟨y, hy, hq⟩ := hq
  rw [List.mem_singleton] at hy
  subst hy
  rcases hq with hq | ⟨c, hc, hq⟩
  · exact h.dlt hq
  · exact h.clt hc hq
theorem PBlk.split {ps : List PR} {x : PR} {q : Nat} (h : PBlk (ps ++ [x]) q) : PBlk ps q ∨ PBlk [x] q := by
  obtain ⟨y, hy, hq⟩ := h
  rcases List.mem_append.1 hy with hy | hy
  · exact .inl ⟨y, hy, hq⟩
  · exact .inr ⟨y, hy, hq⟩
theorem Progs.lt {w : World} {ps : List PR} (h : Progs w ps) {q : Nat} (hq : PBlk ps q) : q < w.heap.size := by
  obtain ⟨x, hx, hq⟩ := hq
  obtain ⟨i, hi, e⟩ := List.mem_iff_getElem.1 hx
  have ho := h.own i x (by rw [List.getElem?_eq_getElem hi, e])
  rcases hq with hq | ⟨c, hc, hq⟩
  · exact (ho.dlt hq).2
  · exact (ho.clt hc hq).2
theorem Progs.same {w w' : World} {ps : List PR} (h : Progs w ps) (hk : Kept (fun _ => False) w w') : Progs w' ps :=
  ⟨fun i x hx => (h.own i x hx).kept hk (fun _ _ f => f), h.ok, h.dap, h.cap⟩
theorem at_push {ps : List PR} {x y : PR} {i : Nat} (h : (ps ++ [x])[i]? = some y) : ps[i]? = some y ∨ i = ps.length ∧ y = x := by
  by_cases hi : i < ps.length
  · rw [List.getElem?_append_left hi] at h
    exact .inl h
  · rw [List.getElem?_append_right (by omega)] at h
    have hl := (List.getElem?_eq_some_iff.1 h).1
    simp at hl
    have e : i - ps.length = 0 := by omega
    rw [e] at h
    exact .inr ⟨by omega, by simpa using h.symm⟩
theorem Progs.push {w w' : World} {ps : List PR} (h : Progs w ps) (hk : Kept (fun _ => False) w w') (x : PR) (hx : OwnP w.heap.size w' x.dv x.fv x.cvs x.p) (hok : x.p.Ok) : Progs w' (ps ++ [x]) := by
  have h' := h.same hk
  refine ⟨fun i y hy => ?_, fun y hy => ?_, fun i j y z hij hy hz q hq e => ?_, fun i j y z hij hy hz c hc c' hc' q hq e => ?_⟩
  · rcases at_push hy with hy | ⟨_, rfl⟩
    · exact h'.own i y hy
    · exact hx.mono (Nat.zero_le _)
  · rcases List.mem_append.1 hy with hy | hy
    · exact h.ok y hy
    · rw [List.mem_singleton] at hy
      subst hy
      exact hok
  · rcases at_push hz with hz' | ⟨hj, rfl⟩
    · rcases at_push hy with hy | ⟨hi, rfl⟩
      · exact h.dap i j y z hij hy hz' q hq e
      · have := (List.getElem?_eq_some_iff.1 hz').1; omega
    · rcases at_push hy with hy | ⟨hi, rfl⟩
      · have h1 := ((h.own i y hy).dlt hq).2
        have h2 := (hx.dlt e).1
        omega
      · omega
  · rcases at_push hz with hz' | ⟨hj, rfl⟩
    · rcases at_push hy with hy | ⟨hi, rfl⟩
      · exact h.cap i j y z hij hy hz' c hc c' hc' q hq e
      · have := (List.getElem?_eq_some_iff.1 hz').1; omega
    · rcases at_push hy with hy | ⟨hi, rfl⟩
      · have h1 := ((h.own i y hy).clt hc hq).2
        have h2 := (hx.clt hc' e).1
        omega
      · omega
/-- The row of programs is appended to: the programs stay. -/
theorem Progs.row {w w' : World} {ps : List PR} {av : Value} {b n : Nat} {xs : List Value} (h : Progs w ps) (hr : w.ownsRow b 25 3 av n xs) (hk : Kept (fun q => av.ownBlock = some q) w w') : Progs w' ps :=
  ⟨fun i x hx => ⟨hk.ownsRow (h.own i x hx).dat (fun q hq e => own_unlike (h.own i x hx).dat hr (by decide) q hq e), (h.own i x hx).fns.kept' hk (fun q hq e => own_unlike (h.own i x hx).fns.row hr (by decide) q hq e) (fun c hc q hq e => by
    obtain ⟨_, _, _, _, ho⟩ := (h.own i x hx).fns.mem hc
    exact own_unlike ho hr (by decide) q hq e)⟩, h.ok, h.dap, h.cap⟩
theorem Progs.all {w : World} {ps : List PR} {av : Value} {b : Nat} (h : Progs w ps) (hr : w.ownsRow b 25 3 av ps.length (ps.flatMap PR.cells)) : AllG w av ps := ⟨own_mono hr (Nat.zero_le _), h.own, h.ok, h.dap, h.cap⟩

theorem Try.info25r : (Try.prog.info? 25).map (fun i => (i.zero, i.size, i.bytes)) = some (some (.agg #[.int .i64 0, .slice none 0 0, .slice none 0 0]), 3, 56) := by kernel_rfl
/-- Three programs behind programs. -/
theorem app_progs {W : World} {lo N : Nat} {av : Value} {xs : List Value} (h : W.ownsRow lo 25 3 av N xs) (hlo : lo ≤ W.heap.size) (cs : List Value) (hc : cs.length = 9) (hone : ∀ u ∈ cs, u.oneCell' = true) (hsz : N ≤ 1000) :
    ∃ av' w', (Builtin.append_ #[34, 34] 34 #[av, .slice (some ⟨W.heap.size, 0, none⟩) 3 3]).run Try.prog (W.alloc (.cells cs.toArray 25)) = .ok av' w' ∧ w'.ownsRow lo 25 3 av' (N + 3) (xs ++ cs) ∧ Kept (fun q => av.ownBlock = some q) W w' := by
  obtain ⟨i0, hi, hz0, hz1, hz2⟩ := info_parts Try.info25r
  obtain ⟨v', w', hr, h2, h3, h4, _⟩ := append_old (P := Try.prog) (W.alloc (.cells cs.toArray 25)) lo 34 34 25 i0 _ 3 56 Try.underlying34 hi hz0 hz1 hz2 rfl (by decide) av N xs (h.alloc _) ⟨W.heap.size, 0, none⟩ 3 3 cs hc (fun j u hj => by
    rw [Addr.add_lit, cell_block _ _ _ _ _ _ (heap_alloc_new W _), Nat.zero_add]
    simpa using hj) hone (by unfold maxLen; omega) (by omega) (by simp; omega)
  exact ⟨v', w', hr, h2, ((Kept.refl _ W).alloc _).grown h3 (fun k hk => .inr hk)⟩

section
variable {ops : Array Oper} {o : Oper} {a : Act} {w : World} {K : Act → World → Prop} {Q : Exit → Act → World → Prop} {E : Prop}
theorem fill_three (a1 a2 a3 b1 b2 b3 c1 c2 c3 : Value) : Instr.fill (fun i => some (i * 3, 3)) ((Array.range (3 * 3)).map ((Value.agg #[.int .i64 0, .slice none 0 0, .slice none 0 0]).cells[· % (Value.agg #[.int .i64 0, .slice none 0 0, .slice none 0 0]).cells.size]!)) [(0, .agg #[a1, a2, a3]), (1, .agg #[b1, b2, b3]), (2, .agg #[c1, c2, c3])] = some #[a1, a2, a3, b1, b2, b3, c1, c2, c3] := by
  have e : (Array.range (3 * 3)).map ((Value.agg #[.int .i64 0, .slice none 0 0, .slice none 0 0]).cells[· % (Value.agg #[.int .i64 0, .slice none 0 0, .slice none 0 0]).cells.size]!) = #[.int .i64 0, .slice none 0 0, .slice none 0 0, .int .i64 0, .slice none 0 0, .slice none 0 0, .int .i64 0, .slice none 0 0, .slice none 0 0] := by kernel_rfl
  rw [e]
  simp [Instr.fill, Value.cells]
theorem stp_build25 (hgd : o.guard = none) (x y z : Operand) (ho : o.op = .buildSlice 34 3 #[(0, x), (1, y), (2, z)]) (a1 a2 a3 b1 b2 b3 c1 c2 c3 : Value) (hx : a.eval x = .agg #[a1, a2, a3]) (hy : a.eval y = .agg #[b1, b2, b3]) (hz : a.eval z = .agg #[c1, c2, c3])
    (h : K (a.put o.dst (.slice (some ⟨w.heap.size, 0, none⟩) 3 3)) (w.alloc (.cells [a1, a2, a3, b1, b2, b3, c1, c2, c3].toArray 25))) : if Region.wanted o (yielded ops a.tmps) = true then Oper.wp Try.prog o a w K Q else E := by
  have hw : Region.wanted o (yielded ops a.tmps) = true := by simp [Region.wanted, hgd]
  obtain ⟨i0, hi, hz0, hz1, hz2⟩ := info_parts Try.info25r
  rw [if_pos hw]
  refine wp_buildSlice 34 25 3 _ ho #[a1, a2, a3, b1, b2, b3, c1, c2, c3] i0 _ Try.underlying34 hi hz0 (by rw [hz1]; decide) (by rw [hz1]; decide) ?_ h
  rw [hz1]
  have e : (#[(0, x), (1, y), (2, z)].map fun (i, y) => (i, a.eval y)).toList = [(0, .agg #[a1, a2, a3]), (1, .agg #[b1, b2, b3]), (2, .agg #[c1, c2, c3])] := by rw [← hx, ← hy, ← hz]; simp
  rw [e]
  exact fill_three _ _ _ _ _ _ _ _ _
end

/-- What holds along the walk: the program that came in, its bytes, the bytes that are lent; all below lo. -/
structure OwK (w W : World) (lo B ga : Nat) (pc : Array Value) (p : PG) (bv : Value) (nb : Nat) (bs : List Int) (gm : Nat) : Prop where
  ba : W.heap[ga]? = some (.cells pc 25 (0, 0))
  pg : PgIs W B (.agg pc) p
  bro : W.ownsRow w.heap.size 5 1 bv nb (bs.map (Value.int .u8))
  lent : Lent5 W gm bs 5
  kept : Kept (fun _ => False) w W
  off : ga < lo ∧ B ≤ lo ∧ gm < lo ∧ w.heap.size ≤ lo ∧ lo ≤ W.heap.size
  blo : ∀ q, bv.ownBlock = some q → q < lo
theorem OwK.step {S : Nat → Prop} {w W W' : World} {lo B ga : Nat} {pc : Array Value} {p : PG} {bv : Value} {nb : Nat} {bs : List Int} {gm : Nat} (h : OwK w W lo B ga pc p bv nb bs gm) (hk : Kept S W W') (hS : ∀ q, q < lo → ¬ S q) : OwK w W' lo B ga pc p bv nb bs gm :=
  ⟨box_kept hk h.ba (hS _ h.off.1), h.pg.kept hk (fun q hq => hS q (Nat.lt_of_lt_of_le hq h.off.2.1)), hk.ownsRow h.bro (fun q hq => hS q (h.blo q hq)), h.lent.kept hk (hS _ h.off.2.2.1), h.kept.step hk (fun i hi e => hS i (Nat.lt_of_lt_of_le hi h.off.2.2.2.1) e),
    ⟨h.off.1, h.off.2.1, h.off.2.2.1, h.off.2.2.2.1, Nat.le_trans h.off.2.2.2.2 hk.size⟩, h.blo⟩
theorem OwK.same {w W W' : World} {lo B ga : Nat} {pc : Array Value} {p : PG} {bv : Value} {nb : Nat} {bs : List Int} {gm : Nat} (h : OwK w W lo B ga pc p bv nb bs gm) (hk : Kept (fun _ => False) W W') : OwK w W' lo B ga pc p bv nb bs gm := h.step hk (fun _ _ f => f)
theorem Lent5.isR {w : World} {g : Nat} {xs : List Int} (h : Lent5 w g xs 5) (hl : xs.length ≤ 140737488351232) : IsR w g (.slice (some ⟨g, 0, none⟩) xs.length (xs.length + 5)) xs :=
  .inr ⟨0, xs.length + 5, rfl, by omega, by omega, by unfold maxLen; omega, fun i hi => by rw [Nat.zero_add]; exact h.at hi⟩
/-- A program's three cells, a new one of p. -/
def NewP (p : PG) (mp : Int) (pnd pnf : Nat) (W : World) (v : Value) (W' : World) : Prop :=
  ∃ da dc fa fc cvs, v = .agg #[.int .i64 mp, .slice da pnd dc, .slice fa pnf fc] ∧ OwnP W.heap.size W' (.slice da pnd dc) (.slice fa pnf fc) cvs p
theorem dec_own {p : PG} {mp : Int} {pnd pnf nb gm : Nat} {bs : List Int} {W : World} (hmp : mp = p.mem) (hnd : pnd = p.data.length) (hnf : pnf = p.fns.length) (hnb : nb = bs.length) (hl : Lent5 W gm bs 5) (hg : gm < W.heap.size) (hd : decPD bs = .ok p) (hb : BytesOk bs) :
    Calls Try.prog 12 #[.slice (some ⟨gm, 0, none⟩) nb (nb + 5)] W fun e W' => ∃ v, e = .returned (.tuple #[v, .int .i64 0]) ∧ NewP p mp pnd pnf W v W' ∧ Kept (fun _ => False) W W' := by
  subst hmp hnd hnf hnb
  refine (decode_p gm (some ⟨gm, 0, none⟩) (bs.length + 5) bs W (hl.isR hb.2) hg hb).mono ?_
  rintro e W' ⟨hk, h⟩
  rw [hd] at h
  obtain ⟨⟨dv, fv, cvs, rfl, ho⟩, _⟩ := h
  obtain ⟨da, dc, rfl⟩ := ownsRow_shape ho.dat
  obtain ⟨fa, fc, rfl⟩ := ownsRow_shape ho.fns.row
  exact ⟨_, rfl, ⟨da, dc, fa, fc, cvs, rfl, ho⟩, hk⟩
theorem twin_own {p : PG} {mp : Int} {pnd pnf B : Nat} {v : Value} {W : World} (hmp : mp = p.mem) (hnd : pnd = p.data.length) (hnf : pnf = p.fns.length) (h : PgIs W B v p) (hB : B ≤ W.heap.size) (hok : p.Ok) :
    Calls Try.prog 7 #[v] W fun e W' => ∃ u, e = .returned u ∧ NewP p mp pnd pnf W u W' ∧ Kept (fun _ => False) W W' := by
  subst hmp hnd hnf
  refine (twin_p v p W B h hB hok).mono ?_
  rintro e W' ⟨⟨dv, fv, cvs, rfl, ho⟩, hk⟩
  obtain ⟨da, dc, rfl⟩ := ownsRow_shape ho.dat
  obtain ⟨fa, fc, rfl⟩ := ownsRow_shape ho.fns.row
  exact ⟨_, rfl, ⟨da, dc, fa, fc, cvs, rfl, ho⟩, hk⟩
theorem enc_own {p : PG} {nb B : Nat} {bs : List Int} {v : Value} {W : World} (hbs : bs = bytesP p) (hnb : nb = bs.length) (h0 : encPE p = 0) (h : PgIs W B v p) (hB : B ≤ W.heap.size) (hok : p.Ok) :
    Calls Try.prog 6 #[v] W fun e W' => ∃ ao c, e = .returned (.tuple #[.slice ao nb c, .int .i64 0]) ∧ W'.ownsRow W.heap.size 5 1 (.slice ao nb c) nb (bs.map (Value.int .u8)) ∧ Kept (fun _ => False) W W' := by
  subst hnb hbs
  refine (encode_p v p W B h hB hok).mono ?_
  rintro e W' ⟨hk, h⟩
  rw [if_pos h0] at h
  obtain ⟨v', rfl, ho⟩ := h
  obtain ⟨ao, c, rfl⟩ := ownsRow_shape ho
  exact ⟨ao, c, rfl, ho, hk⟩
theorem long_ok {p : PG} (h : checkP p = 0) : p.data.length ≤ 4194304 ∧ (1 ≤ p.fns.length ∧ p.fns.length ≤ 64) ∧ ∀ f ∈ p.fns, f.code.length ≤ 4194304 := by
  obtain ⟨hm, hd, hf1, hf2, hfs⟩ := checkP_zero h
  refine ⟨by omega, ⟨hf1, hf2⟩, fun f hf => ?_⟩
  have h1 : firstF p.fns = 0 := by
    unfold checkP at h
    split at h
    · cases h
    · exact h
  have h2 := firstF_zero _ h1 f hf
  unfold errF at h2
  split at h2
  · cases h2
  · rename_i hb
    have hb' : badF f = false := by simpa using hb
    unfold badF at hb'
    have := of_decide_eq_false hb'
    omega
end Go.Proofs.Ytnjhnlohjhdcpab
