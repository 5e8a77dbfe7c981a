/-
  The reference's Decode by contract.
-/
import Derived.Test.YtnjhnlohjhdcpaaRe
import Derived.Test.YtnjhnlohjhdcpaaRfc
import Derived.Test.YtnjhnlohjhdcpaaPbx
import Derived.Test.YtnjhnlohjhdcpaaRg
namespace Go.Proofs.Ytnjhnlohjhdcpaa
open Go.RowKit
set_option linter.unusedVariables false
set_option linter.unusedSimpArgs false
set_option maxRecDepth 100000

/-- What a Read of a number leaves. -/
def RdN (k : Int) (d : Except Int (Int × List Int)) (xs : List Int) (r : Nat) (v : Value) (w : World) (e : Ending) (w' : World) : Prop :=
  match d with
  | .ok (u, rest) => ∃ (q : Nat) (bo : Option Addr) (bc : Nat), rest = xs.drop q ∧ q ≤ xs.length ∧ e = .returned (.agg #[.int .i64 k, .int .i64 u, .slice bo 0 bc]) ∧ RR w' r v q 0 ∧ Kept (fun q => q = r) w w'
  | .error f => ∃ q, e = .returned (.agg #[.int .i64 k, .int .i64 0, .slice none 0 0]) ∧ RR w' r v q f ∧ Kept (fun q => q = r) w w'
theorem rdN_of {k n : Int} {d : Except Int (Int × List Int)} {xs : List Int} {r p : Nat} {v : Value} {w w' : World} {e : Ending} (hd : oneD k n (xs.drop p) = lift1 d) (h : ReadR k n xs w r v p e w') : RdN k d xs r v w e w' := by
  cases d with
  | error f =>
    rw [show lift1 (.error f : Except Int (Int × List Int)) = .error f from rfl] at hd
    rcases h with ⟨g, q, bv, h1, _⟩ | ⟨f', q, h1, h2, h3, h4⟩
    · rw [hd] at h1; cases h1
    · rw [hd] at h1; cases h1; exact ⟨q, h2, h3, h4⟩
  | ok pr =>
    obtain ⟨u, rest⟩ := pr
    rw [show lift1 (.ok (u, rest)) = .ok ((u, []), rest) from rfl] at hd
    rcases h with ⟨g, q, bv, h1, h2, h3, h4, _, h5, h6⟩ | ⟨f', q, h1, _⟩
    · rw [hd] at h1
      cases h1
      obtain ⟨bo, bc, hbv⟩ := h4.shape
      exact ⟨q, bo, bc, rfl, h2, by rw [h3, hbv]; rfl, h5, h6⟩
    · rw [hd] at h1; cases h1
theorem rnum_ref (r : Nat) (v : Value) (xs : List Int) (p : Nat) (w : World) (h : RR w r v p 0) (hx : IsB w v xs) (hb : BytesOk xs) (hp : p ≤ xs.length) :
    Calls Try.prog 59 #[.pointer (some ⟨r, 0, none⟩), .int .i64 1, .int .i64 0] w (RdN 1 (numD (xs.drop p)) xs r v w) :=
  (read_ref1 r v xs p 0 w h hx hb hp).mono fun e w' h => rdN_of rfl h
theorem rint_ref (r : Nat) (v : Value) (xs : List Int) (p : Nat) (w : World) (h : RR w r v p 0) (hx : IsB w v xs) (hb : BytesOk xs) (hp : p ≤ xs.length) :
    Calls Try.prog 59 #[.pointer (some ⟨r, 0, none⟩), .int .i64 2, .int .i64 0] w (RdN 2 (intD (xs.drop p)) xs r v w) :=
  (read_ref2 r v xs p 0 w h hx hb hp).mono fun e w' h => rdN_of rfl h

theorem size82 : (Try.prog.info? 63).map (·.size) = some 3 := by kernel_rfl
/-- What Decode's loop holds. -/
structure DrI (w wr : World) (v : Value) (xs : List Int) (p : Nat) : Prop where
  rr : RR wr w.heap.size v p 0
  isb : IsB wr v xs
  kept : Kept (fun _ => False) w wr
  le : p ≤ xs.length
section
variable {w wr w1 : World} {p q : Nat} {v : Value} {xs : List Int} {f : Int}
theorem DrI.step {S : Nat → Prop} (h : DrI w wr v xs p) (hk : Kept S wr w1) (hS : ∀ i, i ≤ w.heap.size → ¬ S i) (hvl : ∀ b, v.ownBlock = some b → b < w.heap.size) : DrI w w1 v xs p :=
  ⟨h.rr.kept hk (hS _ (Nat.le_refl _)), h.isb.kept hk (fun b hb => hS b (by have := hvl b hb; omega)), h.kept.step hk (fun i hi e => absurd e (hS i (by omega))), h.le⟩
theorem DrI.read (h : DrI w wr v xs p) (hk : Kept (fun q => q = w.heap.size) wr w1) (hr : RR w1 w.heap.size v q 0) (hq : q ≤ xs.length) (hvl : ∀ b, v.ownBlock = some b → b < w.heap.size) : DrI w w1 v xs q :=
  ⟨hr, h.isb.kept hk (fun b hb e => by have := hvl b hb; omega), h.kept.step hk (fun i hi e => by omega), hq⟩
theorem DrI.new (h : DrI w wr v xs p) (hk : Kept (fun _ => False) wr w1) (hvl : ∀ b, v.ownBlock = some b → b < w.heap.size) : DrI w w1 v xs p := h.step hk (fun _ _ f => f) hvl
end
theorem drop_ok {xs : List Int} (hb : BytesOk xs) (p : Nat) : BytesOk (xs.drop p) := ⟨fun x hx => hb.1 x (List.mem_of_mem_drop hx), by rw [List.length_drop]; have := hb.2; omega⟩
theorem DecR.bad {xs : List Int} {w w' : World} {flt : Int} (h : decD xs = .error flt) (hk : Kept (fun _ => False) w w') : DecR xs w (.returned (.tuple #[.slice none 0 0, .int .i64 flt])) w' := ⟨hk, by rw [h]⟩
theorem intD_bounds {xs rest : List Int} {u : Int} (hb : BytesOk xs) (h : intD xs = .ok (u, rest)) : -9223372036854775808 ≤ u ∧ u < 9223372036854775808 := by
  unfold intD at h
  rcases formD_cases xs hb.1 with ⟨u', r', h', he, h0, h1⟩ | h' | h'
  · rw [h'] at h
    cases h
    obtain ⟨g1, g2, _⟩ := fold_unfold u' h0 h1
    exact ⟨g1, g2⟩
  · rw [h'.1] at h; cases h
  · rw [h'.1] at h; cases h

set_option maxHeartbeats 16000000 in
theorem decode_ref (bao : Option Addr) (bc : Nat) (xs : List Int) (w : World) (hx : IsB w (.slice bao xs.length bc) xs) (hb : BytesOk xs) (hvl : ∀ b, (Value.slice bao xs.length bc).ownBlock = some b → b < w.heap.size) :
    Calls Try.prog 36 #[.slice bao xs.length bc] w (DecR xs w) := by
  obtain ⟨n, hn⟩ : ∃ n, n = xs.length := ⟨_, rfl⟩
  by_cases hlong : 40960 < xs.length
  · have HR : Hid (DecR xs w (.returned (.tuple #[.slice none 0 0, .int .i64 2])) w) := DecR.bad (by unfold decD; rw [if_pos hlong]) (Kept.refl _ _)
    have hb2 := hb.2
    rw [← hn] at hlong hb2 ⊢
    have hlI : (40960 : Int) < (n : Int) := by omega
    clear hx hn hb hvl
    go_enter Try.func36, Try.ntmps36
    go_wp2
    go_ret2
    exact HR.out
  · have HD : Hid (decD xs = allD 4096 xs) := if_neg hlong
    rw [← hn] at hx hlong hvl ⊢
    have hlI : (n : Int) ≤ 40960 := by omega
    have HN := hid_of hn
    have HB := hid_of hb
    have HVL := hid_of hvl
    have hkA : Kept (fun _ => False) w (w.alloc (.cells #[.slice bao n bc, .int .i64 0, .int .i64 0] 71)) := (Kept.refl _ _).alloc _
    have HI0 : Hid (DrI w (w.alloc (.cells #[.slice bao n bc, .int .i64 0, .int .i64 0] 71)) (.slice bao n bc) xs 0) := ⟨heap_alloc_new w _, hx.kept hkA (fun _ _ f => f), hkA, by omega⟩
    clear hx hn hb hvl hkA
    go_enter Try.func36, Try.ntmps36
    go_wp2
    go_loopw [5] (fun lv wr => ∃ (i p cp : Nat) (ao : Option Addr) (ys : List IN), i ≤ 4096 ∧ ys.length = i ∧ lv = .slice ao i cp ∧ wr.ownsRow w.heap.size 52 2 (.slice ao i cp) i (icells ys) ∧ DrI w wr (.slice bao n bc) xs p ∧ (∀ y ∈ ys, y.Ok) ∧ allD 4096 xs = joinI ys (allD (4096 - i) (xs.drop p))) (fun lv _ => 4096 - lenOf lv)
    case atStart => exact ⟨0, 0, 0, none, [], by omega, rfl, rfl, World.ownsRow_nil _ _ _ _, HI0.out, fun y hy => by simp at hy, (joinI_nil _).symm⟩
    case round =>
      obtain ⟨i, p, cp, ao, ys, hi, hyl, rfl, hown, hI, hok, hpl⟩ := hrel
      have hp := hI.le
      have HOW := hid_of hown
      have HI := hid_of hI
      have HOK := hid_of hok
      have HPL := hid_of hpl
      have HYL := hid_of hyl
      have hpn : p ≤ n := by rw [HN.out]; exact hp
      have HLF := hid_of (left_ref w.heap.size bao n bc p 0 wr hI.rr hpn (by omega))
      clear hown hI hok hpl hyl hp HI0
      go_wp2_with fail
      refine HLF.out.mono ?_
      rintro e w1 ⟨rfl, d1, rfl⟩
      have hkd : Kept (fun _ => False) wr (wr.drewN d1) := kept_drewN (Kept.refl _ _) d1
      have HI1 := hid_of (HI.out.new hkd HVL.out)
      have HO1 := hid_of (hkd.ownsRow HOW.out (fun _ _ f => f))
      clear hkd HLF HI HOW
      generalize wr.drewN d1 = w1 at *
      by_cases h0 : p = n
      · have hpI : (n : Int) - (p : Int) = 0 := by omega
        have HFIN : Hid (DecR xs w (.returned (.tuple #[.slice ao i cp, .int .i64 0])) w1) := ⟨HI1.out.kept, by
          have hd0 : (xs.drop p).length = 0 := by rw [List.length_drop, ← HN.out, h0]; omega
          rw [HD.out, HPL.out, allD_end _ hd0]
          show (∃ v', _ ∧ w1.ownsRow w.heap.size 52 2 v' (ys ++ []).length (icells (ys ++ []))) ∧ ∀ y ∈ ys ++ [], y.Ok
          rw [List.append_nil, HYL.out]
          exact ⟨⟨_, rfl, HO1.out⟩, HOK.out⟩⟩
        rw [hpI]
        clear h0 hpI hpn
        go_wp2
        go_ret2
        exact HFIN.out
      · have hpI : (0 : Int) < (n : Int) - (p : Int) := by omega
        have HR0 : Hid ((xs.drop p).length ≠ 0) := by unfold Hid; rw [List.length_drop, ← HN.out]; omega
        obtain ⟨lf, hlf⟩ : ∃ lf, lf = (n : Int) - (p : Int) := ⟨_, rfl⟩
        rw [← hlf] at hpI ⊢
        clear h0 hlf
        by_cases h4 : i = 4096
        · have hb4 : ((i : Int) == 4096) = true := by subst h4; rfl
          have HE : Hid (DecR xs w (.returned (.tuple #[.slice none 0 0, .int .i64 2])) w1) := DecR.bad (by
            rw [HD.out, HPL.out, h4, show 4096 - 4096 = 0 from rfl, allD_long HR0.out]
            rfl) HI1.out.kept
          clear h4
          go_wp2
          go_ret2
          exact HE.out
        · have hb4 : ((i : Int) == 4096) = false := by simp; omega
          have hi4 : i < 4096 := by omega
          have HBAD : Hid (∀ f w', oneDI (xs.drop p) = .error f → Kept (fun _ => False) w w' → DecR xs w (.returned (.tuple #[.slice none 0 0, .int .i64 f])) w') := fun f w' h hk => DecR.bad (by
            rw [HD.out, HPL.out, show 4096 - i = (4096 - i - 1) + 1 by omega]
            exact joinI_bad HR0.out h) hk
          have HRN := hid_of (rnum_ref w.heap.size (.slice bao n bc) xs p w1 HI1.out.rr HI1.out.isb HB.out HI1.out.le)
          clear h4
          cases hd : numD (xs.drop p) with
          | error f =>
            rw [hd] at HRN
            have hf0 : f ≠ 0 := numD_fault (drop_ok HB.out p).1 hd
            have hfb : (f != 0) = true := by simpa using hf0
            have HE := hid_of (HBAD.out f)
            have HOE : Hid (oneDI (xs.drop p) = .error f) := by unfold Hid oneDI; rw [hd]
            clear hd
            go_wp2_with fail
            refine HRN.out.mono ?_
            rintro e w2 ⟨q, rfl, hr2, hk2⟩
            have hkx := HI1.out.kept.step hk2 (fun i hi e => by omega)
            have hr3 := hr2.kept ((Kept.refl (fun _ => False) w2).alloc (.cells #[.int .i64 1, .int .i64 0, .slice none 0 0] 63)) (fun f => f)
            obtain ⟨_, _, q2, _, _⟩ := hr3.cells
            have HFIN := hid_of (fun (d : Nat) => HE.out ((w2.alloc (.cells #[.int .i64 1, .int .i64 0, .slice none 0 0] 63)).drewN d) HOE.out (kept_drewN (hkx.alloc _) d))
            clear hr2 hk2 hkx hr3 HRN HE HBAD
            go_upto_region 10 with fail
            go_quiet (fail)
            go_wp2
            go_ret2
            exact HFIN.out _
          | ok pr =>
            obtain ⟨op, rest⟩ := pr
            rw [hd] at HRN
            have HD1 := hid_of hd
            have hopb : 0 ≤ op ∧ op ≤ 9223372036854775807 := (numD_split (drop_ok HB.out p).1 hd).2
            clear hd
            go_wp2_with fail
            refine HRN.out.mono ?_
            rintro e w2 ⟨q, bo, bcc, hrest, hql, rfl, hr2, hk2⟩
            have hI2 := HI1.out.read hk2 hr2 hql HVL.out
            have hO2 := hk2.ownsRow HO1.out (fun g hg e => own_type HO1.out HI1.out.rr (by rw [hg, e]) (by decide))
            have hkA : Kept (fun _ => False) w2 (w2.alloc (.cells #[.int .i64 1, .int .i64 op, .slice bo 0 bcc] 63)) := (Kept.refl _ _).alloc _
            have hBX := heap_alloc_new w2 (.cells #[.int .i64 1, .int .i64 op, .slice bo 0 bcc] 63)
            have HI2 := hid_of (hI2.new hkA HVL.out)
            have HO2 := hid_of (hkA.ownsRow hO2 (fun _ _ f => f))
            have HRS := hid_of hrest
            have HWX : Hid (w.heap.size < w2.heap.size) := Nat.lt_of_lt_of_le hr2.cells.2.2.2.2 (Nat.le_refl _)
            clear hI2 hO2 hkA hr2 hk2 HRN HI1 HO1 hrest
            go_upto_region 9 with fail
            generalize w2.alloc _ = w3 at *
            generalize w2.heap.size = X at *
            obtain ⟨_, _, q2, _, _⟩ := HI2.out.rr.cells
            have x1 : w3.cell? ⟨X, 1, none⟩ = some (.int .i64 op) := by rw [cell_block _ _ _ _ _ _ hBX]; rfl
            have HBX := hid_of hBX
            clear hBX
            go_wp2_with fail
            refine (of_ref op w3 (by omega) (by omega)).mono ?_
            rintro e w4 ⟨rfl, hk4⟩
            have HI4 := hid_of (HI2.out.new hk4 HVL.out)
            have HO4 := hid_of (hk4.ownsRow HO2.out (fun _ _ f => f))
            have HBX4 := hid_of (box_kept hk4 HBX.out (fun f => f))
            clear hk4 HI2 HO2 HBX x1 q2
            by_cases hrow : 0 ≤ op ∧ op < 46
            · obtain ⟨k, rfl⟩ : ∃ k : Nat, op = k := ⟨op.toNat, by omega⟩
              have hk46 : k < 46 := by omega
              rw [(row_at (L := insL) hk46).1, (row_at (L := insL) hk46).2]
              obtain ⟨hm6, hmo⟩ := kix_lt k hk46
              have HDI : Hid (oneDI (xs.drop p) = match readK (kix k) rest with
                  | .error f => .error f
                  | .ok (a, r2) => if mayP (kix k) a = true then .ok (⟨(k : Int), a⟩, r2) else .error 112) := by
                unfold Hid oneDI
                rw [HD1.out]
                dsimp only
                rw [if_pos (row_yes hrow)]
                rfl
              clear hrow
              generalize kix k = m at *
              generalize insL.getD k Sh.none = x at *
              obtain ⟨nm, oo2, ta, gi⟩ := x
              obtain rfl : oo2 = (m : Int) := hmo
              rw [sh_lit]
              have hkS : Kept (fun _ => False) w4 ((w4.alloc (.cells #[.string nm, .int .i64 (m : Int), .int .i64 ta, .int .i64 gi] 84)).alloc (.cells #[.int .i64 0, .int .i64 0, .slice none 0 0] 63)) := ((Kept.refl _ _).alloc _).alloc _
              have hBS := heap_alloc2_old w4 (.cells #[.string nm, .int .i64 (m : Int), .int .i64 ta, .int .i64 gi] 84) (.cells #[.int .i64 0, .int .i64 0, .slice none 0 0] 63)
              have hBY := heap_alloc2_new w4 (.cells #[.string nm, .int .i64 (m : Int), .int .i64 ta, .int .i64 gi] 84) (.cells #[.int .i64 0, .int .i64 0, .slice none 0 0] 63)
              have HI5 := hid_of (HI4.out.new hkS HVL.out)
              have HO5 := hid_of (hkS.ownsRow HO4.out (fun _ _ f => f))
              have HBX5 := hid_of (box_kept hkS HBX4.out (fun f => f))
              have HXS : Hid (X < w4.heap.size) := (Array.getElem?_eq_some_iff.1 HBX4.out).1
              clear hkS HI4 HO4 HBX4
              go_upto_region 15 with fail
              generalize ((w4.alloc _).alloc _) = w5 at *
              generalize w4.heap.size = S at *
              have HBS5 := hid_of hBS
              have HBY5 := hid_of hBY
              have s1 : w5.cell? ⟨S, 1, none⟩ = some (.int .i64 (m : Int)) := by rw [cell_block _ _ _ _ _ _ hBS]; rfl
              clear hBS hBY
              rcases (show m = 0 ∨ m = 1 ∨ 2 ≤ m by omega) with rfl | rfl | hm2
              · clear HWX HXS
                obtain ⟨_, _, q3, _, _⟩ := HI5.out.rr.cells
                have s2 : w5.cell? ⟨S, 1, none⟩ = some (.int .i64 (0 : Int)) := by rw [cell_block _ _ _ _ _ _ HBS5.out]; rfl
                have y2 : w5.cell? ⟨S + 1, 1, none⟩ = some (.int .i64 0) := by rw [cell_block _ _ _ _ _ _ HBY5.out]; rfl
                have x2 : w5.cell? ⟨X, 1, none⟩ = some (.int .i64 (k : Int)) := by rw [cell_block _ _ _ _ _ _ HBX5.out]; rfl
                have HDM : Hid (oneDI (xs.drop p) = if mayP 0 0 = true then .ok (⟨(k : Int), 0⟩, rest) else .error 112) := by unfold Hid; rw [HDI.out, show readK 0 rest = .ok (0, rest) from rfl]
                go_wp2_with fail
                refine (may_ref 0 w5 0 (by omega)).mono ?_
                rintro e w8 ⟨rfl, rfl⟩
                by_cases hmay : mayP 0 0 = true
                · rw [hmay]
                  have HONE : Hid (oneDI (xs.drop p) = .ok (⟨(k : Int), 0⟩, rest)) := by unfold Hid; rw [HDM.out, if_pos hmay]
                  have hyi : (IN.mk (k : Int) 0).Ok := ⟨⟨by show -9223372036854775808 ≤ (k : Int); omega, by show (k : Int) < 9223372036854775808; omega⟩, ⟨by show (-9223372036854775808 : Int) ≤ 0; decide, by show (0 : Int) < 9223372036854775808; decide⟩⟩
                  have hown8 := HO5.out
                  rw [← HYL.out] at hown8
                  obtain ⟨v9, w9, hr9, ho9, ⟨g9, c9, hv9⟩, hk9⟩ := app_ins w8 (.slice ao ys.length cp) w.heap.size ys ⟨(k : Int), 0⟩ hown8 HI5.out.kept.size (by have := HYL.out; omega)
                  have hne9 : ∀ q, (Value.slice ao ys.length cp).ownBlock = some q → w.heap.size < q := fun q hq => by
                    have h1 := (hown8.lt q hq).1
                    rcases Nat.lt_or_ge w.heap.size q with h2 | h2
                    · exact h2
                    · have e : q = w.heap.size := by omega
                      subst e
                      exact (own_type hown8 HI5.out.rr hq (by decide)).elim
                  have HI9 := hid_of (HI5.out.step hk9 (fun i hi e => by have := hne9 i e; omega) HVL.out)
                  have hl9 : (ys ++ [IN.mk (k : Int) 0]).length = i + 1 := by rw [List.length_append, HYL.out]; rfl
                  rw [hl9] at hv9
                  subst hv9
                  rw [HYL.out] at hr9
                  rw [hl9] at ho9
                  have HO9 := hid_of ho9
                  have HPL9 : Hid (allD 4096 xs = joinI (ys ++ [IN.mk (k : Int) 0]) (allD (4096 - (i + 1)) rest)) := by
                    unfold Hid
                    rw [HPL.out, show 4096 - i = (4096 - (i + 1)) + 1 by omega]
                    exact joinI_ok HR0.out HONE.out
                  have HOK9 : Hid (∀ y ∈ ys ++ [IN.mk (k : Int) 0], y.Ok) := fun z hz => by
                    rcases List.mem_append.1 hz with hz | hz
                    · exact HOK.out z hz
                    · simp at hz; rw [hz]; exact hyi
                  clear hmay hyi s1 hown8 hk9 hne9 ho9 s2 q3
                  go_wp2_with (at_builtin; refine wp_app2 rfl (.tmp 67) (.tmp 73) 48 48 rfl _ _ rfl rfl (.slice (some ⟨g9, 0, none⟩) (i + 1) c9) w9 hr9 ?_)
                  go_roundw
                  case rel => exact ⟨i + 1, q, c9, some ⟨g9, 0, none⟩, ys ++ [IN.mk (k : Int) 0], by omega, hl9, rfl, HO9.out, HI9.out, HOK9.out, by rw [HPL9.out, HRS.out]⟩
                  case measure => simp [lenOf]; omega
                · rw [show mayP 0 0 = false by simpa using hmay]
                  have HFIN := hid_of (HBAD.out 112 w8 (by rw [HDM.out, if_neg hmay]) HI5.out.kept)
                  clear hmay s2 q3 y2 x2
                  go_wp2
                  go_ret2
                  exact HFIN.out
              · have HRI := hid_of (rint_ref w.heap.size (.slice bao n bc) xs q w5 HI5.out.rr HI5.out.isb HB.out HI5.out.le)
                rw [← HRS.out] at HRI
                have HRB : Hid (BytesOk rest) := by unfold Hid; rw [HRS.out]; exact drop_ok HB.out q
                cases hd2 : intD rest with
                | error f =>
                  rw [hd2] at HRI
                  have hf0 : f ≠ 0 := intD_fault HRB.out.1 hd2
                  have hfb : (f != 0) = true := by simpa using hf0
                  have HOE : Hid (oneDI (xs.drop p) = .error f) := by unfold Hid; rw [HDI.out, show readK 1 rest = intD rest from rfl, hd2]
                  clear hd2
                  go_wp2_with fail
                  refine HRI.out.mono ?_
                  rintro e w6 ⟨q6, rfl, hr6, hk6⟩
                  have hkx := HI5.out.kept.step hk6 (fun i hi e => by omega)
                  have hBY6 := box_kept hk6 HBY5.out (by have := HWX.out; have := HXS.out; omega)
                  have hset := setRow_heap w6 (S + 1) _ #[.int .i64 2, .int .i64 0, .slice none 0 0] 63 (0, 0) hBY6
                  have hkr := kept_row w6 (S + 1) #[.int .i64 2, .int .i64 0, .slice none 0 0]
                  have hr7 := hr6.kept hkr (by have := HWX.out; have := HXS.out; omega)
                  have hky := hkx.step hkr (fun i hi e => by have := HWX.out; have := HXS.out; omega)
                  clear hk6 hkx HRI s1 hset
                  go_upto_region 19 with (refine wpList_store_row rfl 63 _ _ rfl (S + 1) #[.int .i64 2, .int .i64 0, .slice none 0 0] rfl rfl 63 _ hBY6 size82 rfl (three_one _ _ _ rfl rfl rfl) ?_)
                  generalize w6.setRow (S + 1) _ = w7 at *
                  obtain ⟨_, _, q2, _, _⟩ := hr7.cells
                  have HFIN := hid_of (fun (d : Nat) => HBAD.out f (w7.drewN d) HOE.out (kept_drewN hky d))
                  clear hr6 hr7 hky hkr hBY6
                  go_upto_region 20 with fail
                  go_quiet (fail)
                  go_wp2
                  go_ret2
                  exact HFIN.out _
                | ok pr =>
                  obtain ⟨a, rest2⟩ := pr
                  rw [hd2] at HRI
                  have HD2 := hid_of hd2
                  have hab := intD_bounds HRB.out HD2.out
                  clear hd2
                  go_wp2_with fail
                  refine HRI.out.mono ?_
                  rintro e w6 ⟨q6, bo6, bc6, hrest6, hq6, rfl, hr6, hk6⟩
                  have hI6 := HI5.out.read hk6 hr6 hq6 HVL.out
                  have hO6 := hk6.ownsRow HO5.out (fun g hg e => own_type HO5.out HI5.out.rr (by rw [hg, e]) (by decide))
                  have hBY6 := box_kept hk6 HBY5.out (by have := HWX.out; have := HXS.out; omega)
                  have hBX6 := box_kept hk6 HBX5.out (by have := HWX.out; omega)
                  have hBS6 := box_kept hk6 HBS5.out (by have := HWX.out; have := HXS.out; omega)
                  have hset := setRow_heap w6 (S + 1) _ #[.int .i64 2, .int .i64 a, .slice bo6 0 bc6] 63 (0, 0) hBY6
                  have hkr := kept_row w6 (S + 1) #[.int .i64 2, .int .i64 a, .slice bo6 0 bc6]
                  have HI7 := hid_of (hI6.step hkr (fun i hi e => by have := HWX.out; have := HXS.out; omega) HVL.out)
                  have HO7 := hid_of (hkr.ownsRow hO6 (fun g hg e => own_type hO6 hBY6 (by rw [hg, e]) (by decide)))
                  have HBX7 := hid_of (box_kept hkr hBX6 (by have := HXS.out; omega))
                  have HBS7 := hid_of (box_kept hkr hBS6 (by omega))
                  have HBY7 := hid_of hset
                  have HRS6 := hid_of hrest6
                  clear hI6 hO6 hkr hset hBX6 hBS6 hr6 hk6 HRI HI5 HO5 HBX5 HBS5 HBY5 s1 hrest6
                  go_upto_region 19 with (refine wpList_store_row rfl 63 _ _ rfl (S + 1) #[.int .i64 2, .int .i64 a, .slice bo6 0 bc6] rfl rfl 63 _ hBY6 size82 rfl (three_one _ _ _ rfl rfl rfl) ?_)
                  clear hBY6
                  generalize w6.setRow (S + 1) _ = w7 at *
                  obtain ⟨_, _, q3, _, _⟩ := HI7.out.rr.cells
                  have s2 : w7.cell? ⟨S, 1, none⟩ = some (.int .i64 (1 : Int)) := by rw [cell_block _ _ _ _ _ _ HBS7.out]; rfl
                  have y2 : w7.cell? ⟨S + 1, 1, none⟩ = some (.int .i64 a) := by rw [cell_block _ _ _ _ _ _ HBY7.out]; rfl
                  have x2 : w7.cell? ⟨X, 1, none⟩ = some (.int .i64 (k : Int)) := by rw [cell_block _ _ _ _ _ _ HBX7.out]; rfl
                  have HDM : Hid (oneDI (xs.drop p) = if mayP 1 a = true then .ok (⟨(k : Int), a⟩, rest2) else .error 112) := by unfold Hid; rw [HDI.out, show readK 1 rest = intD rest from rfl, HD2.out]
                  go_wp2_with fail
                  refine (may_ref a w7 1 (by omega)).mono ?_
                  rintro e w8 ⟨rfl, rfl⟩
                  by_cases hmay : mayP 1 a = true
                  · rw [hmay]
                    have HONE : Hid (oneDI (xs.drop p) = .ok (⟨(k : Int), a⟩, rest2)) := by unfold Hid; rw [HDM.out, if_pos hmay]
                    have hyi : (IN.mk (k : Int) a).Ok := ⟨⟨by show -9223372036854775808 ≤ (k : Int); omega, by show (k : Int) < 9223372036854775808; omega⟩, hab⟩
                    have hown8 := HO7.out
                    rw [← HYL.out] at hown8
                    obtain ⟨v9, w9, hr9, ho9, ⟨g9, c9, hv9⟩, hk9⟩ := app_ins w8 (.slice ao ys.length cp) w.heap.size ys ⟨(k : Int), a⟩ hown8 HI7.out.kept.size (by have := HYL.out; omega)
                    have hne9 : ∀ q, (Value.slice ao ys.length cp).ownBlock = some q → w.heap.size < q := fun q hq => by
                      have h1 := (hown8.lt q hq).1
                      rcases Nat.lt_or_ge w.heap.size q with h2 | h2
                      · exact h2
                      · have e : q = w.heap.size := by omega
                        subst e
                        exact (own_type hown8 HI7.out.rr hq (by decide)).elim
                    have HI9 := hid_of (HI7.out.step hk9 (fun i hi e => by have := hne9 i e; omega) HVL.out)
                    have hl9 : (ys ++ [IN.mk (k : Int) a]).length = i + 1 := by rw [List.length_append, HYL.out]; rfl
                    rw [hl9] at hv9
                    subst hv9
                    rw [HYL.out] at hr9
                    rw [hl9] at ho9
                    have HO9 := hid_of ho9
                    have HPL9 : Hid (allD 4096 xs = joinI (ys ++ [IN.mk (k : Int) a]) (allD (4096 - (i + 1)) rest2)) := by
                      unfold Hid
                      rw [HPL.out, show 4096 - i = (4096 - (i + 1)) + 1 by omega]
                      exact joinI_ok HR0.out HONE.out
                    have HOK9 : Hid (∀ y ∈ ys ++ [IN.mk (k : Int) a], y.Ok) := fun z hz => by
                      rcases List.mem_append.1 hz with hz | hz
                      · exact HOK.out z hz
                      · simp at hz; rw [hz]; exact hyi
                    clear hmay hyi hown8 hk9 hne9 ho9 s2 q3
                    go_wp2_with (at_builtin; refine wp_app2 rfl (.tmp 67) (.tmp 73) 48 48 rfl _ _ rfl rfl (.slice (some ⟨g9, 0, none⟩) (i + 1) c9) w9 hr9 ?_)
                    go_roundw
                    case rel => exact ⟨i + 1, q6, c9, some ⟨g9, 0, none⟩, ys ++ [IN.mk (k : Int) a], by omega, hl9, rfl, HO9.out, HI9.out, HOK9.out, by rw [HPL9.out, HRS6.out]⟩
                    case measure => simp [lenOf]; omega
                  · rw [show mayP 1 a = false by simpa using hmay]
                    have HFIN := hid_of (HBAD.out 112 w8 (by rw [HDM.out, if_neg hmay]) HI7.out.kept)
                    clear hmay s2 q3 y2 x2
                    go_wp2
                    go_ret2
                    exact HFIN.out
              · have hm1 : ((m : Int) == 1) = false := by simp; omega
                have hm0 : ((m : Int) != 0) = true := by simp; omega
                have HRI := hid_of (rnum_ref w.heap.size (.slice bao n bc) xs q w5 HI5.out.rr HI5.out.isb HB.out HI5.out.le)
                rw [← HRS.out] at HRI
                have HRB : Hid (BytesOk rest) := by unfold Hid; rw [HRS.out]; exact drop_ok HB.out q
                cases hd2 : numD rest with
                | error f =>
                  rw [hd2] at HRI
                  have hf0 : f ≠ 0 := numD_fault HRB.out.1 hd2
                  have hfb : (f != 0) = true := by simpa using hf0
                  have HOE : Hid (oneDI (xs.drop p) = .error f) := by unfold Hid; rw [HDI.out, readK_ge hm2, hd2]
                  clear hd2
                  go_wp2_with fail
                  refine HRI.out.mono ?_
                  rintro e w6 ⟨q6, rfl, hr6, hk6⟩
                  have hkx := HI5.out.kept.step hk6 (fun i hi e => by omega)
                  have hBY6 := box_kept hk6 HBY5.out (by have := HWX.out; have := HXS.out; omega)
                  have hset := setRow_heap w6 (S + 1) _ #[.int .i64 1, .int .i64 0, .slice none 0 0] 63 (0, 0) hBY6
                  have hkr := kept_row w6 (S + 1) #[.int .i64 1, .int .i64 0, .slice none 0 0]
                  have hr7 := hr6.kept hkr (by have := HWX.out; have := HXS.out; omega)
                  have hky := hkx.step hkr (fun i hi e => by have := HWX.out; have := HXS.out; omega)
                  clear hk6 hkx HRI s1 hset
                  go_upto_region 19 with (refine wpList_store_row rfl 63 _ _ rfl (S + 1) #[.int .i64 1, .int .i64 0, .slice none 0 0] rfl rfl 63 _ hBY6 size82 rfl (three_one _ _ _ rfl rfl rfl) ?_)
                  generalize w6.setRow (S + 1) _ = w7 at *
                  obtain ⟨_, _, q2, _, _⟩ := hr7.cells
                  have HFIN := hid_of (fun (d : Nat) => HBAD.out f (w7.drewN d) HOE.out (kept_drewN hky d))
                  clear hr6 hr7 hky hkr hBY6
                  go_upto_region 20 with fail
                  go_quiet (fail)
                  go_wp2
                  go_ret2
                  exact HFIN.out _
                | ok pr =>
                  obtain ⟨a, rest2⟩ := pr
                  rw [hd2] at HRI
                  have HD2 := hid_of hd2
                  have hab := (numD_split HRB.out.1 HD2.out).2
                  clear hd2
                  go_wp2_with fail
                  refine HRI.out.mono ?_
                  rintro e w6 ⟨q6, bo6, bc6, hrest6, hq6, rfl, hr6, hk6⟩
                  have hI6 := HI5.out.read hk6 hr6 hq6 HVL.out
                  have hO6 := hk6.ownsRow HO5.out (fun g hg e => own_type HO5.out HI5.out.rr (by rw [hg, e]) (by decide))
                  have hBY6 := box_kept hk6 HBY5.out (by have := HWX.out; have := HXS.out; omega)
                  have hBX6 := box_kept hk6 HBX5.out (by have := HWX.out; omega)
                  have hBS6 := box_kept hk6 HBS5.out (by have := HWX.out; have := HXS.out; omega)
                  have hset := setRow_heap w6 (S + 1) _ #[.int .i64 1, .int .i64 a, .slice bo6 0 bc6] 63 (0, 0) hBY6
                  have hkr := kept_row w6 (S + 1) #[.int .i64 1, .int .i64 a, .slice bo6 0 bc6]
                  have HI7 := hid_of (hI6.step hkr (fun i hi e => by have := HWX.out; have := HXS.out; omega) HVL.out)
                  have HO7 := hid_of (hkr.ownsRow hO6 (fun g hg e => own_type hO6 hBY6 (by rw [hg, e]) (by decide)))
                  have HBX7 := hid_of (box_kept hkr hBX6 (by have := HXS.out; omega))
                  have HBS7 := hid_of (box_kept hkr hBS6 (by omega))
                  have HBY7 := hid_of hset
                  have HRS6 := hid_of hrest6
                  clear hI6 hO6 hkr hset hBX6 hBS6 hr6 hk6 HRI HI5 HO5 HBX5 HBS5 HBY5 s1 hrest6
                  go_upto_region 19 with (refine wpList_store_row rfl 63 _ _ rfl (S + 1) #[.int .i64 1, .int .i64 a, .slice bo6 0 bc6] rfl rfl 63 _ hBY6 size82 rfl (three_one _ _ _ rfl rfl rfl) ?_)
                  clear hBY6
                  generalize w6.setRow (S + 1) _ = w7 at *
                  obtain ⟨_, _, q3, _, _⟩ := HI7.out.rr.cells
                  have s2 : w7.cell? ⟨S, 1, none⟩ = some (.int .i64 (m : Int)) := by rw [cell_block _ _ _ _ _ _ HBS7.out]; rfl
                  have y2 : w7.cell? ⟨S + 1, 1, none⟩ = some (.int .i64 a) := by rw [cell_block _ _ _ _ _ _ HBY7.out]; rfl
                  have x2 : w7.cell? ⟨X, 1, none⟩ = some (.int .i64 (k : Int)) := by rw [cell_block _ _ _ _ _ _ HBX7.out]; rfl
                  have HDM : Hid (oneDI (xs.drop p) = if mayP m a = true then .ok (⟨(k : Int), a⟩, rest2) else .error 112) := by unfold Hid; rw [HDI.out, readK_ge hm2, HD2.out]
                  go_wp2_with fail
                  refine (may_ref a w7 m (by omega)).mono ?_
                  rintro e w8 ⟨rfl, rfl⟩
                  by_cases hmay : mayP m a = true
                  · rw [hmay]
                    have HONE : Hid (oneDI (xs.drop p) = .ok (⟨(k : Int), a⟩, rest2)) := by unfold Hid; rw [HDM.out, if_pos hmay]
                    have hyi : (IN.mk (k : Int) a).Ok := ⟨⟨by show -9223372036854775808 ≤ (k : Int); omega, by show (k : Int) < 9223372036854775808; omega⟩, ⟨by show -9223372036854775808 ≤ a; omega, by show a < 9223372036854775808; omega⟩⟩
                    have hown8 := HO7.out
                    rw [← HYL.out] at hown8
                    obtain ⟨v9, w9, hr9, ho9, ⟨g9, c9, hv9⟩, hk9⟩ := app_ins w8 (.slice ao ys.length cp) w.heap.size ys ⟨(k : Int), a⟩ hown8 HI7.out.kept.size (by have := HYL.out; omega)
                    have hne9 : ∀ q, (Value.slice ao ys.length cp).ownBlock = some q → w.heap.size < q := fun q hq => by
                      have h1 := (hown8.lt q hq).1
                      rcases Nat.lt_or_ge w.heap.size q with h2 | h2
                      · exact h2
                      · have e : q = w.heap.size := by omega
                        subst e
                        exact (own_type hown8 HI7.out.rr hq (by decide)).elim
                    have HI9 := hid_of (HI7.out.step hk9 (fun i hi e => by have := hne9 i e; omega) HVL.out)
                    have hl9 : (ys ++ [IN.mk (k : Int) a]).length = i + 1 := by rw [List.length_append, HYL.out]; rfl
                    rw [hl9] at hv9
                    subst hv9
                    rw [HYL.out] at hr9
                    rw [hl9] at ho9
                    have HO9 := hid_of ho9
                    have HPL9 : Hid (allD 4096 xs = joinI (ys ++ [IN.mk (k : Int) a]) (allD (4096 - (i + 1)) rest2)) := by
                      unfold Hid
                      rw [HPL.out, show 4096 - i = (4096 - (i + 1)) + 1 by omega]
                      exact joinI_ok HR0.out HONE.out
                    have HOK9 : Hid (∀ y ∈ ys ++ [IN.mk (k : Int) a], y.Ok) := fun z hz => by
                      rcases List.mem_append.1 hz with hz | hz
                      · exact HOK.out z hz
                      · simp at hz; rw [hz]; exact hyi
                    clear hmay hyi hown8 hk9 hne9 ho9 s2 q3
                    go_wp2_with (at_builtin; refine wp_app2 rfl (.tmp 67) (.tmp 73) 48 48 rfl _ _ rfl rfl (.slice (some ⟨g9, 0, none⟩) (i + 1) c9) w9 hr9 ?_)
                    go_roundw
                    case rel => exact ⟨i + 1, q6, c9, some ⟨g9, 0, none⟩, ys ++ [IN.mk (k : Int) a], by omega, hl9, rfl, HO9.out, HI9.out, HOK9.out, by rw [HPL9.out, HRS6.out]⟩
                    case measure => simp [lenOf]; omega
                  · rw [show mayP m a = false by simpa using hmay]
                    have HFIN := hid_of (HBAD.out 112 w8 (by rw [HDM.out, if_neg hmay]) HI7.out.kept)
                    clear hmay s2 q3 y2 x2
                    go_wp2
                    go_ret2
                    exact HFIN.out
            · rw [show rowS insL op = Sh.none from if_neg hrow, row_not hrow, show Sh.none.cells.toArray = #[.string ⟨#[]⟩, .int .i64 0, .int .i64 0, .int .i64 0] from rfl]
              have HFIN := hid_of (HBAD.out 111 (w4.alloc (.cells #[.string ⟨#[]⟩, .int .i64 0, .int .i64 0, .int .i64 0] 84)) (by
                unfold oneDI
                rw [HD1.out]
                dsimp only
                rw [if_neg (by rw [row_not hrow]; decide)]) (HI4.out.kept.alloc _))
              clear hrow
              go_wp2
              go_ret2
              exact HFIN.out
end Go.Proofs.Ytnjhnlohjhdcpaa
