/-
  filled of the reference by contract.
-/
import Derived.Test.YtjdbmjkidljhpaaDoorKnown
import Derived.Test.YtjdbmjkidljhpaaDoorText
import Derived.Deep.AppendSrc
namespace Go.Proofs.YtjdbmjkidljhpaaDoor
open Go.RowKit
set_option linter.unusedVariables false
set_option maxRecDepth 100000
set_option linter.unusedSimpArgs false

theorem mapc {w : World} {g o : Nat} {xs : List Int} (h : ∀ i, i < xs.length → w.cell? ⟨g, o + i, none⟩ = some (.int .u8 (xs.getD i 0))) : ∀ j u, (xs.map (Value.int .u8))[j]? = some u → w.cell? ((⟨g, o, none⟩ : Addr).add j) = some u := by
  intro j u hj
  have hl : j < xs.length := by
    have := (List.getElem?_eq_some_iff.1 hj).1
    simpa using this
  rw [Addr.add_mid, h j hl]
  rw [List.getElem?_map, List.getElem?_eq_getElem hl] at hj
  simpa [List.getD, List.getElem?_eq_getElem hl] using hj
theorem map1 (xs : List Int) : ∀ u ∈ xs.map (Value.int .u8), u.oneCell' = true := by
  intro u hu
  obtain ⟨x, _, rfl⟩ := List.mem_map.1 hu
  rfl
/-- append of no bytes, from a nil slice. -/
theorem app_nil (W : World) (v : Value) (n base : Nat) (xs : List Value) (ty : TypeId) (c : Nat) (hown : W.ownsRow base 5 1 v n xs) : (Builtin.append_ #[26, 26] ty #[v, .slice none 0 c]).run Tryd.prog W = .ok v W := by
  obtain ⟨i0, hi, hz0, hz1, hz2⟩ := info_parts info5
  rcases hown.2 with ⟨rfl, rfl⟩ | ⟨g, cap, cur, rfl, hb, hg, hn, hm, hs, ht⟩
  · simp [Builtin.append_, run_underlying Tryd.underlying26, sizeOf, typeInfo, hi, Builtin.lenOf, Builtin.firstCells]
  · have := run_append_room_src (P := Tryd.prog) W 26 26 ty 5 i0 Tryd.underlying26 hi g 0 n cap (.slice none 0 c) 0 [] (Src.ofNil W Tryd.underlying26 c) (by omega) (by simp) (by simp)
    simpa [World.setCells] using this

/-- append of bytes onto a row of one's own, from whatever slice they lie in. -/
theorem app_any (W : World) (v : Value) (n base : Nat) (l : List Int) (ty : TypeId) (bv : Value) (xs : List Int) (hown : W.ownsRow base 5 1 v n (l.map (Value.int .u8))) (hx : BIn W bv xs) (hb : base ≤ W.heap.size) (hsz : n + xs.length ≤ 140737488355328) :
    ∃ v' w', (Builtin.append_ #[26, 26] ty #[v, bv]).run Tryd.prog W = .ok v' w' ∧ w'.ownsRow base 5 1 v' (n + xs.length) ((l ++ xs).map (Value.int .u8)) ∧ W.grownBy w' v.ownBlock := by
  obtain ⟨i0, hi, hz0, hz1, hz2⟩ := info_parts info5
  have key : ∀ (p : Addr) (c : Nat), (∀ j u, (xs.map (Value.int .u8))[j]? = some u → W.cell? (p.add j) = some u) → ∃ v' w', (Builtin.append_ #[26, 26] ty #[v, .slice (some p) xs.length c]).run Tryd.prog W = .ok v' w' ∧ w'.ownsRow base 5 1 v' (n + xs.length) ((l ++ xs).map (Value.int .u8)) ∧ W.grownBy w' v.ownBlock := by
    intro p c hc
    obtain ⟨v', w', hr, h2, h3, h4⟩ := run_append_own (P := Tryd.prog) W base 26 ty 5 i0 (.int .u8 0) 1 1 Tryd.underlying26 hi hz0 hz1 hz2 rfl (by decide) v n _ hown p xs.length c (xs.map (Value.int .u8)) (by simp) hc (map1 xs) (by unfold maxLen; omega) (by omega) hb
    exact ⟨v', w', hr, by rw [List.map_append]; exact h2, h3⟩
  obtain ⟨ao, c, rfl, hc, hx⟩ := hx
  cases ao with
  | none =>
    have e : xs = [] := by
      rcases hx with h | ⟨b, o, h, _⟩
      · exact h
      · cases h
    subst e
    exact ⟨v, W, app_nil W v n base _ ty c hown, by simpa using hown, ⟨rfl, rfl, rfl, Nat.le_refl _, fun _ _ _ => rfl⟩⟩
  | some p =>
    refine key p c ?_
    rcases hx with rfl | ⟨b, o, h, hx⟩
    · intro j u hj
      simp at hj
    · cases h
      exact mapc hx

/-- An append whose outcome is known, for the walk. -/
theorem wp_app {w : World} {ops : Array Oper} {rest : List Oper} {o : Oper} {a : Act} {Q : Exit → Act → World → Prop} (hgd : o.guard = none) (s x : Operand) (t u : TypeId)
    (ho : o.op = .call { callee := .builtin .append, args := #[s, x], argTypes := #[t, u] }) (v bv : Value) (hs : a.eval s = v) (hx : a.eval x = bv) (v' : Value) (w' : World)
    (hr : (Builtin.append_ #[t, u] o.type #[v, bv]).run Tryd.prog w = .ok v' w') (h : wpList Tryd.prog ops Q rest (a.put o.dst v') w') : wpList Tryd.prog ops Q (o :: rest) a w := by
  refine wpList_plain hgd fun K hK => ?_
  unfold Oper.wp execOp
  simp only [ho, resolve, invoke, builtin, Sem.run_bind, Sem.run_pure, Result.andThen_ok, List.map_toArray, List.map_cons, List.map_nil, hs, hx, hr]
  exact hK _ _ h

/-- One byte more onto a row of one's own. -/
theorem app_one (W : World) (v : Value) (n base : Nat) (l : List Int) (ty : TypeId) (x : Int) (hown : W.ownsRow base 5 1 v n (l.map (Value.int .u8))) (hb : base ≤ W.heap.size) (hsz : n + 1 ≤ 140737488355328) :
    ∃ v' w', (Builtin.append_ #[26, 26] ty #[v, .slice (some ⟨W.heap.size, 0, none⟩) 1 1]).run Tryd.prog (W.alloc (.cells #[.int .u8 x] 5)) = .ok v' w' ∧ w'.ownsRow base 5 1 v' (n + 1) ((l ++ [x]).map (Value.int .u8)) ∧ (∃ g cap, v' = .slice (some ⟨g, 0, none⟩) (n + 1) cap) ∧ Kept (fun k => base ≤ k) W w' := by
  obtain ⟨v', w', hr, h2, h3⟩ := app_any (W.alloc (.cells #[.int .u8 x] 5)) v n base l ty (.slice (some ⟨W.heap.size, 0, none⟩) 1 1) [x] (hown.alloc _) (bin_new (xs := [x]) (t := 5) (f := (0, 0)) (alloc_new _ _ rfl) rfl (Nat.le_refl _)) (by simp; omega) (by simpa using hsz)
  refine ⟨v', w', hr, h2, ?_, ?_⟩
  · rcases h2.2 with ⟨_, h⟩ | ⟨g, cap, cur, h, _⟩
    · simp at h
    · exact ⟨g, cap, h⟩
  · exact ((Kept.refl (fun k => base ≤ k) W).alloc _).grown h3 (fun k hk => .inr (hown.lt k hk).1)

theorem fill_stop (n z : Nat) (hz : z ≤ zeros n) : ((n + 1 + z) % 64 = 56) ↔ z = zeros n := by
  unfold zeros at *
  omega
def vlen : Value → Nat
  | .slice _ n _ => n
  | _ => 0

set_option maxRecDepth 100000 in
set_option maxHeartbeats 1000000 in
theorem filled_any (bv : Value) (xs : List Int) (w : World) (hx : BIn w bv xs) (hn : xs.length ≤ 4294967296) :
    Calls Tryd.prog 47 #[bv] w fun e w' => ∃ v', e = .returned v' ∧ w'.ownsRow w.heap.size 5 1 v' (xs.length + (pad xs.length).length) ((xs ++ pad xs.length).map (Value.int .u8)) ∧ Kept (fun _ => False) w w' := by
  obtain ⟨v1, w1, hr1, ho1, hg1⟩ := app_any w (.slice none 0 0) 0 w.heap.size [] 26 bv xs (World.ownsRow_nil _ _ _ _) hx (Nat.le_refl _) (by omega)
  rw [Nat.zero_add, List.nil_append] at ho1
  have hk1 : Kept (fun k => w.heap.size ≤ k) w w1 := (Kept.refl (fun k => w.heap.size ≤ k) w).grown hg1 (fun k hk => by cases hk)
  obtain ⟨v2, w2, hr2, ho2, ⟨g2, cap2, rfl⟩, hk2⟩ := app_one w1 v1 xs.length w.heap.size xs 26 128 ho1 hk1.size (by omega)
  have hK2 := hk1.trans hk2
  obtain ⟨ao, c, rfl⟩ : ∃ ao c, bv = .slice ao xs.length c := by
    obtain ⟨ao, c, h, _⟩ := hx
    exact ⟨ao, c, h⟩
  have HO2 := hid_of ho2
  have HK2 := hid_of hK2
  clear hg1 ho1 ho2 hk1 hk2 hK2 hx
  go_enter Tryd.func47, Tryd.ntmps47
  go_wp2_with (first | (refine wp_app rfl (.tmp 6) (.tmp 7) 26 26 ?_ _ _ rfl rfl v1 w1 ?_ ?_; rfl; exact hr1) | (refine wp_app rfl (.tmp 9) (.tmp 10) 26 26 ?_ _ _ rfl rfl (.slice (some ⟨g2, 0, none⟩) (xs.length + 1) cap2) w2 ?_ ?_; rfl; exact hr2))
  clear hr1 hr2
  generalize hz : zeros xs.length = z at *
  have HZ := hid_of hz
  have hz64 : z < 64 := by rw [← hz]; unfold zeros; omega
  clear hz
  have HST : Hid (∀ y, y ≤ z → ((xs.length + 1 + y) % 64 = 56 ↔ y = z)) := fun y hy => by
    have := fill_stop xs.length y (by rw [HZ.out]; exact hy)
    rw [HZ.out] at this
    exact this
  generalize hN : xs.length = n at *
  have HN := hid_of hN
  clear hN
  have HO2' : Hid (w2.ownsRow w.heap.size 5 1 (.slice (some ⟨g2, 0, none⟩) (n + 1) cap2) (n + 1 + 0) ((xs ++ (128 :: List.replicate 0 0)).map (Value.int .u8))) := HO2.out
  clear HO2
  go_loopw [3] (fun v wr => ∃ (y g cap : Nat), y ≤ z ∧ v = .slice (some ⟨g, 0, none⟩) (n + 1 + y) cap ∧ wr.ownsRow w.heap.size 5 1 v (n + 1 + y) ((xs ++ (128 :: List.replicate y 0)).map (Value.int .u8)) ∧ Kept (fun k => w.heap.size ≤ k) w wr) (fun v _ => n + 1 + z - vlen v)
  case atStart => exact ⟨0, g2, cap2, by omega, rfl, HO2'.out, HK2.out⟩
  case round =>
    clear HO2' HK2
    obtain ⟨y, g, cap, hy, rfl, hO, hK⟩ := hrel
    have hst := HST.out y hy
    by_cases hlt : y = z
    · subst hlt
      have h56 : (n + 1 + y) % 64 = 56 := hst.2 rfl
      have h56I : ((n : Int) + 1 + (y : Int)) % 64 = 56 := by omega
      have HO := hid_of hO
      have HK := hid_of hK
      clear hst hO hK
      go_wp2
      have HO2 : Hid (wr.ownsRow w.heap.size 5 1 (.slice (some ⟨g, 0, none⟩) (n + 1 + y) cap) (n + 1 + y + 0) ((xs ++ (128 :: (List.replicate y 0 ++ (lenb n).take 0))).map (Value.int .u8))) := by
        rw [List.take_zero, List.append_nil]
        exact HO.out
      clear HO h56 h56I
      go_loopw [3, 5] (fun v i wr => ∃ (j g cap : Nat), j ≤ 8 ∧ i = .int .i64 j ∧ v = .slice (some ⟨g, 0, none⟩) (n + 1 + y + j) cap ∧ wr.ownsRow w.heap.size 5 1 v (n + 1 + y + j) ((xs ++ (128 :: (List.replicate y 0 ++ (lenb n).take j))).map (Value.int .u8)) ∧ Kept (fun k => w.heap.size ≤ k) w wr) (fun _ i _ => 8 - (intOf i).toNat)
      case atStart => exact ⟨0, g, cap, by omega, rfl, rfl, HO2.out, HK.out⟩
      case round =>
        clear HO2 HK
        obtain ⟨j, g, cap, hj, rfl, rfl, hO, hK⟩ := hrel
        by_cases hjt : j < 8
        · have hjI : (j : Int) < 8 := by omega
          obtain ⟨v3, w3, hr3, ho3, ⟨g3, cap3, rfl⟩, hk3⟩ := app_one wr _ _ _ _ 26 (lbyte n j) hO hK.size (by omega)
          have HO3 : Hid (w3.ownsRow w.heap.size 5 1 (.slice (some ⟨g3, 0, none⟩) (n + 1 + y + (j + 1)) cap3) (n + 1 + y + (j + 1)) ((xs ++ (128 :: (List.replicate y 0 ++ (lenb n).take (j + 1)))).map (Value.int .u8))) := by
            have e : (lenb n).take (j + 1) = (lenb n).take j ++ [lbyte n j] := by
              rw [List.take_add_one, lenb, List.getElem?_map, List.getElem?_range hjt]
              rfl
            rw [e, ← List.append_assoc (List.replicate y 0), ← List.cons_append, ← List.append_assoc]
            exact ho3
          have HK3 := hid_of (hK.trans (hk3.mono (fun _ _ h => h)))
          clear hO hK ho3 hk3
          have hlb : (n : Int) * 8 / 2 ^ (8 * (7 - j)) % 256 = lbyte n j := by
            rw [show 8 * (7 - j) = 56 - 8 * j by omega, lbyte, Int.mul_comm]
          rw [← hlb] at hr3
          clear hlb
          go_wp2_with (refine wp_app rfl (.tmp 27) (.tmp 34) 26 26 ?_ _ _ rfl rfl (.slice (some ⟨g3, 0, none⟩) (n + 1 + y + j + 1) cap3) w3 ?_ ?_; rfl; exact hr3)
          go_roundw
          case rel => exact ⟨j + 1, g3, cap3, by omega, by go_num, by first | rfl | go_num, HO3.out, HK3.out⟩
          case measure => simp [intOf]; omega
        · obtain rfl : j = 8 := by omega
          rw [List.take_of_length_le (by simp [lenb])] at hO
          have HO3 : Hid (wr.ownsRow w.heap.size 5 1 (.slice (some ⟨g, 0, none⟩) (n + 1 + y + 8) cap) (n + (pad n).length) ((xs ++ pad n).map (Value.int .u8))) := by
            rw [pad_length, pad, HZ.out, show n + (9 + y) = n + 1 + y + 8 by omega]
            exact hO
          have HK3 : Hid (Kept (fun _ => False) w wr) := ⟨hK.os, hK.tape, hK.output, hK.size, fun i hi hn => hK.block i hi (by omega)⟩
          clear hO hK
          go_wp2
          go_ret
          refine ⟨_, rfl, ?_, HK3.out⟩
          rw [HN.out]
          exact HO3.out
    · have h56 : ¬ (n + 1 + y) % 64 = 56 := fun h => hlt (hst.1 h)
      have h56I : ¬ ((n : Int) + 1 + (y : Int)) % 64 = 56 := by omega
      obtain ⟨v3, w3, hr3, ho3, ⟨g3, cap3, rfl⟩, hk3⟩ := app_one wr _ _ _ _ 26 0 hO hK.size (by omega)
      have HO3 : Hid (w3.ownsRow w.heap.size 5 1 (.slice (some ⟨g3, 0, none⟩) (n + 1 + (y + 1)) cap3) (n + 1 + (y + 1)) ((xs ++ (128 :: List.replicate (y + 1) 0)).map (Value.int .u8))) := by
        rw [List.append_assoc, List.cons_append, ← List.replicate_succ'] at ho3
        exact ho3
      have HK3 := hid_of (hK.trans (hk3.mono (fun _ _ h => h)))
      clear hst hO hK ho3 hk3 h56
      go_wp2_with (refine wp_app rfl (.tmp 16) (.tmp 17) 26 26 ?_ _ _ rfl rfl (.slice (some ⟨g3, 0, none⟩) (n + 1 + y + 1) cap3) w3 ?_ ?_; rfl; exact hr3)
      go_roundw
      case rel => exact ⟨y + 1, g3, cap3, by omega, by first | rfl | go_num, HO3.out, HK3.out⟩
      case measure => simp [vlen]; omega
end Go.Proofs.YtjdbmjkidljhpaaDoor
