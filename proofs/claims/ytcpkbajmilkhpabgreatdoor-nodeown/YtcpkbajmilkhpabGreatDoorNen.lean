/-
  node.Encode by contract.
-/
import Derived.Test.YtcpkbajmilkhpabGreatDoorNck
import Derived.Test.YtcpkbajmilkhpabGreatDoorNfe
import Derived.Deep.Onto
namespace Go.Proofs.YtcpkbajmilkhpabGreatDoor
open Go.RowKit
set_option linter.unusedVariables false
set_option linter.unusedSimpArgs false
set_option maxRecDepth 100000

theorem size45 : (Tryz.prog.info? 39).map (·.size) = some 32 := by kernel_rfl

/-- An entry is put. -/
def St.ent (s : St) (y : EV) : St := ((s.num y.k).put (Mth.form y.nm.length ++ y.nm)).put (Mth.form y.fr.length ++ y.fr)
/-- Entries are put. -/
def St.ents (s : St) : List EV → St
  | [] => s
  | y :: ys => (s.ent y).ents ys
theorem St.ents_snoc : ∀ (ys : List EV) (s : St) (y : EV), s.ents (ys ++ [y]) = (s.ents ys).ent y
  | [], s, y => rfl
  | z :: zs, s, y => St.ents_snoc zs (s.ent z) y
/-- A list, as it is put. -/
def encS (ys : List EV) : St := ((St.num (Except.ok []) 1).num ys.length).ents ys

theorem goodE_each {P : List Int → Bool} : ∀ (ys : List EV) (ah : List Int), goodE P ah ys = true → ∀ y ∈ ys, (y.k = 1 ∨ y.k = 2) ∧ P y.nm = true
  | [], _, _, y, hy => by cases hy
  | z :: zs, ah, h, y, hy => by
    rw [goodE, Bool.and_eq_true, Bool.and_eq_true, Bool.and_eq_true] at h
    rcases List.mem_cons.1 hy with rfl | hy
    · exact ⟨of_decide_eq_true h.1, h.2.1.1⟩
    · exact goodE_each zs z.nm h.2.2 y hy

theorem checkD_zero {P : List Int → Bool} {ys : List EV} (h : checkD P ys = 0) : ys.length ≤ 1024 ∧ goodE P [] ys = true := by
  unfold checkD at h
  split at h
  · cases h
  · split at h
    · exact ⟨by omega, by assumption⟩
    · cases h
/-- What Encode answers. -/
def EncR (P : List Int → Bool) (ys : List EV) (w : World) (e : Ending) (w' : World) : Prop :=
  Kept (fun _ => False) w w' ∧
  if checkD P ys = 0 then ∃ v', e = .returned (.tuple #[v', .int .i64 (encS ys).err]) ∧ w'.ownsRow w.heap.size 5 1 v' (encS ys).bytes.length ((encS ys).bytes.map (Value.int .u8))
  else e = .returned (.tuple #[.slice none 0 0, .int .i64 (checkD P ys)])

/-- What holds while entries are put. -/
structure EnI (w wr : World) (a : Nat) (wv : Value) (s : St) : Prop where
  ws : WS wr a wv s
  kept : Kept (fun _ => False) w wr
  new : w.heap.size ≤ a ∧ ∀ g, wv.ownBlock = some g → w.heap.size ≤ g

theorem EnI.put {w wr w' : World} {a : Nat} {wv : Value} {s s' : St} {e : Ending} (h : EnI w wr a wv s) (hp : PutS a wv s' wr e w') : e = .returned (.tuple #[]) ∧ ∃ wv', EnI w w' a wv' s' ∧ Kept (fun k => k = a ∨ wv.ownBlock = some k) wr w' ∧ (∀ g, wv'.ownBlock = some g → wv.ownBlock = some g ∨ wr.heap.size ≤ g) := by
  obtain ⟨he, wv', h1, h2, h3⟩ := hp
  refine ⟨he, wv', ⟨h1, h.kept.step h2 (fun i hi e => ?_), h.new.1, fun g hg => ?_⟩, h2, h3⟩
  · rcases e with rfl | e
    · exact absurd h.new.1 (by omega)
    · exact absurd (h.new.2 i e) (by omega)
  · rcases h3 g hg with h4 | h4
    · exact h.new.2 g h4
    · have := h.kept.size
      omega
theorem EnI.step {w wr w' : World} {a : Nat} {wv : Value} {s : St} {S : Nat → Prop} (h : EnI w wr a wv s) (hk : Kept S wr w') (hS : ∀ i, i < wr.heap.size → ¬ S i) : EnI w w' a wv s :=
  ⟨h.ws.kept hk (hS a h.ws.size) (fun g hg => hS g (h.ws.lt g hg).1), h.kept.step hk (fun i hi e => absurd e (hS i (Nat.lt_of_lt_of_le hi h.kept.size))), h.new⟩

theorem ws_new (w : World) : EnI w (w.alloc (.cells #[.slice none 0 0, .int .i64 0] 75)) w.heap.size (.slice none 0 0) (.ok []) :=
  ⟨⟨⟨heap_alloc_new _ _, World.ownsRow_nil _ _ _ _, by simp [Value.ownBlock]⟩, by simp⟩, (Kept.refl _ _).alloc _, Nat.le_refl _, fun g hg => by simp [Value.ownBlock] at hg⟩

set_option maxHeartbeats 4000000 in
theorem encode_any (P : List Int → Bool) (HP : NameC P) (v : Value) (ys : List EV) (w : World) (hv : RowE w v ys) (hvl : ∀ g, v.ownBlock = some g → g < w.heap.size) (hy : ∀ y ∈ ys, y.fr.length ≤ 32 ∧ endsZ y.fr = false) (hP64 : ∀ nm, P nm = true → nm.length ≤ 64) (hb : ∀ y ∈ ys, ∀ x ∈ y.nm, 0 ≤ x ∧ x ≤ 255) (hkr : ∀ y ∈ ys, -9223372036854775808 ≤ y.k ∧ y.k < 9223372036854775808) :
    Calls Tryz.prog 6 #[v] w (EncR P ys w) := by
  obtain ⟨ao, c, rfl⟩ := hv.shape
  have HC := hid_of (check_any P HP (.slice ao ys.length c) ys w hv (fun y hy' => (hy y hy').1) hb)
  obtain ⟨n, hn⟩ : ∃ n, n = ys.length := ⟨_, rfl⟩
  have HN := hid_of hn
  have HV := hid_of hv
  have HY := hid_of hy
  have HB := hid_of hb
  have HVL := hid_of hvl
  have HKR := hid_of hkr
  by_cases hc0 : checkD P ys = 0
  · have HNL : Hid (∀ y ∈ ys, y.nm.length ≤ 64) := fun y hy => hP64 _ (goodE_each ys [] (checkD_zero hc0).2 y hy).2
    have hn4 : n ≤ 1024 := by
      unfold checkD at hc0
      split at hc0
      · cases hc0
      · omega
    have HD : Hid (∀ e w', Kept (fun _ => False) w w' → (∃ v', e = .returned (.tuple #[v', .int .i64 (encS ys).err]) ∧ w'.ownsRow w.heap.size 5 1 v' (encS ys).bytes.length ((encS ys).bytes.map (Value.int .u8))) → EncR P ys w e w') := fun e w' h1 h2 => ⟨h1, by rw [if_pos hc0]; exact h2⟩
    rw [hc0] at HC
    rw [← hn] at HC ⊢
    clear hv hvl hy hb hkr hn hc0 HP hP64
    go_enter Tryz.func6, Tryz.ntmps6
    go_wp2_with fail
    refine HC.out.mono ?_
    rintro e w1 ⟨rfl, hk1⟩
    have HK1 := hid_of hk1
    have HNW := hid_of (new_any w1)
    clear hk1 HC
    go_wp2_with fail
    refine HNW.out.mono ?_
    rintro e w2 ⟨rfl, hw2⟩
    have hE2 : EnI w1 w2 w1.heap.size (.slice none 0 0) (.ok []) := by rw [hw2]; exact ws_new w1
    clear hw2 HNW
    have HN1 := hid_of (num_s w1.heap.size _ _ 1 w2 hE2.ws (by decide) (by decide))
    have HE2 := hid_of hE2
    clear hE2
    go_wp2_with fail
    refine HN1.out.mono ?_
    rintro e w3 hp3
    obtain ⟨rfl, wv3, hE3, -, -⟩ := HE2.out.put hp3
    clear hp3 HN1 HE2
    have HN2 := hid_of (num_s w1.heap.size _ _ (n : Int) w3 hE3.ws (by omega) (by omega))
    have HE3 := hid_of hE3
    clear hE3
    go_wp2_with fail
    refine HN2.out.mono ?_
    rintro e w4 hp4
    obtain ⟨rfl, wv4, hE4, -, -⟩ := HE3.out.put hp4
    have HE4 := hid_of hE4
    clear hp4 HN2 HE3 hE4
    have HEN : Hid (encS ys = ((St.num (Except.ok []) 1).num (n : Int)).ents ys) := by unfold Hid encS; rw [HN.out]
    generalize (St.num (Except.ok []) 1).num (n : Int) = s4 at *
    go_wp2
    go_loopw [22] (fun iv wr => ∃ (i : Nat) (wv : Value), i ≤ n ∧ iv = .int .i64 i ∧ EnI w1 wr w1.heap.size wv (s4.ents (ys.take i))) (fun iv _ => n - (intOf iv).toNat)
    case atStart => exact ⟨0, wv4, by omega, rfl, HE4.out⟩
    case round =>
      obtain ⟨i, wv, hi, rfl, hE⟩ := hrel
      clear HE4
      by_cases hlt : i < n
      · have hltI : (i : Int) < (n : Int) := by omega
        have hi0 : (0 : Int) ≤ (i : Int) := by omega
        have hly : i < ys.length := by rw [← HN.out]; exact hlt
        obtain ⟨y, hyi⟩ : ∃ y, ys[i]? = some y := ⟨_, List.getElem?_eq_getElem hly⟩
        obtain ⟨hy32, hyz⟩ := HY.out y (List.mem_of_getElem? hyi)
        have hnb := HB.out y (List.mem_of_getElem? hyi)
        have hnl := HNL.out y (List.mem_of_getElem? hyi)
        obtain ⟨hk0, hk9⟩ := HKR.out y (List.mem_of_getElem? hyi)
        have hst : s4.ents (ys.take (i + 1)) = (s4.ents (ys.take i)).ent y := by
          rw [List.take_add_one, hyi]
          exact St.ents_snoc _ _ _
        obtain ⟨g, o, e1, r1⟩ : ∃ g o, ao = some ⟨g, o, none⟩ ∧ wr.rangeAt g (o + i * 34) y.cells := by
          rcases HV.out.kept (HK1.out.trans hE.kept) (fun _ _ f => f) with ⟨e, _⟩ | ⟨g, o, c2, e, hc⟩
          · rw [e] at hly; simp at hly
          · cases e; exact ⟨g, o, rfl, hc i y hyi⟩
        subst e1
        have hyl := EV.clen y hy32
        have hsz : (Tryz.prog.info? 41).map (·.size) = some y.cells.length := by rw [size47, hyl]
        have hO := heap_alloc_new wr (.cells (entA ⟨#[]⟩ 0 []) 41)
        have hkO : Kept (fun _ => False) wr (wr.alloc (.cells (entA ⟨#[]⟩ 0 []) 41)) := (Kept.refl _ _).alloc _
        have hw : wr.alloc (.cells (entA ⟨#[]⟩ 0 []) 41) = wr.alloc (.cells _ 41) := congrArg (fun c => wr.alloc (.cells c 41)) (entA_new ⟨#[]⟩ 0)
        rw [hw] at hO hkO
        clear hw
        have hs34 : (Tryz.prog.info? 41).map (·.size) = some y.cells.toArray.size := by rw [size47, List.size_toArray, hyl]
        have ho34 : (entA ⟨#[]⟩ 0 []).size = y.cells.toArray.size := by rw [entA_size _ _ _ (by decide), List.size_toArray, hyl]
        have h1c : y.cells.toArray.all (·.oneCell') = true := entA_cells (str y.nm) y.k y.fr
        have HE := hid_of hE
        have HST := hid_of hst
        have HNB := hid_of hnb
        clear hE hst hnb hyi hly
        go_upto_region 10 with (first | refine wpList_load_mid rfl 41 _ rfl g (o + i * 34) rfl y.cells _ r1 Tryz.underlying41 rfl hsz ?_ | refine wpList_store_row rfl 41 _ _ rfl wr.heap.size y.cells.toArray rfl rfl 41 _ hO hs34 ho34 h1c ?_)
        have hO' : (wr.alloc (.cells _ 41)).heap[wr.heap.size]? = some (.cells (entA ⟨#[]⟩ 0 []) 41 (0, 0)) := hO
        generalize wr.alloc (.cells _ 41) = wO at *
        have hX := setRow_heap wO wr.heap.size _ y.cells.toArray 41 (0, 0) hO'
        have hk2 : Kept (fun _ => False) wr (wO.setRow wr.heap.size y.cells.toArray) := hkO.step (kept_row wO wr.heap.size _) (fun i hi e => by omega)
        clear hO hO' hkO ho34 h1c hs34 hsz r1
        generalize wO.setRow wr.heap.size y.cells.toArray = w5 at *
        have hE5 := HE.out.step hk2 (fun _ _ f => f)
        have hal := HE.out.ws.size
        have hvl5 : ∀ q, wv.ownBlock = some q → q < wr.heap.size := fun q hq => (HE.out.ws.lt q hq).1
        have x1 : w5.cell? ⟨wr.heap.size, 1, none⟩ = some (.int .i64 y.k) := by rw [cell_block _ _ _ _ _ _ hX]; rfl
        have xl : wr.heap.size < w5.heap.size := (Array.getElem?_eq_some_iff.1 hX).1
        have HNK := hid_of (num_s w1.heap.size _ _ y.k w5 hE5.ws hk0 hk9)
        have HX5 := hid_of hX
        have HE5 := hid_of hE5
        clear hX hE5 HE hk2 hk0 hk9
        go_wp2_with fail
        refine HNK.out.mono ?_
        rintro e w6 hp6
        obtain ⟨rfl, wv6, hE6, hk6, hn6⟩ := HE5.out.put hp6
        have hX6 := (hk6.block wr.heap.size xl (fun e => e.elim (fun e => by omega) (fun e => by have := hvl5 _ e; omega))).trans HX5.out
        have x0 : w6.cell? ⟨wr.heap.size, 0, none⟩ = some (.string (str y.nm)) := by rw [cell_block _ _ _ _ _ _ hX6]; rfl
        have xl6 : wr.heap.size < w6.heap.size := (Array.getElem?_eq_some_iff.1 hX6).1
        have hT := text_s w1.heap.size _ _ (str y.nm) w6 hE6.ws (by rw [str_size]; unfold maxLen; omega)
        rw [str_size, str_nums _ HNB.out] at hT
        have hvl6 : ∀ q, wv6.ownBlock = some q → q ≠ wr.heap.size := fun q hq => by
          rcases hn6 q hq with h | h
          · have := hvl5 q h; omega
          · omega
        have HT := hid_of hT
        have HX6 := hid_of hX6
        have HE6 := hid_of hE6
        clear hX6 hE6 hT hp6 HNK HE5 x1 xl hk6 hn6
        go_wp2_with fail
        refine HT.out.mono ?_
        rintro e w7 hp7
        obtain ⟨rfl, wv7, hE7, hk7, -⟩ := HE6.out.put hp7
        have hX7 := (hk7.block wr.heap.size xl6 (fun e => e.elim (fun e => by omega) (fun e => hvl6 _ e rfl))).trans HX6.out
        have r7 : w7.rangeAt wr.heap.size 2 (y.dig.map (Value.int .u8)) := fun j u hj => by
          rw [cell_block _ _ _ _ _ _ hX7, EV.cells_dig, List.getElem?_toArray, show 2 + j = j + 1 + 1 by omega, List.getElem?_cons_succ, List.getElem?_cons_succ]
          exact hj
        have xl7 : wr.heap.size < w7.heap.size := (Array.getElem?_eq_some_iff.1 hX7).1
        have hdl := y.dig_len hy32
        have hs45 : (Tryz.prog.info? 39).map (·.size) = some (y.dig.map (Value.int .u8)).length := by rw [size45, List.length_map, hdl]
        have HF := hid_of (front_any y w7 hy32 hyz)
        have hbA := heap_alloc_new w7 (.cells (y.dig.map (Value.int .u8)).toArray 39)
        have hE8 := hE7.step ((Kept.refl (fun _ => False) w7).alloc (.cells (y.dig.map (Value.int .u8)).toArray 39)) (fun _ _ f => f)
        have HBY := hid_of (bytes_s w1.heap.size wv7 _ w7.heap.size 0 y.fr.length 32 y.fr _ hE8.ws rfl (by unfold maxLen; omega) (by have := hE7.ws.size; omega) (fun e => by have := (hE7.ws.lt _ e).1; omega) (fun j hj => by
          rw [cell_block _ _ _ _ _ _ hbA, Nat.zero_add]
          simp only [List.getElem?_toArray, List.getElem?_map]
          rw [← dig_front y j hj, List.getD, List.getElem?_eq_getElem (by omega : j < y.dig.length)]
          rfl))
        have HE8 := hid_of hE8
        clear hE7 hE8 hX7 hk7 hp7 HT HE6 HX6 x0 xl6 hbA hdl hvl6 hvl5
        go_wp2_with (refine wpList_load_mid rfl 39 _ rfl wr.heap.size 2 rfl (y.dig.map (Value.int .u8)) _ r7 Tryz.underlying39 rfl hs45 ?_)
        refine HF.out.mono ?_
        rintro e w8 ⟨rfl, hw8⟩
        rw [← hw8] at HE8 HBY
        clear hw8 HF r7
        go_wp2_with fail
        refine HBY.out.mono ?_
        rintro e w9 hp9
        obtain ⟨rfl, wv9, hE9, -, -⟩ := HE8.out.put hp9
        have HREL : Hid (EnI w1 w9 w1.heap.size wv9 (s4.ents (ys.take (i + 1)))) := by unfold Hid; rw [HST.out]; exact hE9
        clear hp9 hE9 HE8 HBY
        go_wp2
        go_roundw
        case rel => exact ⟨i + 1, wv9, by omega, by go_num, HREL.out⟩
        case measure => simp [intOf]; omega
      · have hnl : ¬ ((i : Int) < (n : Int)) := by omega
        have hie : i = n := by omega
        subst hie
        rw [List.take_of_length_le (by rw [HN.out]; exact Nat.le_refl _), ← HEN.out] at hE
        have HDN := hid_of (done_s w1.heap.size wv (encS ys) wr hE.ws)
        have HKE := hid_of (HK1.out.trans hE.kept)
        have hs1 : w.heap.size ≤ wr.heap.size := HKE.out.size
        clear hE
        go_wp2_with fail
        refine HDN.out.mono ?_
        rintro e w9 ⟨v', rfl, ho, hbl⟩
        have HR : Hid (EncR P ys w (.returned (.tuple #[v', .int .i64 (encS ys).err])) w9) := HD.out _ _ (HKE.out.step (kept_of_below hbl) (fun i hi e => by omega)) ⟨v', rfl, World.ownsRow.mono ho hs1⟩
        clear ho hbl HDN
        go_wp2
        go_ret2
        exact HR.out
  · have hcb : (checkD P ys != 0) = true := by simpa using hc0
    have HR : Hid (∀ w', Kept (fun _ => False) w w' → EncR P ys w (.returned (.tuple #[.slice none 0 0, .int .i64 (checkD P ys)])) w') := fun w' h => ⟨h, by rw [if_neg hc0]⟩
    rw [← hn] at HC ⊢
    clear hv hvl hy hb hkr hn hc0 HP hP64
    generalize checkD P ys = cd at *
    go_enter Tryz.func6, Tryz.ntmps6
    go_wp2_with fail
    refine HC.out.mono ?_
    rintro e w1 ⟨rfl, hk1⟩
    have HK := hid_of hk1
    clear hk1 HC
    go_wp2
    go_ret2
    exact HR.out _ HK.out
end Go.Proofs.YtcpkbajmilkhpabGreatDoor
