/-
  node.Check by contract.
-/
import Derived.Test.YtcpkbajmilkhpabGreatDoorNsm
namespace Go.Proofs.YtcpkbajmilkhpabGreatDoor
open Go.RowKit
set_option linter.unusedVariables false
set_option linter.unusedSimpArgs false
set_option maxRecDepth 100000

/-- May entries stand behind a name? -/
def goodE (P : List Int → Bool) : List Int → List EV → Bool
  | _, [] => true
  | ah, y :: ys => decide (y.k = 1 ∨ y.k = 2) && ((P y.nm && lessB ah y.nm) && goodE P y.nm ys)
/-- What Check answers. -/
def checkD (P : List Int → Bool) (ys : List EV) : Int := if 1024 < ys.length then 2 else if goodE P [] ys = true then 0 else 51

theorem lit_any (X : Nat) (s : ByteArray) (w : World) (hc : w.cell? ⟨X, 0, none⟩ = some (.string s)) (hl : X < w.heap.size) :
    Calls Tryz.prog 39 #[.pointer (some ⟨X, 0, none⟩)] w fun e w' => e = .returned (.string s) ∧ w' = w := by
  go_enter Tryz.func39, Tryz.ntmps39
  go_wp2
  go_ret
  exact ⟨rfl, rfl⟩

set_option maxHeartbeats 1000000 in
theorem nameof_lit (P : List Int → Bool) (HP : NameC P) (k : Int) (ahead nm : List Int) (X : Nat) (w : World) (hk : k = 1 ∨ k = 2) (hc : w.cell? ⟨X, 0, none⟩ = some (.string (str nm))) (hl : X < w.heap.size) (hb : ∀ x ∈ nm, 0 ≤ x ∧ x ≤ 255) :
    Calls Tryz.prog 38 #[.int .i64 k, .string (str ahead), .func (.func 39) #[] #[.pointer (some ⟨X, 0, none⟩)]] w fun e w' => e = .returned (.tuple #[.string (str nm), .bool (P nm && lessB ahead nm)]) ∧ Kept (fun _ => False) w w' := by
  have HT := hid_of (lit_any X (str nm) w hc hl)
  have HN := hid_of (HP nm w hb)
  obtain ⟨s, hs⟩ : ∃ s, s = str nm := ⟨_, rfl⟩
  obtain ⟨a, ha⟩ : ∃ a, a = str ahead := ⟨_, rfl⟩
  have HL : Hid (lessB ahead nm = Op.bytesLess a.toList s.toList) := by unfold Hid lessB; rw [hs, ha]
  have HS := hid_of hs
  rw [← hs] at HT HN
  rw [← ha, ← hs]
  clear hc hl hs ha
  obtain ⟨b, hpy⟩ : ∃ b, b = P nm := ⟨_, rfl⟩
  have HPY : Hid (P nm = b) := hpy.symm
  rw [← hpy] at HN
  clear hpy
  rcases hk with rfl | rfl
  · cases b
    · go_enter Tryz.func38, Tryz.ntmps38
      go_wp2_with fail
      refine HT.out.mono ?_
      rintro e w2 ⟨rfl, rfl⟩
      clear HT
      go_wp2_with fail
      refine HN.out.mono ?_
      rintro e w3 ⟨rfl, hk3⟩
      have HK := hid_of hk3
      clear hk3 HN
      go_wp2
      go_ret2
      exact ⟨by rw [HL.out, HPY.out]; first | rfl | simp, HK.out⟩
    · go_enter Tryz.func38, Tryz.ntmps38
      go_wp2_with fail
      refine HT.out.mono ?_
      rintro e w2 ⟨rfl, rfl⟩
      clear HT
      go_wp2_with fail
      refine HN.out.mono ?_
      rintro e w3 ⟨rfl, hk3⟩
      have HK := hid_of hk3
      clear hk3 HN
      go_wp2
      go_ret2
      exact ⟨by rw [HL.out, HPY.out]; first | rfl | simp, HK.out⟩
  · cases b
    · go_enter Tryz.func38, Tryz.ntmps38
      go_wp2_with fail
      refine HT.out.mono ?_
      rintro e w2 ⟨rfl, rfl⟩
      clear HT
      go_wp2_with fail
      refine HN.out.mono ?_
      rintro e w3 ⟨rfl, hk3⟩
      have HK := hid_of hk3
      clear hk3 HN
      go_wp2
      go_ret2
      exact ⟨by rw [HL.out, HPY.out]; first | rfl | simp, HK.out⟩
    · go_enter Tryz.func38, Tryz.ntmps38
      go_wp2_with fail
      refine HT.out.mono ?_
      rintro e w2 ⟨rfl, rfl⟩
      clear HT
      go_wp2_with fail
      refine HN.out.mono ?_
      rintro e w3 ⟨rfl, hk3⟩
      have HK := hid_of hk3
      clear hk3 HN
      go_wp2
      go_ret2
      exact ⟨by rw [HL.out, HPY.out]; first | rfl | simp, HK.out⟩

theorem goodE_cons (P : List Int → Bool) (ah : List Int) (ys : List EV) (i : Nat) (y : EV) (h : ys[i]? = some y) : goodE P ah (ys.drop i) = (decide (y.k = 1 ∨ y.k = 2) && ((P y.nm && lessB ah y.nm) && goodE P y.nm (ys.drop (i + 1)))) := by
  obtain ⟨hl, he⟩ := List.getElem?_eq_some_iff.1 h
  rw [List.drop_eq_getElem_cons hl, he]
  rfl

set_option maxHeartbeats 2000000 in
theorem check_any (P : List Int → Bool) (HP : NameC P) (v : Value) (ys : List EV) (w : World) (hv : RowE w v ys) (hy : ∀ y ∈ ys, y.fr.length ≤ 32) (hb : ∀ y ∈ ys, ∀ x ∈ y.nm, 0 ≤ x ∧ x ≤ 255) :
    Calls Tryz.prog 20 #[v] w fun e w' => e = .returned (.int .i64 (checkD P ys)) ∧ Kept (fun _ => False) w w' := by
  obtain ⟨ao, c, rfl⟩ := hv.shape
  obtain ⟨n, hn⟩ : ∃ n, n = ys.length := ⟨_, rfl⟩
  have HN := hid_of hn
  have HV := hid_of hv
  have HY := hid_of hy
  have HB := hid_of hb
  have HPP := hid_of HP
  clear hv hy hb HP
  by_cases hlong : 1024 < n
  · have HE : Hid (checkD P ys = 2) := by unfold Hid checkD; rw [if_pos (by rw [← hn]; exact hlong)]
    have hlI : (1024 : Int) < (n : Int) := by omega
    rw [← hn]
    clear hn hlong
    go_enter Tryz.func20, Tryz.ntmps20
    go_wp2
    go_ret
    exact ⟨by rw [HE.out]; rfl, Kept.refl _ _⟩
  have HE : Hid (checkD P ys = if goodE P [] ys = true then 0 else 51) := by unfold Hid checkD; rw [if_neg (by rw [← hn]; exact hlong)]
  have hlI : ¬ ((1024 : Int) < (n : Int)) := by omega
  rw [← hn]
  clear hn
  go_enter Tryz.func20, Tryz.ntmps20
  go_wp2
  go_loopw [3, 13] (fun av iv wr => ∃ (i : Nat) (ah : List Int), i ≤ n ∧ iv = .int .i64 i ∧ av = .string (str ah) ∧ Kept (fun _ => False) w wr ∧ goodE P [] ys = goodE P ah (ys.drop i)) (fun _ iv _ => n - (intOf iv).toNat)
  case atStart => exact ⟨0, [], by omega, rfl, rfl, Kept.refl _ _, rfl⟩
  case round =>
    obtain ⟨i, ah, hi, rfl, rfl, hk, hg⟩ := hrel
    by_cases hlt : i < n
    · have hltI : (i : Int) < (n : Int) := by omega
      have hi0 : (0 : Int) ≤ (i : Int) := by omega
      have hly : i < ys.length := by rw [← HN.out]; exact hlt
      obtain ⟨y, hyi⟩ : ∃ y, ys[i]? = some y := ⟨_, List.getElem?_eq_getElem hly⟩
      have hy32 := HY.out y (List.mem_of_getElem? hyi)
      have hnb := HB.out y (List.mem_of_getElem? hyi)
      obtain ⟨g, o, e1, r1⟩ : ∃ g o, ao = some ⟨g, o, none⟩ ∧ wr.rangeAt g (o + i * 34) y.cells := by
        rcases HV.out.kept hk (fun _ _ f => f) with ⟨e, _⟩ | ⟨g, o, c2, e, hc⟩
        · rw [e] at hly; simp at hly
        · cases e; exact ⟨g, o, rfl, hc i y hyi⟩
      subst e1
      rw [goodE_cons P ah ys i y hyi] at hg
      have hyl := EV.clen y hy32
      have hsz : (Tryz.prog.info? 41).map (·.size) = some y.cells.length := by rw [size47, hyl]
      have hO := heap_alloc_new wr (.cells (entA ⟨#[]⟩ 0 []) 41)
      have hkO : Kept (fun _ => False) wr (wr.alloc (.cells (entA ⟨#[]⟩ 0 []) 41)) := (Kept.refl _ _).alloc _
      have hw : wr.alloc (.cells (entA ⟨#[]⟩ 0 []) 41) = wr.alloc (.cells _ 41) := congrArg (fun c => wr.alloc (.cells c 41)) (entA_new ⟨#[]⟩ 0)
      rw [hw] at hO hkO
      clear hw
      have hs34 : (Tryz.prog.info? 41).map (·.size) = some y.cells.toArray.size := by rw [size47, List.size_toArray, hyl]
      have ho34 : (entA ⟨#[]⟩ 0 []).size = y.cells.toArray.size := by rw [entA_size _ _ _ (by decide), List.size_toArray, hyl]
      have h1c : y.cells.toArray.all (·.oneCell') = true := entA_cells (str y.nm) y.k y.fr
      have HK := hid_of hk
      have HG := hid_of hg
      have HNB := hid_of hnb
      clear hk hg hnb hyi hly
      go_upto_region 7 with (first | refine wpList_load_mid rfl 41 _ rfl g (o + i * 34) rfl y.cells _ r1 Tryz.underlying41 rfl hsz ?_ | refine wpList_store_row rfl 41 _ _ rfl wr.heap.size y.cells.toArray rfl rfl 41 _ hO hs34 ho34 h1c ?_)
      have hO' : (wr.alloc (.cells _ 41)).heap[wr.heap.size]? = some (.cells (entA ⟨#[]⟩ 0 []) 41 (0, 0)) := hO
      generalize wr.alloc (.cells _ 41) = wO at *
      have hX := setRow_heap wO wr.heap.size _ y.cells.toArray 41 (0, 0) hO'
      have hk2 : Kept (fun _ => False) wr (wO.setRow wr.heap.size y.cells.toArray) := hkO.step (kept_row wO wr.heap.size _) (fun i hi e => by omega)
      clear hO hO' hkO ho34 h1c hs34 hsz r1
      generalize wO.setRow wr.heap.size y.cells.toArray = w2 at *
      have x0 : w2.cell? ⟨wr.heap.size, 0, none⟩ = some (.string (str y.nm)) := by rw [cell_block _ _ _ _ _ _ hX]; rfl
      have x1 : w2.cell? ⟨wr.heap.size, 1, none⟩ = some (.int .i64 y.k) := by rw [cell_block _ _ _ _ _ _ hX]; rfl
      have xl : wr.heap.size < w2.heap.size := (Array.getElem?_eq_some_iff.1 hX).1
      have HK2 := hid_of (HK.out.trans hk2)
      clear hX hk2 HK
      by_cases hkk : y.k = 1 ∨ y.k = 2
      · have HNO := hid_of (nameof_lit P HPP.out y.k ah y.nm wr.heap.size w2 hkk x0 xl HNB.out)
        obtain ⟨q, hq⟩ : ∃ q, q = (P y.nm && lessB ah y.nm) := ⟨_, rfl⟩
        rw [decide_eq_true hkk, Bool.true_and, ← hq] at HG
        rw [← hq] at HNO
        clear hq hkk
        generalize y.k = kk at *
        cases q
        · have HR : Hid (checkD P ys = 51) := by unfold Hid; rw [HE.out, HG.out]; rfl
          go_wp2_with fail
          refine HNO.out.mono ?_
          rintro e w3 ⟨rfl, hk3⟩
          have HK3 := hid_of (HK2.out.trans hk3)
          clear hk3 HNO
          go_wp2
          go_ret
          exact ⟨by rw [HR.out]; rfl, HK3.out⟩
        · go_wp2_with fail
          refine HNO.out.mono ?_
          rintro e w3 ⟨rfl, hk3⟩
          have HK3 := hid_of (HK2.out.trans hk3)
          clear hk3 HNO
          go_wp2
          go_roundw
          case rel => exact ⟨i + 1, y.nm, by omega, by go_num, rfl, HK3.out, by rw [HG.out, Bool.true_and]⟩
          case measure => simp [intOf]; omega
      · have HR : Hid (checkD P ys = 51) := by unfold Hid; rw [HE.out, HG.out, decide_eq_false hkk]; rfl
        have HNO := hid_of (nameof_none y.k (str ah) (.func (.func 39) #[] #[.pointer (some ⟨wr.heap.size, 0, none⟩)]) w2 hkk)
        clear hkk
        generalize y.k = kk at *
        go_wp2_with fail
        refine HNO.out.mono ?_
        rintro e w3 ⟨rfl, hw3⟩
        subst hw3
        clear HNO
        go_wp2
        go_ret
        exact ⟨by rw [HR.out]; rfl, HK2.out⟩
    · have hnl : ¬ ((i : Int) < (n : Int)) := by omega
      have hie : i = n := by omega
      subst hie
      have HR : Hid (checkD P ys = 0) := by
        unfold Hid
        rw [HE.out, hg, List.drop_of_length_le (by rw [HN.out]; exact Nat.le_refl _)]
        rfl
      have HK := hid_of hk
      clear hk hg
      go_wp2
      go_ret
      exact ⟨by rw [HR.out]; rfl, HK.out⟩
end Go.Proofs.YtcpkbajmilkhpabGreatDoor
