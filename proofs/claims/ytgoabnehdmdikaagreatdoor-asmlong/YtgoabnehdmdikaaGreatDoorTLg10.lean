import Derived.Test.YtgoabnehdmdikaaGreatDoorTLg9
import Derived.Test.YtgoabnehdmdikaaGreatDoorTLg6
import Derived.Lib.OthersKept
import Derived.Laws.RangeAny
set_option linter.unusedVariables false
set_option linter.unusedSimpArgs false
set_option maxRecDepth 100000
set_option maxHeartbeats 64000000
namespace Go.Proofs.YtgoabnehdmdikaaGreatDoor
open Go.RowKit
def dgL : List UInt8 := [48, 49, 50, 51, 52, 53, 54, 55, 56, 57]
def okN (l : List UInt8) : Bool := if Lib.hasPrefix l [48, 120] then Xm (Lib.trimPrefix l [48, 120]) else Zbo (Lib.trimPrefix l [45]) dgL
def Yv (l : List UInt8) : Bool := !Lib.hasPrefix l [48, 120] && (match Lib.parseIntB 64 l with | .range => true | _ => false)
def Xe (l : List UInt8) : Int := if Lib.hasPrefix l [48, 120] then wrap64 (Xs (Lib.trimPrefix l [48, 120])) else (match Lib.parseIntB 64 l with | .ok v => v | _ => Lib.intSat 64 l)
theorem Zgu (l : List UInt8) : Xm l = (decide (l.length ≤ 16) && Zbo l Xc.data.toList) := by
 have key : ∀ c : UInt8, Xc.data.toList.contains c = decide (0 ≤ Zz c.toNat) := fun c => by
  have : ∀ n : Nat, n < 256 → Xc.data.toList.contains n.toUInt8 = decide (0 ≤ Zz n) := by decide +kernel
  have e := this c.toNat (UInt8.toNat_lt c)
  rwa [show c.toNat.toUInt8 = c by simp] at e
 unfold Xm Zbo
 rw [show (Xc.data.toList.contains ·) = (fun c : UInt8 => decide (0 ≤ Zz c.toNat)) from funext key]
 cases l.isEmpty <;> cases decide (l.length ≤ 16) <;> simp
theorem Zdm (M : Nat) : ∀ (l : List UInt8) (acc : Nat), Lib.parseUintM M acc l = .«syntax» → ∃ c ∈ l, dgL.contains c = false
 | [], acc, h => by simp [Lib.parseUintM] at h
 | c :: r, acc, h => by
  unfold Lib.parseUintM at h
  by_cases hd : 48 ≤ c.toNat ∧ c.toNat ≤ 57
  ·rw [if_pos hd] at h
   split at h
   ·cases h
   ·split at h
    ·cases h
    ·obtain ⟨x, hx, hn⟩ := Zdm M r _ h
     exact ⟨x, List.mem_cons_of_mem _ hx, hn⟩
  ·refine ⟨c, List.mem_cons_self, ?_⟩
   have : ∀ n : Nat, n < 256 → ¬ (48 ≤ n ∧ n ≤ 57) → dgL.contains n.toUInt8 = false := by decide +kernel
   have e := this c.toNat (UInt8.toNat_lt c) hd
   rwa [show c.toNat.toUInt8 = c by simp] at e
theorem Zn4 (l : List UInt8) (h0 : Lib.hasPrefix l [48, 120] = false) (h : okN l = true) : Lib.parseIntB 64 l ≠ .«syntax» := by
 intro hs
 unfold okN at h
 rw [h0] at h
 simp only [Bool.false_eq_true, if_false] at h
 unfold Zbo at h
 simp only [Bool.and_eq_true, Bool.not_eq_true', List.all_eq_true] at h
 obtain ⟨h1, h2⟩ := h
 cases l with
 | nil => simp [Lib.trimPrefix, Lib.hasPrefix] at h1
 | cons c r =>
  have e45 : Lib.hasPrefix (c :: r) [45] = decide (c.toNat = 45) := by
   simp only [Lib.hasPrefix, List.isPrefixOf, Bool.and_true]
   rw [Bool.eq_iff_iff, beq_iff_eq, decide_eq_true_eq]
   constructor
   ·rintro rfl; rfl
   ·intro e; exact (UInt8.toNat_inj.1 (by rw [e]; rfl))
  unfold Lib.parseIntB at hs
  unfold Lib.trimPrefix at h1 h2
  rw [e45] at h1 h2
  by_cases hc : c.toNat = 45
  ·simp only [hc, decide_true, if_true, List.drop_succ_cons, List.length_cons, List.length_nil, List.drop_zero, Nat.zero_add] at h1 h2
   simp only [hc, or_true, if_true] at hs
   have hr : r ≠ [] := by rintro rfl; cases h1
   cases hu : Lib.parseUintB 64 r with
   | «syntax» =>
    unfold Lib.parseUintB at hu
    rw [if_neg hr] at hu
    obtain ⟨x, hx, hn⟩ := Zdm _ _ _ hu
    rw [h2 x hx] at hn
    cases hn
   | range => rw [hu] at hs; cases hs
   | ok u =>
    rw [hu] at hs
    simp only at hs
    split at hs
    ·cases hs
    ·split at hs <;> cases hs
  ·simp only [hc, decide_false, Bool.false_eq_true, if_false] at h1 h2
   have h43 : ¬ c.toNat = 43 := fun e => by
    have := h2 c List.mem_cons_self
    have e2 : c = 43 := UInt8.toNat_inj.1 (by rw [e]; rfl)
    rw [e2] at this
    exact absurd this (by decide)
   simp only [hc, h43, or_self, if_false] at hs
   cases hu : Lib.parseUintB 64 (c :: r) with
   | «syntax» =>
    unfold Lib.parseUintB at hu
    rw [if_neg (by simp)] at hu
    obtain ⟨x, hx, hn⟩ := Zdm _ _ _ hu
    rw [h2 x hx] at hn
    cases hn
   | range => rw [hu] at hs; cases hs
   | ok u =>
    rw [hu] at hs
    simp only at hs
    split at hs
    ·cases hs
    ·split at hs <;> cases hs
def Zqr (ok : Bool) (n0 : Int) (f0 : Bool) (w : World) (e : Ending) (w' : World) : Prop :=
 ∃ (n : Int) (f : Bool), e = .returned (.tuple #[.agg #[.int .i64 1, .string ⟨#[]⟩, .int .i64 n, .bool f], .bool ok]) ∧ (ok = true → n = n0 ∧ f = f0) ∧ Kept nF w w'
abbrev Zxo (l : List UInt8) : World → Ending → World → Prop := Zqr (okN l) (Xe l) (Yv l)
theorem Zn5 (t : ByteArray) (hm : t.size ≤ 9000000) (w : World) (hG : Gs w) : Calls Tryz.prog 113 #[.string t] w (Zxo t.data.toList w) := by
 have hk0 : Kept nF w (w.alloc (.cells #[.int .i64 0, .string ⟨#[]⟩, .int .i64 0, .bool false] 130)) := (Kept.refl _ _).alloc _
 have hb0 := heap_alloc_new w (.cells #[.int .i64 0, .string ⟨#[]⟩, .int .i64 0, .bool false] 130)
 have HG := Za (hG.same hk0)
 have HK := Za hk0
 have HB := Za hb0
 have htl : ∀ (l p : List UInt8), (Lib.trimPrefix l p).length ≤ l.length := fun l p => by
  unfold Lib.trimPrefix
  split
  ·rw [List.length_drop]; omega
  ·exact Nat.le_refl _
 have htm := htl t.data.toList [48, 120]
 have htm2 := htl t.data.toList [45]
 rw [← Lib.size_eq] at htm htm2
 by_cases hp : Lib.hasPrefix t.data.toList [48, 120] = true
 ·have hok : okN t.data.toList = Xm (Lib.trimPrefix t.data.toList [48, 120]) := if_pos hp
  have hval : Xe t.data.toList = wrap64 (Xs (Lib.trimPrefix t.data.toList [48, 120])) := if_pos hp
  have hfar : Yv t.data.toList = false := by unfold Yv; rw [hp]; rfl
  show Calls _ _ _ _ (Zqr _ _ _ w)
  rw [hok, hval, hfar, Zgu]
  obtain ⟨B, hB⟩ : ∃ B : ByteArray, B = ⟨(Lib.trimPrefix t.data.toList [48, 120]).toArray⟩ := ⟨_, rfl⟩
  have hBl : Lib.trimPrefix t.data.toList [48, 120] = B.data.toList := by rw [hB]
  have hCP : ∀ w, Calls Tryz.prog 137 #[.string t, .string ⟨#[48, 120]⟩] w fun e w' => e = .returned (.tuple #[.string B, .bool true]) ∧ w' = w := fun w => by
   have h := Tryz.strings_CutPrefix t ⟨#[48, 120]⟩ w
   rw [show Lib.hasPrefix t.data.toList (ByteArray.mk #[48, 120]).data.toList = true from hp] at h
   rw [hB]
   exact h
  rw [hBl] at htm ⊢
  rw [← Lib.size_eq] at htm ⊢
  have HCP := Za hCP
  have HU := Za (fun w hG => Zxl B (by omega) w hG)
  have HMD := Za (Ztl B Xc (by omega) (by decide) (fun j b hj => by
   obtain ⟨h1, h2⟩ := List.getElem?_eq_some_iff.1 hj
   have : ∀ j, (h : j < Xc.data.toList.length) → (Xc.data.toList[j]'h).toNat < 128 := by decide
   rw [← h2]; exact this j h1))
  have hok2 : decide (B.size ≤ 16) = true → Zbo B.data.toList Xc.data.toList = true → Xm B.data.toList = true := fun h1 h2 => by
   rw [Zgu, ← Lib.size_eq, h1, h2]; rfl
  have HOK := Za hok2
  generalize Zbo B.data.toList Xc.data.toList = q at *
  clear hok hval hfar htm htm2 hG hk0 hb0 htl hCP hB hBl hok2 hp
  by_cases hs : B.size ≤ 16
  ·have hs' : decide (B.size ≤ 16) = true := decide_eq_true hs
   rw [hs'] at HOK
   rw [hs', Bool.true_and]
   have hsi : (B.size : Int) ≤ 16 := by omega
   clear hs hs'
   go_enter Tryz.func113, Tryz.ntmps113
   go_upto_region 1 with fail
   generalize w.alloc (.cells #[.int .i64 0, .string ⟨#[]⟩, .int .i64 0, .bool false] 130) = w1 at *
   obtain ⟨g, hg⟩ := nmd (w.heap.size)
   rw [← hg] at HB ⊢
   have HGW : Hid (w.heap.size ≤ g) := by rw [hg]; exact Nat.le_refl _
   clear hg
   go_wp2_with fail
   refine (HCP.out w1).mono ?_
   rintro e w2 ⟨rfl, hw⟩
   have hw := hw.symm
   subst hw
   clear HCP
   go_wp2_with fail
   refine (HU.out w1 HG.out).mono ?_
   rintro e w2 ⟨u, v, rfl, hu, hk2⟩
   have HUV := Za hu
   have HK2 := Za (HK.out.trans hk2)
   have HB2 := Za (Zc hk2 HB.out id)
   clear hu hk2 HU HG HB HK
   go_wp2_with fail
   refine (HMD.out w2).mono ?_
   rintro e w3 ⟨rfl, hk3⟩
   have hb3 := Zc hk3 HB2.out id
   obtain ⟨hx, hkx⟩ := Zec w3 g 130 _ _ _ _ (.int .i64 1) (.string ⟨#[]⟩) (.int .i64 (wrap64 u)) (.bool false) hb3
   obtain ⟨c0, c1, c2, c3, f0, f1, f2, f3⟩ := Yk hb3
   have HX := Za hx
   have HKX := Za ((HK2.out.trans hk3).step hkx (fun i hi e => by have := HGW.out; omega))
   clear hx hkx hb3 hk3 HMD HK2 HB2
   go_wp2
   refine bodyPost_ret (v := .tuple #[.agg #[.int .i64 1, .string ⟨#[]⟩, .int .i64 (wrap64 u), .bool false], .bool q]) ?_ rfl ⟨_, _, rfl, fun hq => ⟨?_, rfl⟩, HKX.out⟩
   ·exact Zh (by rfl) _ _ ⟨g, 0, none⟩ _ _ (by rfl) (by rfl) (run_loadVar_row _ g 130 130 _ (0, 0) _ HX.out Tryz.underlying130 rfl Zk7)
   ·rw [HUV.out (HOK.out (by trivial) hq)]
  ·have hs' : decide (B.size ≤ 16) = false := decide_eq_false hs
   rw [hs', Bool.false_and]
   have hsi : ¬ (B.size : Int) ≤ 16 := by omega
   clear hs hs' HMD HOK
   go_enter Tryz.func113, Tryz.ntmps113
   go_upto_region 1 with fail
   generalize w.alloc (.cells #[.int .i64 0, .string ⟨#[]⟩, .int .i64 0, .bool false] 130) = w1 at *
   obtain ⟨g, hg⟩ := nmd (w.heap.size)
   rw [← hg] at HB ⊢
   have HGW : Hid (w.heap.size ≤ g) := by rw [hg]; exact Nat.le_refl _
   clear hg
   go_wp2_with fail
   refine (HCP.out w1).mono ?_
   rintro e w2 ⟨rfl, hw⟩
   have hw := hw.symm
   subst hw
   clear HCP
   go_wp2_with fail
   refine (HU.out w1 HG.out).mono ?_
   rintro e w2 ⟨u, v, rfl, hu, hk2⟩
   have hb3 := Zc hk2 HB.out id
   obtain ⟨hx, hkx⟩ := Zec w2 g 130 _ _ _ _ (.int .i64 1) (.string ⟨#[]⟩) (.int .i64 (wrap64 u)) (.bool false) hb3
   obtain ⟨c0, c1, c2, c3, f0, f1, f2, f3⟩ := Yk hb3
   have HX := Za hx
   have HKX := Za ((HK.out.trans hk2).step hkx (fun i hi e => by have := HGW.out; omega))
   clear hx hkx hb3 hu hk2 HU HG HB HK
   go_wp2
   refine bodyPost_ret (v := .tuple #[.agg #[.int .i64 1, .string ⟨#[]⟩, .int .i64 (wrap64 u), .bool false], .bool false]) ?_ rfl ⟨_, _, rfl, fun hq => absurd hq (by decide), HKX.out⟩
   exact Zh (by rfl) _ _ ⟨g, 0, none⟩ _ _ (by rfl) (by rfl) (run_loadVar_row _ g 130 130 _ (0, 0) _ HX.out Tryz.underlying130 rfl Zk7)
 ·have hpf : Lib.hasPrefix t.data.toList [48, 120] = false := by simpa using hp
  have hok : okN t.data.toList = Zbo (Lib.trimPrefix t.data.toList [45]) dgL := if_neg hp
  have hend : ∀ (v : Int) (q : Bool), ((Lib.parseIntB 64 t.data.toList = .ok v ∧ q = false) ∨ (Lib.parseIntB 64 t.data.toList = .range ∧ v = Lib.intSat 64 t.data.toList ∧ q = true) ∨ Lib.parseIntB 64 t.data.toList = .«syntax») → okN t.data.toList = true → v = Xe t.data.toList ∧ q = Yv t.data.toList := fun v q hc hk => by
   have hns := Zn4 t.data.toList hpf hk
   unfold Xe Yv
   rw [hpf]
   rcases hc with ⟨h1, h2⟩ | ⟨h1, h2, h3⟩ | h1
   ·rw [h1, h2]; exact ⟨rfl, rfl⟩
   ·rw [h1, h2, h3]; exact ⟨rfl, rfl⟩
   ·exact absurd h1 hns
  have HEND := Za hend
  show Calls _ _ _ _ (Zqr _ _ _ w)
  rw [hok] at HEND ⊢
  obtain ⟨D, hD⟩ : ∃ D : ByteArray, D = ⟨(Lib.trimPrefix t.data.toList [45]).toArray⟩ := ⟨_, rfl⟩
  have hDl : Lib.trimPrefix t.data.toList [45] = D.data.toList := by rw [hD]
  have hTP : ∀ w, Calls Tryz.prog 142 #[.string t, .string ⟨#[45]⟩] w fun e w' => e = .returned (.string D) ∧ w' = w := fun w => by
   have h := Tryz.strings_TrimPrefix t ⟨#[45]⟩ w
   rw [hD]
   exact h
  have hCP : ∀ w, ∃ B : ByteArray, Calls Tryz.prog 137 #[.string t, .string ⟨#[48, 120]⟩] w fun e w' => e = .returned (.tuple #[.string B, .bool false]) ∧ w' = w := fun w => by
   have h := Tryz.strings_CutPrefix t ⟨#[48, 120]⟩ w
   rw [show Lib.hasPrefix t.data.toList (ByteArray.mk #[48, 120]).data.toList = false from hpf] at h
   exact ⟨_, h⟩
  rw [hDl] at htm2 HEND ⊢
  rw [← Lib.size_eq] at htm2
  have HCP := Za hCP
  have HTP := Za hTP
  have HPI := Za (fun w hG => Zxn t hm w hG)
  have HMD := Za (Ztl D dgs (by omega) (by decide) (fun j b hj => by
   obtain ⟨h1, h2⟩ := List.getElem?_eq_some_iff.1 hj
   have : ∀ j, (h : j < dgs.data.toList.length) → (dgs.data.toList[j]'h).toNat < 128 := by decide
   rw [← h2]; exact this j h1))
  rw [show dgs.data.toList = dgL from rfl] at HMD
  generalize Zbo D.data.toList dgL = q0 at *
  clear hok htm htm2 hG hk0 hb0 htl hCP hTP hD hDl hend hp hpf
  go_enter Tryz.func113, Tryz.ntmps113
  go_upto_region 1 with fail
  generalize w.alloc (.cells #[.int .i64 0, .string ⟨#[]⟩, .int .i64 0, .bool false] 130) = w1 at *
  obtain ⟨g, hg⟩ := nmd (w.heap.size)
  rw [← hg] at HB ⊢
  have HGW : Hid (w.heap.size ≤ g) := by rw [hg]; exact Nat.le_refl _
  clear hg
  go_wp2_with fail
  obtain ⟨B, hCB⟩ := HCP.out w1
  refine hCB.mono ?_
  clear hCB
  rintro e w2 ⟨rfl, hw⟩
  have hw := hw.symm
  subst hw
  clear HCP
  go_wp2_with fail
  refine (HPI.out w1 HG.out).mono ?_
  rintro e w2 ⟨v, ev, rfl, hk2, q, tp, pv, q2, hIS, hcase⟩
  have HE2 := Za (HEND.out v q hcase)
  have HIS := Za hIS
  have HK2 := Za (HK.out.trans hk2)
  have HB2 := Za (Zc hk2 HB.out id)
  clear hk2 hIS hcase HPI HG HB HK HEND
  go_wp2_with fail
  refine HIS.out.mono ?_
  rintro e w3 ⟨rfl, hw⟩
  have hw := hw.symm
  subst hw
  clear HIS q2
  go_wp2_with fail
  refine (HTP.out w2).mono ?_
  rintro e w3 ⟨rfl, hw⟩
  have hw := hw.symm
  subst hw
  clear HTP
  go_wp2_with fail
  refine (HMD.out w2).mono ?_
  rintro e w3 ⟨rfl, hk3⟩
  have hb3 := Zc hk3 HB2.out id
  obtain ⟨hx, hkx⟩ := Zec w3 g 130 _ _ _ _ (.int .i64 1) (.string ⟨#[]⟩) (.int .i64 v) (.bool q) hb3
  obtain ⟨c0, c1, c2, c3, f0, f1, f2, f3⟩ := Yk hb3
  have HX := Za hx
  have HKX := Za ((HK2.out.trans hk3).step hkx (fun i hi e => by have := HGW.out; omega))
  clear hx hkx hb3 hk3 HMD HK2 HB2
  go_wp2
  refine bodyPost_ret (v := .tuple #[.agg #[.int .i64 1, .string ⟨#[]⟩, .int .i64 v, .bool q], .bool q0]) ?_ rfl ⟨_, _, rfl, HE2.out, HKX.out⟩
  exact Zh (by rfl) _ _ ⟨g, 0, none⟩ _ _ (by rfl) (by rfl) (run_loadVar_row _ g 130 130 _ (0, 0) _ HX.out Tryz.underlying130 rfl Zk7)
end Go.Proofs.YtgoabnehdmdikaaGreatDoor
namespace Go.Proofs.YtgoabnehdmdikaaGreatDoor
open Go.RowKit
def Wl (x : CS) : Bool := if x.st = 2 then true else if x.st = 3 then okN (str x.un).data.toList else decide (x.st < 4)
def Xf (x : CS) : CS :=
 if x.st = 2 then ⟨x.ps ++ [⟨0, str x.un, 0, false⟩], 1, [], x.hi⟩
 else if x.st = 3 then ⟨x.ps ++ [⟨1, ⟨#[]⟩, Xe (str x.un).data.toList, Yv (str x.un).data.toList⟩], 1, [], x.hi⟩
 else x
def Zmw (I : Nat × ByteArray × Nat) (w : World) (c : Nat) (x : CS) (e : Ending) (w' : World) : Prop :=
 ∃ y, e = .returned (.bool (Wl x)) ∧ CgS I w w' c y ∧ (Wl x = true → y = Xf x) ∧ y.ps.length ≤ x.ps.length + 1
variable {I : Nat × ByteArray × Nat}
theorem Zqs (c : Nat) (w wr : World) (x : CS) (h : CgS I w wr c x) (hG : Gs wr) (hl : x.ps.length ≤ 90000) (hu : x.un.length ≤ 900000) (hs0 : 0 ≤ x.st) (hs7 : x.st ≤ 7) :
  Calls Tryz.prog 81 #[.pointer (some ⟨c, 0, none⟩)] wr (Zmw I w c x) := by
 obtain ⟨ps, st, un, hi⟩ := x
 replace h : Cg I w wr c ps st un hi := h
 simp only at hl hu hs0 hs7
 have HH := Za h
 obtain ⟨pv, uv, hb, hp, hu2⟩ := h.ex
 obtain ⟨c0, c1, c2, c3, f0, f1, f2, f3⟩ := Yk hb
 by_cases h2 : st = 2
 ·subst h2
  have hcv := Zaf wr uv un (Zbc hu2)
  have HCL := Za (Zk6 c 0 (str un) 0 false w wr ps 2 un hi h hl)
  obtain ⟨ua, uc, hv⟩ := Zd hu2
  obtain ⟨n, hn⟩ := nmd (un.length)
  rw [← hn] at hv
  subst hv
  have HE : Hid (∀ w', Cg I w w' c (ps ++ [⟨0, str un, 0, false⟩]) 1 [] hi → Zmw I w c ⟨ps, 2, un, hi⟩ (.returned (.bool true)) w') := fun w' hc => ⟨⟨ps ++ [⟨0, str un, 0, false⟩], 1, [], hi⟩, rfl, hc, fun _ => rfl, by simp⟩
  generalize str un = su at *
  clear h hb hp hu2 hn hl hu HH
  go_enter Tryz.func81, Tryz.ntmps81
  go_wp2_with fail
  refine HCL.out.mono ?_
  rintro e w2 ⟨⟨v, rfl⟩, hc2⟩
  have HS := Za hc2
  obtain ⟨_, _, hb2, _⟩ := hc2.ex
  have q1 := Zb _ _ 1 _ _ _ hb2
  clear hc2 hb2 HCL hcv c0 c1 c2 c3 f0 f1 f2 f3
  go_wp2
  go_ret
  exact HE.out _ HS.out
 by_cases h3 : st = 3
 ·subst h3
  have hcv := Zaf wr uv un (Zbc hu2)
  have HN := Za (Zn5 (str un) (by rw [Zbj]; omega) wr hG)
  obtain ⟨ua, uc, hv⟩ := Zd hu2
  obtain ⟨n, hn⟩ := nmd (un.length)
  rw [← hn] at hv
  subst hv
  have HE : Hid (∀ w' n f, Cg I w w' c (ps ++ [⟨1, ⟨#[]⟩, n, f⟩]) 1 [] hi → (okN (str un).data.toList = true → n = Xe (str un).data.toList ∧ f = Yv (str un).data.toList) → Zmw I w c ⟨ps, 3, un, hi⟩ (.returned (.bool (okN (str un).data.toList))) w') := fun w' n f hc hv => by
   refine ⟨⟨ps ++ [⟨1, ⟨#[]⟩, n, f⟩], 1, [], hi⟩, rfl, hc, fun hq => ?_, by simp⟩
   obtain ⟨e1, e2⟩ := hv hq
   rw [e1, e2]
   rfl
  generalize str un = su at *
  have HL := Za hl
  clear h hb hp hu2 hn hl hu hG
  go_enter Tryz.func81, Tryz.ntmps81
  go_wp2_with fail
  refine HN.out.mono ?_
  rintro e w1 ⟨bd, f, rfl, hv, hk1⟩
  have HV := Za hv
  have HH1 := Za (HH.out.same hk1)
  clear hv HN HH hk1 hcv c0 c1 c2 c3 f0 f1 f2 f3
  have hka : Kept nF w1 (w1.alloc (.cells #[.int .i64 1, .string ⟨#[]⟩, .int .i64 bd, .bool f] 130)) := (Kept.refl _ _).alloc _
  have hba := heap_alloc_new w1 (.cells #[.int .i64 1, .string ⟨#[]⟩, .int .i64 bd, .bool f] 130)
  have HH2 := Za (HH1.out.same hka)
  have HBA := Za hba
  clear hka hba HH1
  go_upto_region 6 with fail
  generalize w1.alloc (.cells #[.int .i64 1, .string ⟨#[]⟩, .int .i64 bd, .bool f] 130) = w2 at *
  generalize w1.heap.size = g at *
  obtain ⟨x0, x1, x2, x3, _⟩ := Yk HBA.out
  have HC := Za (Zk6 c 1 ⟨#[]⟩ bd f w w2 ps 3 _ hi HH2.out HL.out)
  clear HH2 HBA
  go_wp2_with fail
  refine HC.out.mono ?_
  rintro e w3 ⟨⟨v, rfl⟩, h2⟩
  have H2 := Za h2
  clear h2 HC x0 x1 x2 x3
  go_wp2
  go_ret
  exact HE.out _ _ _ H2.out HV.out
 ·have e2 : (st == 2) = false := by simp; omega
  have e3 : (st == 3) = false := by simp; omega
  have HE : Hid (Zmw I w c ⟨ps, st, un, hi⟩ (.returned (.bool (decide (st < 4)))) wr) := by
   have hb1 : Wl ⟨ps, st, un, hi⟩ = decide (st < 4) := by unfold Wl; rw [if_neg h2, if_neg h3]
   have hs1 : Xf ⟨ps, st, un, hi⟩ = ⟨ps, st, un, hi⟩ := by unfold Xf; rw [if_neg h2, if_neg h3]
   refine ⟨⟨ps, st, un, hi⟩, by rw [hb1], HH.out, fun _ => hs1.symm, by simp⟩
  clear h hb hp hu2 HH h2 h3 hG
  go_enter Tryz.func81, Tryz.ntmps81
  go_wp2
  go_ret
  exact HE.out
def Yb (x : CS) (r : Int) : Option CS :=
 if x.st = 2 ∨ x.st = 3 then (if goP r = true then some ⟨x.ps, x.st, x.un ++ [r], x.hi⟩ else if Wl x = true then Ye (Xf x) r else none)
 else if x.st = 4 then Xd x r
 else if x.st = 5 then Wj x r
 else if x.st = 6 ∨ x.st = 7 then Wd x r
 else Ye x r
theorem Zwx (c : Nat) (r : Int) (w wr : World) (x : CS) (h : CgS I w wr c x) (hG : Gs wr) (h0 : 0 ≤ r) (hl : x.ps.length ≤ 80000) (hu : x.un.length ≤ 900000) (hs0 : 0 ≤ x.st) (hs7 : x.st ≤ 7) (hhi : x.st = 7 → 0 ≤ x.hi ∧ x.hi < 16) :
  Calls Tryz.prog 80 #[.pointer (some ⟨c, 0, none⟩), .int .i32 r] wr (Zhh I w wr c (Yb x r)) := by
 have HEN := Za (Zqs c w wr x h hG (by omega) hu hs0 hs7)
 have HBE := Za (Zp5 c r w wr x h h0 (by omega) hu)
 have HWI := Za (Zvb c r w wr x h h0 (by omega) hu)
 have HES := Za (Zss c r w wr x h h0 (by omega) hu)
 have HDI := Za (fun hst => Zvd c r w wr x h h0 hu hst)
 obtain ⟨ps, st, un, hi⟩ := x
 replace h : Cg I w wr c ps st un hi := h
 simp only at hl hu hs0 hs7 hhi
 have HH := Za h
 obtain ⟨pv, uv, hb, hp, hu2⟩ := h.ex
 obtain ⟨c0, c1, c2, c3, f0, f1, f2, f3⟩ := Yk hb
 clear hb hp hu2
 have HGO := Za (Zxi r wr)
 by_cases h23 : st = 2 ∨ st = 3
 ·by_cases hg : goP r = true
  ·have hE : Yb ⟨ps, st, un, hi⟩ r = some ⟨ps, st, un ++ [r], hi⟩ := by unfold Yb; rw [if_pos h23, if_pos hg]
   have hr : r < 256 := by
    unfold goP Wc Xa at hg
    rw [Bool.or_eq_true, decide_eq_true_eq, decide_eq_true_eq] at hg
    omega
   have HGR := Za (Zgc c r w wr ps st un hi h h0 hr hu)
   have HE := Za hE
   generalize Yb ⟨ps, st, un, hi⟩ r = o at *
   rw [hg] at HGO
   clear h hE hl hu hG HEN HBE HWI HES HDI hg hhi HH
   rcases h23 with rfl | rfl
   ·go_enter Tryz.func80, Tryz.ntmps80
    go_wp2_with fail
    refine HGO.out.mono ?_
    rintro e w1 ⟨rfl, hw⟩
    have hw := hw.symm
    subst hw
    go_wp2_with fail
    refine HGR.out.mono ?_
    rintro e w2 ⟨⟨v, rfl⟩, hc2⟩
    have HS := Za hc2
    clear hc2 HGR HGO
    go_wp2
    go_ret
    exact .inl ⟨_, HE.out, rfl, HS.out⟩
   ·go_enter Tryz.func80, Tryz.ntmps80
    go_wp2_with fail
    refine HGO.out.mono ?_
    rintro e w1 ⟨rfl, hw⟩
    have hw := hw.symm
    subst hw
    go_wp2_with fail
    refine HGR.out.mono ?_
    rintro e w2 ⟨⟨v, rfl⟩, hc2⟩
    have HS := Za hc2
    clear hc2 HGR HGO
    go_wp2
    go_ret
    exact .inl ⟨_, HE.out, rfl, HS.out⟩
  ·have hgf : goP r = false := by simpa using hg
   rw [hgf] at HGO
   have hE : Yb ⟨ps, st, un, hi⟩ r = if Wl ⟨ps, st, un, hi⟩ = true then Ye (Xf ⟨ps, st, un, hi⟩) r else none := by unfold Yb; rw [if_pos h23, if_neg hg]
   have HE := Za hE
   generalize Yb ⟨ps, st, un, hi⟩ r = o at *
   have HUL : Hid ((Xf ⟨ps, st, un, hi⟩).un.length ≤ 900000) := by
    show (Xf ⟨ps, st, un, hi⟩).un.length ≤ 900000
    unfold Xf
    split
    ·simp
    ·split
     ·simp
     ·exact hu
   have HLL := Za hl
   have HBG := Za (fun (w2 : World) (y : CS) (hy : CgS I w w2 c y) (h1 : y.ps.length ≤ 90000) (h2 : y.un.length ≤ 900000) => Zp5 c r w w2 y hy h0 h1 h2)
   generalize hes : Xf ⟨ps, st, un, hi⟩ = z at *
   have HES2 := Za hes
   generalize heb : Wl ⟨ps, st, un, hi⟩ = b at *
   clear h hE hl hu hG HBE HWI HES HDI hg hgf hhi HH hes
   have HEB := Za heb
   clear heb
   rcases h23 with rfl | rfl
   ·go_enter Tryz.func80, Tryz.ntmps80
    go_wp2_with fail
    refine HGO.out.mono ?_
    rintro e w1 ⟨rfl, hw⟩
    have hw := hw.symm
    subst hw
    go_wp2_with fail
    refine HEN.out.mono ?_
    rintro e w2 ⟨y, rfl, hy, hye, hyl⟩
    rw [HEB.out] at hye ⊢
    have HY := Za hy
    clear HEN HGO hy
    cases b
    ·clear hye
     go_wp2
     go_ret
     exact .inr ⟨HE.out, rfl, HY.out.kept⟩
    ·have hyz := hye rfl
     rw [HES2.out] at hyz
     subst hyz
     have HBG2 := Za (HBG.out w2 y HY.out (by have := HLL.out; simp only at hyl; omega) HUL.out)
     clear hye hyl HBG
     go_wp2_with fail
     refine HBG2.out.mono ?_
     clear HBG2
     rintro e w3 (⟨y3, he3, rfl, hc3⟩ | ⟨he3, rfl, hk3⟩)
     ·have HS := Za hc3
      have HF := Za he3
      clear hc3 he3
      go_wp2
      go_ret
      exact .inl ⟨_, HE.out.trans HF.out, rfl, HS.out⟩
     ·have HS := Za hk3
      have HF := Za he3
      clear hk3 he3
      go_wp2
      go_ret
      exact .inr ⟨HE.out.trans HF.out, rfl, HS.out⟩
   ·go_enter Tryz.func80, Tryz.ntmps80
    go_wp2_with fail
    refine HGO.out.mono ?_
    rintro e w1 ⟨rfl, hw⟩
    have hw := hw.symm
    subst hw
    go_wp2_with fail
    refine HEN.out.mono ?_
    rintro e w2 ⟨y, rfl, hy, hye, hyl⟩
    rw [HEB.out] at hye ⊢
    have HY := Za hy
    clear HEN HGO hy
    cases b
    ·clear hye
     go_wp2
     go_ret
     exact .inr ⟨HE.out, rfl, HY.out.kept⟩
    ·have hyz := hye rfl
     rw [HES2.out] at hyz
     subst hyz
     have HBG2 := Za (HBG.out w2 y HY.out (by have := HLL.out; simp only at hyl; omega) HUL.out)
     clear hye hyl HBG
     go_wp2_with fail
     refine HBG2.out.mono ?_
     clear HBG2
     rintro e w3 (⟨y3, he3, rfl, hc3⟩ | ⟨he3, rfl, hk3⟩)
     ·have HS := Za hc3
      have HF := Za he3
      clear hc3 he3
      go_wp2
      go_ret
      exact .inl ⟨_, HE.out.trans HF.out, rfl, HS.out⟩
     ·have HS := Za hk3
      have HF := Za he3
      clear hk3 he3
      go_wp2
      go_ret
      exact .inr ⟨HE.out.trans HF.out, rfl, HS.out⟩
 ·have n2 : st ≠ 2 ∧ st ≠ 3 := by omega
  have e2 : (st == 2) = false := by simp; omega
  have e3 : (st == 3) = false := by simp; omega
  by_cases h4 : st = 4
  ·have hE : Yb ⟨ps, st, un, hi⟩ r = Xd ⟨ps, st, un, hi⟩ r := by unfold Yb; rw [if_neg h23, if_pos h4]
   rw [hE]
   generalize Xd ⟨ps, st, un, hi⟩ r = o at *
   subst h4
   clear h hE hl hu hG HEN HBE HES HDI hhi HH n2 e2 e3 h23
   go_enter Tryz.func80, Tryz.ntmps80
   go_wp2_with fail
   refine HWI.out.mono ?_
   clear HWI
   rintro e w3 (⟨y3, rfl, rfl, hc3⟩ | ⟨rfl, rfl, hk3⟩)
   ·have HS := Za hc3
    clear hc3
    go_wp2
    go_ret
    exact .inl ⟨_, rfl, rfl, HS.out⟩
   ·have HS := Za hk3
    clear hk3
    go_wp2
    go_ret
    exact .inr ⟨rfl, rfl, HS.out⟩
  have e4 : (st == 4) = false := by simp; omega
  by_cases h5 : st = 5
  ·have hE : Yb ⟨ps, st, un, hi⟩ r = Wj ⟨ps, st, un, hi⟩ r := by unfold Yb; rw [if_neg h23, if_neg h4, if_pos h5]
   rw [hE]
   generalize Wj ⟨ps, st, un, hi⟩ r = o at *
   subst h5
   clear h hE hl hu hG HEN HBE HWI HDI hhi HH n2 e2 e3 e4 h23 h4
   go_enter Tryz.func80, Tryz.ntmps80
   go_wp2_with fail
   refine HES.out.mono ?_
   clear HES
   rintro e w3 (⟨y3, rfl, rfl, hc3⟩ | ⟨rfl, rfl, hk3⟩)
   ·have HS := Za hc3
    clear hc3
    go_wp2
    go_ret
    exact .inl ⟨_, rfl, rfl, HS.out⟩
   ·have HS := Za hk3
    clear hk3
    go_wp2
    go_ret
    exact .inr ⟨rfl, rfl, HS.out⟩
  have e5 : (st == 5) = false := by simp; omega
  by_cases h67 : st = 6 ∨ st = 7
  ·have hE : Yb ⟨ps, st, un, hi⟩ r = Wd ⟨ps, st, un, hi⟩ r := by unfold Yb; rw [if_neg h23, if_neg h4, if_neg h5, if_pos h67]
   rw [hE]
   have HD2 := Za (HDI.out (by rcases h67 with h | h; exact .inl h; exact .inr ⟨h, hhi h⟩))
   generalize Wd ⟨ps, st, un, hi⟩ r = o at *
   clear h hE hl hu hG HEN HBE HWI HES HDI hhi HH n2 e2 e3 e4 e5 h23 h4 h5
   rcases h67 with rfl | rfl
   ·go_enter Tryz.func80, Tryz.ntmps80
    go_wp2_with fail
    refine HD2.out.mono ?_
    clear HD2
    rintro e w3 (⟨y3, rfl, rfl, hc3⟩ | ⟨rfl, rfl, hk3⟩)
    ·have HS := Za hc3
     clear hc3
     go_wp2
     go_ret
     exact .inl ⟨_, rfl, rfl, HS.out⟩
    ·have HS := Za hk3
     clear hk3
     go_wp2
     go_ret
     exact .inr ⟨rfl, rfl, HS.out⟩
   ·go_enter Tryz.func80, Tryz.ntmps80
    go_wp2_with fail
    refine HD2.out.mono ?_
    clear HD2
    rintro e w3 (⟨y3, rfl, rfl, hc3⟩ | ⟨rfl, rfl, hk3⟩)
    ·have HS := Za hc3
     clear hc3
     go_wp2
     go_ret
     exact .inl ⟨_, rfl, rfl, HS.out⟩
    ·have HS := Za hk3
     clear hk3
     go_wp2
     go_ret
     exact .inr ⟨rfl, rfl, HS.out⟩
  ·have e6 : (st == 6) = false := by simp; omega
   have e7 : (st == 7) = false := by simp; omega
   have hE : Yb ⟨ps, st, un, hi⟩ r = Ye ⟨ps, st, un, hi⟩ r := by unfold Yb; rw [if_neg h23, if_neg h4, if_neg h5, if_neg h67]
   rw [hE]
   generalize Ye ⟨ps, st, un, hi⟩ r = o at *
   clear h hE hl hu hG HEN HDI HWI HES hhi HH n2 h23 h4 h5 h67
   go_enter Tryz.func80, Tryz.ntmps80
   go_wp2_with fail
   refine HBE.out.mono ?_
   clear HBE
   rintro e w3 (⟨y3, rfl, rfl, hc3⟩ | ⟨rfl, rfl, hk3⟩)
   ·have HS := Za hc3
    clear hc3
    go_wp2
    go_ret
    exact .inl ⟨_, rfl, rfl, HS.out⟩
   ·have HS := Za hk3
    clear hk3
    go_wp2
    go_ret
    exact .inr ⟨rfl, rfl, HS.out⟩
end Go.Proofs.YtgoabnehdmdikaaGreatDoor
namespace Go.Proofs.YtgoabnehdmdikaaGreatDoor
open Go.RowKit
def mu (x : CS) : Nat := x.ps.length + (if 2 ≤ x.st then 1 else 0)
def OkS (x : CS) : Prop := 0 ≤ x.st ∧ x.st ≤ 7 ∧ (x.st = 7 → 0 ≤ x.hi ∧ x.hi < 16)
def Zvl (x y : CS) : Prop := OkS y ∧ mu y ≤ mu x + 1 ∧ y.un.length ≤ x.un.length + 1
theorem Zn6 {x y : CS} {r : Int} (h : Ye x r = some y) (h0 : 0 ≤ x.st) (h1 : x.st ≤ 1) : Zvl x y := by
 obtain ⟨ps, st, un, hi⟩ := x
 simp only at h0 h1
 have e : ¬ (2 ≤ st) := by omega
 unfold Ye at h
 simp only at h
 repeat' split at h
 all_goals first | (injection h with h; subst h; refine ⟨⟨?_, ?_, ?_⟩, ?_, ?_⟩ <;> simp only [mu, List.length_append, List.length_cons, List.length_nil] <;> (try simp only [if_neg e]) <;> (try split) <;> omega) | cases h
theorem Zn7 {x y : CS} {r : Int} (h : Yb x r = some y) (hx : OkS x) : Zvl x y := by
 unfold Yb at h
 by_cases h23 : x.st = 2 ∨ x.st = 3
 ·rw [if_pos h23] at h
  split at h
  ·injection h with h
   subst h
   obtain ⟨h1, h2, h3⟩ := hx
   refine ⟨⟨h1, h2, h3⟩, ?_, ?_⟩
   ·show mu _ ≤ mu _ + 1
    unfold mu
    exact Nat.le_succ _
   ·simp
  ·split at h
   ·have hes : (Xf x).st = 1 ∧ (Xf x).ps.length = x.ps.length + 1 ∧ (Xf x).un = [] := by
     unfold Xf
     rcases h23 with h2 | h3
     ·rw [if_pos h2]; simp
     ·rw [if_neg (by omega), if_pos h3]; simp
    obtain ⟨e1, e2, e3⟩ := hes
    have hb := Zn6 h (by omega) (by omega)
    refine ⟨hb.1, ?_, ?_⟩
    ·have h4 : mu (Xf x) = mu x := by
      unfold mu
      rw [e1, e2, if_neg (show ¬ (2 : Int) ≤ 1 by decide), if_pos (by omega)]
     rw [← h4]
     exact hb.2.1
    ·have := hb.2.2
     rw [e3] at this
     simp only [List.length_nil] at this
     omega
   ·cases h
 ·rw [if_neg h23] at h
  split at h
  ·unfold Xd at h
   obtain ⟨ps, st, un, hi⟩ := x
   simp only at *
   rename_i h4
   subst h4
   repeat' split at h
   all_goals first | (injection h with h; subst h; refine ⟨⟨?_, ?_, ?_⟩, ?_, ?_⟩ <;> simp [mu]) | cases h
  ·split at h
   ·unfold Wj at h
    obtain ⟨ps, st, un, hi⟩ := x
    simp only at *
    rename_i h4 h5
    subst h5
    repeat' split at h
    all_goals first | (injection h with h; subst h; refine ⟨⟨?_, ?_, ?_⟩, ?_, ?_⟩ <;> simp [mu]) | cases h
   ·split at h
    ·unfold Wd at h
     obtain ⟨ps, st, un, hi⟩ := x
     simp only at *
     rename_i h4 h5 h67
     have hl := Zeo r
     repeat' split at h
     all_goals first | (injection h with h; subst h; refine ⟨⟨?_, ?_, ?_⟩, ?_, ?_⟩ <;> simp only [mu, List.length_append, List.length_cons, List.length_nil] <;> (try split) <;> (try split) <;> omega) | cases h
    ·obtain ⟨h1, h2, h3⟩ := hx
     exact Zn6 h h1 (by omega)
theorem Zjo (x : CS) (r : Int) (h : 128 ≤ r) : Ye x r = none := by
 have hL : Wc r = false := decide_eq_false (by omega)
 have hD : Xa r = false := decide_eq_false (by omega)
 unfold Ye
 rw [if_neg (by omega), if_neg (by omega)]
 split
 ·rfl
 ·rw [if_neg (by omega), if_neg (by rw [hL]; decide), if_neg (by rw [hD]; simp; omega)]
theorem Zfg (x : CS) (r : Int) (h : 128 ≤ r) : Yb x r = none := by
 have hL : Wc r = false := decide_eq_false (by omega)
 have hD : Xa r = false := decide_eq_false (by omega)
 unfold Yb
 split
 ·rw [if_neg (by unfold goP; rw [hL, hD]; decide), Zjo _ _ h]
  split <;> rfl
 ·split
  ·unfold Xd
   rw [if_neg (by omega), if_neg (by omega), if_pos (by omega)]
  ·split
   ·unfold Wj
    rw [if_neg (by omega), if_neg (by omega)]
   ·split
    ·unfold Wd
     rw [if_pos]
     unfold Zz
     rw [if_neg (by omega), if_neg (by omega)]
     decide
    ·exact Zjo x r h
def Zy : List UInt8 → CS → Option CS
 | [], x => some x
 | b :: l, x => if b.toNat = 59 ∧ x.st < 4 then some x else (match Yb x b.toNat with | none => none | some y => Zy l y)
def Yc (l : List UInt8) : Option (List Pf) := match Zy l ⟨[], 0, [], 0⟩ with | none => none | some x => if Wl x = true then some (Xf x).ps else none
theorem Cg.next {w wr : World} {c k pos : Nat} {s : ByteArray} {ps : List Pf} {st : Int} {un : List Int} {hi : Int} (h : Cg (k, s, pos) w wr c ps st un hi) (q : Nat) : Cg (k, s, q) w (wr.iterAt k s q) c ps st un hi := by
 have hk : Kept (fun j => j = k) wr (wr.iterAt k s q) := ⟨rfl, rfl, rfl, by simp [World.iterAt], fun j _ hn => by
  show (wr.heap.setIfInBounds k _)[j]? = _
  rw [Array.getElem?_setIfInBounds, if_neg (fun e => hn e.symm)]⟩
 obtain ⟨pv, uv, h1, h2, h3⟩ := h.ex
 have hit : wr.heap[k]? = some (.stringIter s pos) := h.it
 exact ⟨⟨pv, uv, Zc hk h1 (fun e => Zb1 h1 hit e.symm), hk.ownsRow h2 (fun g hg e => Zbn h2 hit (by rw [hg, e])), hk.ownsRow h3 (fun g hg e => Zbn h3 hit (by rw [hg, e]))⟩, h.kept.step hk (fun i hi e => by have := h.ilo; simp only at this; omega), h.lo, Lib.iterAt_heap wr k s pos q hit, h.ilo⟩
def Zxp (l : List UInt8) (w : World) (e : Ending) (w' : World) : Prop :=
 ∃ (v : Value) (b : Bool), e = .returned (.tuple #[v, .bool b]) ∧ Kept nF w w' ∧ ((b = true ∧ ∃ ps, Yc l = some ps ∧ w'.ownsRow w.heap.size 130 4 v ps.length (Xn ps)) ∨ (b = false ∧ Yc l = none))
theorem Zxq (s : ByteArray) (hs : s.size ≤ 65536) (w : World) (hG : Gs w) :
  Calls Tryz.prog 52 #[.string s] w (Zxp s.data.toList w) := by
 have HG := Za hG
 have hkA : Kept nF w (w.alloc (.cells #[.slice none 0 0, .int .i64 0, .slice none 0 0, .int .i64 0] 160)) := (Kept.refl _ _).alloc _
 have HC0 : Hid (CgS (w.heap.size + 1, s, 0) w ((w.alloc (.cells #[.slice none 0 0, .int .i64 0, .slice none 0 0, .int .i64 0] 160)).iter s 0) w.heap.size ⟨[], 0, [], 0⟩) := by
  have hkB : Kept nF (w.alloc (.cells #[.slice none 0 0, .int .i64 0, .slice none 0 0, .int .i64 0] 160)) ((w.alloc (.cells #[.slice none 0 0, .int .i64 0, .slice none 0 0, .int .i64 0] 160)).iter s 0) := (Kept.refl _ _).alloc _
  refine ⟨⟨_, _, Zc hkB (heap_alloc_new w _) id, World.ownsRow_nil _ _ _ _, World.ownsRow_nil _ _ _ _⟩, hkA.trans hkB, Nat.le_refl _, ?_, Nat.le_succ _⟩
  have h5 := World.iter_heap (w.alloc (.cells #[.slice none 0 0, .int .i64 0, .slice none 0 0, .int .i64 0] 160)) s 0
  simpa using h5
 obtain ⟨bs, hbs⟩ := nmd (s.data.toList)
 have hbl : bs.length = s.size := by rw [hbs, Lib.size_eq]
 have hbg : ∀ (j : Nat) (hj : j < s.size), bs[j]'(by omega) = s[j]'hj := fun j hj => by subst hbs; rfl
 rw [← hbs]
 have HF : Hid (Zy (bs.drop 0) ⟨[], 0, [], 0⟩ = Zy bs ⟨[], 0, [], 0⟩) := rfl
 have HBG := Za hbg
 clear hG hkA hbs hbg
 go_enter Tryz.func52, Tryz.ntmps52
 go_wp2
 generalize hw0 : (w.alloc (.cells #[.slice none 0 0, .int .i64 0, .slice none 0 0, .int .i64 0] 160)).iter s 0 = W0 at *
 clear hw0
 generalize w.heap.size + 1 = ik at *
 obtain ⟨c, hc⟩ := nmd (w.heap.size)
 rw [← hc] at HC0 ⊢
 have HCW := Za hc
 clear hc
 go_loopw [6] (fun _ wr => ∃ (pos : Nat) (y : CS), pos ≤ s.size ∧ Hid (CgS (ik, s, pos) w wr c y) ∧ Hid (Zy (bs.drop pos) y = Zy bs ⟨[], 0, [], 0⟩) ∧ OkS y ∧ mu y ≤ pos ∧ y.un.length ≤ pos) (fun _ wr => s.size - wr.iterPos ik)
 case atStart => exact ⟨0, ⟨[], 0, [], 0⟩, Nat.zero_le _, HC0, HF, ⟨by decide, by decide, fun h => absurd h (by decide)⟩, Nat.le_refl _, Nat.le_refl _⟩
 case round =>
  clear HC0 HF
  obtain ⟨pos, y, hps, HC, HF, hok, hy1, hy2⟩ := hrel
  have hit : wr.heap[ik]? = some (.stringIter s pos) := HC.out.it
  have hyl : y.ps.length ≤ pos := by unfold mu at hy1; omega
  by_cases hp : pos < s.size
  ·obtain ⟨r, wd, hnext, hr0, ht, h59, hwd⟩ : ∃ (r : Int) (wd : Nat), (∀ ty, (Instr.next (.pointer (some ⟨ik, 0, none⟩)) true ty).run Tryz.prog wr = .ok (.tuple #[.bool true, .int .i64 pos, .int .i32 r]) (wr.iterAt ik s (pos + wd))) ∧ 0 ≤ r ∧ Yb y r = Yb y ((s[pos]'hp).toNat : Int) ∧ (r = 59 ↔ (s[pos]'hp).toNat = 59) ∧ (Yb y r ≠ none → wd = 1) := by
    by_cases h128 : (s[pos]'hp).toNat < 128
    ·exact ⟨_, 1, fun ty => Lib.run_next_ascii_at wr ik s pos ty hit hp h128, by omega, rfl, by omega, fun _ => rfl⟩
    ·have hd := decode_high s pos hp (by omega)
     exact ⟨_, _, fun ty => Lib.run_next_any_at wr ik s pos ty hit hp, by omega, by rw [Zfg _ _ (show (128 : Int) ≤ _ by omega), Zfg _ _ (by omega)], by omega, fun h => absurd (Zfg _ _ (show (128 : Int) ≤ _ by omega)) h⟩
   have hdr : bs.drop pos = (s[pos]'hp) :: bs.drop (pos + 1) := by rw [List.drop_eq_getElem_cons (show pos < bs.length by omega), HBG.out pos hp]
   have hf := HF.out
   rw [hdr, Zy, ← ht] at hf
   have HC1 := Za (HC.out.next (pos + wd))
   have HMU : Hid (wr.iterPos ik = pos) := by unfold Hid; simp [World.iterPos, hit]
   generalize hW1 : wr.iterAt ik s (pos + wd) = W1 at *
   clear hW1
   have hkw := HC1.out.kept
   obtain ⟨pv, uv, hb, hp1, hu1⟩ := HC1.out.ex
   obtain ⟨c0, c1, c2, c3, f0, f1, f2, f3⟩ := Yk hb
   clear hb hp1 hu1 hdr hit ht HF HC
   by_cases hsm : (s[pos]'hp).toNat = 59 ∧ y.st < 4
   ·rw [if_pos hsm] at hf
    have hr := h59.2 hsm.1
    have hst := hsm.2
    have HFX := Za hf
    have HT := Za (Zqs c w W1 y HC1.out (HG.out.same hkw) (by omega) (by omega) hok.1 hok.2.1)
    subst hr
    clear hf hsm h59 hwd hkw HC1 hr0
    go_wp2_with fail
    refine HT.out.mono ?_
    rintro e W2 ⟨z, rfl, h2, hz, hzl⟩
    have HV : Hid (Wl y = true → Yc bs = some z.ps) := fun hb => by
     unfold Yc
     rw [← HFX.out]
     simp only
     rw [if_pos hb, hz hb]
    have HV2 : Hid (Wl y = false → Yc bs = none) := fun hb => by
     unfold Yc
     rw [← HFX.out]
     simp only
     rw [if_neg (by rw [hb]; decide)]
    obtain ⟨pv2, uv2, hb2, hp2, hu2⟩ := h2.ex
    obtain ⟨k0, k1, k2, k3, _⟩ := Yk hb2
    have HP2 := Za hp2
    have HK2 := Za h2.kept
    obtain ⟨pa, pc, hpv⟩ := Zd hp2
    subst hpv
    clear hb2 hp2 hu2 h2 hz hzl HT hnext hok hy1 hy2
    generalize Wl y = eb at *
    go_wp2
    go_ret2
    refine ⟨_, eb, rfl, HK2.out, ?_⟩
    cases eb
    ·exact .inr ⟨rfl, HV2.out rfl⟩
    ·exact .inl ⟨rfl, z.ps, HV.out rfl, by rw [HCW.out]; exact HP2.out⟩
   ·rw [if_neg hsm] at hf
    have HFX := Za hf
    have HT := Za (Zwx c r w W1 y HC1.out (HG.out.same hkw) hr0 (by omega) (by omega) hok.1 hok.2.1 hok.2.2)
    have HTK := Za (fun z (hz : Yb y r = some z) => Zn7 hz hok)
    have HWD := Za hwd
    have HNS : Hid (r = 59 → ¬ y.st < 4) := fun e h => hsm ⟨h59.1 e, h⟩
    clear hf hsm h59 hwd hkw HC1
    by_cases hr59 : r = 59
    ·have hst := HNS.out hr59
     subst hr59
     go_wp2_with fail
     refine HT.out.mono ?_
     clear HT
     rintro e W2 (⟨z, hz, rfl, h2⟩ | ⟨hz, rfl, hk2⟩)
     ·have hw1 := HWD.out (by rw [hz]; simp)
      subst hw1
      have hk := HTK.out z hz
      have hf := HFX.out
      rw [hz] at hf
      have HF2 := Za hf
      have HC2 := Za h2
      have hz1 : mu z ≤ pos + 1 := by have := hk.2.1; omega
      have hz2 : z.un.length ≤ pos + 1 := by have := hk.2.2; omega
      have hokz := hk.1
      clear h2 hz hf hk HTK HFX HWD HNS c0 c1 c2 c3 f0 f1 f2 f3 hnext hok
      go_wp2
      go_roundw
      case rel => exact ⟨pos + 1, z, by omega, HC2, HF2, hokz, hz1, hz2⟩
      case measure =>
       have h1 : W2.iterPos ik = pos + 1 := by simp [World.iterPos, show W2.heap[ik]? = some (.stringIter s (pos + 1)) from HC2.out.it]
       rw [HMU.out, h1]
       omega
     ·have hf := HFX.out
      rw [hz] at hf
      have HN : Hid (Yc bs = none) := by
       show Yc bs = none
       unfold Yc
       rw [← hf]
      have HK2 := Za hk2
      clear hf hz hk2 HTK HFX HWD HNS c0 c1 c2 c3 f0 f1 f2 f3 hnext hok
      go_wp2
      go_ret2
      exact ⟨_, _, rfl, HK2.out, .inr ⟨rfl, HN.out⟩⟩
    ·have e59 : (r == 59) = false := by simp; exact hr59
     clear hr59
     go_wp2_with fail
     refine HT.out.mono ?_
     clear HT
     rintro e W2 (⟨z, hz, rfl, h2⟩ | ⟨hz, rfl, hk2⟩)
     ·have hw1 := HWD.out (by rw [hz]; simp)
      subst hw1
      have hk := HTK.out z hz
      have hf := HFX.out
      rw [hz] at hf
      have HF2 := Za hf
      have HC2 := Za h2
      have hz1 : mu z ≤ pos + 1 := by have := hk.2.1; omega
      have hz2 : z.un.length ≤ pos + 1 := by have := hk.2.2; omega
      have hokz := hk.1
      clear h2 hz hf hk HTK HFX HWD HNS c0 c1 c2 c3 f0 f1 f2 f3 hnext hok
      go_wp2
      go_roundw
      case rel => exact ⟨pos + 1, z, by omega, HC2, HF2, hokz, hz1, hz2⟩
      case measure =>
       have h1 : W2.iterPos ik = pos + 1 := by simp [World.iterPos, show W2.heap[ik]? = some (.stringIter s (pos + 1)) from HC2.out.it]
       rw [HMU.out, h1]
       omega
     ·have hf := HFX.out
      rw [hz] at hf
      have HN : Hid (Yc bs = none) := by
       show Yc bs = none
       unfold Yc
       rw [← hf]
      have HK2 := Za hk2
      clear hf hz hk2 HTK HFX HWD HNS c0 c1 c2 c3 f0 f1 f2 f3 hnext hok
      go_wp2
      go_ret2
      exact ⟨_, _, rfl, HK2.out, .inr ⟨rfl, HN.out⟩⟩
  ·have hnext : ∀ ty, (Instr.next (.pointer (some ⟨ik, 0, none⟩)) true ty).run Tryz.prog wr = _ := fun ty => Lib.run_next_end_at wr ik s pos ty hit hp
   have hf := HF.out
   rw [List.drop_of_length_le (show bs.length ≤ pos by omega), Zy] at hf
   have HFX := Za hf
   have HT := Za (Zqs c w wr y HC.out (HG.out.same HC.out.kept) (by omega) (by omega) hok.1 hok.2.1)
   clear hf hit HF HC
   go_wp2_with fail
   refine HT.out.mono ?_
   rintro e W2 ⟨z, rfl, h2, hz, hzl⟩
   have HV : Hid (Wl y = true → Yc bs = some z.ps) := fun hb => by
    unfold Yc
    rw [← HFX.out]
    simp only
    rw [if_pos hb, hz hb]
   have HV2 : Hid (Wl y = false → Yc bs = none) := fun hb => by
    unfold Yc
    rw [← HFX.out]
    simp only
    rw [if_neg (by rw [hb]; decide)]
   obtain ⟨pv2, uv2, hb2, hp2, hu2⟩ := h2.ex
   obtain ⟨k0, k1, k2, k3, _⟩ := Yk hb2
   have HP2 := Za hp2
   have HK2 := Za h2.kept
   obtain ⟨pa, pc, hpv⟩ := Zd hp2
   subst hpv
   clear hb2 hp2 hu2 h2 hz hzl HT hnext hok hy1 hy2
   generalize Wl y = eb at *
   go_wp2
   go_ret2
   refine ⟨_, eb, rfl, HK2.out, ?_⟩
   cases eb
   ·exact .inr ⟨rfl, HV2.out rfl⟩
   ·exact .inl ⟨rfl, z.ps, HV.out rfl, by rw [HCW.out]; exact HP2.out⟩
end Go.Proofs.YtgoabnehdmdikaaGreatDoor
