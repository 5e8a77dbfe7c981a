import Derived.Test.YtcaadgcfceommaaGreatTKj
import Derived.Deep.LoopGhost
import Derived.ScopeJumps
import Derived.WalkMore
namespace Go.Proofs.YtcaadgcfceommaaGreat
open Go.RowKit
set_option linter.unusedVariables false
set_option linter.unusedSimpArgs false
set_option maxRecDepth 100000
structure HtK (w wr : World) (gh ch a g c : Nat) (n : Nat) (hs l : List Int) : Prop where
 hts : wr.ownsRow w.heap.size 3 1 (.slice (some ⟨gh, 0, none⟩) n ch) n (ints hs)
 wq : Wq wr w.heap.size a g c l
 ne : gh ≠ g
 kept : KF w wr
theorem HtK.nea {w wr : World} {gh ch a g c n : Nat} {hs l : List Int} (h : HtK w wr gh ch a g c n hs l) : gh ≠ a := by
 rcases h.hts.2 with ⟨e, _⟩ | ⟨g', cap, cur, e, _, hgg, _⟩
 ·cases e
 ·cases e
  intro e
  subst e
  rw [h.wq.box] at hgg
  cases hgg
theorem HtK.lt {w wr : World} {gh ch a g c n : Nat} {hs l : List Int} (h : HtK w wr gh ch a g c n hs l) : w.heap.size ≤ gh ∧ gh < wr.heap.size := h.hts.lt gh rfl
theorem HtK.glt {w wr : World} {gh ch a g c n : Nat} {hs l : List Int} (h : HtK w wr gh ch a g c n hs l) : w.heap.size ≤ g := (h.wq.row.lt g rfl).1
theorem HtK.same {w wr w' : World} {gh ch a g c n : Nat} {hs l : List Int} (h : HtK w wr gh ch a g c n hs l) (hk : KF wr w') : HtK w w' gh ch a g c n hs l := ⟨hk.ownsRow h.hts (fun _ _ f => f), h.wq.same hk, h.ne, h.kept.trans hk⟩
theorem HtK.pop {w wr w' : World} {gh ch a g c n : Nat} {hs l : List Int} (h : HtK w wr gh ch a g c n hs l) {l' : List Int} {g' c' : Nat} (hw : Wq w' w.heap.size a g' c' l') (hg : g' = g ∨ wr.heap.size ≤ g') (hk : Kept (fun k => k = g ∨ k = a) wr w') : HtK w w' gh ch a g' c' n hs l' :=
 ⟨hk.ownsRow h.hts (fun q hq e => by
  simp [Value.ownBlock] at hq
  subst hq
  rcases e with e | e
  ·exact h.ne e
  ·exact h.nea e), hw, by
  rcases hg with rfl | hg
  ·exact h.ne
  ·have := h.lt.2
   omega, h.kept.step hk (fun i hi e => by
  have h1 := h.glt
  have h2 := h.wq.low
  omega)⟩
theorem HtK.set {w wr : World} {gh ch a g c n : Nat} {hs l : List Int} (h : HtK w wr gh ch a g c n hs l) (i : Nat) (b : Int) : HtK w (wr.setCell ⟨gh, i, none⟩ (.int .i64 b)) gh ch a g c n (hs.set i b) l := by
 have hk := kept_set wr gh i (.int .i64 b)
 refine ⟨?_, ⟨box_kept hk h.wq.box (fun e => h.nea e.symm), hk.ownsRow h.wq.row (fun q hq e => by simp [Value.ownBlock] at hq; exact h.ne (hq.trans e).symm), h.wq.low⟩, h.ne, h.kept.step hk (fun i hi e => by have := h.lt.1; omega)⟩
 rw [show ints (hs.set i b) = (ints hs).set i (.int .i64 b) by simp [ints, List.map_set]]
 exact (World.ownsRow.stored h.hts i (.int .i64 b)).1
theorem HtK.at {w wr : World} {gh ch a g c n : Nat} {hs l : List Int} (h : HtK w wr gh ch a g c n hs l) (i : Nat) (hi : i < hs.length) : wr.cell? ⟨gh, i, none⟩ = some (.int .i64 (hs.getD i 0)) ∧ wr.frozen? ⟨gh, i, none⟩ = false := by
 refine ⟨?_, World.ownsRow.frozenAt h.hts _⟩
 have := h.hts.cells rfl i (.int .i64 (hs.getD i 0)) (by simp [ints, List.getD, List.getElem?_eq_getElem hi])
 rwa [Addr.add_lit, Nat.zero_add] at this
def HeiR (ss : List ST) (n : Nat) (w : World) (e : Ending) (w' : World) : Prop := KF w w' ∧
 match heightsD ss n with
 | .ok hs => hs.length = n ∧ ∃ g c, e = .returned (.tuple #[.slice (some ⟨g, 0, none⟩) n c, .int .i64 0, .int .i64 0]) ∧ OwnN w' w.heap.size (.slice (some ⟨g, 0, none⟩) n c) hs
 | .error (x, y) => y ≠ 0 ∧ e = .returned (.tuple #[.slice none 0 0, .int .i64 x, .int .i64 y])
def FrmH (R : Int → Int → World → Prop) (a' : Act) (w' : World) : Prop := ∃ u0 u1 u2 u3 u4 u5 u6 u7 u8 u9 u10 u11 u12 u13 u14 u15 u16 u17 u18 u19 u20 u21 u22 u23 u24 u25 u26 u27 u28 u29 u30 u31 u32 u33 u34 u35 u36 u37 u38 u39 u40 u41 u42 u43 u44 u45 u46 u47 u48 u49 u50 u51 u52 u53 u54 u55 u56 u57 u58 u59 u60 u61 u62 u63 u64 u65 u66 u67 u68 u69 u70 u71 u72 u73 u74 u75 u76 u77 u78 u79 u80 u81 u82 u83 u84 u85 : Value, a' = { tmps := #[u0, u1, u2, u3, u4, u5, u6, u7, u8, u9, u10, u11, u12, u13, u14, u15, u16, u17, u18, u19, u20, u21, u22, u23, u24, u25, u26, u27, u28, u29, u30, u31, u32, u33, u34, u35, u36, u37, u38, u39, u40, u41, u42, u43, u44, u45, u46, u47, u48, u49, u50, u51, u52, u53, u54, u55, u56, u57, u58, u59, u60, u61, u62, u63, u64, u65, u66, u67, u68, u69, u70, u71, u72, u73, u74, u75, u76, u77, u78, u79, u80, u81, u82, u83, u84, u85], defers := [] } ∧ ∃ x y : Int, u7 = .int .i64 x ∧ u8 = .int .i64 y ∧ R x y w'
set_option maxHeartbeats 16000000 in
theorem heights_any (gs n : Nat) (ss : List ST) (w : World) (b : Nat) (hss : RowS w b gs ss) (hok : SsOk ss n) :
  Calls Tryz.prog 61 #[.slice (some ⟨gs, 0, none⟩) n n] w (HeiR ss n w) := by
 obtain ⟨hn1, hn2⟩ := hok.pos
 have HSS := hid_of hss
 have HOK := hid_of hok
 have hkA : KF w (w.alloc (.cells #[.int .i64 (-1)] 3)) := (Kept.refl _ _).alloc _
 have HRP := hid_of (repeat_any w.heap.size (-1) n (w.alloc (.cells #[.int .i64 (-1)] 3)) (heap_alloc_new w _) hn1 (by omega))
 have HKA := hid_of hkA
 have hn0 : (0 : Int) < (n : Int) := by omega
 clear hss hok hkA
 go_enter Tryz.func61, Tryz.ntmps61
 go_wp2
 refine wp_scope_jumps 0 (FrmH fun x y w' => HeiR ss n w (.returned (.tuple #[.slice none 0 0, .int .i64 x, .int .i64 y])) w') (fun _ _ => 0) rfl ?_ ?_
 ·go_wp2_with fail
  refine HRP.out.mono ?_
  rintro e w1 ⟨gh, rfl, ho1, hk1⟩
  have ho1' : OwnN w1 w.heap.size (.slice (some ⟨gh, 0, none⟩) n n) (List.replicate n (-1)) := own_mono ho1 HKA.out.size
  have hk1' := HKA.out.trans hk1
  clear HRP HKA ho1 hk1
  have hl1 : (List.replicate n (-1 : Int)).length = n := by simp
  have hc0 : w1.cell? ⟨gh, 0, none⟩ = some (.int .i64 (-1)) := by
   have := ho1'.cells rfl 0 (.int .i64 (-1)) (by simp [ints, List.getElem?_replicate, show 0 < n by omega])
   rwa [Addr.add_lit, Nat.zero_add] at this
  have ho2 : w1.ownsRow w.heap.size 3 1 (.slice (some ⟨gh, 0, none⟩) n n) n (ints (List.replicate n (-1))) := by
   have h9 := ho1'
   unfold OwnN at h9
   rw [hl1] at h9
   exact h9
  have hf0 : w1.frozen? ⟨gh, 0, none⟩ = false := World.ownsRow.frozenAt ho2 _
  have hS0 : HtK w (((w1.setCell ⟨gh, 0, none⟩ (.int .i64 0)).alloc (.cells #[.int .i64 0] 3)).alloc (.cells #[.slice (some ⟨w1.heap.size, 0, none⟩) 1 1] 145)) gh n (w1.heap.size + 1) w1.heap.size 1 n ((List.replicate n (-1)).set 0 0) [0] := by
   obtain ⟨W4, hW4⟩ := nmd (((w1.setCell ⟨gh, 0, none⟩ (.int .i64 0)).alloc (.cells #[.int .i64 0] 3)).alloc (.cells #[.slice (some ⟨w1.heap.size, 0, none⟩) 1 1] 145))
   obtain ⟨k4, b41, b42⟩ := allocs2 _ _ _ _ _ _ hW4
   have hsz : (w1.setCell ⟨gh, 0, none⟩ (.int .i64 0)).heap.size = w1.heap.size := by simp
   rw [hsz] at b41 b42
   rw [← hW4]
   have hlt := (ho2.lt gh rfl)
   have hks := kept_set w1 gh 0 (.int .i64 0)
   refine ⟨?_, ⟨b42, own_single _ _ _ 0 b41 hk1'.size, Nat.le_trans hk1'.size (Nat.le_succ _)⟩, by omega, (hk1'.step hks (fun i hi e => by omega)).trans k4⟩
   have := (World.ownsRow.stored ho2 0 (.int .i64 0)).1
   rw [show ints ((List.replicate n (-1)).set 0 0) = (ints (List.replicate n (-1))).set 0 (.int .i64 0) by simp [ints, List.map_set]]
   exact k4.ownsRow this (fun _ _ f => f)
  have HS0 := hid_of hS0
  clear ho1' ho2 hk1' hl1 hS0
  go_wp2
  go_step3
  go_wp2
  generalize ((w1.setCell ⟨gh, 0, none⟩ (.int .i64 0)).alloc (.cells #[.int .i64 0] 3)).alloc (.cells #[.slice (some ⟨w1.heap.size, 0, none⟩) 1 1] 145) = w4 at *
  generalize w1.heap.size + 1 = a at *
  generalize w1.heap.size = g0 at *
  clear hc0 hf0
  have HI0 := hid_of (IH.start n hn1)
  have HR0 : Hid (heightsD ss n = runH ss n (n + 1) ((List.replicate n (-1)).set 0 0) [0]) := rfl
  have hc0 : ((List.replicate n (-1 : Int)).set 0 0).count (-1) + [(0 : Int)].length ≤ n := HI0.out.cnt
  have HM0 := hid_of hc0
  clear hc0
  go_loopg [7] n (fun gk av wr => ∃ (hs l : List Int) (g c : Nat), Hid (HtK w wr gh n a g c n hs l) ∧ Hid (IH n hs l) ∧ Hid (hs.count (-1) + l.length ≤ gk) ∧ Hid (∃ f, gk < f ∧ heightsD ss n = runH ss n f hs l))
  case atStart => exact ⟨_, _, _, _, HS0, HI0, HM0, ⟨n + 1, by omega, HR0.out⟩⟩
  case round =>
   clear HS0 HI0 HR0 HM0
   obtain ⟨hs, l, g, c, HHT, HIH, HMC, HRF⟩ := hrel
   have hca := HHT.out.wq.c0
   have HLN := hid_of (fun W => ilen (some ⟨g, 0, none⟩) l.length c W)
   by_cases hl0 : l.length = 0
   ·have HR : Hid (heightsD ss n = .ok hs) := by
     obtain ⟨f, hf, hR⟩ := HRF.out
     obtain ⟨f, rfl⟩ : ∃ f', f = f' + 1 := ⟨f - 1, by omega⟩
     unfold Hid
     rw [hR, runH, if_pos hl0]
    have HFI : Hid (HeiR ss n w (.returned (.tuple #[.slice (some ⟨gh, 0, none⟩) n n, .int .i64 0, .int .i64 0])) wr) := by
     refine ⟨HHT.out.kept, ?_⟩
     rw [HR.out]
     have h9 := HHT.out.hts
     have hln := HIH.out.len
     refine ⟨hln, gh, n, rfl, ?_⟩
     unfold OwnN
     rw [hln]
     exact h9
    rw [hl0] at hca HLN
    rw [show ((0 : Nat) : Int) = 0 from rfl] at HLN
    clear hl0 HHT HIH HMC HRF HR
    go_wp2_with fail
    refine (HLN.out _).mono ?_
    rintro e w5 ⟨rfl, hw5⟩
    have hw5 := hw5.symm
    subst hw5
    go_wp2
    simp only [Exit.jump]
    refine bodyPost_ret (v := .tuple #[.slice (some ⟨gh, 0, none⟩) n n, .int .i64 0, .int .i64 0]) (by simp [results, Tryz.results61, go_sem]) rfl HFI.out
   ·have hlp : 0 < l.length := by omega
    have hlpI : (0 : Int) < (l.length : Int) := by omega
    have hcnt := HIH.out.cnt
    have HPO := hid_of (fun W (hW : KF wr W) => hpop (HHT.out.same hW).wq hlp (by omega))
    obtain ⟨hpm, hps, hpl⟩ := popL_spec l hlp
    obtain ⟨e1, e2, e3, e4⟩ := HIH.out.el _ hpm
    obtain ⟨k, hk⟩ : ∃ k : Nat, (popL l).1 = (k : Int) := ⟨(popL l).1.toNat, by omega⟩
    have hkn : k < n := by omega
    obtain ⟨s, hs1⟩ : ∃ s, ss[k]? = some s := ⟨_, List.getElem?_eq_getElem (by rw [HOK.out.len]; exact hkn)⟩
    have hsm := List.mem_of_getElem? hs1
    obtain ⟨h, hh⟩ : ∃ h, hs.getD k 0 = h := ⟨_, rfl⟩
    rw [hk, Int.toNat_natCast, hh] at e3 e4
    have HRS : Hid (∃ f, gk ≤ f ∧ heightsD ss n = if faultS s h n ≠ 0 then .error ((k : Int), faultS s h n) else match joinH (behindS s h) s.nx hs (popL l).2 with
      | none => .error ((k : Int), 136)
      | some r => runH ss n f r.1 r.2) := by
     obtain ⟨f, hf, hR⟩ := HRF.out
     obtain ⟨f, rfl⟩ : ∃ f', f = f' + 1 := ⟨f - 1, by omega⟩
     refine ⟨f, by omega, ?_⟩
     rw [hR, runH, if_neg hl0, hk]
     simp only [Int.toNat_natCast, hs1, hh]
     rfl
    rw [hk] at HPO
    obtain ⟨hI2, hI3, hI4⟩ := HIH.out.pop hlp
    have HI2 := hid_of hI2
    have HI3 : Hid (hs.count (-1) + (popL l).2.length + 1 ≤ gk) := by have := HMC.out; unfold Hid; omega
    have HHH := hid_of hh
    have HS1 := hid_of hs1
    have HSM1 := hid_of hsm
    have hgk : 1 ≤ gk := by have := HMC.out; omega
    clear hI2 hI3 hI4 HRF HMC HIH hpm hps hpl hk hs1 hsm hh hcnt hl0
    generalize (popL l).2 = l2 at *
    generalize l.length = ln at *
    go_wp2_with fail
    refine (HLN.out _).mono ?_
    rintro e w5 ⟨rfl, hw5⟩
    have hw5 := hw5.symm
    subst hw5
    go_wp2_with fail
    refine (HPO.out _ (Kept.refl _ _)).mono ?_
    rintro e w2 ⟨rfl, hW2, hk2⟩
    have HT2 := hid_of (HHT.out.pop hW2 (.inl rfl) hk2)
    have hta := fun W => assert3 W (k : Int)
    clear hW2 hk2 HHT HPO HLN hca
    go_upto_region 7 with fail
    clear hta
    obtain ⟨nv, hrg0, hnv0⟩ := HSS.out k s HS1.out
    have hrg := range_kept hrg0 HT2.out.kept id
    have hnv := HT2.out.kept.ownsRow hnv0 (fun _ _ f => f)
    have HNV0 := hid_of hnv0
    have HNV := hid_of hnv
    obtain ⟨nao, nc, hnvs⟩ := ownsRow_shape hnv
    have hstb := HOK.out.stb s HSM1.out
    have hnx := HOK.out.nx s HSM1.out
    have hcp := HOK.out.cp s HSM1.out
    have hgt := (HT2.out.at k (by rw [HI2.out.len]; exact hkn)).1
    rw [HHH.out] at hgt
    have HFA := hid_of (fun W (hW : KF w2 W) => fault_any s hstb h n ⟨e3, by omega⟩ nv W b (hW.ownsRow hnv (fun _ _ f => f)) (by omega))
    have HBE := hid_of (fun W => behind_any s hstb h ⟨e3, by omega⟩ nv W (by rw [hnvs]; rfl))
    have HBB : Hid (faultS s h n = 0 → 0 ≤ behindS s h ∧ behindS s h ≤ 256 ∧ ∀ m ∈ s.nx, 0 ≤ m ∧ m < n) := fun h0 => by
     unfold faultS at h0
     split at h0
     ·cases h0
     ·rename_i h18
      split at h0
      ·cases h0
      ·rename_i hw
       split at h0
       ·cases h0
       ·rename_i hb
        split at h0
        ·cases h0
        ·rename_i hnm
         refine ⟨?_, by omega, fun m hm => ⟨(hnx.1 m hm).1, ?_⟩⟩
         ·have h1 := hstb.tk
          have h2 := hstb.gv
          unfold wantsS at hw
          unfold behindS
          split at hw
          ·rename_i h5
           rw [hcp h5]
           omega
          ·omega
         ·have := (hnx.1 m hm).2
          have hne : m ≠ n := fun e => hnm (e ▸ hm)
          omega
    have HNL : Hid (s.nx.length ≤ 2) := hnx.2
    obtain ⟨op, ia, tk, gv, nx⟩ := s
    simp only at HNV HNV0 hnvs HFA HBE HRS HNL HBB
    generalize hnxl : nx.length = nl at *
    have HNXL := hid_of hnxl
    subst hnvs
    have HSM : Hid (∀ w', KF w2 w' → w'.cell? ⟨gs, k * 5, none⟩ = some (.int .i64 op) ∧ w'.cell? ⟨gs, k * 5 + 1, none⟩ = some (.int .i64 ia) ∧ w'.cell? ⟨gs, k * 5 + 2, none⟩ = some (.int .i64 tk) ∧ w'.cell? ⟨gs, k * 5 + 3, none⟩ = some (.int .i64 gv) ∧ w'.cell? ⟨gs, k * 5 + 4, none⟩ = some (.slice nao nl nc) ∧ w'.cell? ⟨gh, k, none⟩ = some (.int .i64 h)) := fun w' hw =>
     ⟨hw.cell (hrg 0 _ rfl) id, hw.cell (hrg 1 _ rfl) id, hw.cell (hrg 2 _ rfl) id, hw.cell (hrg 3 _ rfl) id, hw.cell (hrg 4 _ rfl) id, hw.cell hgt id⟩
    have hknI : (k : Int) < (n : Int) := by omega
    have HKB : Hid (KF w2 (w2.drew.alloc (.cells #[.int .i64 op, .int .i64 ia, .int .i64 tk, .int .i64 gv, .slice nao nl nc] 115))) := (Kept.refl _ _).drew.alloc _
    have HBX := hid_of (heap_alloc_new w2.drew (.cells #[.int .i64 op, .int .i64 ia, .int .i64 tk, .int .i64 gv, .slice nao nl nc] 115))
    clear hrg hrg0 hnv hnv0 hstb hnx hcp hgt hnxl
    refine wp_region_held_drew (S := fun w' => KF w2 w') (by kernel_rfl) ((Kept.refl _ _).drew) (fun hHeld => ?_)
    generalize w2.drew = wd at *
    iterate 8
     refine tkn (v := ?_) 0 rfl ?_ ?_; rotate_left 1
     ·intro w hSw; obtain ⟨s0, s1, s2, s3, s4, s5⟩ := HSM.out w hSw; go_simp; try with_reducible rfl
     try simp only [Act.put, tdy]
    refine rdy 8 rfl (fun K hK => ?_)
    go_simp
    refine hK.out _ _ (hHeld.alloc _) (fun hHeld => ?_)
    clear hK K
    try simp only [Act.put, tdy]
    refine rdy 9 rfl (fun K hK => ?_)
    go_simp
    refine hK.out _ _ HKB.out (fun hHeld => ?_)
    clear hK K
    try simp only [Act.put, tdy]
    iterate 1
     refine tkn (v := ?_) 10 rfl ?_ ?_; rotate_left 1
     ·intro w hSw; go_simp; try with_reducible rfl
     try simp only [Act.put, tdy]
    refine wpAnyH_done (by kernel_rfl) ?_ _
    have HT3 := hid_of (HT2.out.same HKB.out)
    have HFA3 := hid_of (HFA.out _ HKB.out)
    unfold ST.cells at HFA3 HBE
    simp only at HFA3 HBE
    generalize wd.alloc (.cells #[.int .i64 op, .int .i64 ia, .int .i64 tk, .int .i64 gv, .slice nao nl nc] 115) = w3 at *
    generalize wd.heap.size = gx at *
    clear HFA HSM HKB HT2 hHeld HNV
    have x0 := cell_block _ _ 0 _ _ _ HBX.out
    have x1 := cell_block _ _ 1 _ _ _ HBX.out
    have x2 := cell_block _ _ 2 _ _ _ HBX.out
    have x3 := cell_block _ _ 3 _ _ _ HBX.out
    have x4 := cell_block _ _ 4 _ _ _ HBX.out
    go_wp2_with fail
    refine HFA3.out.mono ?_
    rintro e w4 ⟨rfl, hk4⟩
    have HT4 := hid_of (HT3.out.same hk4)
    have hbx4 := box_kept hk4 HBX.out id
    have HBX4 := hid_of hbx4
    clear hk4 HT3 HBX HFA3 x0 x1 x2 x3 x4
    by_cases hft : faultS ⟨op, ia, tk, gv, nx⟩ h n = 0
    ·obtain ⟨hb0, hb256, hnm⟩ := HBB.out hft
     have HNM := hid_of hnm
     have HRS2 : Hid (∃ f, gk ≤ f ∧ heightsD ss n = match joinH (behindS ⟨op, ia, tk, gv, nx⟩ h) nx hs l2 with
       | none => .error ((k : Int), 136)
       | some r => runH ss n f r.1 r.2) := by
      obtain ⟨f, hf, hR⟩ := HRS.out
      exact ⟨f, hf, by rw [hR, if_neg (by rw [hft]; decide)]⟩
     rw [hft]
     clear hft HBB HRS hnm
     generalize behindS ⟨op, ia, tk, gv, nx⟩ h = bb at *
     have x4 := cell_block _ _ 4 _ _ _ hbx4
     clear hbx4
     by_cases hnl0 : nl = 0
     ·have HRE : Hid (∃ f, gk - 1 < f ∧ heightsD ss n = runH ss n f hs l2) := by
       obtain ⟨f, hf, hR⟩ := HRS2.out
       have : nx = [] := List.length_eq_zero_iff.1 (by rw [HNXL.out]; exact hnl0)
       rw [this] at hR
       exact ⟨f, by omega, by rw [hR]; rfl⟩
      have HME : Hid (hs.count (-1) + l2.length ≤ gk - 1) := by have := HI3.out; unfold Hid; omega
      subst hnl0
      clear HRS2
      go_wp2
      go_roundg (gk - 1)
      case measure => omega
      case rel => exact ⟨hs, l2, g, c, HT4, HI2, HME, HRE⟩
     ·have hnlI : ((nl : Int) == 0) = false := by simp; omega
      go_wp2
      clear x4
      have HME : Hid (hs.count (-1) + l2.length ≤ gk - 1) := by have := HI3.out; unfold Hid; omega
      have HJ0 : Hid (joinH bb nx hs l2 = joinH bb (nx.drop 0) hs l2) := rfl
      have hnl2 : nl ≤ 2 := HNL.out
      go_loopw [56] (fun jv wr => ∃ (j : Nat) (hs' l' : List Int) (g' c' : Nat), j ≤ nl ∧ jv = .int .i64 (j : Int) ∧ Hid (HtK w wr gh n a g' c' n hs' l') ∧ Hid (IH n hs' l') ∧ Hid (hs'.count (-1) + l'.length ≤ gk - 1) ∧ Hid (joinH bb nx hs l2 = joinH bb (nx.drop j) hs' l') ∧ Hid (wr.heap[gx]? = some (.cells #[.int .i64 op, .int .i64 ia, .int .i64 tk, .int .i64 gv, .slice nao nl nc] 115 (0, 0)))) (fun jv _ => nl - (intOf jv).toNat)
      case atStart => exact ⟨0, hs, l2, g, c, by omega, rfl, HT4, HI2, HME, HJ0, HBX4⟩
      case round =>
       clear HT4 HI2 HI3 HME HJ0 HBX4 HHH
       obtain ⟨j, hs', l', g', c', hj, rfl, HT, HI, HM, HJ, HB⟩ := hrel
       by_cases hjl : j < nl
       ·have hjlI : (j : Int) < (nl : Int) := by omega
        obtain ⟨m, hm⟩ : ∃ m, nx[j]? = some m := ⟨_, List.getElem?_eq_getElem (by rw [HNXL.out]; exact hjl)⟩
        obtain ⟨hm0, hm1⟩ := HNM.out m (List.mem_of_getElem? hm)
        obtain ⟨q, rfl⟩ : ∃ q : Nat, m = (q : Int) := ⟨m.toNat, by omega⟩
        have hqn : q < n := by omega
        have hqnI : (q : Int) < (n : Int) := by omega
        have hnr := HT.out.kept.ownsRow HNV0.out (fun _ _ f => f)
        obtain ⟨gq, hgq, hcq⟩ : ∃ gq, nao = some ⟨gq, 0, none⟩ ∧ wr.cell? ⟨gq, j, none⟩ = some (.int .i64 (q : Int)) := by
         rcases hnr.2 with ⟨e, h0⟩ | ⟨gq, cap, cur, e, _⟩
         ·have := HNXL.out; omega
         ·cases e
          refine ⟨gq, rfl, ?_⟩
          have := hnr.cells rfl j (.int .i64 (q : Int)) (by simp [ints, hm])
          rwa [Addr.add_lit, Nat.zero_add] at this
        subst hgq
        obtain ⟨hcm, hfm⟩ := HT.out.at q (by rw [HI.out.len]; exact hqn)
        have HJN : Hid (nx.drop j = (q : Int) :: nx.drop (j + 1)) := by
         have hjl2 : j < nx.length := by rw [HNXL.out]; exact hjl
         unfold Hid
         rw [List.drop_eq_getElem_cons hjl2]
         congr 1
         exact (List.getElem?_eq_some_iff.1 hm).2
        have hb := HB.out
        have x0 := cell_block _ _ 0 _ _ _ hb
        have x1 := cell_block _ _ 1 _ _ _ hb
        have x2 := cell_block _ _ 2 _ _ _ hb
        have x3 := cell_block _ _ 3 _ _ _ hb
        have x4 := cell_block _ _ 4 _ _ _ hb
        have HBE2 := hid_of (HBE.out wr)
        clear hb hnr hm
        by_cases hh1 : hs'.getD q 0 = -1
        ·have HJ2 : Hid (joinH bb nx hs l2 = joinH bb (nx.drop (j + 1)) (hs'.set q bb) (upL (l'.length + 1) (l' ++ [(q : Int)]) l'.length)) := by
          unfold Hid
          rw [HJ.out, HJN.out, joinH, Int.toNat_natCast, if_pos hh1]
         obtain ⟨hI2, hM2⟩ := HI.out.push (q : Int) bb ⟨by omega, by omega⟩ ⟨hb0, hb256⟩ (by rw [Int.toNat_natCast]; exact hh1)
         rw [Int.toNat_natCast] at hI2 hM2
         have HI2 := hid_of hI2
         have HM2 : Hid ((hs'.set q bb).count (-1) + (upL (l'.length + 1) (l' ++ [(q : Int)]) l'.length).length ≤ gk - 1) := by unfold Hid; rw [hM2]; exact HM.out
         have hcl := HI.out.cnt
         have HLL : Hid (l'.length < 10000) := by unfold Hid; omega
         rw [hh1] at hcm
         clear hI2 hM2 hh1 hcl HJ HJN HM HI
         go_wp2_with fail
         refine HBE2.out.mono ?_
         rintro e w5 ⟨rfl, hk5⟩
         have hT5 := HT.out.same hk5
         have hb5 := box_kept hk5 HB.out id
         have hcm5 := hk5.cell hcm id
         have hfm5 : w5.frozen? ⟨gh, q, none⟩ = false := World.ownsRow.frozenAt hT5.hts _
         have hT6 := hT5.set q bb
         have hgx : gx ≠ gh := fun e => by
          rcases hT5.hts.2 with ⟨e', _⟩ | ⟨g9, cap, cur, e', _, hgg, _⟩
          ·cases e'
          ·cases e'
           rw [← e, hb5] at hgg
           cases hgg
         have hb6 := box_kept (kept_set w5 gh q (.int .i64 bb)) hb5 hgx
         have HPU := hid_of (hpush hT6.wq (q : Int) HLL.out)
         have HT6 := hid_of hT6
         have HB6 := hid_of hb6
         clear hk5 hT5 hb5 hT6 hgx hb6 hcm hfm x0 x1 x2 x3 x4 HBE2 HT HB hcq
         go_wp2_with fail
         generalize w5.setCell ⟨gh, q, none⟩ (.int .i64 bb) = w6 at *
         refine HPU.out.mono ?_
         rintro e w7 ⟨rfl, g7, c7, hW7, hg7, hk7⟩
         have HT7 := hid_of (HT6.out.pop hW7 hg7 hk7)
         have HB7 : Hid (w7.heap[gx]? = some (.cells #[.int .i64 op, .int .i64 ia, .int .i64 tk, .int .i64 gv, .slice (some ⟨gq, 0, none⟩) nl nc] 115 (0, 0))) := box_kept hk7 HB6.out (fun e => by
          rcases e with e | e
          ·rcases HT6.out.wq.row.2 with ⟨e', _⟩ | ⟨g9, cap, cur, e', _, hgg, _⟩
           ·cases e'
           ·cases e'
            rw [← e, HB6.out] at hgg
            cases hgg
          ·have := HT6.out.wq.box
           rw [← e, HB6.out] at this
           cases this)
         clear hcm5 hfm5 HPU hW7 hg7 hk7 HT6 HB6
         go_wp2
         go_roundw
         case rel => exact ⟨j + 1, hs'.set q bb, _, g7, c7, by omega, by go_num, HT7, HI2, HM2, HJ2, HB7⟩
         case measure => simp [intOf]; omega
        ·by_cases hh2 : hs'.getD q 0 = bb
         ·have HJ2 : Hid (joinH bb nx hs l2 = joinH bb (nx.drop (j + 1)) hs' l') := by
           unfold Hid
           rw [HJ.out, HJN.out, joinH, Int.toNat_natCast, if_neg hh1, if_pos hh2]
          rw [hh2] at hcm
          have hbn : (bb == -1) = false := by simp; omega
          clear hh1 hh2 HJ HJN
          go_wp2_with fail
          refine HBE2.out.mono ?_
          rintro e w5 ⟨rfl, hk5⟩
          have HT5 := hid_of (HT.out.same hk5)
          have HB5 := hid_of (box_kept hk5 HB.out id)
          clear hk5 hcm hfm x0 x1 x2 x3 x4 HBE2 HT HB hcq
          go_wp2
          go_roundw
          case rel => exact ⟨j + 1, hs', l', g', c', by omega, by go_num, HT5, HI, HM, HJ2, HB5⟩
          case measure => simp [intOf]; omega
         ·have HFI : Hid (∀ W, KF w W → HeiR ss n w (.returned (.tuple #[.slice none 0 0, .int .i64 (k : Int), .int .i64 136])) W) := fun W hW => by
           refine ⟨hW, ?_⟩
           obtain ⟨f, hf, hR⟩ := HRS2.out
           rw [hR, HJ.out, HJN.out, joinH, Int.toNat_natCast, if_neg hh1, if_neg hh2]
           exact ⟨by decide, rfl⟩
          generalize hs'.getD q 0 = hv at *
          have hb1 : (hv == -1) = false := by simp; exact hh1
          have hb2 : (hv == bb) = false := by simp; exact hh2
          clear HJ HJN HRS2
          go_wp2_with fail
          refine HBE2.out.mono ?_
          rintro e w5 ⟨rfl, hk5⟩
          have HF5 := hid_of (HFI.out w5 (HT.out.kept.trans hk5))
          clear hk5 hcm hfm x0 x1 x2 x3 x4 HBE2 HT HB hcq HFI
          go_wp2
          go_step3
          exact ⟨rfl, _, _, _, _, _, _, _, _, _, _, _, _, _, _, _, _, _, _, _, _, _, _, _, _, _, _, _, _, _, _, _, _, _, _, _, _, _, _, _, _, _, _, _, _, _, _, _, _, _, _, _, _, _, _, _, _, _, _, _, _, _, _, _, _, _, _, _, _, _, _, _, _, _, _, _, _, _, _, _, _, _, _, _, _, _, _, rfl, _, _, rfl, rfl, HF5.out⟩
       ·have e : j = nl := by omega
        subst e
        have HRE : Hid (∃ f, gk - 1 < f ∧ heightsD ss n = runH ss n f hs' l') := by
         obtain ⟨f, hf, hR⟩ := HRS2.out
         refine ⟨f, by omega, ?_⟩
         rw [hR, HJ.out, List.drop_of_length_le (by rw [HNXL.out]; omega)]
         rfl
        clear HJ HRS2 HB
        go_wp2
        go_roundg (gk - 1)
        case measure => omega
        case rel => exact ⟨hs', l', g', c', HT, HI, HM, HRE⟩
    ·have HFI : Hid (HeiR ss n w (.returned (.tuple #[.slice none 0 0, .int .i64 (k : Int), .int .i64 (faultS ⟨op, ia, tk, gv, nx⟩ h n)])) w4) := by
      refine ⟨HT4.out.kept, ?_⟩
      obtain ⟨f, hf, hR⟩ := HRS.out
      rw [hR, if_pos hft]
      exact ⟨hft, rfl⟩
     generalize faultS ⟨op, ia, tk, gv, nx⟩ h n = fv at *
     have ef : (fv != 0) = true := by simp; exact hft
     clear HRS HBB
     go_wp2
     go_step3
     exact ⟨rfl, _, _, _, _, _, _, _, _, _, _, _, _, _, _, _, _, _, _, _, _, _, _, _, _, _, _, _, _, _, _, _, _, _, _, _, _, _, _, _, _, _, _, _, _, _, _, _, _, _, _, _, _, _, _, _, _, _, _, _, _, _, _, _, _, _, _, _, _, _, _, _, _, _, _, _, _, _, _, _, _, _, _, _, _, _, _, rfl, _, _, rfl, rfl, HFI.out⟩
 ·rintro a' w' ⟨_, _, _, _, _, _, _, _, _, _, _, _, _, _, _, _, _, _, _, _, _, _, _, _, _, _, _, _, _, _, _, _, _, _, _, _, _, _, _, _, _, _, _, _, _, _, _, _, _, _, _, _, _, _, _, _, _, _, _, _, _, _, _, _, _, _, _, _, _, _, _, _, _, _, _, _, _, _, _, _, _, _, _, _, _, _, rfl, x, y, rfl, rfl, HJ⟩
  have HJ := hid_of HJ
  go_wp2
  simp only [Exit.jump]
  refine bodyPost_ret (v := .tuple #[.slice none 0 0, .int .i64 x, .int .i64 y]) (by simp [results, Tryz.results61, go_sem]) rfl HJ.out
end Go.Proofs.YtcaadgcfceommaaGreat
