import Derived.Test.YtcaadgcfceommaaGreatTHg
namespace Go.Proofs.YtcaadgcfceommaaGreat
open Go.RowKit
set_option linter.unusedVariables false
set_option linter.unusedSimpArgs false
set_option maxRecDepth 100000
inductive Star (nx : Nat → List Int) : Nat → Nat → Prop
 | refl (u : Nat) : Star nx u u
 | step {u v w : Nat} (h : (v : Int) ∈ nx u) (h' : Star nx v w) : Star nx u w
theorem Star.trans {nx : Nat → List Int} {u v w : Nat} (h : Star nx u v) (h' : Star nx v w) : Star nx u w := by
 induction h with
 | refl => exact h'
 | step h1 _ ih => exact .step h1 (ih h')
def Plus (nx : Nat → List Int) (u v : Nat) : Prop := ∃ w : Nat, (w : Int) ∈ nx u ∧ Star nx w v
theorem Star.plus {nx : Nat → List Int} {u v : Nat} (h : Star nx u v) (hne : u ≠ v) : Plus nx u v := by
 cases h with
 | refl => exact absurd rfl hne
 | step h1 h2 => exact ⟨_, h1, h2⟩
theorem Plus.star {nx : Nat → List Int} {u v : Nat} (h : Plus nx u v) : Star nx u v := by
 obtain ⟨w, h1, h2⟩ := h
 exact .step h1 h2
theorem Plus.trans {nx : Nat → List Int} {u v w : Nat} (h : Plus nx u v) (h' : Star nx v w) : Plus nx u w := by
 obtain ⟨x, h1, h2⟩ := h
 exact ⟨x, h1, h2.trans h'⟩
theorem finTn_not : ∀ (l ts : List Int) (i : Nat), (i : Int) ∉ l → (∀ m ∈ l, 0 ≤ m) → (finTn l ts).getD i 0 = ts.getD i 0
 | [], ts, i, _, _ => rfl
 | x :: l, ts, i, hni, hp => by
  show (finTn l (ts.set x.toNat closedI)).getD i 0 = _
  rw [finTn_not l _ i (fun hx => hni (by simp [hx])) (fun m hm => hp m (by simp [hm]))]
  have hx0 := hp x (by simp)
  have : x.toNat ≠ i := fun e => hni (by rw [← e, Int.toNat_of_nonneg hx0]; simp)
  rw [getD_set_ne _ this]
theorem getDB_set {l : List Bool} {i : Nat} (b : Bool) (j : Nat) (hi : i < l.length) : (l.set i b).getD j false = if i = j then b else l.getD j false := by
 by_cases e : i = j
 ·subst e; rw [if_pos rfl]; simp [List.getD, hi]
 ·rw [if_neg e]; simp [List.getD, List.getElem?_set, e]
theorem finAg_not (b : Bool) : ∀ (l : List Int) (ag : List Bool) (i : Nat), (i : Int) ∉ l → (∀ m ∈ l, 0 ≤ m ∧ m < ag.length) → (finAg b l ag).getD i false = ag.getD i false
 | [], ag, i, _, _ => rfl
 | x :: l, ag, i, hni, hp => by
  show (finAg b l (ag.set x.toNat (ag.getD x.toNat false || b))).getD i false = _
  have hx0 := hp x (by simp)
  rw [finAg_not b l _ i (fun hx => hni (by simp [hx])) (fun m hm => by rw [List.length_set]; exact hp m (by simp [hm])), getDB_set _ _ (by omega)]
  have : x.toNat ≠ i := fun e => hni (by rw [← e, Int.toNat_of_nonneg hx0.1]; simp)
  rw [if_neg this]
theorem finAg_keep (b : Bool) : ∀ (l : List Int) (ag : List Bool) (i : Nat) (c : Bool), (∀ m ∈ l, 0 ≤ m ∧ m < ag.length) → (ag.getD i false = (c || b)) → (finAg b l ag).getD i false = (c || b)
 | [], ag, i, c, _, h => h
 | x :: l, ag, i, c, hp, h => by
  show (finAg b l (ag.set x.toNat (ag.getD x.toNat false || b))).getD i false = _
  have hx0 := hp x (by simp)
  refine finAg_keep b l _ i c (fun m hm => by rw [List.length_set]; exact hp m (by simp [hm])) ?_
  rw [getDB_set _ _ (by omega)]
  split
  ·rename_i e; rw [e, h]; cases c <;> cases b <;> rfl
  ·exact h
theorem finAg_mem (b : Bool) : ∀ (l : List Int) (ag : List Bool) (i : Nat), (i : Int) ∈ l → (∀ m ∈ l, 0 ≤ m ∧ m < ag.length) → (finAg b l ag).getD i false = (ag.getD i false || b)
 | [], ag, i, h, _ => by simp at h
 | x :: l, ag, i, h, hp => by
  have hx0 := hp x (by simp)
  show (finAg b l (ag.set x.toNat (ag.getD x.toNat false || b))).getD i false = _
  by_cases e : x.toNat = i
  ·refine finAg_keep b l _ i (ag.getD i false) (fun m hm => by rw [List.length_set]; exact hp m (by simp [hm])) ?_
   rw [getDB_set _ _ (by omega), if_pos e, e]
  ·have hil : (i : Int) ∈ l := by
    rcases List.mem_cons.1 h with h | h
    ·exact absurd (by omega) e
    ·exact h
   rw [finAg_mem b l _ i hil (fun m hm => by rw [List.length_set]; exact hp m (by simp [hm])), getDB_set _ _ (by omega), if_neg e]
def nm (σ : TS) (i : Nat) : Int := σ.turns.getD i 0
structure TJ (nx : Nat → List Int) (N : Nat) (R : Nat → Prop) (σ : TS) (G : Nat → Prop) : Prop where
 ti : TI N R σ
 inc : σ.opn.Pairwise (fun a b => nm σ a.toNat < nm σ b.toNat)
 opr : ∀ m ∈ σ.opn, 1 ≤ nm σ m.toNat ∧ nm σ m.toNat ≤ σ.turn
 odc : ∀ m ∈ σ.order, nm σ m.toNat = closedI
 vis : ∀ i, i < N → nm σ i ≠ 0 → (i : Int) ∈ σ.opn ∨ (i : Int) ∈ σ.order
 con : ∀ x y : Nat, (x : Int) ∈ σ.opn → (y : Int) ∈ σ.opn → nm σ x ≤ nm σ y → Star nx x y
 gr : ∀ y : Nat, (y : Int) ∈ σ.opn → ∃ g, G g ∧ nm σ g ≤ nm σ y ∧ Star nx y g
 gop : ∀ g, G g → (g : Int) ∈ σ.opn
 cls : ∀ x : Nat, (x : Int) ∈ σ.order → ∀ v ∈ nx x, v ∈ σ.order
 blk : ∀ i, i < N → nm σ i ≠ 0 → ¬ G i → ∀ v ∈ nx i, nm σ v.toNat ≠ 0
 agO : ∀ i : Nat, (i : Int) ∈ σ.order → (σ.again.getD i false = true ↔ Plus nx i i)
 agP : ∀ i : Nat, (i : Int) ∈ σ.opn → ¬ G i → (σ.again.getD i false = true ↔ (i : Int) ∈ nx i)
 agW : ∀ i, i < N → nm σ i = 0 → σ.again.getD i false = false
 nod : σ.order.Nodup
 top : ∀ (pre : List Int) (u : Nat) (post : List Int), σ.order = pre ++ (u : Int) :: post → ¬ Plus nx u u → ∀ v ∈ nx u, v ∈ pre
section
variable {nx : Nat → List Int} {N : Nat} {R : Nat → Prop} {σ τ : TS} {G : Nat → Prop}
theorem TJ.disj (h : TJ nx N R σ G) (hN : (N : Int) < closedI) {x : Int} (h1 : x ∈ σ.opn) (h2 : x ∈ σ.order) : False := by
 have a := (h.opr x h1).2
 have b := h.odc x h2
 have c := h.ti.tn.2
 omega
theorem TJ.starO (h : TJ nx N R σ G) (hr : ∀ n, n < N → R n → ∀ m ∈ nx n, 0 ≤ m ∧ m < N ∧ R m.toNat) {x y : Nat} (hx : (x : Int) ∈ σ.order) (hs : Star nx x y) : (y : Int) ∈ σ.order := by
 induction hs with
 | refl => exact hx
 | step h1 _ ih => exact ih (h.cls _ hx _ h1)
structure MO (nx : Nat → List Int) (N : Nat) (R : Nat → Prop) (σ : TS) (G : Nat → Prop) (n : Nat) (r : TS × Int) : Prop where
 tj : TJ nx N R r.1 G
 opk : ∀ x ∈ σ.opn, nm r.1 x.toNat = nm σ x.toNat
 odk : ∀ x ∈ σ.order, x ∈ r.1.order
 agk : ∀ x : Nat, (x : Int) ∈ σ.opn → r.1.again.getD x false = σ.again.getD x false
 met : nm r.1 n ≠ 0
 trn : σ.turn ≤ r.1.turn
 zc : zc r.1.turns ≤ zc σ.turns
 top : r.2 ≤ σ.turn + 1
 low : (r.2 = σ.turn + 1 ∧ r.1.opn = σ.opn) ∨ (r.2 < σ.turn + 1 ∧ ∃ y : Nat, (y : Int) ∈ σ.opn ∧ nm σ y = r.2 ∧ Star nx n y)
 new : ∃ l, r.1.opn = σ.opn ++ l ∧ (∀ x ∈ l, σ.turn < nm r.1 x.toNat) ∧ ∀ x ∈ l, ∀ v ∈ nx x.toNat, v ∈ σ.opn → r.2 ≤ nm σ v.toNat
end
section
variable {nx : Nat → List Int} {N : Nat} {R : Nat → Prop} {σ τ : TS} {G : Nat → Prop} {n : Nat}
theorem nm_met (ht : TI N R σ) (hn : n < N) (i : Nat) : nm (metS σ n) i = if n = i then σ.turn + 1 else nm σ i := by
 show (σ.turns.set n (σ.turn + 1)).getD i 0 = _
 by_cases e : n = i
 ·subst e; rw [if_pos rfl, getD_set_eq _ (by rw [ht.tl]; exact hn)]
 ·rw [if_neg e, getD_set_ne _ e]; rfl
theorem closed_ne : closedI ≠ 0 := by unfold closedI; decide
theorem TJ.met (h : TJ nx N R σ G) (hn : n < N) (hR : R n) (h0 : nm σ n = 0) (hG : ∀ g, G g → Star nx g n) : TJ nx N R (metS σ n) (fun x => G x ∨ x = n) := by
 have hnm := fun i => nm_met (n := n) h.ti hn i
 have hop : (metS σ n).opn = σ.opn ++ [(n : Int)] := rfl
 have hod : (metS σ n).order = σ.order := rfl
 have htn : (metS σ n).turn = σ.turn + 1 := rfl
 have hag : (metS σ n).again = σ.again := rfl
 have ht0 := h.ti.tn.1
 have hold : ∀ m ∈ σ.opn, nm (metS σ n) m.toNat = nm σ m.toNat := fun m hm => by
  rw [hnm, if_neg]
  intro e
  have := (h.opr m hm).1
  rw [← e, h0] at this
  omega
 have holdN : ∀ m : Nat, (m : Int) ∈ σ.opn → nm (metS σ n) m = nm σ m := fun m hm => by have := hold _ hm; simpa using this
 refine ⟨(h.ti.met hn hR h0).1, ?_, fun m hm => ?_, fun m hm => ?_, fun i hi hne => ?_, fun x y hx hy hle => ?_, fun y hy => ?_, fun g hg => ?_, h.cls, fun i hi hne hng v hv => ?_, h.agO, fun i hi hng => ?_, fun i hi h1 => ?_, h.nod, h.top⟩
 ·rw [hop, List.pairwise_append]
  refine ⟨?_, by simp, fun a ha b hb => ?_⟩
  ·exact h.inc.imp_of_mem (fun {a b} ha hb hab => by rw [hold a ha, hold b hb]; exact hab)
  ·simp at hb
   subst hb
   rw [hold a ha, Int.toNat_natCast, hnm, if_pos rfl]
   have := (h.opr a ha).2
   omega
 ·rw [htn]
  rw [hop] at hm
  rcases List.mem_append.1 hm with hm | hm
  ·rw [hold m hm]; have := h.opr m hm; omega
  ·simp at hm
   subst hm
   rw [Int.toNat_natCast, hnm, if_pos rfl]
   omega
 ·rw [hnm, if_neg]
  ·exact h.odc m hm
  ·intro e
   have := h.odc m hm
   rw [← e, h0] at this
   exact closed_ne this.symm
 ·rw [hop, hod]
  by_cases e : n = i
  ·subst e; simp
  ·rw [hnm, if_neg e] at hne
   rcases h.vis i hi hne with h1 | h1
   ·simp [h1]
   ·exact .inr h1
 ·rw [hop] at hx hy
  rcases List.mem_append.1 hx with hx | hx
  ·rcases List.mem_append.1 hy with hy | hy
   ·rw [holdN x hx, holdN y hy] at hle
    exact h.con x y hx hy hle
   ·simp at hy
    rw [show y = n by omega]
    obtain ⟨g, hg, _, hs⟩ := h.gr x hx
    exact hs.trans (hG g hg)
  ·simp at hx
   have hxn : x = n := by omega
   subst hxn
   rcases List.mem_append.1 hy with hy | hy
   ·rw [hnm, if_pos rfl, holdN y hy] at hle
    have := (h.opr _ hy).2
    simp only [Int.toNat_natCast] at this
    omega
   ·simp at hy
    have hyn : y = x := by omega
    subst hyn
    exact .refl _
 ·rw [hop] at hy
  rcases List.mem_append.1 hy with hy | hy
  ·obtain ⟨g, hg, hle, hs⟩ := h.gr y hy
   exact ⟨g, .inl hg, by rw [holdN g (h.gop g hg), holdN y hy]; exact hle, hs⟩
  ·simp at hy
   have hyn : y = n := by omega
   subst hyn
   exact ⟨_, .inr rfl, Int.le_refl _, .refl _⟩
 ·rw [hop]
  rcases hg with hg | rfl
  ·simp [h.gop g hg]
  ·simp
 ·have hni : ¬ n = i := fun e => hng (.inr e.symm)
  rw [hnm, if_neg hni] at hne
  have h9 := h.blk i hi hne (fun hg => hng (.inl hg)) v hv
  rw [hnm]
  split
  ·omega
  ·exact h9
 ·rw [hop] at hi
  rcases List.mem_append.1 hi with hi | hi
  ·exact h.agP i hi (fun hg => hng (.inl hg))
  ·simp at hi
   exact absurd (.inr (show i = n by omega)) hng
 ·rw [hag]
  rw [hnm] at h1
  split at h1
  ·omega
  ·exact h.agW i hi h1
theorem TJ.again (h : TJ nx N R σ G) (hN : (N : Int) < closedI) (hn : n < N) (hg : G n) : TJ nx N R { σ with again := σ.again.set n true } G := by
 have hop := h.gop n hg
 have hal : n < σ.again.length := by rw [h.ti.al]; exact hn
 have hget : ∀ i, i ≠ n → (σ.again.set n true).getD i false = σ.again.getD i false := fun i hi => by
  rw [getDB_set _ _ hal, if_neg (fun e => hi e.symm)]
 refine ⟨h.ti.again n, h.inc, h.opr, h.odc, h.vis, h.con, h.gr, h.gop, h.cls, h.blk, fun i hi => ?_, fun i hi hng => ?_, fun i hi h0 => ?_, h.nod, h.top⟩
 ·have hne : i ≠ n := fun e => by subst e; exact h.disj hN hop hi
  show (σ.again.set n true).getD i false = true ↔ _
  rw [hget i hne]
  exact h.agO i hi
 ·have hne : i ≠ n := fun e => hng (by rw [e]; exact hg)
  show (σ.again.set n true).getD i false = true ↔ _
  rw [hget i hne]
  exact h.agP i hi hng
 ·have hne : i ≠ n := fun e => by
   subst e
   have := (h.opr _ hop).1
   simp only [Int.toNat_natCast] at this
   have h0' : nm σ i = 0 := h0
   omega
  show (σ.again.set n true).getD i false = false
  rw [hget i hne]
  exact h.agW i hi h0
theorem TJ.black (h : TJ nx N R τ (fun x => G x ∨ x = n)) (hall : ∀ v ∈ nx n, nm τ v.toNat ≠ 0) (hag : τ.again.getD n false = true ↔ (n : Int) ∈ nx n) (hg : ∃ g, G g ∧ nm τ g ≤ nm τ n ∧ Star nx n g) : TJ nx N R τ G := by
 refine ⟨h.ti, h.inc, h.opr, h.odc, h.vis, h.con, fun y hy => ?_, fun g hg => h.gop g (.inl hg), h.cls, fun i hi hne hng v hv => ?_, h.agO, fun i hi hng => ?_, h.agW, h.nod, h.top⟩
 ·obtain ⟨g, hg1, hle, hs⟩ := h.gr y hy
  rcases hg1 with hg1 | rfl
  ·exact ⟨g, hg1, hle, hs⟩
  ·obtain ⟨g', h1, h2, h3⟩ := hg
   exact ⟨g', h1, by omega, hs.trans h3⟩
 ·by_cases e : i = n
  ·subst e; exact hall v hv
  ·exact h.blk i hi hne (fun h9 => h9.elim hng e) v hv
 ·by_cases e : i = n
  ·subst e; exact hag
  ·exact h.agP i hi (fun h9 => h9.elim hng e)
theorem TJ.shut (hN : (N : Int) < closedI) (hr : ∀ n, n < N → R n → ∀ m ∈ nx n, 0 ≤ m ∧ m < N ∧ R m.toNat) (hσ : TJ nx N R σ G) (h : TJ nx N R τ (fun x => G x ∨ x = n)) {l : List Int} (hop : τ.opn = σ.opn ++ (n : Int) :: l) (hopk : ∀ x ∈ σ.opn, nm τ x.toNat = nm σ x.toNat)
  (hno : ∀ x ∈ (n : Int) :: l, ∀ v ∈ nx x.toNat, v ∉ σ.opn) (hall : ∀ v ∈ nx n, nm τ v.toNat ≠ 0) (hag : τ.again.getD n false = true ↔ (n : Int) ∈ nx n) (hlt : σ.turn ≤ τ.turn) :
  TJ nx N R (doneS σ.opn.length τ) G ∧ (∀ i, i < N → (nm (doneS σ.opn.length τ) i ≠ 0 ↔ nm τ i ≠ 0)) ∧ (∀ x ∈ σ.opn, nm (doneS σ.opn.length τ) x.toNat = nm σ x.toNat) ∧ (∀ x : Nat, (x : Int) ∈ σ.opn → (doneS σ.opn.length τ).again.getD x false = τ.again.getD x false) ∧ (doneS σ.opn.length τ).opn = σ.opn ∧ (doneS σ.opn.length τ).order = τ.order ++ (n : Int) :: l := by
 have hdrop : τ.opn.drop σ.opn.length = (n : Int) :: l := by rw [hop, List.drop_left']; rfl
 have htake : τ.opn.take σ.opn.length = σ.opn := by rw [hop, List.take_left']; rfl
 have hP0 : ∀ m ∈ (n : Int) :: l, 0 ≤ m ∧ m < N ∧ R m.toNat := fun m hm => h.ti.op m (by rw [hop]; simp at hm ⊢; exact .inr hm)
 have hPo : ∀ m ∈ (n : Int) :: l, m ∈ τ.opn := fun m hm => by rw [hop]; simp at hm ⊢; exact .inr hm
 have hOo : ∀ m ∈ σ.opn, m ∈ τ.opn := fun m hm => by rw [hop]; simp [hm]
 have hOP : ∀ m ∈ σ.opn, m ∉ (n : Int) :: l := fun m hm hm2 => by
  have h9 := h.inc
  rw [hop, List.pairwise_append] at h9
  have := h9.2.2 m hm m hm2
  omega
 have hnm1 : ∀ i : Nat, (i : Int) ∈ (n : Int) :: l → nm (doneS σ.opn.length τ) i = closedI := fun i hi => by
  show (finTn (τ.opn.drop σ.opn.length) τ.turns).getD i 0 = closedI
  rw [hdrop]
  have := finTn_mem ((n : Int) :: l) τ.turns i hi (by rw [h.ti.tl]; have := (hP0 _ hi).2.1; omega)
  simpa using this
 have hnm2 : ∀ i : Nat, (i : Int) ∉ (n : Int) :: l → nm (doneS σ.opn.length τ) i = nm τ i := fun i hi => by
  show (finTn (τ.opn.drop σ.opn.length) τ.turns).getD i 0 = _
  rw [hdrop]
  exact finTn_not _ _ i hi (fun m hm => (hP0 m hm).1)
 have hvis : ∀ i, i < N → (nm (doneS σ.opn.length τ) i ≠ 0 ↔ nm τ i ≠ 0) := fun i hi => by
  by_cases hin : (i : Int) ∈ (n : Int) :: l
  ·rw [hnm1 i hin]
   refine ⟨fun _ => ?_, fun _ => closed_ne⟩
   have := (h.opr _ (hPo _ hin)).1
   simp only [Int.toNat_natCast] at this
   omega
  ·rw [hnm2 i hin]
 -- what is done is closed
 have hcl : ∀ x : Nat, (x : Int) ∈ (n : Int) :: l → ∀ v ∈ nx x, v ∈ (n : Int) :: l ∨ v ∈ τ.order := fun x hx v hv => by
  obtain ⟨x0, x1, x2⟩ := hP0 _ hx
  simp only [Int.toNat_natCast] at x2
  obtain ⟨v0, v1, v2⟩ := hr x (by omega) x2 v hv
  have hvn : nm τ v.toNat ≠ 0 := by
   by_cases e : x = n
   ·subst e; exact hall v hv
   ·have hxn : nm τ x ≠ 0 := by
     have := (h.opr _ (hPo _ hx)).1
     simp only [Int.toNat_natCast] at this
     omega
    exact h.blk x (by omega) hxn (fun h9 => h9.elim (fun hg => hOP _ (hσ.gop x hg) hx) e) v hv
  rcases h.vis v.toNat (by omega) hvn with h1 | h1
  ·rw [Int.toNat_of_nonneg v0, hop] at h1
   rcases List.mem_append.1 h1 with h1 | h1
   ·exact absurd h1 (hno _ hx v (by simpa using hv))
   ·exact .inl h1
  ·rw [Int.toNat_of_nonneg v0] at h1
   exact .inr h1
 have hcs : ∀ x y : Nat, Star nx x y → ((x : Int) ∈ (n : Int) :: l ∨ (x : Int) ∈ τ.order) → ((y : Int) ∈ (n : Int) :: l ∨ (y : Int) ∈ τ.order) := fun x y hs => by
  induction hs with
  | refl => exact fun h => h
  | step h1 _ ih =>
   intro hx
   refine ih ?_
   rcases hx with hx | hx
   ·exact hcl _ hx _ h1
   ·exact .inr (h.cls _ hx _ h1)
 have hton : ∀ x : Nat, (x : Int) ∈ (n : Int) :: l → Star nx x n := fun x hx => by
  obtain ⟨g, hg, _, hs⟩ := h.gr x (hPo _ hx)
  rcases hg with hg | rfl
  ·exfalso
   have hgo := hσ.gop g hg
   rcases hcs x g hs (.inl hx) with h1 | h1
   ·exact hOP _ hgo h1
   ·exact h.disj hN (hOo _ hgo) h1
  ·exact hs
 have hfrom : ∀ x : Nat, (x : Int) ∈ (n : Int) :: l → Star nx n x := fun x hx => by
  refine h.con n x (hPo _ (by simp)) (hPo _ hx) ?_
  have h9 := h.inc
  rw [hop, List.pairwise_append] at h9
  have h8 := (List.pairwise_cons.1 h9.2.1).1
  rcases List.mem_cons.1 hx with h7 | h7
  ·have : x = n := by omega
   rw [this]; exact Int.le_refl _
  ·have := h8 _ h7
   simp only [Int.toNat_natCast] at this
   omega
 have hln : ∀ x ∈ l, x ≠ (n : Int) := fun x hx e => by
  have h9 := h.inc
  rw [hop, List.pairwise_append] at h9
  have := (List.pairwise_cons.1 h9.2.1).1 x hx
  rw [e] at this
  omega
 have hmany : l ≠ [] → ∀ x : Nat, (x : Int) ∈ (n : Int) :: l → Plus nx x x := fun hl x hx => by
  by_cases e : x = n
  ·subst e
   obtain ⟨z, l', rfl⟩ := List.exists_cons_of_ne_nil hl
   have hz := hP0 z (by simp)
   obtain ⟨zn, hzn⟩ : ∃ q : Nat, z = (q : Int) := ⟨z.toNat, by omega⟩
   subst hzn
   have hne : x ≠ zn := fun e => hln (zn : Int) (by simp) (by rw [e])
   exact ((hfrom zn (by simp)).plus hne).trans (hton zn (by simp))
  ·exact ((hton x hx).plus e).trans (hfrom x hx)
 have hone : l = [] → (Plus nx n n ↔ (n : Int) ∈ nx n) := fun hl => by
  subst hl
  refine ⟨fun ⟨w, h1, h2⟩ => ?_, fun h1 => ⟨n, h1, .refl _⟩⟩
  rcases hcl n (by simp) _ h1 with h3 | h3
  ·simp at h3
   have : w = n := by omega
   rw [this] at h1
   exact h1
  ·exfalso
   have h4 := h.starO hr h3 h2
   exact h.disj hN (hPo _ (by simp)) h4
 have hagP : ∀ m ∈ (n : Int) :: l, 0 ≤ m ∧ m < τ.again.length := fun m hm => by rw [h.ti.al]; have := hP0 m hm; exact ⟨this.1, this.2.1⟩
 have hoD : (doneS σ.opn.length τ).opn = σ.opn := htake
 have hodD : (doneS σ.opn.length τ).order = τ.order ++ (n : Int) :: l := by
  show τ.order ++ τ.opn.drop σ.opn.length = _
  rw [hdrop]
 have hagD : (doneS σ.opn.length τ).again = finAg (decide (1 < ((n : Int) :: l).length)) ((n : Int) :: l) τ.again := by
  show finAg _ (τ.opn.drop σ.opn.length) _ = _
  rw [hdrop]
 have hsig : ∀ x ∈ σ.opn, nm (doneS σ.opn.length τ) x.toNat = nm σ x.toNat := fun x hx => by
  have hx0 := (hσ.ti.op x hx).1
  rw [hnm2 x.toNat (by rw [Int.toNat_of_nonneg hx0]; exact hOP x hx), hopk x hx]
 have hsigN : ∀ x : Nat, (x : Int) ∈ σ.opn → nm (doneS σ.opn.length τ) x = nm σ x := fun x hx => by have := hsig _ hx; simpa using this
 refine ⟨⟨(h.ti.done σ.opn.length).1, ?_, fun m hm => ?_, fun m hm => ?_, fun i hi hne => ?_, fun x y hx hy hle => ?_, fun y hy => ?_, fun g hg => by rw [hoD]; exact hσ.gop g hg, fun x hx v hv => ?_, fun i hi hne hng v hv => ?_, fun i hi => ?_, fun i hi hng => ?_, fun i hi h0 => ?_, ?_, fun pre u post he hnp v hv => ?_⟩, hvis, hsig, (fun x hx => by rw [hagD, finAg_not _ _ _ x (hOP _ hx) hagP]), hoD, hodD⟩
 ·rw [hoD]
  exact hσ.inc.imp_of_mem (fun {a b} ha hb hab => by rw [hsig a ha, hsig b hb]; exact hab)
 ·rw [hoD] at hm
  rw [hsig m hm]
  have := hσ.opr m hm
  refine ⟨this.1, ?_⟩
  show nm σ m.toNat ≤ τ.turn
  omega
 ·rw [hodD] at hm
  rcases List.mem_append.1 hm with hm | hm
  ·have hm0 := (h.ti.od m hm).1
   rw [hnm2 m.toNat (by rw [Int.toNat_of_nonneg hm0]; exact fun h9 => h.disj hN (hPo _ h9) hm)]
   exact h.odc m hm
  ·have hm0 := (hP0 m hm).1
   exact hnm1 m.toNat (by rw [Int.toNat_of_nonneg hm0]; exact hm)
 ·rw [hoD, hodD]
  rcases h.vis i hi ((hvis i hi).1 hne) with h1 | h1
  ·rw [hop] at h1
   rcases List.mem_append.1 h1 with h1 | h1
   ·exact .inl h1
   ·exact .inr (List.mem_append.2 (.inr h1))
  ·exact .inr (List.mem_append.2 (.inl h1))
 ·rw [hoD] at hx hy
  rw [hsigN x hx, hsigN y hy] at hle
  exact hσ.con x y hx hy hle
 ·rw [hoD] at hy
  obtain ⟨g, hg, hle, hs⟩ := hσ.gr y hy
  exact ⟨g, hg, by rw [hsigN g (hσ.gop g hg), hsigN y hy]; exact hle, hs⟩
 ·rw [hodD] at hx ⊢
  rcases List.mem_append.1 hx with hx | hx
  ·exact List.mem_append.2 (.inl (h.cls x hx v hv))
  ·rcases hcl x hx v hv with h1 | h1
   ·exact List.mem_append.2 (.inr h1)
   ·exact List.mem_append.2 (.inl h1)
 ·have hne' := (hvis i hi).1 hne
  by_cases e : i = n
  ·subst e
   have hRi := (hP0 (i : Int) (by simp)).2.2
   simp only [Int.toNat_natCast] at hRi
   have hb := hr i hi hRi v hv
   exact (hvis v.toNat (by omega)).2 (hall v hv)
  ·have hRi : R i := by
    rcases h.vis i hi hne' with h1 | h1
    ·have := (h.ti.op _ h1).2.2; simpa using this
    ·have := (h.ti.od _ h1).2.2; simpa using this
   have hb := hr i hi hRi v hv
   exact (hvis v.toNat (by omega)).2 (h.blk i hi hne' (fun h9 => h9.elim hng e) v hv)
 ·rw [hodD] at hi
  rw [hagD]
  rcases List.mem_append.1 hi with hi | hi
  ·rw [finAg_not _ _ _ i (fun h9 => h.disj hN (hPo _ h9) hi) hagP]
   exact h.agO i hi
  ·rw [finAg_mem _ _ _ i hi hagP]
   cases l with
   | nil =>
    have e : i = n := by simp at hi; omega
    subst e
    simp only [List.length_cons, List.length_nil, Nat.zero_add, Nat.lt_irrefl, decide_false, Bool.or_false]
    rw [hag, hone rfl]
   | cons z l' =>
    have : decide (1 < ((n : Int) :: z :: l').length) = true := by simp
    rw [this, Bool.or_true]
    exact ⟨fun _ => hmany (by simp) i hi, fun _ => rfl⟩
 ·rw [hoD] at hi
  rw [hagD, finAg_not _ _ _ i (hOP _ hi) hagP]
  exact h.agP i (hOo _ hi) (fun h9 => h9.elim hng (fun e => hOP _ hi (by rw [e]; simp)))
 ·have h0' : nm τ i = 0 := by
   by_cases e : nm τ i = 0
   ·exact e
   ·exact absurd h0 ((hvis i hi).2 e)
  rw [hagD, finAg_not _ _ _ i (fun h9 => by
   have := (h.opr _ (hPo _ h9)).1
   simp only [Int.toNat_natCast] at this
   omega) hagP]
  exact h.agW i hi h0'
 ·rw [hodD, List.nodup_append]
  refine ⟨h.nod, ?_, fun a ha b hb e => h.disj hN (hPo b hb) (by rw [← e]; exact ha)⟩
  have h9 := h.inc
  rw [hop, List.pairwise_append] at h9
  exact h9.2.1.imp (fun {a b} hab e => by rw [e] at hab; omega)
 ·rw [hodD] at he
  rcases List.append_eq_append_iff.1 he with ⟨a, h1, h2⟩ | ⟨a, h1, h2⟩
  ·-- u lies in what is new
   have hu : (u : Int) ∈ (n : Int) :: l := by rw [h2]; simp
   cases l with
   | nil =>
    have hal : a = [] := by
     cases a with
     | nil => rfl
     | cons b a' => simp at h2
    subst hal
    simp at h2
    have e : u = n := by omega
    subst e
    rw [List.append_nil] at h1
    rw [h1]
    rcases hcl u (by simp) v hv with h3 | h3
    ·simp at h3
     subst h3
     exact absurd ⟨u, hv, .refl _⟩ hnp
    ·exact h3
   | cons z l' => exact absurd (hmany (by simp) u hu) hnp
  ·cases a with
   | nil =>
    simp at h2
    obtain ⟨e1, e2⟩ := h2
    have e : u = n := by omega
    subst e
    rw [List.append_nil] at h1
    have hlz : l = [] := by
     cases l with
     | nil => rfl
     | cons z l' => exact absurd (hmany (by simp) u (by simp)) hnp
    rw [← h1]
    rcases hcl u (by simp) v hv with h3 | h3
    ·rw [hlz] at h3
     simp at h3
     subst h3
     exact absurd ⟨u, hv, .refl _⟩ hnp
    ·exact h3
   | cons b a' =>
    simp at h2
    obtain ⟨rfl, e2⟩ := h2
    exact h.top pre u a' h1 hnp v hv
end
structure LJ (nx : Nat → List Int) (N : Nat) (R : Nat → Prop) (σ : TS) (G : Nat → Prop) (n : Nat) (τ : TS) (e : Int) (ds : List Int) : Prop where
 tj : TJ nx N R τ (fun x => G x ∨ x = n)
 opk : ∀ x ∈ σ.opn, nm τ x.toNat = nm σ x.toNat
 odk : ∀ x ∈ σ.order, x ∈ τ.order
 agk : ∀ x : Nat, (x : Int) ∈ σ.opn → τ.again.getD x false = σ.again.getD x false
 nmn : nm τ n = σ.turn + 1
 trn : σ.turn + 1 ≤ τ.turn
 top : e ≤ σ.turn + 1
 low : e = σ.turn + 1 ∨ (e < σ.turn + 1 ∧ ∃ y : Nat, (y : Int) ∈ σ.opn ∧ nm σ y = e ∧ Star nx n y)
 new : ∃ l, τ.opn = σ.opn ++ (n : Int) :: l ∧ (∀ x ∈ l, σ.turn + 1 < nm τ x.toNat) ∧ ∀ x ∈ l, ∀ v ∈ nx x.toNat, v ∈ σ.opn → e ≤ nm σ v.toNat
 dsr : ∀ m ∈ ds, m ∈ nx n
 dsn : ∀ m ∈ ds, nm τ m.toNat ≠ 0 ∧ (m ∈ σ.opn → e ≤ nm σ m.toNat)
 ag : τ.again.getD n false = true ↔ (n : Int) ∈ ds
section
variable {nx : Nat → List Int} {N : Nat} {R : Nat → Prop} {σ τ : TS} {G : Nat → Prop} {n : Nat}
theorem minI_le (a b : Int) : minI a b ≤ a ∧ minI a b ≤ b ∧ (minI a b = a ∨ (minI a b = b ∧ b < a)) := by
 unfold minI
 split <;> omega
theorem MO.vis {r : TS × Int} (h : MO nx N R σ G n r) (hσ : TJ nx N R σ G) {i : Nat} (hi : i < N) (hne : nm σ i ≠ 0) : nm r.1 i ≠ 0 := by
 rcases hσ.vis i hi hne with h1 | h1
 ·have h2 := h.opk _ h1
  simp only [Int.toNat_natCast] at h2
  rw [h2]; exact hne
 ·have h2 := h.tj.odc _ (h.odk _ h1)
  simp only [Int.toNat_natCast] at h2
  rw [h2]; exact closed_ne
theorem loop_J (hN : (N : Int) + 1 < closedI) (hr : ∀ n, n < N → R n → ∀ m ∈ nx n, 0 ≤ m ∧ m < N ∧ R m.toNat) (f : Nat) (ih : ∀ (σ : TS) (G : Nat → Prop) (n : Nat), TJ nx N R σ G → n < N → R n → nm σ n = 0 → zc σ.turns ≤ f → (∀ g, G g → Star nx g n) → MO nx N R σ G n (meetP nx f σ n))
  (hσ : TJ nx N R σ G) (hn : n < N) (hR : R n) (hG : ∀ g, G g → Star nx g n) : ∀ (ms : List Int) (τ : TS) (e : Int) (ds : List Int), (∀ m ∈ ms, m ∈ nx n) → LJ nx N R σ G n τ e ds → zc τ.turns ≤ f →
   LJ nx N R σ G n (loopP (meetP nx f) n ms τ e).1 (loopP (meetP nx f) n ms τ e).2 (ds ++ ms) ∧ zc (loopP (meetP nx f) n ms τ e).1.turns ≤ zc τ.turns
 | [], τ, e, ds, hm, hL, hz => by rw [List.append_nil]; exact ⟨hL, Nat.le_refl _⟩
 | m :: ms, τ, e, ds, hm, hL, hz => by
  have hmn := hm m (by simp)
  obtain ⟨m0, m1, mR⟩ := hr n hn hR m hmn
  have hN' : (N : Int) < closedI := by omega
  obtain ⟨τ0, hτ0⟩ := nmd ((if m = (n : Int) then { τ with again := τ.again.set n true } else τ))
  obtain ⟨l, hop, hln, hlc⟩ := hL.new
  have hno : (n : Int) ∈ τ.opn := by rw [hop]; simp
  have hnσ : (n : Int) ∉ σ.opn := fun h9 => by
   have h1 := (hσ.opr _ h9).2
   have h2 := hL.opk _ h9
   simp only [Int.toNat_natCast] at h1 h2
   have := hL.nmn
   omega
  have hal : n < τ.again.length := by rw [hL.tj.ti.al]; exact hn
  have h0 : τ0.turns = τ.turns ∧ τ0.opn = τ.opn ∧ τ0.order = τ.order ∧ τ0.turn = τ.turn ∧ TJ nx N R τ0 (fun x => G x ∨ x = n) ∧ (∀ x : Nat, x ≠ n → τ0.again.getD x false = τ.again.getD x false) ∧ (τ0.again.getD n false = true ↔ (n : Int) ∈ ds ++ [m]) := by
   rw [hτ0]
   by_cases em : m = (n : Int)
   ·rw [if_pos em]
    refine ⟨rfl, rfl, rfl, rfl, hL.tj.again hN' hn (.inr rfl), fun x hx => ?_, ?_⟩
    ·show (τ.again.set n true).getD x false = _
     rw [getDB_set _ _ hal, if_neg (fun e => hx e.symm)]
    ·show (τ.again.set n true).getD n false = true ↔ _
     rw [getDB_set _ _ hal, if_pos rfl, em]
     simp
   ·rw [if_neg em]
    refine ⟨rfl, rfl, rfl, rfl, hL.tj, fun _ _ => rfl, ?_⟩
    rw [hL.ag]
    simp
    intro h9
    exact absurd h9.symm em
  obtain ⟨t0, o0, d0, u0, hJ0, ag0, agn⟩ := h0
  have hnm0 : ∀ i, nm τ0 i = nm τ i := fun i => by unfold nm; rw [t0]
  have hstep : loopP (meetP nx f) n (m :: ms) τ e = if τ0.turns.getD m.toNat 0 = 0 then loopP (meetP nx f) n ms (meetP nx f τ0 m.toNat).1 (minI e (meetP nx f τ0 m.toNat).2) else loopP (meetP nx f) n ms τ0 (minI e (τ0.turns.getD m.toNat 0)) := by
   rw [loopP, ← hτ0]
  rw [hstep]
  have hds : ds ++ m :: ms = (ds ++ [m]) ++ ms := by simp
  rw [hds]
  have hσo : ∀ x ∈ σ.opn, x ∈ τ.opn := fun x hx => by rw [hop]; simp [hx]
  by_cases hz0 : τ0.turns.getD m.toNat 0 = 0
  ·rw [if_pos hz0]
   have hO := ih τ0 (fun x => G x ∨ x = n) m.toNat hJ0 (by omega) mR hz0 (by rw [t0]; exact hz) (fun g hg => by
    have hedge : Star nx n m.toNat := .step (by rw [Int.toNat_of_nonneg m0]; exact hmn) (.refl _)
    rcases hg with hg | rfl
    ·exact (hG g hg).trans hedge
    ·exact hedge)
   obtain ⟨g1, g2, g3⟩ := minI_le e (meetP nx f τ0 m.toNat).2
   have hopk : ∀ x ∈ τ.opn, nm (meetP nx f τ0 m.toNat).1 x.toNat = nm τ x.toNat := fun x hx => by rw [hO.opk x (by rw [o0]; exact hx), hnm0]
   have hnmn : nm (meetP nx f τ0 m.toNat).1 n = σ.turn + 1 := by
    have h9 := hopk _ hno
    simp only [Int.toNat_natCast] at h9
    rw [h9, hL.nmn]
   obtain ⟨l2, hop2, hln2, hlc2⟩ := hO.new
   have hLn : LJ nx N R σ G n (meetP nx f τ0 m.toNat).1 (minI e (meetP nx f τ0 m.toNat).2) (ds ++ [m]) := by
    refine ⟨hO.tj, fun x hx => by rw [hopk x (hσo x hx), hL.opk x hx], fun x hx => hO.odk x (by rw [d0]; exact hL.odk x hx), fun x hx => ?_, hnmn, by have := hO.trn; rw [u0] at this; have := hL.trn; omega, by have := hL.top; omega, ?_, ⟨l ++ l2, by rw [hop2, o0, hop]; simp, fun x hx => ?_, fun x hx v hv hvo => ?_⟩, fun x hx => ?_, fun x hx => ?_, ?_⟩
    ·have hxn : x ≠ n := fun e => hnσ (by rw [← e]; exact hx)
     rw [hO.agk x (by rw [o0]; exact hσo _ hx), ag0 x hxn]
     exact hL.agk x hx
    ·rcases g3 with g3 | ⟨g3, g4⟩
     ·rw [g3]; exact hL.low
     ·rw [g3]
      have htop := hL.top
      rcases hO.low with ⟨h1, _⟩ | ⟨_, y, hy, hye, hys⟩
      ·exfalso
       have := hL.trn
       rw [u0] at h1
       omega
      ·refine .inr ⟨by omega, ?_⟩
       rw [o0, hop] at hy
       rw [hnm0] at hye
       rcases List.mem_append.1 hy with hy | hy
       ·refine ⟨y, hy, ?_, .step (by rw [Int.toNat_of_nonneg m0]; exact hmn) hys⟩
        have h9 := hL.opk _ hy
        simp only [Int.toNat_natCast] at h9
        rw [← h9]; exact hye
       ·exfalso
        rcases List.mem_cons.1 hy with hy | hy
        ·have : y = n := by omega
         rw [this, hL.nmn] at hye
         omega
        ·have h9 := hln _ hy
         simp only [Int.toNat_natCast] at h9
         omega
    ·rcases List.mem_append.1 hx with hx | hx
     ·rw [hopk x (by rw [hop]; simp [hx])]; exact hln x hx
     ·have h9 := hln2 x hx
      rw [u0] at h9
      have := hL.trn
      omega
    ·rcases List.mem_append.1 hx with hx | hx
     ·have := hlc x hx v hv hvo; omega
     ·have h9 := hlc2 x hx v hv (by rw [o0]; exact hσo v hvo)
      rw [hnm0, hL.opk v hvo] at h9
      omega
    ·rcases List.mem_append.1 hx with hx | hx
     ·exact hL.dsr x hx
     ·simp at hx; rw [hx]; exact hmn
    ·rcases List.mem_append.1 hx with hx | hx
     ·obtain ⟨h1, h2⟩ := hL.dsn x hx
      have hb := hr n hn hR x (hL.dsr x hx)
      refine ⟨hO.vis hJ0 (by omega) (by rw [hnm0]; exact h1), fun h9 => by have := h2 h9; omega⟩
     ·simp at hx
      subst hx
      refine ⟨hO.met, fun h9 => ?_⟩
      exfalso
      have h1 := (hσ.opr _ h9).1
      have h2 := hL.opk _ h9
      have h3 : nm τ0 x.toNat = 0 := hz0
      rw [hnm0] at h3
      omega
    ·rw [hO.agk n (by rw [o0]; exact hno)]
     exact agn
   obtain ⟨a1, a2⟩ := loop_J hN hr f ih hσ hn hR hG ms _ _ (ds ++ [m]) (fun x hx => hm x (by simp [hx])) hLn (by have := hO.zc; rw [t0] at this; omega)
   exact ⟨a1, by have := hO.zc; rw [t0] at this; omega⟩
  ·rw [if_neg hz0]
   obtain ⟨g1, g2, g3⟩ := minI_le e (τ0.turns.getD m.toNat 0)
   have hnz : nm τ m.toNat ≠ 0 := by rw [← hnm0]; exact hz0
   have hval : τ0.turns.getD m.toNat 0 = nm τ m.toNat := by rw [← hnm0]; rfl
   have hLn : LJ nx N R σ G n τ0 (minI e (τ0.turns.getD m.toNat 0)) (ds ++ [m]) := by
    refine ⟨hJ0, fun x hx => by rw [hnm0]; exact hL.opk x hx, fun x hx => by rw [d0]; exact hL.odk x hx, fun x hx => ?_, by rw [hnm0]; exact hL.nmn, by rw [u0]; exact hL.trn, by have := hL.top; omega, ?_, ⟨l, by rw [o0]; exact hop, fun x hx => by rw [hnm0]; exact hln x hx, fun x hx v hv hvo => by have := hlc x hx v hv hvo; omega⟩, fun x hx => ?_, fun x hx => ?_, agn⟩
    ·have hxn : x ≠ n := fun e => hnσ (by rw [← e]; exact hx)
     rw [ag0 x hxn]
     exact hL.agk x hx
    ·rcases g3 with g3 | ⟨g3, g4⟩
     ·rw [g3]; exact hL.low
     ·rw [g3, hval]
      rw [hval] at g4
      have htop := hL.top
      refine .inr ⟨by omega, ?_⟩
      rcases hL.tj.vis m.toNat (by omega) hnz with h1 | h1
      ·rw [Int.toNat_of_nonneg m0, hop] at h1
       rcases List.mem_append.1 h1 with h1 | h1
       ·refine ⟨m.toNat, by rw [Int.toNat_of_nonneg m0]; exact h1, ?_, .step (by rw [Int.toNat_of_nonneg m0]; exact hmn) (.refl _)⟩
        rw [hL.opk m h1]
       ·exfalso
        rcases List.mem_cons.1 h1 with h1 | h1
        ·have : m.toNat = n := by omega
         rw [this, hL.nmn] at g4
         omega
        ·have h9 := hln _ h1
         omega
      ·exfalso
       have h9 := hL.tj.odc _ h1
       simp only [Int.toNat_natCast] at h9
       have h8 := hσ.ti.tn.2
       rw [h9] at g4
       omega
    ·rcases List.mem_append.1 hx with hx | hx
     ·exact hL.dsr x hx
     ·simp at hx; rw [hx]; exact hmn
    ·rcases List.mem_append.1 hx with hx | hx
     ·obtain ⟨h1, h2⟩ := hL.dsn x hx
      exact ⟨by rw [hnm0]; exact h1, fun h9 => by have := h2 h9; omega⟩
     ·simp at hx
      subst hx
      refine ⟨by rw [hnm0]; exact hnz, fun h9 => ?_⟩
      rw [← hL.opk _ h9, ← hval]
      exact g2
   obtain ⟨a1, a2⟩ := loop_J hN hr f ih hσ hn hR hG ms _ _ (ds ++ [m]) (fun x hx => hm x (by simp [hx])) hLn (by rw [t0]; exact hz)
   exact ⟨a1, Nat.le_trans a2 (by rw [t0]; exact Nat.le_refl _)⟩
theorem meet_J (hN : (N : Int) + 1 < closedI) (hr : ∀ n, n < N → R n → ∀ m ∈ nx n, 0 ≤ m ∧ m < N ∧ R m.toNat) : ∀ (f : Nat) (σ : TS) (G : Nat → Prop) (n : Nat), TJ nx N R σ G → n < N → R n → nm σ n = 0 → zc σ.turns ≤ f → (∀ g, G g → Star nx g n) → MO nx N R σ G n (meetP nx f σ n)
 | 0, σ, G, n, hσ, hn, hR, h0, hz, hG => by
  have := zc_pos (show n < σ.turns.length by rw [hσ.ti.tl]; exact hn) h0
  omega
 | f + 1, σ, G, n, hσ, hn, hR, h0, hz, hG => by
  have hnm := fun i => nm_met (n := n) hσ.ti hn i
  have hnσ : (n : Int) ∉ σ.opn := fun h9 => by
   have h1 := (hσ.opr _ h9).1
   simp only [Int.toNat_natCast] at h1
   omega
  have hL0 : LJ nx N R σ G n (metS σ n) (σ.turn + 1) [] := by
   refine ⟨hσ.met hn hR h0 hG, fun x hx => ?_, fun x hx => hx, fun x hx => rfl, by rw [hnm, if_pos rfl], Int.le_refl _, Int.le_refl _, .inl rfl, ⟨[], rfl, fun x hx => by simp at hx, fun x hx => by simp at hx⟩, fun x hx => by simp at hx, fun x hx => by simp at hx, ?_⟩
   ·rw [hnm, if_neg]
    intro e
    have := (hσ.opr x hx).1
    rw [← e] at this
    omega
   ·show σ.again.getD n false = true ↔ _
    rw [hσ.agW n hn h0]
    simp
  obtain ⟨hI1, hz1⟩ := hσ.ti.met hn hR h0
  obtain ⟨hL, hzl⟩ := loop_J hN hr f (meet_J hN hr f) hσ hn hR hG (nx n) (metS σ n) (σ.turn + 1) [] (fun m hm => hm) hL0 (by omega)
  rw [List.nil_append] at hL
  obtain ⟨τ, hτ⟩ := nmd ((loopP (meetP nx f) n (nx n) (metS σ n) (σ.turn + 1)).1)
  obtain ⟨e, he⟩ := nmd ((loopP (meetP nx f) n (nx n) (metS σ n) (σ.turn + 1)).2)
  rw [← hτ, ← he] at hL
  rw [← hτ] at hzl
  obtain ⟨l, hop, hln, hlc⟩ := hL.new
  have hmeet : meetP nx (f + 1) σ n = if e = σ.turn + 1 then (doneS σ.opn.length τ, e) else (τ, e) := by
   rw [meetP, ← hτ, ← he]
   split
   ·rfl
   ·rw [hτ, he]
  rw [hmeet]
  by_cases hee : e = σ.turn + 1
  ·rw [if_pos hee]
   have hno : ∀ x ∈ (n : Int) :: l, ∀ v ∈ nx x.toNat, v ∉ σ.opn := fun x hx v hv hvo => by
    have h9 := (hσ.opr v hvo).2
    rcases List.mem_cons.1 hx with rfl | hx
    ·have := (hL.dsn v (by simpa using hv)).2 hvo
     omega
    ·have := hlc x hx v hv hvo
     omega
   obtain ⟨s1, s2, s3, s4, s5, s6⟩ := TJ.shut (by omega) hr hσ hL.tj hop hL.opk hno (fun v hv => (hL.dsn v hv).1) hL.ag (by have := hL.trn; omega)
   refine ⟨s1, s3, fun x hx => ?_, fun x hx => by rw [s4 x hx]; exact hL.agk x hx, (s2 n hn).2 (by rw [hL.nmn]; have := hσ.ti.tn.1; omega), by show σ.turn ≤ τ.turn; have := hL.trn; omega, Nat.le_trans (hL.tj.ti.done σ.opn.length).2 (by omega), by show e ≤ _; omega, .inl ⟨hee, s5⟩, ⟨[], by rw [List.append_nil]; exact s5, fun x hx => by simp at hx, fun x hx => by simp at hx⟩⟩
   show x ∈ (doneS σ.opn.length τ).order
   rw [s6]
   exact List.mem_append.2 (.inl (hL.odk x hx))
  ·rw [if_neg hee]
   rcases hL.low with h1 | ⟨h1, y, hy, hye, hys⟩
   ·exact absurd h1 hee
   ·obtain ⟨g, hg, hgl, hgs⟩ := hσ.gr y hy
    have hgn : nm τ g = nm σ g := by have := hL.opk _ (hσ.gop g hg); simpa using this
    have hb := hL.tj.black (fun v hv => (hL.dsn v hv).1) hL.ag ⟨g, hg, by rw [hgn, hL.nmn]; omega, hys.trans hgs⟩
    refine ⟨hb, hL.opk, hL.odk, hL.agk, by rw [hL.nmn]; have := hσ.ti.tn.1; omega, by have := hL.trn; show σ.turn ≤ τ.turn; omega, by show zc τ.turns ≤ _; omega, by show e ≤ _; omega, .inr ⟨h1, y, hy, hye, hys⟩, ⟨(n : Int) :: l, hop, fun x hx => ?_, fun x hx v hv hvo => ?_⟩⟩
    ·rcases List.mem_cons.1 hx with rfl | hx
     ·show σ.turn < nm τ ((n : Int)).toNat
      rw [Int.toNat_natCast, hL.nmn]; omega
     ·have := hln x hx
      show σ.turn < nm τ x.toNat
      omega
    ·show e ≤ _
     rcases List.mem_cons.1 hx with rfl | hx
     ·exact (hL.dsn v (by simpa using hv)).2 hvo
     ·exact hlc x hx v hv hvo
end
theorem tour_J (nx : Nat → List Int) (N : Nat) (R : Nat → Prop) (hN0 : 0 < N) (hN : (N : Int) + 1 < closedI) (hR0 : R 0) (hR : ∀ n, n < N → R n → ∀ m ∈ nx n, 0 ≤ m ∧ m < N ∧ R m.toNat) :
  (∀ i : Nat, (i : Int) ∈ (tourP nx N).order → ((tourP nx N).again.getD i false = true ↔ Plus nx i i)) ∧ (∀ i, i < N → (i : Int) ∉ (tourP nx N).order → (tourP nx N).again.getD i false = false) ∧
  (∀ (pre : List Int) (u : Nat) (post : List Int), (tourP nx N).order = pre ++ (u : Int) :: post → ¬ Plus nx u u → ∀ v ∈ nx u, v ∈ pre) ∧ (tourP nx N).order.Nodup := by
 have hJ0 : TJ nx N R (tour0 N) (fun _ => False) := ⟨TI.tour0 N R, by simp [tour0], fun m hm => by simp [tour0] at hm, fun m hm => by simp [tour0] at hm, fun i hi h => absurd (by simp [nm, tour0, List.getD, hi]) h, fun x y hx => by simp [tour0] at hx, fun y hy => by simp [tour0] at hy, fun g hg => hg.elim, fun x hx => by simp [tour0] at hx, fun i hi h => absurd (by simp [nm, tour0, List.getD, hi]) h, fun i hi => by simp [tour0] at hi, fun i hi => by simp [tour0] at hi, fun i hi _ => by simp [tour0, List.getD, hi], by simp [tour0], fun pre u post he => by simp [tour0] at he⟩
 have hO := meet_J hN hR N (tour0 N) (fun _ => False) 0 hJ0 hN0 hR0 (by simp [nm, tour0, List.getD, hN0]) (by unfold zc tour0; simp) (fun g hg => hg.elim)
 have hopn : (tourP nx N).opn = [] := by
  rcases hO.low with ⟨_, h1⟩ | ⟨_, y, hy, _⟩
  ·exact h1
  ·simp [tour0] at hy
 refine ⟨hO.tj.agO, fun i hi hni => ?_, hO.tj.top, hO.tj.nod⟩
 by_cases h0 : nm (tourP nx N) i = 0
 ·exact hO.tj.agW i hi h0
 ·rcases hO.tj.vis i hi h0 with h1 | h1
  ·have h9 : (i : Int) ∈ (tourP nx N).opn := h1
   rw [hopn] at h9
   simp at h9
  ·exact absurd h1 hni
end Go.Proofs.YtcaadgcfceommaaGreat
