import Derived.Test.YtcahibbfejomcaaGreatDoorTTx38
import Derived.Test.YtcahibbfejomcaaGreatDoorTTx31
import Derived.Test.YtcahibbfejomcaaGreatDoorTTx10
import Derived.Test.YtcahibbfejomcaaGreatDoorTTx35
import Derived.Test.YtcahibbfejomcaaGreatDoorTTx11
import Derived.Test.YtcahibbfejomcaaGreatDoorTTx4
import Derived.Laws.StructEq
import Derived.Test.YtcahibbfejomcaaGreatDoorTTx2
import Derived.Test.YtcahibbfejomcaaGreatDoorTTx5
import Derived.Test.YtcahibbfejomcaaGreatDoorTTx33
import Derived.Deep.MidRow
import Derived.Test.YtcahibbfejomcaaGreatDoorTTx29
import Derived.Deep.Strs
import Derived.Laws.IdiomStrings
import Derived.Test.YtcahibbfejomcaaGreatDoorTTx3
import Derived.Laws.BytesString
import Derived.Laws.IdiomCopy
import Derived.Lib.ConvBytes
import Derived.Deep.QuietTactic
import Derived.BigQuiet
import Derived.Test.YtcahibbfejomcaaGreatDoorTTx8
import Derived.Lib.OthersKept
import Derived.Test.YtcahibbfejomcaaGreatDoorTTx37
namespace Go.Proofs.YtcahibbfejomcaaGreatDoor
open Go.RowKit
set_option linter.unusedVariables false
set_option linter.unusedSimpArgs false
set_option maxRecDepth 100000
abbrev memN : List UInt8 := [109, 101, 109, 111, 114, 121]
abbrev datN : List UInt8 := [100, 97, 116, 97]
abbrev funN : List UInt8 := [102, 117, 110, 99]
def tkO (s : Sh) (a pl fs : Int) : List Tk :=
 if s.o = 0 then [] else if s.o = 3 ∧ a ≤ pl then [.sp, .nm 76 a.toNat] else if s.o = 4 ∧ a < fs then [.sp, .nm 102 a.toNat] else if s.o = 5 then [.sp, .w (rowS sysL a).nm.data.toList] else [.sp, .num a]
def insT (x : IN) (pl fs : Int) : List Tk := .tab :: .w (rowS insL x.op).nm.data.toList :: tkO (rowS insL x.op) x.a pl fs
def lbT (q : List Bool) (k : Nat) : List (List Tk) := if q.getD k false then [[.nm 76 k, .col]] else []
def inT (pl fs : Int) (ys : List IN) (k : Nat) : List (List Tk) := match ys[k]? with | some x => [insT x pl fs] | none => []
def bodT (q : List Bool) (pl fs : Int) (ys : List IN) (n : Nat) : List (List Tk) := (List.range n).flatMap (fun k => lbT q k ++ inT pl fs ys k)
theorem bodT_succ (q : List Bool) (pl fs : Int) (ys : List IN) (n : Nat) : bodT q pl fs ys (n + 1) = bodT q pl fs ys n ++ (lbT q n ++ inT pl fs ys n) := by simp [bodT, List.range_succ, List.flatMap_append]
def hdT (k : Nat) (f : FN) : List Tk := [.w funN, .sp, .nm 102 k, .sp, .num f.a, .sp, .num f.l, .sp, .num f.r]
def fnT (k : Nat) (f : FN) (fs : Int) : List (List Tk) := hdT k f :: bodT (aimsD f.code) (f.code.length : Int) fs f.code (f.code.length + 1)
def fnAtT (fs : Int) (fns : List FN) (k : Nat) : List (List Tk) := match fns[k]? with | some f => fnT k f fs | none => []
def fnsT (fs : Int) (fns : List FN) (n : Nat) : List (List Tk) := (List.range n).flatMap (fnAtT fs fns)
theorem fnsT_succ (fs : Int) (fns : List FN) (n : Nat) : fnsT fs fns (n + 1) = fnsT fs fns n ++ fnAtT fs fns n := by simp [fnsT, List.range_succ, List.flatMap_append]
def datT (xs : List Int) : List (List Tk) := if xs.length = 0 then [] else [[.w datN, .sp, .q xs]]
def progT (p : PG) : List (List Tk) := [.w memN, .sp, .num p.mem] :: (datT p.data ++ fnsT (p.fns.length : Int) p.fns p.fns.length)
def sayT (pre : List UInt8) (L : List (List Tk)) : List (List Pf) := L.map (fun ts => ts.flatMap (Tk.pcs pre))
theorem sayT_app (pre : List UInt8) (a b : List (List Tk)) : sayT pre (a ++ b) = sayT pre a ++ sayT pre b := by simp [sayT]
theorem say_op (pre : List UInt8) (s : Sh) (a pl fs : Int) : (tkO s a pl fs).flatMap (Tk.pcs pre) = opP pre s a pl fs := by
 unfold tkO opP
 repeat' split
 all_goals simp [Tk.pcs, lbN, fnN]
theorem say_ins (pre : List UInt8) (x : IN) (pl fs : Int) : (insT x pl fs).flatMap (Tk.pcs pre) = insP pre x pl fs := by
 unfold insT insP
 rw [← say_op]
 simp [Tk.pcs]
theorem say_bod (pre : List UInt8) (q : List Bool) (pl fs : Int) (ys : List IN) : ∀ n, sayT pre (bodT q pl fs ys n) = bodP pre q pl fs ys n
 | 0 => rfl
 | n + 1 => by
  rw [bodT_succ, bodP_succ, sayT_app, sayT_app, say_bod pre q pl fs ys n]
  congr 1
  congr 1
  ·unfold lbT lbAt
   split
   ·simp [sayT, Tk.pcs, lbN]
   ·rfl
  ·unfold inT inAt
   cases hx : ys[n]? with
   | none => rfl
   | some x => simp only [sayT, List.map_cons, List.map_nil, say_ins]
theorem say_fns (pre : List UInt8) (fs : Int) (fns : List FN) : ∀ n, sayT pre (fnsT fs fns n) = fnsP pre fs fns n
 | 0 => rfl
 | n + 1 => by
  rw [fnsT_succ, fnsP_succ, sayT_app, say_fns pre fs fns n]
  congr 1
  unfold fnAtT fnAtP
  cases hf : fns[n]? with
  | none => rfl
  | some f =>
   simp only
   unfold fnT fnP
   rw [← say_bod]
   simp [sayT, hdT, Tk.pcs, fnN]
theorem say_prog (pre : List UInt8) (p : PG) : sayT pre (progT p) ++ [[]] = progP pre p := by
 unfold progT progP
 rw [← say_fns]
 unfold datT datQ
 split <;> simp [sayT, Tk.pcs]
def wordB (s : List UInt8) : Bool := !s.isEmpty && isLP (s.headD 0).toNat && s.all (fun b => goP b.toNat)
theorem wordB_L {s : List UInt8} (h : wordB s = true) : WordL s := by
 unfold wordB at h
 simp only [Bool.and_eq_true, List.all_eq_true] at h
 exact ⟨by intro e; rw [e] at h; simp at h, h.1.2, h.2⟩
theorem ins_word : ∀ n : Nat, n < 46 → wordB (insL.getD n Sh.none).nm.data.toList = true := by decide +kernel
theorem sys_word : ∀ n : Nat, n < sysL.length → wordB (sysL.getD n Sh.none).nm.data.toList = true := by decide +kernel
theorem kix_pos {k : Nat} {a : Int} (h : mayP k a = true) (h3 : k = 3 ∨ k = 4 ∨ k = 5) : 0 ≤ a ∧ a < endOf k := by
 rcases h3 with rfl | rfl | rfl <;> simpa [mayP] using h
theorem lin_ins {x : IN} (h : errI x = 0) (hx : x.Ok) (pl fs : Int) : lin false (insT x pl fs) := by
 obtain ⟨n, hn, hop, hro, ho, hm⟩ := ins_right h
 refine ⟨rfl, wordB_L (by rw [hro]; exact ins_word n hn), ?_⟩
 unfold tkO
 split
 ·trivial
 ·split
  ·exact ⟨rfl, .inl rfl, trivial⟩
  ·split
   ·exact ⟨rfl, .inr rfl, trivial⟩
   ·split
    ·rename_i h5
     have hk5 : kix n = 5 := by rw [ho] at h5; omega
     have hb := kix_pos hm (by omega)
     have he := (kix_o n hn).2.1 hk5
     rw [hk5, he] at hb
     obtain ⟨i, hi⟩ := Int.eq_ofNat_of_zero_le hb.1
     have hil : i < sysL.length := by omega
     have hrs := (row_at (L := sysL) (k := i) hil).1
     refine ⟨rfl, wordB_L ?_, trivial⟩
     rw [hi, hrs]
     exact sys_word i hil
    ·exact ⟨rfl, hx.2, trivial⟩
theorem lin_bod {q : List Bool} {pl fs : Int} {ys : List IN} (hy : ∀ y ∈ ys, errI y = 0 ∧ y.Ok) (n : Nat) : ∀ ts ∈ bodT q pl fs ys n, lin false ts := by
 intro ts h
 obtain ⟨k, _, h⟩ := List.mem_flatMap.1 h
 rcases List.mem_append.1 h with h | h
 ·unfold lbT at h
  split at h
  ·rw [List.mem_singleton.1 h]
   exact ⟨rfl, .inl rfl, trivial⟩
  ·exact absurd h List.not_mem_nil
 ·unfold inT at h
  split at h
  ·rename_i x hx
   rw [List.mem_singleton.1 h]
   have := hy x (List.mem_of_getElem? hx)
   exact lin_ins this.1 this.2 _ _
  ·exact absurd h List.not_mem_nil
theorem lin_prog {p : PG} (hg : PgGood p) (hp : p.Ok) (hd : ∀ x ∈ p.data, 0 ≤ x ∧ x ≤ 255) : ∀ ts ∈ progT p, lin false ts := by
 intro ts h
 rcases List.mem_cons.1 h with rfl | h
 ·exact ⟨rfl, wordB_L (by decide), rfl, hp.mem, trivial⟩
 ·rcases List.mem_append.1 h with h | h
  ·unfold datT at h
   split at h
   ·exact absurd h List.not_mem_nil
   ·rw [List.mem_singleton.1 h]
    exact ⟨rfl, wordB_L (by decide), rfl, hd, trivial⟩
  ·obtain ⟨k, _, h⟩ := List.mem_flatMap.1 h
   unfold fnAtT at h
   split at h
   ·rename_i f hf
    have hfm := List.mem_of_getElem? hf
    have hok := hp.fns f hfm
    rcases List.mem_cons.1 h with rfl | h
    ·exact ⟨rfl, wordB_L (by decide), rfl, .inr rfl, rfl, hok.a, rfl, hok.l, rfl, hok.r, trivial⟩
    ·exact lin_bod (fun y hy => ⟨(hg.fn f hfm).2 y hy, hok.code y hy⟩) _ ts h
   ·exact absurd h List.not_mem_nil
def flW (pre : List UInt8) (ws : Nat → Wy) : Nat → List (List Tk) → List UInt8
 | _, [] => []
 | n, ts :: L => (ts.flatMap (Tk.txt pre (ws n)) ++ (ws n).E) ++ 10 :: flW pre ws (n + 1) L
theorem lines_flW {pre : List UInt8} (hp : preOk pre) {ws : Nat → Wy} (hw : ∀ n, (ws n).Ok) : ∀ (L : List (List Tk)) (n : Nat), (∀ ts ∈ L, lin false ts) → (linesL (flW pre ws n L)).map cutV = (sayT pre L ++ [[]]).map some
 | [], n, _ => rfl
 | ts :: L, n, h => by
  rw [flW, lines_app _ _ (line_ten hp (hw n) ts (h ts List.mem_cons_self)), List.map_cons, cut_toks hp (hw n) ts (h ts List.mem_cons_self), lines_flW hp hw L (n + 1) (fun x hx => h x (List.mem_cons_of_mem _ hx))]
  rfl
theorem way_back {pre : List UInt8} (hpre : preOk pre) {ws : Nat → Wy} (hw : ∀ n, (ws n).Ok) {p : PG} (hc : checkP p = 0) (hp : p.Ok) (hd : ∀ x ∈ p.data, 0 ≤ x ∧ x ≤ 255) (hl : (flW pre ws 0 (progT p)).length ≤ 65536) : ∃ R, readP (flW pre ws 0 (progT p)) = .inr R ∧ pgG R = p :=
 read_prog pre p hc hd _ hl (by rw [lines_flW hpre hw _ 0 (lin_prog (check_good hc) hp hd), say_prog])
def plY : Wy := ⟨[9], [], []⟩
theorem plY_ok : plY.Ok := ⟨fun b hb => .inl (by simpa [plY] using hb), fun b hb => absurd hb List.not_mem_nil, [], [], rfl, fun b hb => absurd hb List.not_mem_nil, .inl rfl, fun b hb => absurd hb List.not_mem_nil⟩
def lnT (ts : List Tk) : List UInt8 := ts.flatMap (Tk.txt [] plY) ++ [10]
def flT (L : List (List Tk)) : List UInt8 := L.flatMap lnT
theorem flT_app (a b : List (List Tk)) : flT (a ++ b) = flT a ++ flT b := by simp [flT]
theorem flT_one (a : List Tk) : flT [a] = lnT a := by simp [flT]
theorem flT_W : ∀ (L : List (List Tk)) (n : Nat), flW [] (fun _ => plY) n L = flT L
 | [], _ => rfl
 | ts :: L, n => by
  rw [flW, flT_W L (n + 1)]
  simp [flT, lnT, plY]
abbrev bC : List UInt8 → List Value := Lib.byteCells
theorem bC_app (a b : List UInt8) : bC (a ++ b) = bC a ++ bC b := by simp [Lib.byteCells]
theorem ins_bC {x : IN} (h : errI x = 0) (pl fs : Int) : insB x.op x.a pl fs = bC (lnT (insT x pl fs)) := by
 obtain ⟨n, hn, hop, hro, ho, hm⟩ := ins_right h
 have hpos : ∀ c : Nat, (c = 3 ∨ c = 4) → (rowS insL x.op).o = (c : Int) → Lib.itoa x.a = Lib.decDigits x.a.toNat := fun c hc he => by
  have hk : kix n = c := by rw [ho] at he; omega
  have hb := kix_pos hm (by omega)
  obtain ⟨i, hi⟩ := Int.eq_ofNat_of_zero_le hb.1
  rw [hi, itoa_nat]
  rfl
 have e : opdD (rowS insL x.op) x.a pl fs = bC ((tkO (rowS insL x.op) x.a pl fs).flatMap (Tk.txt [] plY)) := by
  unfold opdD tkO
  by_cases h0 : (rowS insL x.op).o = 0
  ·rw [if_pos h0, if_pos h0]
   rfl
  ·rw [if_neg h0, if_neg h0]
   by_cases h3 : (rowS insL x.op).o = 3 ∧ x.a ≤ pl
   ·rw [if_pos h3, if_pos h3, hpos 3 (.inl rfl) h3.1]
    simp [Tk.txt, plY, Lib.byteCells]
   ·rw [if_neg h3, if_neg h3]
    by_cases h4 : (rowS insL x.op).o = 4 ∧ x.a < fs
    ·rw [if_pos h4, if_pos h4, hpos 4 (.inr rfl) h4.1]
     simp [Tk.txt, plY, Lib.byteCells]
    ·rw [if_neg h4, if_neg h4]
     by_cases h5 : (rowS insL x.op).o = 5
     ·rw [if_pos h5, if_pos h5]
      simp [Tk.txt, plY, Lib.byteCells, Lib.strCells]
     ·rw [if_neg h5, if_neg h5]
      simp [Tk.txt, plY, Lib.byteCells]
 unfold insB insT lnT
 rw [e]
 simp [Tk.txt, plY, Lib.byteCells, Lib.strCells]
theorem bod_bC {q : List Bool} {pl fs : Int} {ys : List IN} (hy : ∀ y ∈ ys, errI y = 0) : ∀ n, bodD q pl fs ys n = bC (flT (bodT q pl fs ys n))
 | 0 => rfl
 | n + 1 => by
  rw [bodT_succ, bodD_succ, bod_bC hy n, flT_app, bC_app, flT_app, bC_app]
  congr 1
  congr 1
  ·unfold lblD lbT
   split
   ·rw [flT_one, itoa_nat]
    simp [lnT, Tk.txt, plY, Lib.byteCells, Lib.strCells]
   ·rfl
  ·unfold insAt inT
   cases hx : ys[n]? with
   | none => rfl
   | some x =>
    simp only
    rw [flT_one, ins_bC (hy x (List.mem_of_getElem? hx))]
theorem hd_bC (k : Nat) (f : FN) : hdF k f 3 ++ [.int .u8 10] = bC (lnT (hdT k f)) := by
 unfold hdF hdT lnT
 rw [itoa_nat]
 simp [numZ, Tk.txt, plY, Lib.byteCells, Lib.strCells]
theorem fns_bC {fs : Int} {fns : List FN} (hg : ∀ f ∈ fns, ∀ y ∈ f.code, errI y = 0) : ∀ n, fnsD fs fns n = bC (flT (fnsT fs fns n))
 | 0 => rfl
 | n + 1 => by
  rw [fnsT_succ, fnsD_succ, fns_bC hg n, flT_app, bC_app]
  congr 1
  unfold fnAtD fnAtT
  cases hf : fns[n]? with
  | none => rfl
  | some f =>
   simp only
   unfold fnD fnT
   rw [hd_bC, bod_bC (hg f (List.mem_of_getElem? hf)), ← bC_app]
   rfl
theorem qa_rng : ∀ n : Nat, n < 256 → ∀ x ∈ qa (n : Int), 0 ≤ x ∧ x ≤ 255 := by decide +kernel
theorem quote_rng (xs : List Int) (h : ∀ x ∈ xs, 0 ≤ x ∧ x ≤ 255) : ∀ x ∈ quoteA xs, 0 ≤ x ∧ x ≤ 255 := by
 intro x hx
 unfold quoteA at hx
 rcases List.mem_cons.1 hx with rfl | hx
 ·decide
 ·rcases List.mem_append.1 hx with hx | hx
  ·obtain ⟨y, hy, hx⟩ := List.mem_flatMap.1 hx
   obtain ⟨h0, h1⟩ := h y hy
   obtain ⟨n, rfl⟩ := Int.eq_ofNat_of_zero_le h0
   exact qa_rng n (by omega) x hx
  ·rcases List.mem_cons.1 hx with rfl | hx
   ·decide
   ·exact absurd hx List.not_mem_nil
theorem byts_u8 : ∀ (l : List Int), (∀ x ∈ l, 0 ≤ x ∧ x ≤ 255) → byts l = bC (u8 l)
 | [], _ => rfl
 | x :: l, h => by
  have hx := h x List.mem_cons_self
  have e : ((UInt8.ofNat x.toNat).toNat : Int) = x := by
   rw [UInt8.toNat_ofNat']
   omega
  have := byts_u8 l (fun y hy => h y (List.mem_cons_of_mem _ hy))
  show Value.int .u8 x :: byts l = Value.int .u8 ((UInt8.ofNat x.toNat).toNat : Int) :: bC (u8 l)
  rw [e, this]
theorem prog_bC {p : PG} (hg : PgGood p) (hd : ∀ x ∈ p.data, 0 ≤ x ∧ x ≤ 255) : progD p = bC (flT (progT p)) := by
 unfold progD headD progT
 rw [fns_bC (fun f hf => (hg.fn f hf).2)]
 have e1 : memY ++ numZ p.mem ++ [.int .u8 10] = bC (lnT [.w memN, .sp, .num p.mem]) := by
  unfold lnT
  simp [memY, numZ, Tk.txt, plY, Lib.byteCells]
 have e2 : dataD p.data = bC (flT (datT p.data)) := by
  unfold dataD datT
  split
  ·rfl
  ·rw [flT_one, byts_u8 _ (quote_rng _ hd)]
   simp [lnT, Tk.txt, plY, Lib.byteCells, Lib.strCells]
 rw [e1, e2]
 rw [← bC_app, ← bC_app]
 congr 1
 simp [flT]
theorem print_text {p : PG} (h : printE p = 0) (hd : ∀ x ∈ p.data, 0 ≤ x ∧ x ≤ 255) : checkP p = 0 ∧ (flT (progT p)).length ≤ 65536 ∧ printS p = ⟨(flT (progT p)).toArray⟩ := by
 have hc : checkP p = 0 := by
  unfold printE at h
  by_cases hc : checkP p = 0
  ·exact hc
  ·rw [if_neg hc] at h
   exact absurd h hc
 have e := prog_bC (check_good hc) hd
 refine ⟨hc, ?_, ?_⟩
 ·unfold printE at h
  rw [if_pos hc] at h
  by_cases hl : 65536 < (progD p).length
  ·rw [if_pos hl] at h
   exact absurd h (by decide)
  ·rw [e] at hl
   simp [Lib.byteCells] at hl
   omega
 ·unfold printS
  rw [if_pos h, e]
  rw [← strN8]
  congr 1
  simp [Lib.byteCells, nums8, intV]
theorem print_back {p : PG} (h : printE p = 0) (hp : p.Ok) (hd : ∀ x ∈ p.data, 0 ≤ x ∧ x ≤ 255) : ∃ R, readP (printS p).data.toList = .inr R ∧ pgG R = p := by
 obtain ⟨hc, hl, e⟩ := print_text h hd
 have := way_back (pre := []) (.inl rfl) (ws := fun _ => plY) (fun _ => plY_ok) hc hp hd (by rw [flT_W]; exact hl)
 rw [flT_W] at this
 rw [e]
 exact this
theorem pg_shapeK {w : World} {B : Nat} {v : Value} {p : PG} (h : PgIs w B v p) : ∃ pm pda pdn pdc pfa pfn pfc, v = .agg #[.int .i64 pm, .slice pda pdn pdc, .slice pfa pfn pfc] := by
 obtain ⟨dv, fv, rfl, hd, _, hf⟩ := h
 obtain ⟨da, dc, rfl⟩ := hd.shape
 obtain ⟨fa, fc, rfl⟩ := hf.shape
 exact ⟨_, _, _, _, _, _, _, rfl⟩
theorem print_inj {p q : PG} (hp : printE p = 0) (hq : printE q = 0) (op : p.Ok) (oq : q.Ok) (h : printS p = printS q) : p = q := by
 obtain ⟨R1, r1, e1⟩ := print_back hp op op.data.1
 obtain ⟨R2, r2, e2⟩ := print_back hq oq oq.data.1
 rw [h, r2] at r1
 cases r1
 rw [← e1, e2]
theorem print_size (p : PG) (op : p.Ok) : (printS p).size ≤ 65536 := by
 by_cases h : printE p = 0
 ·obtain ⟨_, h2, h3⟩ := print_text h op.data.1
  rw [h3]
  show (flT (progT p)).toArray.size ≤ 65536
  simpa using h2
 ·unfold printS
  rw [if_neg h]
  decide
def PgOut (p : PG) (w : World) (e : Ending) (w' : World) : Prop := Kept (fun _ => False) w w' ∧ ∃ m da dn dc fa fn fc, e = .returned (.tuple #[.agg #[.int .i64 m, .slice da dn dc, .slice fa fn fc], .nilIface]) ∧ PgIs w' w'.heap.size (.agg #[.int .i64 m, .slice da dn dc, .slice fa fn fc]) p
theorem parse_back (p : PG) (w : World) (hG : Gs w) (h : printE p = 0) (ho : p.Ok) : Calls Tryz.prog 9 #[.string (printS p)] w (PgOut p w) := by
 have hs := print_size p ho
 refine (parseG (printS p) (by omega) w hG).mono ?_
 intro e w' hpar
 obtain ⟨R, h1, h2⟩ := print_back h ho ho.data.1
 rw [h1] at hpar
 obtain ⟨hk, ⟨ln, er, g, hh, _⟩ | ⟨R', v, hh, _, _, _, rfl, hpg⟩⟩ := hpar
 ·cases hh
 ·cases hh
  rw [h2] at hpg
  obtain ⟨m, da, dn, dc, fa, fn, fc, rfl⟩ := pg_shapeK hpg
  exact ⟨hk, _, _, _, _, _, _, _, rfl, hpg⟩
theorem nnNil (w : World) : (binOp .neq 37 .nilIface .nilIface).run Tryz.prog w = .ok (.bool false) w := by kernel_rfl
theorem toL_eq {s s2 : ByteArray} : (s.toList == s2.toList) = true ↔ s = s2 := by
 rw [beq_iff_eq]
 constructor
 ·intro e
  rw [ByteArray.toList_eq, ByteArray.toList_eq] at e
  exact ByteArray.ext (Array.ext' e)
 ·intro e
  rw [e]
end Go.Proofs.YtcahibbfejomcaaGreatDoor
