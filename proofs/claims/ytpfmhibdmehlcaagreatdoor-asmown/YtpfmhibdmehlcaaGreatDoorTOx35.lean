import Derived.Test.YtpfmhibdmehlcaaGreatDoorTOx34
import Derived.Test.YtpfmhibdmehlcaaGreatDoorTOx9
import Derived.Test.YtpfmhibdmehlcaaGreatDoorTOx16
import Derived.Test.YtpfmhibdmehlcaaGreatDoorTOx22
import Derived.Test.YtpfmhibdmehlcaaGreatDoorTOx8
import Derived.Lib.OthersKept
import Derived.Test.YtpfmhibdmehlcaaGreatDoorTOx21
import Derived.Test.YtpfmhibdmehlcaaGreatDoorTOx31
namespace Go.Proofs.YtpfmhibdmehlcaaGreatDoor
open Go.RowKit
set_option linter.unusedVariables false
set_option linter.unusedSimpArgs false
set_option maxRecDepth 100000
abbrev memN : List UInt8 := [109, 101, 109, 111, 114, 121]
abbrev datN : List UInt8 := [100, 97, 116, 97]
abbrev funN : List UInt8 := [102, 117, 110, 99]
def tkO (s : Sh) (a pl fs : Int) : List Tk :=
 if s.o = 0 then [] else if s.o = 3 ∧ a ≤ pl then [.sp, .nm 76 a.toNat] else if s.o = 4 ∧ a < fs then [.sp, .nm 102 a.toNat] else if s.o = 5 then [.sp, .w (rowS sysL a).nm.data.toList] else [.sp, .num a]
def insT (x : IN) (pl fs : Int) : List Tk := .tab :: .w (rowS insL x.op).nm.data.toList :: tkO (rowS insL x.op) x.a pl fs
def lbT (q : List Bool) (k : Nat) : List (List Tk) := if q.getD k false then [[.nm 76 k, .col]] else []
def inT (pl fs : Int) (ys : List IN) (k : Nat) : List (List Tk) := match ys[k]? with | some x => [insT x pl fs] | none => []
def bodT (q : List Bool) (pl fs : Int) (ys : List IN) (n : Nat) : List (List Tk) := (List.range n).flatMap (fun k => lbT q k ++ inT pl fs ys k)
theorem bodT_succ (q : List Bool) (pl fs : Int) (ys : List IN) (n : Nat) : bodT q pl fs ys (n + 1) = bodT q pl fs ys n ++ (lbT q n ++ inT pl fs ys n) := by simp [bodT, List.range_succ, List.flatMap_append]
def hdT (k : Nat) (f : FN) : List Tk := [.w funN, .sp, .nm 102 k, .sp, .num f.a, .sp, .num f.l, .sp, .num f.r]
def fnT (k : Nat) (f : FN) (fs : Int) : List (List Tk) := hdT k f :: bodT (aimsD f.code) (f.code.length : Int) fs f.code (f.code.length + 1)
def fnAtT (fs : Int) (fns : List FN) (k : Nat) : List (List Tk) := match fns[k]? with | some f => fnT k f fs | none => []
def fnsT (fs : Int) (fns : List FN) (n : Nat) : List (List Tk) := (List.range n).flatMap (fnAtT fs fns)
theorem fnsT_succ (fs : Int) (fns : List FN) (n : Nat) : fnsT fs fns (n + 1) = fnsT fs fns n ++ fnAtT fs fns n := by simp [fnsT, List.range_succ, List.flatMap_append]
def datT (xs : List Int) : List (List Tk) := if xs.length = 0 then [] else [[.w datN, .sp, .q xs]]
def progT (p : PG) : List (List Tk) := [.w memN, .sp, .num p.mem] :: (datT p.data ++ fnsT (p.fns.length : Int) p.fns p.fns.length)
def sayT (pre : List UInt8) (L : List (List Tk)) : List (List Pf) := L.map (fun ts => ts.flatMap (Tk.pcs pre))
theorem sayT_app (pre : List UInt8) (a b : List (List Tk)) : sayT pre (a ++ b) = sayT pre a ++ sayT pre b := by simp [sayT]
theorem say_op (pre : List UInt8) (s : Sh) (a pl fs : Int) : (tkO s a pl fs).flatMap (Tk.pcs pre) = opP pre s a pl fs := by
 unfold tkO opP
 repeat' split
 all_goals simp [Tk.pcs, lbN, fnN]
theorem say_ins (pre : List UInt8) (x : IN) (pl fs : Int) : (insT x pl fs).flatMap (Tk.pcs pre) = insP pre x pl fs := by
 unfold insT insP
 rw [← say_op]
 simp [Tk.pcs]
theorem say_bod (pre : List UInt8) (q : List Bool) (pl fs : Int) (ys : List IN) : ∀ n, sayT pre (bodT q pl fs ys n) = bodP pre q pl fs ys n
 | 0 => rfl
 | n + 1 => by
  rw [bodT_succ, bodP_succ, sayT_app, sayT_app, say_bod pre q pl fs ys n]
  congr 1
  congr 1
  ·unfold lbT lbAt
   split
   ·simp [sayT, Tk.pcs, lbN]
   ·rfl
  ·unfold inT inAt
   cases hx : ys[n]? with
   | none => rfl
   | some x => simp only [sayT, List.map_cons, List.map_nil, say_ins]
theorem say_fns (pre : List UInt8) (fs : Int) (fns : List FN) : ∀ n, sayT pre (fnsT fs fns n) = fnsP pre fs fns n
 | 0 => rfl
 | n + 1 => by
  rw [fnsT_succ, fnsP_succ, sayT_app, say_fns pre fs fns n]
  congr 1
  unfold fnAtT fnAtP
  cases hf : fns[n]? with
  | none => rfl
  | some f =>
   simp only
   unfold fnT fnP
   rw [← say_bod]
   simp [sayT, hdT, Tk.pcs, fnN]
theorem say_prog (pre : List UInt8) (p : PG) : sayT pre (progT p) ++ [[]] = progP pre p := by
 unfold progT progP
 rw [← say_fns]
 unfold datT datQ
 split <;> simp [sayT, Tk.pcs]
def wordB (s : List UInt8) : Bool := !s.isEmpty && isLP (s.headD 0).toNat && s.all (fun b => goP b.toNat)
theorem wordB_L {s : List UInt8} (h : wordB s = true) : WordL s := by
 unfold wordB at h
 simp only [Bool.and_eq_true, List.all_eq_true] at h
 exact ⟨by intro e; rw [e] at h; simp at h, h.1.2, h.2⟩
theorem ins_word : ∀ n : Nat, n < 46 → wordB (insL.getD n Sh.none).nm.data.toList = true := by decide +kernel
theorem sys_word : ∀ n : Nat, n < sysL.length → wordB (sysL.getD n Sh.none).nm.data.toList = true := by decide +kernel
theorem kix_pos {k : Nat} {a : Int} (h : mayP k a = true) (h3 : k = 3 ∨ k = 4 ∨ k = 5) : 0 ≤ a ∧ a < endOf k := by
 rcases h3 with rfl | rfl | rfl <;> simpa [mayP] using h
theorem lin_ins {x : IN} (h : errI x = 0) (hx : x.Ok) (pl fs : Int) : lin false (insT x pl fs) := by
 obtain ⟨n, hn, hop, hro, ho, hm⟩ := ins_right h
 refine ⟨rfl, wordB_L (by rw [hro]; exact ins_word n hn), ?_⟩
 unfold tkO
 split
 ·trivial
 ·split
  ·exact ⟨rfl, .inl rfl, trivial⟩
  ·split
   ·exact ⟨rfl, .inr rfl, trivial⟩
   ·split
    ·rename_i h5
     have hk5 : kix n = 5 := by rw [ho] at h5; omega
     have hb := kix_pos hm (by omega)
     have he := (kix_o n hn).2.1 hk5
     rw [hk5, he] at hb
     obtain ⟨i, hi⟩ := Int.eq_ofNat_of_zero_le hb.1
     have hil : i < sysL.length := by omega
     have hrs := (row_at (L := sysL) (k := i) hil).1
     refine ⟨rfl, wordB_L ?_, trivial⟩
     rw [hi, hrs]
     exact sys_word i hil
    ·exact ⟨rfl, hx.2, trivial⟩
theorem lin_bod {q : List Bool} {pl fs : Int} {ys : List IN} (hy : ∀ y ∈ ys, errI y = 0 ∧ y.Ok) (n : Nat) : ∀ ts ∈ bodT q pl fs ys n, lin false ts := by
 intro ts h
 obtain ⟨k, _, h⟩ := List.mem_flatMap.1 h
 rcases List.mem_append.1 h with h | h
 ·unfold lbT at h
  split at h
  ·rw [List.mem_singleton.1 h]
   exact ⟨rfl, .inl rfl, trivial⟩
  ·exact absurd h List.not_mem_nil
 ·unfold inT at h
  split at h
  ·rename_i x hx
   rw [List.mem_singleton.1 h]
   have := hy x (List.mem_of_getElem? hx)
   exact lin_ins this.1 this.2 _ _
  ·exact absurd h List.not_mem_nil
theorem lin_prog {p : PG} (hg : PgGood p) (hp : p.Ok) (hd : ∀ x ∈ p.data, 0 ≤ x ∧ x ≤ 255) : ∀ ts ∈ progT p, lin false ts := by
 intro ts h
 rcases List.mem_cons.1 h with rfl | h
 ·exact ⟨rfl, wordB_L (by decide), rfl, hp.mem, trivial⟩
 ·rcases List.mem_append.1 h with h | h
  ·unfold datT at h
   split at h
   ·exact absurd h List.not_mem_nil
   ·rw [List.mem_singleton.1 h]
    exact ⟨rfl, wordB_L (by decide), rfl, hd, trivial⟩
  ·obtain ⟨k, _, h⟩ := List.mem_flatMap.1 h
   unfold fnAtT at h
   split at h
   ·rename_i f hf
    have hfm := List.mem_of_getElem? hf
    have hok := hp.fns f hfm
    rcases List.mem_cons.1 h with rfl | h
    ·exact ⟨rfl, wordB_L (by decide), rfl, .inr rfl, rfl, hok.a, rfl, hok.l, rfl, hok.r, trivial⟩
    ·exact lin_bod (fun y hy => ⟨(hg.fn f hfm).2 y hy, hok.code y hy⟩) _ ts h
   ·exact absurd h List.not_mem_nil
def flW (pre : List UInt8) (ws : Nat → Wy) : Nat → List (List Tk) → List UInt8
 | _, [] => []
 | n, ts :: L => (ts.flatMap (Tk.txt pre (ws n)) ++ (ws n).E) ++ 10 :: flW pre ws (n + 1) L
theorem lines_flW {pre : List UInt8} (hp : preOk pre) {ws : Nat → Wy} (hw : ∀ n, (ws n).Ok) : ∀ (L : List (List Tk)) (n : Nat), (∀ ts ∈ L, lin false ts) → (linesL (flW pre ws n L)).map cutV = (sayT pre L ++ [[]]).map some
 | [], n, _ => rfl
 | ts :: L, n, h => by
  rw [flW, lines_app _ _ (line_ten hp (hw n) ts (h ts List.mem_cons_self)), List.map_cons, cut_toks hp (hw n) ts (h ts List.mem_cons_self), lines_flW hp hw L (n + 1) (fun x hx => h x (List.mem_cons_of_mem _ hx))]
  rfl
theorem way_back {pre : List UInt8} (hpre : preOk pre) {ws : Nat → Wy} (hw : ∀ n, (ws n).Ok) {p : PG} (hc : checkP p = 0) (hp : p.Ok) (hd : ∀ x ∈ p.data, 0 ≤ x ∧ x ≤ 255) (hl : (flW pre ws 0 (progT p)).length ≤ 65536) : ∃ R, readP (flW pre ws 0 (progT p)) = .inr R ∧ pgG R = p :=
 read_prog pre p hc hd _ hl (by rw [lines_flW hpre hw _ 0 (lin_prog (check_good hc) hp hd), say_prog])
def plY : Wy := ⟨[9], [], []⟩
theorem plY_ok : plY.Ok := ⟨fun b hb => .inl (by simpa [plY] using hb), fun b hb => absurd hb List.not_mem_nil, [], [], rfl, fun b hb => absurd hb List.not_mem_nil, .inl rfl, fun b hb => absurd hb List.not_mem_nil⟩
def lnT (ts : List Tk) : List UInt8 := ts.flatMap (Tk.txt [] plY) ++ [10]
def flT (L : List (List Tk)) : List UInt8 := L.flatMap lnT
theorem flT_app (a b : List (List Tk)) : flT (a ++ b) = flT a ++ flT b := by simp [flT]
theorem flT_one (a : List Tk) : flT [a] = lnT a := by simp [flT]
theorem flT_W : ∀ (L : List (List Tk)) (n : Nat), flW [] (fun _ => plY) n L = flT L
 | [], _ => rfl
 | ts :: L, n => by
  rw [flW, flT_W L (n + 1)]
  simp [flT, lnT, plY]
abbrev bC : List UInt8 → List Value := Lib.byteCells
theorem bC_app (a b : List UInt8) : bC (a ++ b) = bC a ++ bC b := by simp [Lib.byteCells]
theorem ins_bC {x : IN} (h : errI x = 0) (pl fs : Int) : insB x.op x.a pl fs = bC (lnT (insT x pl fs)) := by
 obtain ⟨n, hn, hop, hro, ho, hm⟩ := ins_right h
 have hpos : ∀ c : Nat, (c = 3 ∨ c = 4) → (rowS insL x.op).o = (c : Int) → Lib.itoa x.a = Lib.decDigits x.a.toNat := fun c hc he => by
  have hk : kix n = c := by rw [ho] at he; omega
  have hb := kix_pos hm (by omega)
  obtain ⟨i, hi⟩ := Int.eq_ofNat_of_zero_le hb.1
  rw [hi, itoa_nat]
  rfl
 have e : opdD (rowS insL x.op) x.a pl fs = bC ((tkO (rowS insL x.op) x.a pl fs).flatMap (Tk.txt [] plY)) := by
  unfold opdD tkO
  by_cases h0 : (rowS insL x.op).o = 0
  ·rw [if_pos h0, if_pos h0]
   rfl
  ·rw [if_neg h0, if_neg h0]
   by_cases h3 : (rowS insL x.op).o = 3 ∧ x.a ≤ pl
   ·rw [if_pos h3, if_pos h3, hpos 3 (.inl rfl) h3.1]
    simp [Tk.txt, plY, Lib.byteCells]
   ·rw [if_neg h3, if_neg h3]
    by_cases h4 : (rowS insL x.op).o = 4 ∧ x.a < fs
    ·rw [if_pos h4, if_pos h4, hpos 4 (.inr rfl) h4.1]
     simp [Tk.txt, plY, Lib.byteCells]
    ·rw [if_neg h4, if_neg h4]
     by_cases h5 : (rowS insL x.op).o = 5
     ·rw [if_pos h5, if_pos h5]
      simp [Tk.txt, plY, Lib.byteCells, Lib.strCells]
     ·rw [if_neg h5, if_neg h5]
      simp [Tk.txt, plY, Lib.byteCells]
 unfold insB insT lnT
 rw [e]
 simp [Tk.txt, plY, Lib.byteCells, Lib.strCells]
theorem bod_bC {q : List Bool} {pl fs : Int} {ys : List IN} (hy : ∀ y ∈ ys, errI y = 0) : ∀ n, bodD q pl fs ys n = bC (flT (bodT q pl fs ys n))
 | 0 => rfl
 | n + 1 => by
  rw [bodT_succ, bodD_succ, bod_bC hy n, flT_app, bC_app, flT_app, bC_app]
  congr 1
  congr 1
  ·unfold lblD lbT
   split
   ·rw [flT_one, itoa_nat]
    simp [lnT, Tk.txt, plY, Lib.byteCells, Lib.strCells]
   ·rfl
  ·unfold insAt inT
   cases hx : ys[n]? with
   | none => rfl
   | some x =>
    simp only
    rw [flT_one, ins_bC (hy x (List.mem_of_getElem? hx))]
theorem hd_bC (k : Nat) (f : FN) : hdF k f 3 ++ [.int .u8 10] = bC (lnT (hdT k f)) := by
 unfold hdF hdT lnT
 rw [itoa_nat]
 simp [numZ, Tk.txt, plY, Lib.byteCells, Lib.strCells]
theorem fns_bC {fs : Int} {fns : List FN} (hg : ∀ f ∈ fns, ∀ y ∈ f.code, errI y = 0) : ∀ n, fnsD fs fns n = bC (flT (fnsT fs fns n))
 | 0 => rfl
 | n + 1 => by
  rw [fnsT_succ, fnsD_succ, fns_bC hg n, flT_app, bC_app]
  congr 1
  unfold fnAtD fnAtT
  cases hf : fns[n]? with
  | none => rfl
  | some f =>
   simp only
   unfold fnD fnT
   rw [hd_bC, bod_bC (hg f (List.mem_of_getElem? hf)), ← bC_app]
   rfl
theorem qa_rng : ∀ n : Nat, n < 256 → ∀ x ∈ qa (n : Int), 0 ≤ x ∧ x ≤ 255 := by decide +kernel
theorem quote_rng (xs : List Int) (h : ∀ x ∈ xs, 0 ≤ x ∧ x ≤ 255) : ∀ x ∈ quoteA xs, 0 ≤ x ∧ x ≤ 255 := by
 intro x hx
 unfold quoteA at hx
 rcases List.mem_cons.1 hx with rfl | hx
 ·decide
 ·rcases List.mem_append.1 hx with hx | hx
  ·obtain ⟨y, hy, hx⟩ := List.mem_flatMap.1 hx
   obtain ⟨h0, h1⟩ := h y hy
   obtain ⟨n, rfl⟩ := Int.eq_ofNat_of_zero_le h0
   exact qa_rng n (by omega) x hx
  ·rcases List.mem_cons.1 hx with rfl | hx
   ·decide
   ·exact absurd hx List.not_mem_nil
theorem byts_u8 : ∀ (l : List Int), (∀ x ∈ l, 0 ≤ x ∧ x ≤ 255) → byts l = bC (u8 l)
 | [], _ => rfl
 | x :: l, h => by
  have hx := h x List.mem_cons_self
  have e : ((UInt8.ofNat x.toNat).toNat : Int) = x := by
   rw [UInt8.toNat_ofNat']
   omega
  have := byts_u8 l (fun y hy => h y (List.mem_cons_of_mem _ hy))
  show Value.int .u8 x :: byts l = Value.int .u8 ((UInt8.ofNat x.toNat).toNat : Int) :: bC (u8 l)
  rw [e, this]
theorem prog_bC {p : PG} (hg : PgGood p) (hd : ∀ x ∈ p.data, 0 ≤ x ∧ x ≤ 255) : progD p = bC (flT (progT p)) := by
 unfold progD headD progT
 rw [fns_bC (fun f hf => (hg.fn f hf).2)]
 have e1 : memY ++ numZ p.mem ++ [.int .u8 10] = bC (lnT [.w memN, .sp, .num p.mem]) := by
  unfold lnT
  simp [memY, numZ, Tk.txt, plY, Lib.byteCells]
 have e2 : dataD p.data = bC (flT (datT p.data)) := by
  unfold dataD datT
  split
  ·rfl
  ·rw [flT_one, byts_u8 _ (quote_rng _ hd)]
   simp [lnT, Tk.txt, plY, Lib.byteCells, Lib.strCells]
 rw [e1, e2]
 rw [← bC_app, ← bC_app]
 congr 1
 simp [flT]
theorem print_text {p : PG} (h : printE p = 0) (hd : ∀ x ∈ p.data, 0 ≤ x ∧ x ≤ 255) : checkP p = 0 ∧ (flT (progT p)).length ≤ 65536 ∧ printS p = ⟨(flT (progT p)).toArray⟩ := by
 have hc : checkP p = 0 := by
  unfold printE at h
  by_cases hc : checkP p = 0
  ·exact hc
  ·rw [if_neg hc] at h
   exact absurd h hc
 have e := prog_bC (check_good hc) hd
 refine ⟨hc, ?_, ?_⟩
 ·unfold printE at h
  rw [if_pos hc] at h
  by_cases hl : 65536 < (progD p).length
  ·rw [if_pos hl] at h
   exact absurd h (by decide)
  ·rw [e] at hl
   simp [Lib.byteCells] at hl
   omega
 ·unfold printS
  rw [if_pos h, e]
  rw [← strN8]
  congr 1
  simp [Lib.byteCells, nums8, intV]
theorem print_back {p : PG} (h : printE p = 0) (hp : p.Ok) (hd : ∀ x ∈ p.data, 0 ≤ x ∧ x ≤ 255) : ∃ R, readP (printS p).data.toList = .inr R ∧ pgG R = p := by
 obtain ⟨hc, hl, e⟩ := print_text h hd
 have := way_back (pre := []) (.inl rfl) (ws := fun _ => plY) (fun _ => plY_ok) hc hp hd (by rw [flT_W]; exact hl)
 rw [flT_W] at this
 rw [e]
 exact this
set_option maxHeartbeats 8000000 in
theorem one_any (w : World) : Calls Tryz.prog 17 #[] w fun e w' => ∃ fa fc, e = .returned (.agg #[.int .i64 0, .slice none 0 0, .slice fa 1 fc]) ∧ Pg1 w' w.heap.size (.slice fa 1 fc) ∧ Kept (fun _ => False) w w' := by
 obtain ⟨W1, hW1⟩ := nmd (w.alloc (.cells #[.int .i64 0, .slice none 0 0, .slice none 0 0] 25))
 have k1 : Kept (fun _ => False) w W1 := by rw [hW1]; exact (Kept.refl _ _).alloc _
 have x1 : W1.heap[w.heap.size]? = some (.cells #[.int .i64 0, .slice none 0 0, .slice none 0 0] 25 (0, 0)) := by rw [hW1]; exact heap_alloc_new _ _
 obtain ⟨W3, hW3⟩ := nmd ((W1.alloc (.cells #[.int .i64 18, .int .i64 0] 48)).alloc (.cells #[.int .i64 0, .int .i64 0, .int .i64 1, .slice (some ⟨W1.heap.size, 0, none⟩) 1 1] 51))
 obtain ⟨k3, y1, y2⟩ := allocs2 _ _ _ _ _ _ hW3
 have HPG : Hid (Pg1 W3 w.heap.size (.slice (some ⟨W1.heap.size + 1, 0, none⟩) 1 1)) :=
  ⟨_, ⟨rfl, .inr ⟨_, 1, _, rfl, Nat.le_trans k1.size (Nat.le_succ _), y2, Nat.le_refl _, by decide, rfl, rfl⟩⟩, ⟨rfl, .inr ⟨_, 1, _, rfl, k1.size, y1, Nat.le_refl _, by decide, rfl, rfl⟩⟩⟩
 have HX3 := hid_of (box_kept k3 x1 id)
 have HK3 := hid_of (k1.trans k3)
 clear k1 x1 k3 y1 y2
 go_enter Tryz.func17, Tryz.ntmps17
 go_upto_region 1 with fail
 rw [← hW1]
 obtain ⟨p0, hp0⟩ := nmd (w.heap.size)
 rw [← hp0] at HX3 ⊢
 have HPW : Hid (w.heap.size ≤ p0) := by rw [hp0]; exact Nat.le_refl _
 have HPE := hid_of hp0
 clear hW1 hp0
 obtain ⟨hx, hkx⟩ := set3 W3 p0 25 _ _ _ (.int .i64 0) (.slice none 0 0) (.slice (some ⟨W1.heap.size + 1, 0, none⟩) 1 1) HX3.out
 obtain ⟨c0, c1, c2, f0, f1, f2⟩ := look3 HX3.out
 have HX4 := hid_of hx
 have HK4 := hid_of (HK3.out.step hkx (fun i hi e => by have := HPW.out; omega))
 have HPG4 := hid_of (HPG.out.put HX3.out hkx)
 rw [hW3] at c0 c1 c2 f0 f1 f2 HX4 HK4 HPG4
 clear hx hkx HX3 HK3 HPG
 go_wp2
 refine bodyPost_ret (v := .agg #[.int .i64 0, .slice none 0 0, .slice (some ⟨W1.heap.size + 1, 0, none⟩) 1 1]) ?_ rfl ⟨_, _, rfl, HPG4.out, HK4.out⟩
 exact results_cell_row (by rfl) _ _ p0 25 _ (0, 0) _ (by rfl) HX4.out Tryz.underlying25 rfl size37
theorem neqS (s : ByteArray) (w : World) : (binOp .neq 9 (.string s) (.string s)).run Tryz.prog w = .ok (.bool false) w := by
 go_simp
set_option maxHeartbeats 16000000 in
theorem sameG (v1 v2 : Value) (p : PG) (w : World) (B1 B2 : Nat) (h1 : PgIs w B1 v1 p) (h2 : PgIs w B2 v2 p) (ho : p.Ok) :
  Calls Tryz.prog 11 #[v1, v2] w fun e w' => e = .returned (.bool true) ∧ Kept (fun _ => False) w w' := by
 obtain ⟨dv1, fv1, rfl, hd1, _, hf1⟩ := h1
 obtain ⟨dv2, fv2, rfl, hd2, _, hf2⟩ := h2
 obtain ⟨da1, dc1, rfl⟩ := hd1.shape
 obtain ⟨fa1, fc1, rfl⟩ := hf1.shape
 obtain ⟨da2, dc2, rfl⟩ := hd2.shape
 obtain ⟨fa2, fc2, rfl⟩ := hf2.shape
 have hlf := ho.len
 have HOF := hid_of ho.fns
 obtain ⟨mem, ds, fs⟩ := p
 simp only at hlf hf1 hf2 hd1 hd2 HOF ⊢
 obtain ⟨nf, hnf⟩ := nmd (fs.length)
 obtain ⟨nd, hnd⟩ := nmd (ds.length)
 rw [← hnf] at hlf hf1 hf2 ⊢
 rw [← hnd] at hd1 hd2 ⊢
 obtain ⟨W1, hW1⟩ := nmd ((w.alloc (.cells #[.int .i64 mem, .slice da1 nd dc1, .slice fa1 nf fc1] 25)).alloc (.cells #[.int .i64 mem, .slice da2 nd dc2, .slice fa2 nf fc2] 25))
 obtain ⟨k1, x1, x2⟩ := allocs2 _ _ _ _ _ _ hW1
 have HK1 := hid_of k1
 have HX1 := hid_of x1
 have HX2 := hid_of x2
 have HF1 := hid_of (hf1.kept k1 (fun _ _ f => f))
 have HF2 := hid_of (hf2.kept k1 (fun _ _ f => f))
 have HNF := hid_of hnf
 have hcv1 := conv_str W1 (.slice da1 nd dc1) ds (hd1.kept k1 (fun _ _ f => f))
 have hcv2 := conv_str W1 (.slice da2 nd dc2) ds (hd2.kept k1 (fun _ _ f => f))
 generalize str ds = sd at *
 have hneq := neqS sd W1
 clear hf1 hf2 hd1 hd2 hnf hnd k1 x1 x2 ho
 go_enter Tryz.func11, Tryz.ntmps11
 go_upto_region 1 with fail
 rw [← hW1]
 clear hW1
 generalize w.heap.size + 1 = gb at *
 generalize w.heap.size = ga at *
 obtain ⟨a0, a1, a2, _⟩ := look3 HX1.out
 obtain ⟨b0, b1, b2, _⟩ := look3 HX2.out
 go_wp2_with fail
 clear a0 a1 a2 b0 b1 b2 hcv1 hcv2 hneq
 go_loopw [5] (fun iv wr => ∃ (i : Nat), iv = .int .i64 (i : Int) ∧ Hid (i ≤ nf) ∧ Hid (Kept (fun _ => False) W1 wr)) (fun iv _ => nf - (intOf iv).toNat)
 case atStart => exact ⟨0, rfl, Nat.zero_le _, Kept.refl _ _⟩
 case round =>
  obtain ⟨i, rfl, HI, HK⟩ := hrel
  obtain ⟨a0, a1, a2, _⟩ := look3 (box_kept HK.out HX1.out id)
  have hnfB : (nf : Int) ≤ 10000000000000 := by omega
  by_cases hlt : i < nf
  ·have hltI : (i : Int) < (nf : Int) := by omega
   have hli : i < fs.length := by rw [← HNF.out]; exact hlt
   have hg1 := HF1.out.kept HK.out (fun _ _ f => f)
   obtain ⟨g1, o1, f, e1, -, hfi, hfa1⟩ := hg1.at (i := i) hli
   obtain ⟨g2, o2, f', e2, -, hfi', hfa2⟩ := (HF2.out.kept HK.out (fun _ _ f => f)).at (i := i) hli
   rw [hfi] at hfi'
   cases hfi'
   subst e1
   subst e2
   obtain ⟨ca1, cc1, r0, r1, r2, r3, hri1, -⟩ := fn_read hfa1
   obtain ⟨ca2, cc2, q0, q1, q2, q3, hri2, -⟩ := fn_read hfa2
   have hfok := HOF.out f (List.mem_of_getElem? hfi)
   have HCL : Hid (f.code.length ≤ 9223372036854775807) := by have := hfok.len; show _ ≤ _; omega
   obtain ⟨fa, fl, fr, code⟩ := f
   simp only at r0 r1 r2 r3 q0 q1 q2 q3 hri1 hri2 HCL
   obtain ⟨nc, hnc⟩ := nmd (code.length)
   rw [← hnc] at r3 q3 hri1 hri2 HCL
   have hk5 : Kept (fun _ => False) wr (wr.alloc (.cells #[.int .i64 fa, .int .i64 fl, .int .i64 fr, .slice ca1 nc cc1] 51)) := (Kept.refl _ _).alloc _
   have HY := hid_of (heap_alloc_new wr (.cells #[.int .i64 fa, .int .i64 fl, .int .i64 fr, .slice ca1 nc cc1] 51))
   have HK5 := hid_of (HK.out.trans hk5)
   have HQ := hid_of (And.intro q0 (And.intro q1 (And.intro q2 q3)))
   have HR1 := hid_of hri1
   have HR2 := hid_of hri2
   have HKY := hid_of hk5
   have HNC := hid_of hnc
   clear hg1 hfi hfa1 hfa2 hri1 hri2 hfok hli hk5 q0 q1 q2 q3 hnc
   go_upto_region 7 with fail
   clear r0 r1 r2 r3 a0 a1 a2
   have HQ5 : Hid ((wr.alloc (.cells #[.int .i64 fa, .int .i64 fl, .int .i64 fr, .slice ca1 nc cc1] 51)).cell? ⟨g2, o2 + i * 4, none⟩ = some (.int .i64 fa) ∧ (wr.alloc (.cells #[.int .i64 fa, .int .i64 fl, .int .i64 fr, .slice ca1 nc cc1] 51)).cell? ⟨g2, o2 + i * 4 + 1, none⟩ = some (.int .i64 fl) ∧ (wr.alloc (.cells #[.int .i64 fa, .int .i64 fl, .int .i64 fr, .slice ca1 nc cc1] 51)).cell? ⟨g2, o2 + i * 4 + 2, none⟩ = some (.int .i64 fr) ∧ (wr.alloc (.cells #[.int .i64 fa, .int .i64 fl, .int .i64 fr, .slice ca1 nc cc1] 51)).cell? ⟨g2, o2 + i * 4 + 3, none⟩ = some (.slice ca2 nc cc2)) :=
    ⟨HKY.out.cell HQ.out.1 id, HKY.out.cell HQ.out.2.1 id, HKY.out.cell HQ.out.2.2.1 id, HKY.out.cell HQ.out.2.2.2 id⟩
   generalize wr.alloc (.cells #[.int .i64 fa, .int .i64 fl, .int .i64 fr, .slice ca1 nc cc1] 51) = w5 at *
   generalize wr.heap.size = gy at *
   obtain ⟨b0, b1, b2, _⟩ := look3 (box_kept HK5.out HX2.out id)
   obtain ⟨r0, r1, r2, r3⟩ := HQ5.out
   have hk6 : Kept (fun _ => False) w5 (w5.alloc (.cells #[.int .i64 fa, .int .i64 fl, .int .i64 fr, .slice ca2 nc cc2] 51)) := (Kept.refl _ _).alloc _
   have HZ := hid_of (heap_alloc_new w5 (.cells #[.int .i64 fa, .int .i64 fl, .int .i64 fr, .slice ca2 nc cc2] 51))
   have HY6 := hid_of (box_kept hk6 HY.out id)
   have HK6 := hid_of (HK5.out.trans hk6)
   have HKR := hid_of (HKY.out.trans hk6)
   clear hk6 HY HK5 HQ5 HKY HQ
   go_upto_region 8 with fail
   clear r0 r1 r2 r3 b0 b1 b2
   generalize w5.alloc (.cells #[.int .i64 fa, .int .i64 fl, .int .i64 fr, .slice ca2 nc cc2] 51) = w6 at *
   generalize w5.heap.size = gz at *
   obtain ⟨y0, y1, y2, y3, _⟩ := look4 HY6.out
   obtain ⟨z0, z1, z2, z3, _⟩ := look4 HZ.out
   have hsc := same_any (.slice ca1 nc cc1) (.slice ca2 nc cc2) code code w6 (HR1.out.kept HKR.out (fun _ _ f => f)) (HR2.out.kept HKR.out (fun _ _ f => f)) (by rw [← HNC.out]; exact HCL.out) (by rw [← HNC.out]; exact HCL.out)
   rw [sameI_refl] at hsc
   have HSC := hid_of hsc
   clear hsc HR1 HR2 HNC HCL
   go_wp2_with fail
   refine HSC.out.mono ?_
   rintro e w7 ⟨rfl, nq, hw7⟩
   have HK7 : Hid (Kept (fun _ => False) W1 w7) := by
    show Kept _ _ _
    rw [hw7]
    exact kept_drewN HK6.out nq
   clear hw7 HSC HK6 HY6 HZ y0 y1 y2 y3 z0 z1 z2 z3 HKR
   go_wp2
   go_roundw
   case rel => exact ⟨i + 1, by go_num, hlt, HK7⟩
   case measure => simp [intOf]; omega
  ·have hltI : ¬ (i : Int) < (nf : Int) := by omega
   go_wp2
   go_ret
   exact ⟨rfl, HK1.out.trans HK.out⟩
theorem src_read : ∃ R, readP srcB.data.toList = .inr R ∧ pgG R = p1 := by
 refine ⟨⟨0, false, [], [⟨⟨#[109, 97, 105, 110]⟩, 0, 0, 1, [], [⟨18, 0⟩]⟩], []⟩, ?_, rfl⟩
 have e1 : linesP R0 1 (linesL srcB.data.toList) = .inr ⟨0, false, [], [⟨⟨#[109, 97, 105, 110]⟩, 0, 0, 1, [], [⟨18, 0⟩]⟩], []⟩ := by kernel_rfl
 unfold readP
 rw [if_neg (by decide), e1]
 simp only [settleF]
 exact if_pos p1_check
end Go.Proofs.YtpfmhibdmehlcaaGreatDoor
