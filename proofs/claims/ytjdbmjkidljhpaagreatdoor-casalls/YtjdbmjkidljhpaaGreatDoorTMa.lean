/-
 Ma: Sha, Mem, Eql, Cmap, Cpu.
-/
import Derived.Laws.BitsAllLaws
import Derived.ProofKit
import Derived.Test.YtjdbmjkidljhpaaGreatDoorRows
import Derived.WalkKit
import Derived.Maps.AppendAt
import Derived.Deep.QuietTactic
import Derived.BigQuiet
import Derived.WalkSmall
import Derived.Laws.Rows
import Derived.Deep.MidRow
import Derived.Deep.WholeRow
import Derived.Deep.RegionHeld3
import Derived.Laws.StructEq
import Derived.MapKept
namespace Go.Proofs.YtjdbmjkidljhpaaGreatDoor
open Go.RowKit
def add (x y : Int) : Int := (x + y) % 4294967296
def ror (x : Int) (n : Nat) : Int := bits .or .u32 (x * 2 ^ (32 - n) % 4294967296) (x / 2 ^ n)
def xo (x y : Int) : Int := bits .xor .u32 x y
def an (x y : Int) : Int := bits .and .u32 x y
def nt (x : Int) : Int := bits .xor .u32 IntKind.u32.max x
def sg0 (x : Int) : Int := xo (xo (ror x 7) (ror x 18)) (x / 8)
def sg1 (x : Int) : Int := xo (xo (ror x 17) (ror x 19)) (x / 1024)
def kw : List Int := [
 1116352408, 1899447441, 3049323471, 3921009573, 961987163, 1508970993, 2453635748, 2870763221,
 3624381080, 310598401, 607225278, 1426881987, 1925078388, 2162078206, 2614888103, 3248222580,
 3835390401, 4022224774, 264347078, 604807628, 770255983, 1249150122, 1555081692, 1996064986,
 2554220882, 2821834349, 2952996808, 3210313671, 3336571891, 3584528711, 113926993, 338241895,
 666307205, 773529912, 1294757372, 1396182291, 1695183700, 1986661051, 2177026350, 2456956037,
 2730485921, 2820302411, 3259730800, 3345764771, 3516065817, 3600352804, 4094571909, 275423344,
 430227734, 506948616, 659060556, 883997877, 958139571, 1322822218, 1537002063, 1747873779,
 1955562222, 2024104815, 2227730452, 2361852424, 2428436474, 2756734187, 3204031479, 3329325298]
structure S8 where
 a : Int
 b : Int
 c : Int
 d : Int
 e : Int
 f : Int
 g : Int
 h : Int
def S8.list (s : S8) : List Int := [s.a, s.b, s.c, s.d, s.e, s.f, s.g, s.h]
def pw (s : S8) (k w : Int) : Int := add (add (add (add s.h (xo (xo (ror s.e 6) (ror s.e 11)) (ror s.e 25))) (xo (an s.e s.f) (an (nt s.e) s.g))) k) w
def qw (s : S8) : Int := add (xo (xo (ror s.a 2) (ror s.a 13)) (ror s.a 22)) (xo (xo (an s.a s.b) (an s.a s.c)) (an s.b s.c))
def rnd (s : S8) (k w : Int) : S8 := ⟨add (pw s k w) (qw s), s.a, s.b, s.c, add s.d (pw s k w), s.e, s.f, s.g⟩
def rnds (s : S8) (ws : List Int) : Nat → S8
 | 0 => s
 | t + 1 => rnd (rnds s ws t) (kw.getD t 0) (ws.getD t 0)
def up (x c : Int) : Int := bits .or .u32 (x * 256 % 4294967296) c
def word (bs : List Int) (i : Nat) : Int := up (up (up (up 0 (bs.getD (4 * i) 0)) (bs.getD (4 * i + 1) 0)) (bs.getD (4 * i + 2) 0)) (bs.getD (4 * i + 3) 0)
/-- The first k bytes of word j. -/
def partw (bs : List Int) (j : Nat) : Nat → Int
 | 0 => 0
 | k + 1 => up (partw bs j k) (bs.getD (4 * j + k) 0)
theorem word_part (bs : List Int) (i : Nat) : word bs i = partw bs i 4 := rfl
def first (bs : List Int) : List Int := (List.range 16).map (word bs)
def nextw (l : List Int) (i : Nat) : Int := add (add (add (l.getD i 0) (sg0 (l.getD (i + 1) 0))) (l.getD (i + 9) 0)) (sg1 (l.getD (i + 14) 0))
def grown (ws : List Int) : Nat → List Int
 | 0 => ws
 | i + 1 => grown ws i ++ [nextw (grown ws i) i]
def wide (bs : List Int) : List Int := grown (first bs) 48
def S8.add (s v : S8) : S8 := ⟨YtjdbmjkidljhpaaGreatDoor.add s.a v.a, YtjdbmjkidljhpaaGreatDoor.add s.b v.b, YtjdbmjkidljhpaaGreatDoor.add s.c v.c, YtjdbmjkidljhpaaGreatDoor.add s.d v.d, YtjdbmjkidljhpaaGreatDoor.add s.e v.e, YtjdbmjkidljhpaaGreatDoor.add s.f v.f, YtjdbmjkidljhpaaGreatDoor.add s.g v.g, YtjdbmjkidljhpaaGreatDoor.add s.h v.h⟩
def turn (s : S8) (bs : List Int) : S8 := s.add (rnds s (wide bs) 64)
def s0 : S8 := ⟨0x6a09e667, 0xbb67ae85, 0x3c6ef372, 0xa54ff53a, 0x510e527f, 0x9b05688c, 0x1f83d9ab, 0x5be0cd19⟩
/-- Byte i of a state. -/
def dbyte (s : S8) (i : Nat) : Int := s.list.getD (i / 4) 0 / 2 ^ (24 - i % 4 * 8) % 256
def dig (s : S8) : List Int := (List.range 32).map (dbyte s)
/-- The state behind the first i whole blocks. -/
def blk (xs : List Int) : Nat → S8
 | 0 => s0
 | i + 1 => turn (blk xs i) ((xs.drop (64 * i)).take 64)
def zeros (n : Nat) : Nat := (119 - n % 64) % 64
def lbyte (n i : Nat) : Int := 8 * (n : Int) / 2 ^ (56 - 8 * i) % 256
def lenb (n : Nat) : List Int := (List.range 8).map (lbyte n)
def pad (n : Nat) : List Int := 128 :: (List.replicate (zeros n) 0 ++ lenb n)
def sha (xs : List Int) : List Int := dig (blk (xs ++ pad xs.length) ((xs.length + (pad xs.length).length) / 64))
theorem pad_length (n : Nat) : (pad n).length = 9 + zeros n := by simp [pad, lenb]; omega
theorem full_length (n : Nat) : (n + (pad n).length) % 64 = 0 := by rw [pad_length]; unfold zeros; omega
theorem blk_append (xs ys : List Int) : ∀ i, 64 * i ≤ xs.length → blk (xs ++ ys) i = blk xs i
 | 0, _ => rfl
 | i + 1, h => by
  rw [blk, blk, blk_append xs ys i (by omega), List.drop_append_of_le_length (by omega), List.take_append_of_le_length (by simp; omega)]
theorem grown_length (ws : List Int) : ∀ k, (grown ws k).length = ws.length + k
 | 0 => rfl
 | k + 1 => by rw [grown, List.length_append, grown_length ws k]; rfl
theorem first_length (bs : List Int) : (first bs).length = 16 := by simp [first]
theorem wide_length (bs : List Int) : (wide bs).length = 64 := by rw [wide, grown_length, first_length]
/-- A Hash's fields. -/
structure Hsh where
 p : S8
 t : List Int
 n : Nat
/-- A Hash's fields say these bytes. -/
structure Hsh.Of (h : Hsh) (xs : List Int) : Prop where
 n : h.n = xs.length
 t : h.t.length = 64
 tail : h.t.take (xs.length % 64) = xs.drop (64 * (xs.length / 64))
 past : 64 ≤ xs.length → h.p = blk xs (xs.length / 64)
def Hsh.now (h : Hsh) : S8 := if h.n < 64 then s0 else h.p
theorem Hsh.Of.now {h : Hsh} {xs : List Int} (H : h.Of xs) : h.now = blk xs (xs.length / 64) := by
 unfold Hsh.now
 rw [H.n]
 split
 ·rw [show xs.length / 64 = 0 by omega]; rfl
 ·exact H.past (by omega)
/-- The tail with k bytes more from at on. -/
def laidIn (t ys : List Int) (at_ : Nat) : List Int := t.take at_ ++ (ys ++ t.drop (at_ + ys.length))
theorem laidIn_length {t ys : List Int} {a : Nat} (h : a + ys.length ≤ t.length) : (laidIn t ys a).length = t.length := by
 simp [laidIn]; omega
/-- One piece that fits behind the tail. -/
theorem Hsh.Of.part {h : Hsh} {xs : List Int} (H : h.Of xs) (ys : List Int) (hk : xs.length % 64 + ys.length < 64) :
  (Hsh.mk h.p (laidIn h.t ys (xs.length % 64)) (h.n + ys.length)).Of (xs ++ ys) := by
 have ht := H.t
 have e1 : (xs.length + ys.length) % 64 = xs.length % 64 + ys.length := by omega
 have e2 : (xs.length + ys.length) / 64 = xs.length / 64 := by omega
 refine ⟨by simp [H.n], ?_, ?_, fun h64 => ?_⟩
 ·exact (laidIn_length (by omega)).trans ht
 ·show (laidIn h.t ys (xs.length % 64)).take _ = _
  rw [List.length_append, e1, e2, laidIn, List.drop_append_of_le_length (by omega), ← H.tail]
  rw [← List.append_assoc, List.take_append_of_le_length (by simp; omega)]
  exact List.take_of_length_le (by simp; omega)
 ·rw [List.length_append, e2, blk_append _ _ _ (by omega)]
  rw [List.length_append] at h64
  exact H.past (by omega)
/-- One that fills it up. -/
theorem Hsh.Of.full {h : Hsh} {xs : List Int} (H : h.Of xs) (ys : List Int) (hk : xs.length % 64 + ys.length = 64) :
  (Hsh.mk (turn h.now (laidIn h.t ys (xs.length % 64))) (laidIn h.t ys (xs.length % 64)) (h.n + ys.length)).Of (xs ++ ys) := by
 have ht := H.t
 have e1 : (xs.length + ys.length) % 64 = 0 := by omega
 have e2 : (xs.length + ys.length) / 64 = xs.length / 64 + 1 := by omega
 have e3 : laidIn h.t ys (xs.length % 64) = ((xs ++ ys).drop (64 * (xs.length / 64))).take 64 := by
  rw [laidIn, List.drop_append_of_le_length (by omega), ← H.tail, List.drop_eq_nil_of_le (by omega), List.append_nil]
  rw [List.take_of_length_le (l := _ ++ _) (by simp; omega)]
 refine ⟨by simp [H.n], ?_, ?_, fun h64 => ?_⟩
 ·exact (laidIn_length (by omega)).trans ht
 ·rw [List.length_append, e1, e2, List.drop_eq_nil_of_le (by simp; omega)]; rfl
 ·rw [List.length_append, e2, blk, ← e3, blk_append _ _ _ (by omega), ← H.now]
end Go.Proofs.YtjdbmjkidljhpaaGreatDoor
namespace Go.Proofs.YtjdbmjkidljhpaaGreatDoor
open Go.RowKit
set_option linter.unusedVariables false
set_option maxRecDepth 100000
/-- A digest of zeros. -/
abbrev z32 : Array Value := #[.int .u8 0, .int .u8 0, .int .u8 0, .int .u8 0, .int .u8 0, .int .u8 0, .int .u8 0, .int .u8 0, .int .u8 0, .int .u8 0, .int .u8 0, .int .u8 0, .int .u8 0, .int .u8 0, .int .u8 0, .int .u8 0, .int .u8 0, .int .u8 0, .int .u8 0, .int .u8 0, .int .u8 0, .int .u8 0, .int .u8 0, .int .u8 0, .int .u8 0, .int .u8 0, .int .u8 0, .int .u8 0, .int .u8 0, .int .u8 0, .int .u8 0, .int .u8 0]
/-- What is taken up of a drawn region, its value the same at whatever time. -/
theorem tkp {P : Program} {ops : Array Oper} {Q : Exit → Act → World → Prop} {md : Region.Mode} {S : World → Prop} {oi : Oper} {v : Value} {fuel : Nat} {listed : Array Bool} {a : Act} {w : World} (i : Nat) (hi : ops[i]? = some oi) (hy : ∀ w : World, S w → Sem.run P (execOp a.eval oi) w = Result.ok (Next.value v) w) (h : wpAnyH P md ops Q S fuel (listed.setIfInBounds i true) (a.put oi.dst v) w)
  (hs : Region.noSelect ops = true := by kernel_rfl) (hf : Region.free md ops listed i = true := by kernel_rfl) (hr : (Region.ready md ops listed).contains i = true := by kernel_rfl) (hQ : ∀ c a w, Q (.panic c) (a.put oi.dst v) w → Q (.panic c) a w := by exact fun _ _ _ h => h) (hw : Region.wanted oi (yielded ops a.tmps) = true := by rfl) (hS : S w := by assumption) : wpAnyH P md ops Q S (fuel + 1) listed a w :=
 wpAnyH_take hi hs hf hr hQ (Or.inl ⟨hw, hy⟩) hS h
theorem tku {P : Program} {ops : Array Oper} {Q : Exit → Act → World → Prop} {md : Region.Mode} {S : World → Prop} {oi : Oper} {fuel : Nat} {listed : Array Bool} {a : Act} {w : World} (i : Nat) (hi : ops[i]? = some oi) (h : wpAnyH P md ops Q S fuel (listed.setIfInBounds i true) (a.put oi.dst undef) w)
  (hs : Region.noSelect ops = true := by kernel_rfl) (hf : Region.free md ops listed i = true := by kernel_rfl) (hr : (Region.ready md ops listed).contains i = true := by kernel_rfl) (hQ : ∀ c a w, Q (.panic c) (a.put oi.dst undef) w → Q (.panic c) a w := by exact fun _ _ _ h => h) (hw : Region.wanted oi (yielded ops a.tmps) = false := by rfl) (hS : S w := by assumption) : wpAnyH P md ops Q S (fuel + 1) listed a w :=
 wpAnyH_take hi hs hf hr hQ (Or.inr ⟨hw, rfl⟩) hS h
theorem tkg {P : Program} {ops : Array Oper} {Q : Exit → Act → World → Prop} {md : Region.Mode} {S : World → Prop} {oi : Oper} {fuel : Nat} {listed : Array Bool} {a : Act} {w : World} (i : Nat) (v : Value) (hi : ops[i]? = some oi) (hy : YieldsIf P ops S oi v a) (h : wpAnyH P md ops Q S fuel (listed.setIfInBounds i true) (a.put oi.dst v) w)
  (hs : Region.noSelect ops = true := by kernel_rfl) (hf : Region.free md ops listed i = true := by kernel_rfl) (hr : (Region.ready md ops listed).contains i = true := by kernel_rfl) (hQ : ∀ c a w, Q (.panic c) (a.put oi.dst v) w → Q (.panic c) a w := by exact fun _ _ _ h => h) (hS : S w := by assumption) : wpAnyH P md ops Q S (fuel + 1) listed a w :=
 wpAnyH_take hi hs hf hr hQ hy hS h
/-- The first operation from the k-th on that is not listed yet, what is listed with it, its place. -/
def pk : Nat → List Bool → List Oper → Option (Oper × List Bool × Nat)
 | k + 1, b :: bs, _ :: os => match pk k bs os with | some (x, l, i) => some (x, b :: l, i + 1) | none => none
 | 0, true :: bs, _ :: os => match pk 0 bs os with | some (x, l, i) => some (x, true :: l, i + 1) | none => none
 | 0, false :: bs, o :: _ => some (o, true :: bs, 0)
 | _, _, _ => none
theorem pk_spec : ∀ (os : List Oper) (k : Nat) (bs : List Bool) (x : Oper) (l : List Bool) (i : Nat), pk k bs os = some (x, l, i) → os[i]? = some x ∧ l = bs.set i true
 | [], k, bs, x, l, i, h => by cases k <;> cases bs <;> simp [pk] at h
 | o :: os, k, [], x, l, i, h => by cases k <;> simp [pk] at h
 | o :: os, k + 1, b :: bs, x, l, i, h => by
  rw [pk] at h
  cases e : pk k bs os with
  | none => rw [e] at h; cases h
  | some y =>
   obtain ⟨y, m, j⟩ := y
   rw [e] at h
   cases h
   obtain ⟨h1, h2⟩ := pk_spec os k bs _ _ _ e
   exact ⟨by simpa using h1, by rw [h2]; rfl⟩
 | o :: os, 0, true :: bs, x, l, i, h => by
  rw [pk] at h
  cases e : pk 0 bs os with
  | none => rw [e] at h; cases h
  | some y =>
   obtain ⟨y, m, j⟩ := y
   rw [e] at h
   cases h
   obtain ⟨h1, h2⟩ := pk_spec os 0 bs _ _ _ e
   exact ⟨by simpa using h1, by rw [h2]; rfl⟩
 | o :: os, 0, false :: bs, x, l, i, h => by
  rw [pk] at h
  cases h
  exact ⟨rfl, rfl⟩
theorem pk_at {ops : Array Oper} {listed : Array Bool} {k i : Nat} {x : Oper} {l : List Bool} (h : pk k listed.toList ops.toList = some (x, l, i)) : ops[i]? = some x ∧ listed.setIfInBounds i true = l.toArray := by
 obtain ⟨h1, h2⟩ := pk_spec _ _ _ _ _ _ h
 refine ⟨by rw [← Array.getElem?_toList]; exact h1, ?_⟩
 apply Array.ext'
 rw [Array.toList_setIfInBounds, h2]
theorem tkn {P : Program} {ops : Array Oper} {Q : Exit → Act → World → Prop} {md : Region.Mode} {S : World → Prop} {oi : Oper} {v : Value} {fuel i : Nat} {listed : Array Bool} {bs : List Bool} {a : Act} {w : World} (k : Nat) (hi : pk k listed.toList ops.toList = some (oi, bs, i)) (hy : ∀ w : World, S w → Sem.run P (execOp a.eval oi) w = Result.ok (Next.value v) w) (h : wpAnyH P md ops Q S fuel bs.toArray (a.put oi.dst v) w)
  (hs : Region.noSelect ops = true := by kernel_rfl) (hf : Region.free md ops listed i = true := by kernel_rfl) (hr : (Region.ready md ops listed).contains i = true := by kernel_rfl) (hQ : ∀ c a w, Q (.panic c) (a.put oi.dst v) w → Q (.panic c) a w := by exact fun _ _ _ h => h) (hw : Region.wanted oi (yielded ops a.tmps) = true := by rfl) (hS : S w := by assumption) : wpAnyH P md ops Q S (fuel + 1) listed a w :=
 wpAnyH_take (pk_at hi).1 hs hf hr hQ (Or.inl ⟨hw, hy⟩) hS (by rw [(pk_at hi).2]; exact h)
theorem tkm {P : Program} {ops : Array Oper} {Q : Exit → Act → World → Prop} {md : Region.Mode} {S : World → Prop} {oi : Oper} {fuel i : Nat} {listed : Array Bool} {bs : List Bool} {a : Act} {w : World} (k : Nat) (hi : pk k listed.toList ops.toList = some (oi, bs, i)) (h : wpAnyH P md ops Q S fuel bs.toArray (a.put oi.dst undef) w)
  (hs : Region.noSelect ops = true := by kernel_rfl) (hf : Region.free md ops listed i = true := by kernel_rfl) (hr : (Region.ready md ops listed).contains i = true := by kernel_rfl) (hQ : ∀ c a w, Q (.panic c) (a.put oi.dst undef) w → Q (.panic c) a w := by exact fun _ _ _ h => h) (hw : Region.wanted oi (yielded ops a.tmps) = false := by rfl) (hS : S w := by assumption) : wpAnyH P md ops Q S (fuel + 1) listed a w :=
 wpAnyH_take (pk_at hi).1 hs hf hr hQ (Or.inr ⟨hw, rfl⟩) hS (by rw [(pk_at hi).2]; exact h)
/-- What tidies up a frame. -/
theorem tdy : (∀ {α : Type} {xs : List α} {i : Nat} (h : i < xs.toArray.size), xs.toArray[i] = xs[i]'(by simpa using h)) ∧ (∀ {α : Type} (l : List α) (i : Nat) (a : α), l.toArray.setIfInBounds i a = (l.set i a).toArray) ∧ (∀ {α : Type} {a : α} {t : List α} (h : 0 < (a :: t).length), (a :: t)[0] = a) ∧ (∀ {α : Type} {a : α} {t : List α} {i : Nat} (h : i + 1 < (a :: t).length), (a :: t)[i + 1] = t[i]'(by simpa using h)) ∧ (∀ {α : Type} {a b : α} {t : List α}, (a :: t).set 0 b = b :: t) ∧ (∀ {α : Type} {a b : α} {t : List α} {n : Nat}, (a :: t).set (n + 1) b = a :: t.set n b) :=
 ⟨fun _ => rfl, fun _ _ _ => by simp, fun _ => rfl, fun _ => rfl, rfl, rfl⟩
set_option linter.unusedSimpArgs false
/-- All blocks that were there are as they were, but those of S; the streams are as they were. -/
structure Kept (S : Nat → Prop) (w w' : World) : Prop where
 os : w'.os = w.os
 tape : w'.tape = w.tape
 output : w'.output = w.output
 size : w.heap.size ≤ w'.heap.size
 block : ∀ k, k < w.heap.size → ¬ S k → w'.heap[k]? = w.heap[k]?
theorem Kept.refl (S : Nat → Prop) (w : World) : Kept S w w := ⟨rfl, rfl, rfl, Nat.le_refl _, fun _ _ _ => rfl⟩
theorem Kept.mono {S T : Nat → Prop} {w w' : World} (h : Kept S w w') (hs : ∀ k, k < w.heap.size → S k → T k) : Kept T w w' := ⟨h.os, h.tape, h.output, h.size, fun k hk hn => h.block k hk (fun e => hn (hs k hk e))⟩
theorem Kept.trans {S : Nat → Prop} {a b c : World} (h : Kept S a b) (k : Kept S b c) : Kept S a c :=
 ⟨k.os.trans h.os, k.tape.trans h.tape, k.output.trans h.output, Nat.le_trans h.size k.size, fun i hi hn => (k.block i (Nat.lt_of_lt_of_le hi h.size) hn).trans (h.block i hi hn)⟩
/-- Two steps, the second of which may also turn what is new since the first began. -/
theorem Kept.step {S T : Nat → Prop} {a b c : World} (h : Kept S a b) (k : Kept T b c) (hs : ∀ i, i < a.heap.size → T i → S i) : Kept S a c :=
 ⟨k.os.trans h.os, k.tape.trans h.tape, k.output.trans h.output, Nat.le_trans h.size k.size, fun i hi hn => (k.block i (Nat.lt_of_lt_of_le hi h.size) (fun e => hn (hs i hi e))).trans (h.block i hi hn)⟩
theorem Kept.alloc {S : Nat → Prop} {a w : World} (h : Kept S a w) (o : Obj) : Kept S a (w.alloc o) :=
 h.trans ⟨rfl, rfl, rfl, by simp, fun k hk _ => Below.heap_alloc _ _ _ (by omega)⟩
theorem Kept.drew {S : Nat → Prop} {a w : World} (h : Kept S a w) : Kept S a w.drew := ⟨h.os, h.tape, h.output, h.size, h.block⟩
theorem Kept.setCell {S : Nat → Prop} {a w : World} (h : Kept S a w) {p : Addr} (hp : a.heap.size ≤ p.block ∨ S p.block) (u : Value) : Kept S a (w.setCell p u) :=
 h.step (T := fun k => k = p.block) ⟨rfl, rfl, rfl, by simp [World.setCell], fun k _ hn => Below.heap_setCell _ _ _ _ hn⟩ (fun i hi e => by subst e; rcases hp with hp | hp; omega; exact hp)
theorem Kept.grown {S : Nat → Prop} {a w w' : World} {row : Option Nat} (h : Kept S a w) (hg : w.grownBy w' row) (hr : ∀ k, row = some k → a.heap.size ≤ k ∨ S k) : Kept S a w' :=
 h.step (T := fun k => row = some k) ⟨hg.os, hg.tape, hg.output, hg.size, fun k hk hn => hg.block k hk (fun e => hn e.symm)⟩ (fun i hi e => by rcases hr i e with h | h; omega; exact h)
theorem Kept.below {S : Nat → Prop} {B : Nat} {w w' : World} (h : Kept S w w') (hB : B ≤ w.heap.size) (hs : ∀ k, S k → B ≤ k) : Below B w w' :=
 ⟨h.os, h.tape, h.output, h.size, fun k hk => h.block k (by omega) (fun e => by have := hs k e; omega)⟩
theorem kept_of_below {B : Nat} {w w' : World} (h : Below B w w') : Kept (fun k => B ≤ k) w w' := ⟨h.os, h.tape, h.output, h.size, fun k _ hn => h.block k (by omega)⟩
theorem Kept.cell {S : Nat → Prop} {w w' : World} (h : Kept S w w') {p : Addr} {v : Value} (hc : w.cell? p = some v) (hp : ¬ S p.block) : w'.cell? p = some v :=
 (World.cell?_of_block (w := w) (h.block p.block (World.block_lt_of_cell? w p hc) hp)).trans hc
theorem Kept.ownsRow {S : Nat → Prop} {w w' : World} (h : Kept S w w') {base : Nat} {e : TypeId} {size : Nat} {v : Value} {n : Nat} {xs : List Value} (ho : w.ownsRow base e size v n xs) (hn : ∀ g, v.ownBlock = some g → ¬ S g) : w'.ownsRow base e size v n xs := by
 refine ⟨ho.1, ?_⟩
 rcases ho.2 with hh | ⟨g, cap, cur, rfl, hb, hgg, rest⟩
 ·exact .inl hh
 ·refine .inr ⟨g, cap, cur, rfl, hb, ?_, rest⟩
  rw [h.block g (Array.getElem?_eq_some_iff.1 hgg).1 (hn g rfl)]
  exact hgg
theorem cell_block (w : World) (a o : Nat) (c : Array Value) (t : TypeId) (f : Nat × Nat) (h : w.heap[a]? = some (.cells c t f)) : w.cell? ⟨a, o, none⟩ = c[o]? := by
 simp [World.cell?, h]
theorem frozen_block (w : World) (a o : Nat) (c : Array Value) (t : TypeId) (h : w.heap[a]? = some (.cells c t (0, 0))) : w.frozen? ⟨a, o, none⟩ = false := by
 simp [World.frozen?, h]
theorem set_block (w : World) (a o : Nat) (c : Array Value) (t : TypeId) (f : Nat × Nat) (h : w.heap[a]? = some (.cells c t f)) (u : Value) : (w.setCell ⟨a, o, none⟩ u).heap[a]? = some (.cells (c.setIfInBounds o u) t f) := by
 simp [World.setCell, Array.getElem?_modify, h]
theorem hid_of {p : Prop} (h : p) : Hid p := h
theorem body_retv {P : Program} {fn : Func} {R : Ending → World → Prop} {a : Act} {w : World} (hr : fn.results = #[]) (hd : a.defers = []) (hR : R (.returned (.tuple #[])) w) : bodyPost P fn R .ret a w :=
 bodyPost_ret (results_none hr _ _ _) hd hR
theorem kept_drewN {S : Nat → Prop} {a w : World} (h : Kept S a w) (n : Nat) : Kept S a (w.drewN n) := h.trans ⟨rfl, rfl, rfl, Nat.le_refl _, fun _ _ _ => rfl⟩
theorem alloc_old {w : World} {k : Nat} {o x : Obj} (h : w.heap[k]? = some x) : (w.alloc o).heap[k]? = some x := by
 show (w.heap.push o)[k]? = some x
 rw [Array.getElem?_push, if_neg (Nat.ne_of_lt (Array.getElem?_eq_some_iff.1 h).1)]
 exact h
theorem alloc_new (w : World) (o : Obj) {k : Nat} (hk : k = w.heap.size) : (w.alloc o).heap[k]? = some o := by
 subst hk
 show (w.heap.push o)[w.heap.size]? = some o
 simp
theorem cell_far (w : World) (g o o' : Nat) (u : Value) (h : o ≠ o') : (w.setCell ⟨g, o, none⟩ u).cell? ⟨g, o', none⟩ = w.cell? ⟨g, o', none⟩ := by
 apply World.cell?_setCell_other
 intro e
 exact h (congrArg Addr.off e)
/-- A block of 64 words: what the first n of them are. -/
def Words (w : World) (g n : Nat) (f : Nat → Int) : Prop :=
 ∃ cur : Array Value, w.heap[g]? = some (.cells cur 143 (0, 0)) ∧ cur.size = 64 ∧ ∀ j, j < n → cur[j]? = some (.int .u32 (f j))
theorem Words.cell {w : World} {g n k : Nat} {f : Nat → Int} (h : Words w g n f) (hk : k < n) : w.cell? ⟨g, k, none⟩ = some (.int .u32 (f k)) := by
 obtain ⟨cur, h0, h1, h2⟩ := h
 rw [cell_block _ _ _ _ _ _ h0]
 exact h2 k hk
theorem Words.there {w : World} {g n k : Nat} {f : Nat → Int} (h : Words w g n f) (hk : k < 64) : (∃ u, w.cell? ⟨g, k, none⟩ = some u) ∧ w.frozen? ⟨g, k, none⟩ = false := by
 obtain ⟨cur, h0, h1, h2⟩ := h
 refine ⟨⟨cur[k]'(by omega), ?_⟩, frozen_block _ _ _ _ _ h0⟩
 rw [cell_block _ _ _ _ _ _ h0]
 exact Array.getElem?_eq_getElem (by omega)
theorem Words.set {w : World} {g n k n' : Nat} {f f' : Nat → Int} (h : Words w g n f) (hk : k < 64) (x : Int) (hx : f' k = x) (hf : ∀ j, j < n' → j ≠ k → j < n ∧ f' j = f j) :
  Words (w.setCell ⟨g, k, none⟩ (.int .u32 x)) g n' f' := by
 obtain ⟨cur, h0, h1, h2⟩ := h
 refine ⟨_, set_block _ _ _ _ _ _ h0 _, by simp [h1], fun j hj => ?_⟩
 rw [Array.getElem?_setIfInBounds]
 by_cases e : k = j
 ·subst e
  rw [if_pos rfl, if_pos (by omega), hx]
 ·obtain ⟨a, b⟩ := hf j hj (fun h => e h.symm)
  rw [if_neg e, h2 j a, b]
theorem Words.kept {S : Nat → Prop} {w w' : World} {g n : Nat} {f : Nat → Int} (h : Words w g n f) (hk : Kept S w w') (hs : ¬ S g) : Words w' g n f := by
 obtain ⟨cur, h0, h1, h2⟩ := h
 exact ⟨cur, (hk.block g (Array.getElem?_eq_some_iff.1 h0).1 hs).trans h0, h1, h2⟩
/-- One cell out of an array by value. -/
theorem run_index_agg {P : Program} (w : World) (t e : TypeId) (n : Nat) (cs : Array Value) (k : IntKind) (i : Nat) (v : Value) (d : TypeDesc) (h : P.underlying t = some (.array n e)) (hd : P.underlying e = some d) (hr : d.isRow = false)
  (hi : (P.info? e).map (·.size) = some 1) (hn : i < n) (hv : cs[i]? = some v) : (Instr.index t (.agg cs) (.int k (i : Int))).run P w = .ok v w := by
 have hagg : (isAgg e).run P w = .ok false w := by
  unfold isAgg
  rw [Sem.run_bind, run_underlying hd w]
  cases d <;> simp_all
 cases hq : P.info? e with
 | none => simp [hq] at hi
 | some q =>
  have hs : q.size = 1 := by simpa [hq] using hi
  have h1 : (0 : Int) ≤ (i : Int) ∧ (i : Int) < (n : Int) := by omega
  simp [Instr.index, asIntOf, run_underlying h, part, hagg, sizeOf, typeInfo, hq, hs, hv, hn]
theorem kept_set (w : World) (p : Addr) (u : Value) : Kept (fun k => k = p.block) w (w.setCell p u) :=
 ⟨rfl, rfl, rfl, by simp [World.setCell], fun k _ hn => Below.heap_setCell _ _ _ _ hn⟩
theorem Words.other {w : World} {g n : Nat} {f : Nat → Int} (h : Words w g n f) (p : Addr) (u : Value) (hp : g ≠ p.block) : Words (w.setCell p u) g n f := h.kept (kept_set w p u) hp
theorem Kept.setRow {S : Nat → Prop} {a w : World} (h : Kept S a w) {g : Nat} (hg : a.heap.size ≤ g ∨ S g) (cs : Array Value) : Kept S a (w.setRow g cs) :=
 h.step (T := fun k => k = g) ⟨rfl, rfl, rfl, by simp, fun k _ hn => setRow_other _ _ _ _ hn⟩ (fun i hi e => by subst e; rcases hg with hp | hp; omega; exact hp)
theorem oneCells (k : IntKind) (l : List Int) : (l.map (Value.int k)).toArray.all (·.oneCell') = true := by
 rw [Array.all_eq_true_iff_forall_mem]
 intro v hv
 simp at hv
 obtain ⟨a, _, rfl⟩ := hv
 rfl
/-- The whole block, by its list. -/
theorem words_list {cur : Array Value} {l : List Int} {n : Nat} (hs : cur.size = n) (hl : l.length = n) (h : ∀ j, j < n → cur[j]? = some (.int .u32 (l.getD j 0))) : cur = (l.map (Value.int .u32)).toArray := by
 apply Array.ext_getElem?
 intro j
 by_cases hj : j < n
 ·rw [h j hj]
  simp [List.getD, List.getElem?_eq_getElem (show j < l.length by omega)]
 ·rw [Array.getElem?_eq_none (by omega), Array.getElem?_eq_none (by simp; omega)]
theorem rot_s : ∀ n : Nat, n < 32 → 0 < n → bits .and .u64 (IntKind.u64.wrap (-(n : Int))) 31 = 32 - (n : Int) := by decide
set_option maxRecDepth 100000 in
set_option maxHeartbeats 1000000 in
theorem ror_any (x : Int) (n : Nat) (h0 : 0 < n) (h1 : n < 32) (w : World) :
  Calls Tryz.prog 100 #[.int .u32 x, .int .i64 (n : Int)] w fun e w' => e = .returned (.int .u32 (ror x n)) ∧ w' = w := by
 have hs := rot_s n h1 h0
 go_enter Tryz.func100, Tryz.ntmps100
 go_wp2
 go_ret
 refine ⟨?_, rfl⟩
 show Ending.returned (Value.int .u32 (bits .or .u32 (x * 2 ^ (32 - n) % 4294967296) (x / 2 ^ (32 - (32 - n))))) = _
 rw [show 32 - (32 - n) = n by omega]
 rfl
theorem ror_int (x i : Int) (h0 : 0 < i) (h1 : i < 32) (w : World) :
  Calls Tryz.prog 100 #[.int .u32 x, .int .i64 i] w fun e w' => e = .returned (.int .u32 (ror x i.toNat)) ∧ w' = w := by
 obtain ⟨n, rfl⟩ := Int.eq_ofNat_of_zero_le (show 0 ≤ i by omega)
 exact ror_any x n (by omega) (by omega) w
end Go.Proofs.YtjdbmjkidljhpaaGreatDoor
namespace Go.Proofs.YtjdbmjkidljhpaaGreatDoor
open Go.RowKit
set_option linter.unusedVariables false
set_option maxRecDepth 100000
set_option linter.unusedSimpArgs false
theorem part_at (w : World) (cs : Array Value) (i : Nat) (v : Value) (h : cs[i]? = some v) : (part 5 cs (i * 1)).run Tryz.prog w = .ok v w := by
 simp [part, Tryz.isAgg5, h]
theorem run_forIn_all {P : Program} {w : World} (f : Nat → Option Bool × Unit → Sem (ForInStep (Option Bool × Unit))) (q : Nat → Bool) :
  ∀ l : List Nat, (∀ i ∈ l, ∀ s, (f i s).run P w = .ok (if q i then .yield (none, ()) else .done (some false, ())) w) → (forIn l (none, ()) f).run P w = .ok (if l.all q then (none, ()) else (some false, ())) w
 | [], _ => by simp [Sem.run_pure]
 | i :: l, hf => by
  simp only [List.forIn_cons, Sem.run_bind, hf i (List.mem_cons_self ..), Result.andThen_ok, List.all_cons]
  by_cases hq : q i = true
  ·simp [hq, run_forIn_all f q l (fun j hj => hf j (List.mem_cons_of_mem _ hj))]
  ·simp [hq, Sem.run_pure]
theorem all_eq (n : Nat) (xs ys : List Int) (hx : xs.length = n) (hy : ys.length = n) : ((List.range' 0 n 1).all fun i => xs.getD i 0 == ys.getD i 0) = decide (xs = ys) := by
 rw [Bool.eq_iff_iff, List.all_eq_true, decide_eq_true_iff]
 constructor
 ·intro h
  apply List.ext_getElem (by omega)
  intro i h1 h2
  have := h i (by simp [List.mem_range'_1]; omega)
  simpa [List.getD, List.getElem?_eq_getElem h1, List.getElem?_eq_getElem h2] using this
 ·rintro rfl i _
  simp
theorem run_eq_arr (w : World) (d : Nat) (t : TypeId) (n : Nat) (xs ys : List Int) (ht : Tryz.prog.underlying t = some (.array n 5)) (hx : xs.length = n) (hy : ys.length = n) :
  (Op.equalIn (d + 2) t (.agg (xs.map (Value.int .u8)).toArray) (.agg (ys.map (Value.int .u8)).toArray)).run Tryz.prog w = .ok (decide (xs = ys)) w := by
 have hb : ∀ i, i < n → (part 5 (xs.map (Value.int .u8)).toArray (i * 1)).run Tryz.prog w = .ok (.int .u8 (xs.getD i 0)) w := fun i hi => part_at w _ i _ (by simp [List.getD, List.getElem?_eq_getElem (show i < xs.length by omega)])
 have hc : ∀ i, i < n → (part 5 (ys.map (Value.int .u8)).toArray (i * 1)).run Tryz.prog w = .ok (.int .u8 (ys.getD i 0)) w := fun i hi => part_at w _ i _ (by simp [List.getD, List.getElem?_eq_getElem (show i < ys.length by omega)])
 unfold Op.equalIn
 simp only [Sem.run_bind, run_underlying ht, Result.andThen_ok, Tryz.sizeOf5, Std.Legacy.Range.forIn_eq_forIn_range']
 rw [run_forIn_all _ (fun i => xs.getD i 0 == ys.getD i 0) (List.range' 0 [:n].size) (fun i hi s => ?_)]
 ·rw [show [:n].size = n by simp [Std.Legacy.Range.size], all_eq n xs ys hx hy]
  by_cases h : xs = ys
  ·simp [h, Sem.run_pure]
  ·simp [h, Sem.run_pure]
 ·have hn : i < n := by
   simp [Std.Legacy.Range.size, List.mem_range'_1] at hi
   exact hi
  simp only [Sem.run_bind, hb i hn, hc i hn, Result.andThen_ok, run_equalIn_int w d 5 .u8 .u8 _ _ Tryz.underlying5]
  generalize xs.getD i 0 = x
  generalize ys.getD i 0 = y
  by_cases h : x = y
  ·simp [h, Sem.run_pure]
  ·simp [h, Sem.run_pure]
theorem run_eql32 (w : World) (t : TypeId) (xs ys : List Int) (ht : Tryz.prog.underlying t = some (.array 32 5)) (hx : xs.length = 32) (hy : ys.length = 32) :
  (binOp .eql t (.agg (xs.map (Value.int .u8)).toArray) (.agg (ys.map (Value.int .u8)).toArray)).run Tryz.prog w = .ok (.bool (decide (xs = ys))) w := by
 rw [run_eql_struct, run_eq_arr w 9998 t 32 xs ys ht hx hy]
 rfl
theorem run_neq32 (w : World) (t : TypeId) (xs ys : List Int) (ht : Tryz.prog.underlying t = some (.array 32 5)) (hx : xs.length = 32) (hy : ys.length = 32) :
  (binOp .neq t (.agg (xs.map (Value.int .u8)).toArray) (.agg (ys.map (Value.int .u8)).toArray)).run Tryz.prog w = .ok (.bool (!decide (xs = ys))) w := by
 rw [run_neq_struct, run_eq_arr w 9998 t 32 xs ys ht hx hy]
 rfl
end Go.Proofs.YtjdbmjkidljhpaaGreatDoor
namespace Go.Proofs.YtjdbmjkidljhpaaGreatDoor
open Go.RowKit
set_option linter.unusedVariables false
set_option linter.unusedSimpArgs false
/-- A digest as a value. -/
def dv (d : List Int) : Value := .agg (d.map (Value.int .u8)).toArray
/-- What lies under a digest. -/
structure En where
 k : List Int
 bv : Value
 xs : List Int
 st : Int
 born : Nat
def En.val (e : En) : Value := .agg #[e.bv, .int .i64 e.st]
def En.ent (e : En) : MapEntry := { key := dv e.k, val := e.val, born := e.born }
theorem run_forIn_unit {P : Program} {w : World} (f : Nat → Unit → Sem (ForInStep Unit)) : ∀ l : List Nat, (∀ i ∈ l, ∀ s, (f i s).run P w = .ok (.yield ()) w) → (forIn l () f).run P w = .ok () w
 | [], _ => by simp [Sem.run_pure]
 | i :: l, hf => by
  simp only [List.forIn_cons, Sem.run_bind, hf i (List.mem_cons_self ..), Result.andThen_ok]
  exact run_forIn_unit f l (fun j hj => hf j (List.mem_cons_of_mem _ hj))
theorem check_byte (w : World) (b : Bool) (n : Nat) (x : Int) : (Instr.checkKey b (n + 1) 5 (.int .u8 x)).run Tryz.prog w = .ok () w := by
 unfold Instr.checkKey
 simp [run_underlying Tryz.underlying5, Sem.run_pure]
set_option maxRecDepth 100000 in
theorem check_digest (w : World) (b : Bool) (n : Nat) (d : List Int) (hd : d.length = 32) : (Instr.checkKey b (n + 2) 29 (dv d)).run Tryz.prog w = .ok () w := by
 have hb : ∀ i, i < 32 → (part 5 (d.map (Value.int .u8)).toArray (i * 1)).run Tryz.prog w = .ok (.int .u8 (d.getD i 0)) w := fun i hi => part_at w _ i _ (by simp [List.getD, List.getElem?_eq_getElem (show i < d.length by omega)])
 unfold Instr.checkKey dv
 simp only [Sem.run_bind, run_underlying Tryz.underlying29, Result.andThen_ok, Std.Legacy.Range.forIn_eq_forIn_range']
 have hf := run_forIn_unit (P := Tryz.prog) (w := w) (fun i __s => do
   let sz ← sizeOf 5
   let v ← part 5 (List.map (Value.int IntKind.u8) d).toArray (i * sz)
   Instr.checkKey b (n + 1) 5 v
   pure (ForInStep.yield PUnit.unit)) (List.range' 0 [:32].size) (fun i hi s => by
  have hn : i < 32 := by
   simp [Std.Legacy.Range.size, List.mem_range'_1] at hi
   exact hi
  simp only [Sem.run_bind, Tryz.sizeOf5, hb i hn, Result.andThen_ok, check_byte]
  rfl)
 rw [hf]
 rfl
/-- What is found under a digest, and where. -/
def lookI : List En → List Int → Nat → Option (Nat × Value)
 | [], _, _ => none
 | e :: es, d, i => if d = e.k then some (i, e.val) else lookI es d (i + 1)
def look : List En → List Int → Option En
 | [], _ => none
 | e :: es, d => if d = e.k then some e else look es d
theorem run_ask (w : World) (d : List Int) (hd : d.length = 32) : ∀ (es : List En) (i : Nat), (∀ e ∈ es, e.k.length = 32) → (Instr.findAsking 29 (dv d) (es.map En.ent) i).run Tryz.prog w = .ok (lookI es d i) w
 | [], i, _ => by simp [Instr.findAsking, lookI, Sem.run_pure]
 | e :: es, i, h => by
  have h1 : (Op.equal 29 (dv d) (dv e.k)).run Tryz.prog w = .ok (decide (d = e.k)) w := run_eq_arr w 9998 29 32 d e.k Tryz.underlying29 hd (h e (List.mem_cons_self ..))
  rw [List.map_cons]
  unfold Instr.findAsking
  rw [Sem.run_bind, show (En.ent e).key = dv e.k from rfl, h1, Result.andThen_ok]
  by_cases hk : d = e.k
  ·simp only [hk, decide_true, if_true, lookI]
   rfl
  ·simp only [hk, decide_false, lookI, if_false, Bool.false_eq_true]
   exact run_ask w d hd es (i + 1) (fun x hx => h x (List.mem_cons_of_mem _ hx))
theorem got {w : World} {r : Nat} {es : Array MapEntry} {c : Nat} (hb : w.heap[r]? = some (.map es c)) : (getObj r).run Tryz.prog w = .ok (.map es c) w := by simp [getObj, Sem.run, hb]
theorem set_got {w : World} {r : Nat} {es : Array MapEntry} {c : Nat} (o' : Obj) (hb : w.heap[r]? = some (.map es c)) : (setObj r o').run Tryz.prog w = .ok () { w with heap := w.heap.setIfInBounds r o' } := by simp [setObj, Sem.run, hb]
theorem run_find (w : World) (d : List Int) (hd : d.length = 32) (es : List En) (h : ∀ e ∈ es, e.k.length = 32) : (Instr.findKey 29 (dv d) (es.map En.ent)).run Tryz.prog w = .ok (lookI es d 0) w := by
 unfold Instr.findKey
 rw [Sem.run_bind, run_underlying Tryz.underlying29, Result.andThen_ok]
 cases es with
 | nil => rfl
 | cons e es =>
  have hn : Instr.findNow (.array 32 5) (dv d) ((e :: es).map En.ent) 0 = none := rfl
  rw [hn]
  exact run_ask w d hd (e :: es) 0 h
theorem look_some : ∀ (es : List En) (d : List Int) (i : Nat), (lookI es d i).map (·.2) = (look es d).map En.val
 | [], _, _ => rfl
 | e :: es, d, i => by
  unfold lookI look
  split
  ·rfl
  ·exact look_some es d (i + 1)
/-- The zero value of what lies. -/
def noLaid : Value := .agg #[.slice none 0 0, .int .i64 0]
theorem zero65 (w : World) : (zeroValue 87).run Tryz.prog w = .ok noLaid w := by kernel_rfl
def lookV (es : List En) (d : List Int) : Value := match look es d with | some e => e.val | none => noLaid
theorem run_look_none (w : World) (d : List Int) (hd : d.length = 32) (c : Bool) : (Instr.lookup 63 (.map none) (dv d) c).run Tryz.prog w = .ok (if c then .tuple #[noLaid, .bool false] else noLaid) w := by
 unfold Instr.lookup
 simp only [Sem.run_bind, run_underlying Tryz.underlying63, Result.andThen_ok, Sem.run_pure, check_digest w _ 9998 d hd]
 have hf := run_find w d hd [] (fun _ h => by cases h)
 rw [List.map_nil] at hf
 simp only [hf, lookI, Result.andThen_ok, Sem.run_bind, zero65, Sem.run_pure]
theorem run_look (w : World) (r clock : Nat) (es : List En) (hb : w.heap[r]? = some (.map (es.map En.ent).toArray clock)) (h : ∀ e ∈ es, e.k.length = 32) (d : List Int) (hd : d.length = 32) (c : Bool) :
  (Instr.lookup 63 (.map (some r)) (dv d) c).run Tryz.prog w = .ok (if c then .tuple #[lookV es d, .bool (look es d).isSome] else lookV es d) w := by
 unfold Instr.lookup
 simp only [Sem.run_bind, run_underlying Tryz.underlying63, Result.andThen_ok, Sem.run_pure, got hb, check_digest w _ 9998 d hd]
 rw [run_find w d hd es h]
 have hl := look_some es d 0
 unfold lookV
 cases h1 : lookI es d 0 with
 | none =>
  rw [h1] at hl
  cases h2 : look es d with
  | none => simp only [Result.andThen_ok, Sem.run_bind, zero65, Sem.run_pure, Option.isSome_none]
  | some e => rw [h2] at hl; cases hl
 | some p =>
  rw [h1] at hl
  cases h2 : look es d with
  | none => rw [h2] at hl; cases hl
  | some e =>
   rw [h2] at hl
   obtain ⟨i, v⟩ := p
   have hv : v = e.val := by simpa using hl
   subst hv
   simp only [Result.andThen_ok, Sem.run_bind, Sem.run_pure, Option.isSome_some]
/-- One thing more lies there, in the place of what lay under its digest. -/
def lays : List En → En → List En
 | [], e => [e]
 | x :: es, e => if e.k = x.k then { e with born := x.born } :: es else x :: lays es e
theorem same_bits : ∀ (n : Nat) (l : List Int), ((l.map (Value.int .u8)).zip (l.map (Value.int .u8))).all (fun p => Instr.sameBits n p.1 p.2) = true
 | _, [] => rfl
 | n, x :: l => by
  simp only [List.map_cons, List.zip_cons_cons, List.all_cons, same_bits n l, Bool.and_true]
  unfold Instr.sameBits
  simp
theorem same_dv (d : List Int) : Instr.sameBits 10000 (dv d) (dv d) = true := by
 unfold dv
 unfold Instr.sameBits
 simp [same_bits]
theorem ents_modify : ∀ (es : List En) (e : En) (i : Nat) (p : Nat × Value), lookI es e.k i = some p → ∃ j, p.1 = i + j ∧ j < es.length ∧ (es.map En.ent).toArray.modify j (fun x => { x with key := dv e.k, val := e.val }) = ((lays es e).map En.ent).toArray ∧ ((es.map En.ent).toArray[j]?).map (·.key) = some (dv e.k)
 | [], e, i, p, h => by cases h
 | x :: es, e, i, p, h => by
  unfold lookI at h
  by_cases hk : e.k = x.k
  ·rw [if_pos hk] at h
   cases h
   refine ⟨0, rfl, by simp, ?_, by simp [En.ent, hk]⟩
   rw [lays, if_pos hk]
   apply Array.ext'
   simp [En.ent, En.val]
  ·rw [if_neg hk] at h
   obtain ⟨j, h1, h2, h3, h4⟩ := ents_modify es e (i + 1) p h
   refine ⟨j + 1, by omega, by simp; omega, ?_, by simpa using h4⟩
   rw [lays, if_neg hk]
   apply Array.ext'
   have := congrArg Array.toList h3
   simp at this ⊢
   exact this
theorem ents_push : ∀ (es : List En) (e : En) (i : Nat), lookI es e.k i = none → (es.map En.ent).toArray.push e.ent = ((lays es e).map En.ent).toArray
 | [], e, i, _ => by simp [lays]
 | x :: es, e, i, h => by
  unfold lookI at h
  by_cases hk : e.k = x.k
  ·rw [if_pos hk] at h; cases h
  ·rw [if_neg hk] at h
   have := congrArg Array.toList (ents_push es e (i + 1) h)
   rw [lays, if_neg hk]
   apply Array.ext'
   simp at this ⊢
   exact this
/-- A block's object, written over. -/
def World.over (w : World) (r : Nat) (o : Obj) : World := { w with heap := w.heap.setIfInBounds r o }
theorem over_same (w : World) (r : Nat) (o : Obj) (h : r < w.heap.size) : (World.over w r o).heap[r]? = some o := by
 simp [World.over, h]
theorem kept_over (w : World) (r : Nat) (o : Obj) : Kept (fun k => k = r) w (World.over w r o) :=
 ⟨rfl, rfl, rfl, by simp [World.over], fun k _ hn => by
  show (w.heap.setIfInBounds r o)[k]? = _
  rw [Array.getElem?_setIfInBounds, if_neg (fun h => hn h.symm)]⟩
/-- Entries' stamps: below the clock, no two the same; nor two keys. -/
def Stampd (clock : Nat) (es : List En) : Prop := (∀ b ∈ es.map En.born, b < clock) ∧ (es.map En.born).Nodup ∧ (es.map En.k).Nodup
/-- How the clock goes on where something is laid under a key. -/
def Ticks (clock clock' : Nat) (es : List En) (d : List Int) : Prop := clock ≤ clock' ∧ (lookI es d 0 = none → clock < clock')
theorem lays_borns : ∀ (es : List En) (e : En) (i : Nat), (lookI es e.k i = none ∧ (lays es e).map En.born = es.map En.born ++ [e.born] ∧ (lays es e).map En.k = es.map En.k ++ [e.k] ∧ e.k ∉ es.map En.k) ∨ (lookI es e.k i ≠ none ∧ (lays es e).map En.born = es.map En.born ∧ (lays es e).map En.k = es.map En.k)
 | [], e, i => .inl ⟨rfl, rfl, rfl, by simp⟩
 | x :: es, e, i => by
  unfold lookI lays
  by_cases hk : e.k = x.k
  ·rw [if_pos hk, if_pos hk]
   exact .inr ⟨by simp, rfl, by rw [List.map_cons, List.map_cons, ← hk]⟩
  ·rw [if_neg hk, if_neg hk]
   rcases lays_borns es e (i + 1) with ⟨h1, h2, h3, h4⟩ | ⟨h1, h2, h3⟩
   ·exact .inl ⟨h1, by rw [List.map_cons, h2]; rfl, by rw [List.map_cons, h3]; rfl, by rw [List.map_cons, List.mem_cons]; exact fun h => h.elim hk h4⟩
   ·exact .inr ⟨h1, by rw [List.map_cons, h2]; rfl, by rw [List.map_cons, h3]; rfl⟩
theorem nodup_snoc {α : Type} {l : List α} {x : α} (h : l.Nodup) (hx : x ∉ l) : (l ++ [x]).Nodup :=
 List.nodup_append.2 ⟨h, by simp, fun a ha b hb e => by rw [List.mem_singleton.1 hb] at e; exact hx (e ▸ ha)⟩
theorem lays_stampd {clock clock' : Nat} {es : List En} {e : En} (h : Stampd clock es) (ht : Ticks clock clock' es e.k) (hb : e.born = clock) : Stampd clock' (lays es e) := by
 unfold Stampd
 rcases lays_borns es e 0 with ⟨h1, h2, h3, h4⟩ | ⟨h1, h2, h3⟩
 ·have h5 := ht.2 h1
  rw [h2, h3, hb]
  refine ⟨fun b hm => ?_, nodup_snoc h.2.1 (fun hm => by have := h.1 _ hm; omega), nodup_snoc h.2.2 h4⟩
  rcases List.mem_append.1 hm with hm | hm
  ·exact Nat.lt_of_lt_of_le (h.1 b hm) ht.1
  ·rw [List.mem_singleton.1 hm]; exact h5
 ·rw [h2, h3]
  exact ⟨fun b hm => Nat.lt_of_lt_of_le (h.1 b hm) ht.1, h.2⟩
theorem run_lay (w : World) (r clock : Nat) (es : List En) (hb : w.heap[r]? = some (.map (es.map En.ent).toArray clock)) (h : ∀ e ∈ es, e.k.length = 32) (d : List Int) (hd : d.length = 32) (bv : Value) (xs : List Int) (st : Int) :
  ∃ clock', Ticks clock clock' es d ∧ (Instr.mapUpdate 63 (.map (some r)) (dv d) (.agg #[bv, .int .i64 st])).run Tryz.prog w = .ok () (World.over w r (.map ((lays es ⟨d, bv, xs, st, clock⟩).map En.ent).toArray clock')) := by
 unfold Instr.mapUpdate
 simp only [Sem.run_bind, run_underlying Tryz.underlying63, Result.andThen_ok, got hb, check_digest w _ 9998 d hd]
 rw [run_find w d hd es h]
 cases h1 : lookI es d 0 with
 | none =>
  refine ⟨clock + 1, ⟨Nat.le_succ _, fun _ => Nat.lt_succ_self _⟩, ?_⟩
  simp only [Result.andThen_ok]
  rw [set_got _ hb]
  have := ents_push es ⟨d, bv, xs, st, clock⟩ 0 h1
  rw [← this]
  rfl
 | some p =>
  obtain ⟨j, e1, e2, e3, e4⟩ := ents_modify es ⟨d, bv, xs, st, clock⟩ 0 p h1
  refine ⟨clock, ⟨Nat.le_refl _, fun h => by rw [h1] at h; cases h⟩, ?_⟩
  obtain ⟨i, v⟩ := p
  have hi : i = j := by simpa using e1
  subst hi
  simp only [Result.andThen_ok, Sem.run_bind]
  rw [e4]
  unfold Instr.keyThatStays
  simp only [Option.getD_some, same_dv, if_true, Sem.run_pure, Result.andThen_ok]
  rw [set_got _ hb]
  rw [← e3]
  rfl
end Go.Proofs.YtjdbmjkidljhpaaGreatDoor
namespace Go.Proofs.YtjdbmjkidljhpaaGreatDoor
open Go.RowKit
set_option linter.unusedVariables false
set_option linter.unusedSimpArgs false
/-- One thing less lies there. -/
def drops : List En → List Int → List En
 | [], _ => []
 | e :: es, d => if d = e.k then es else e :: drops es d
theorem drops_mem : ∀ (es : List En) (d : List Int) (e : En), e ∈ drops es d → e ∈ es
 | [], _, _, h => h
 | x :: es, d, e, h => by
  rw [drops] at h
  by_cases hk : d = x.k
  ·rw [if_pos hk] at h
   exact List.mem_cons_of_mem _ h
  ·rw [if_neg hk] at h
   rcases List.mem_cons.1 h with h | h
   ·rw [h]; exact List.mem_cons_self ..
   ·exact List.mem_cons_of_mem _ (drops_mem es d e h)
theorem look_drops : ∀ (es : List En) (d d' : List Int), d' ≠ d → look (drops es d) d' = look es d'
 | [], _, _, _ => rfl
 | x :: es, d, d', h => by
  rw [drops]
  by_cases hk : d = x.k
  ·rw [if_pos hk, look, if_neg (fun e => h (e.trans hk.symm))]
  ·rw [if_neg hk, look, look, look_drops es d d' h]
theorem drops_sub : ∀ (es : List En) (d : List Int), (drops es d).Sublist es
 | [], _ => List.Sublist.slnil
 | e :: es, d => by
  unfold drops
  by_cases h : d = e.k
  ·rw [if_pos h]; exact List.sublist_cons_self _ _
  ·rw [if_neg h]; exact (drops_sub es d).cons_cons _
/-- What lies there, weighed. -/
def total : List En → Int
 | [] => 0
 | e :: es => ((e.xs.length : Int) + 32) + total es
def costAt (es : List En) (d : List Int) : Int := match look es d with | some e => (e.xs.length : Int) + 32 | none => 0
theorem total_nonneg : ∀ es : List En, 0 ≤ total es
 | [] => Int.le_refl 0
 | e :: es => by
  have := total_nonneg es
  rw [total]
  omega
theorem total_lays : ∀ (es : List En) (e : En), total (lays es e) = total es + ((e.xs.length : Int) + 32) - costAt es e.k
 | [], e => by simp [lays, total, costAt, look]
 | x :: es, e => by
  rw [lays]
  by_cases h : e.k = x.k
  ·rw [if_pos h]
   simp only [total, costAt, look, if_pos h]
   omega
  ·have ih := total_lays es e
   rw [if_neg h]
   simp only [total, costAt, look, if_neg h] at ih ⊢
   omega
theorem total_drops : ∀ (es : List En) (d : List Int), total (drops es d) = total es - costAt es d
 | [], d => rfl
 | x :: es, d => by
  rw [drops]
  by_cases h : d = x.k
  ·rw [if_pos h]
   simp only [total, costAt, look, if_pos h]
   omega
  ·have ih := total_drops es d
   rw [if_neg h]
   simp only [total, costAt, look, if_neg h] at ih ⊢
   omega
theorem cost_le : ∀ (es : List En) (d : List Int), costAt es d ≤ total es
 | [], d => Int.le_refl 0
 | x :: es, d => by
  have ih := cost_le es d
  have h0 := total_nonneg es
  by_cases h : d = x.k
  ·simp only [total, costAt, look, if_pos h]
   omega
  ·simp only [total, costAt, look, if_neg h] at ih ⊢
   omega
theorem look_lays_ne : ∀ (es : List En) (e : En) (d' : List Int), d' ≠ e.k → look (lays es e) d' = look es d'
 | [], e, d', h => by
  show (if d' = e.k then some e else look [] d') = look [] d'
  rw [if_neg h]
 | x :: es, e, d', h => by
  rw [lays]
  by_cases hk : e.k = x.k
  ·rw [if_pos hk, look, look, if_neg h, if_neg (fun q => h (q.trans hk.symm))]
  ·rw [if_neg hk, look, look, look_lays_ne es e d' h]
end Go.Proofs.YtjdbmjkidljhpaaGreatDoor
