/-
  SHA-256 as plain functions on numbers. Nothing of the dump.
-/
import Derived.Laws.BitsAllLaws
import Derived.ProofKit
namespace Go.Proofs.YtjdbmjkidljhpaaDoor
open Go.RowKit

def add (x y : Int) : Int := (x + y) % 4294967296
def ror (x : Int) (n : Nat) : Int := bits .or .u32 (x * 2 ^ (32 - n) % 4294967296) (x / 2 ^ n)
def xo (x y : Int) : Int := bits .xor .u32 x y
def an (x y : Int) : Int := bits .and .u32 x y
def nt (x : Int) : Int := bits .xor .u32 IntKind.u32.max x
def sg0 (x : Int) : Int := xo (xo (ror x 7) (ror x 18)) (x / 8)
def sg1 (x : Int) : Int := xo (xo (ror x 17) (ror x 19)) (x / 1024)
def kw : List Int := [
  1116352408, 1899447441, 3049323471, 3921009573, 961987163, 1508970993, 2453635748, 2870763221,
  3624381080, 310598401, 607225278, 1426881987, 1925078388, 2162078206, 2614888103, 3248222580,
  3835390401, 4022224774, 264347078, 604807628, 770255983, 1249150122, 1555081692, 1996064986,
  2554220882, 2821834349, 2952996808, 3210313671, 3336571891, 3584528711, 113926993, 338241895,
  666307205, 773529912, 1294757372, 1396182291, 1695183700, 1986661051, 2177026350, 2456956037,
  2730485921, 2820302411, 3259730800, 3345764771, 3516065817, 3600352804, 4094571909, 275423344,
  430227734, 506948616, 659060556, 883997877, 958139571, 1322822218, 1537002063, 1747873779,
  1955562222, 2024104815, 2227730452, 2361852424, 2428436474, 2756734187, 3204031479, 3329325298]
structure S8 where
  a : Int
  b : Int
  c : Int
  d : Int
  e : Int
  f : Int
  g : Int
  h : Int
def S8.list (s : S8) : List Int := [s.a, s.b, s.c, s.d, s.e, s.f, s.g, s.h]
def pw (s : S8) (k w : Int) : Int := add (add (add (add s.h (xo (xo (ror s.e 6) (ror s.e 11)) (ror s.e 25))) (xo (an s.e s.f) (an (nt s.e) s.g))) k) w
def qw (s : S8) : Int := add (xo (xo (ror s.a 2) (ror s.a 13)) (ror s.a 22)) (xo (xo (an s.a s.b) (an s.a s.c)) (an s.b s.c))
def rnd (s : S8) (k w : Int) : S8 := ⟨add (pw s k w) (qw s), s.a, s.b, s.c, add s.d (pw s k w), s.e, s.f, s.g⟩
def rnds (s : S8) (ws : List Int) : Nat → S8
  | 0 => s
  | t + 1 => rnd (rnds s ws t) (kw.getD t 0) (ws.getD t 0)
def up (x c : Int) : Int := bits .or .u32 (x * 256 % 4294967296) c
def word (bs : List Int) (i : Nat) : Int := up (up (up (up 0 (bs.getD (4 * i) 0)) (bs.getD (4 * i + 1) 0)) (bs.getD (4 * i + 2) 0)) (bs.getD (4 * i + 3) 0)
/-- The first k bytes of word j. -/
def partw (bs : List Int) (j : Nat) : Nat → Int
  | 0 => 0
  | k + 1 => up (partw bs j k) (bs.getD (4 * j + k) 0)
theorem word_part (bs : List Int) (i : Nat) : word bs i = partw bs i 4 := rfl
def first (bs : List Int) : List Int := (List.range 16).map (word bs)
def nextw (l : List Int) (i : Nat) : Int := add (add (add (l.getD i 0) (sg0 (l.getD (i + 1) 0))) (l.getD (i + 9) 0)) (sg1 (l.getD (i + 14) 0))
def grown (ws : List Int) : Nat → List Int
  | 0 => ws
  | i + 1 => grown ws i ++ [nextw (grown ws i) i]
def wide (bs : List Int) : List Int := grown (first bs) 48
def S8.add (s v : S8) : S8 := ⟨YtjdbmjkidljhpaaDoor.add s.a v.a, YtjdbmjkidljhpaaDoor.add s.b v.b, YtjdbmjkidljhpaaDoor.add s.c v.c, YtjdbmjkidljhpaaDoor.add s.d v.d, YtjdbmjkidljhpaaDoor.add s.e v.e, YtjdbmjkidljhpaaDoor.add s.f v.f, YtjdbmjkidljhpaaDoor.add s.g v.g, YtjdbmjkidljhpaaDoor.add s.h v.h⟩
def turn (s : S8) (bs : List Int) : S8 := s.add (rnds s (wide bs) 64)
def s0 : S8 := ⟨0x6a09e667, 0xbb67ae85, 0x3c6ef372, 0xa54ff53a, 0x510e527f, 0x9b05688c, 0x1f83d9ab, 0x5be0cd19⟩
/-- Byte i of a state. -/
def dbyte (s : S8) (i : Nat) : Int := s.list.getD (i / 4) 0 / 2 ^ (24 - i % 4 * 8) % 256
def dig (s : S8) : List Int := (List.range 32).map (dbyte s)

/-- The state behind the first i whole blocks. -/
def blk (xs : List Int) : Nat → S8
  | 0 => s0
  | i + 1 => turn (blk xs i) ((xs.drop (64 * i)).take 64)
def zeros (n : Nat) : Nat := (119 - n % 64) % 64
def lbyte (n i : Nat) : Int := 8 * (n : Int) / 2 ^ (56 - 8 * i) % 256
def lenb (n : Nat) : List Int := (List.range 8).map (lbyte n)
def pad (n : Nat) : List Int := 128 :: (List.replicate (zeros n) 0 ++ lenb n)
def sha (xs : List Int) : List Int := dig (blk (xs ++ pad xs.length) ((xs.length + (pad xs.length).length) / 64))

theorem pad_length (n : Nat) : (pad n).length = 9 + zeros n := by simp [pad, lenb]; omega
theorem full_length (n : Nat) : (n + (pad n).length) % 64 = 0 := by rw [pad_length]; unfold zeros; omega

theorem blk_append (xs ys : List Int) : ∀ i, 64 * i ≤ xs.length → blk (xs ++ ys) i = blk xs i
  | 0, _ => rfl
  | i + 1, h => by
    rw [blk, blk, blk_append xs ys i (by omega), List.drop_append_of_le_length (by omega), List.take_append_of_le_length (by simp; omega)]

theorem grown_length (ws : List Int) : ∀ k, (grown ws k).length = ws.length + k
  | 0 => rfl
  | k + 1 => by rw [grown, List.length_append, grown_length ws k]; rfl
theorem first_length (bs : List Int) : (first bs).length = 16 := by simp [first]
theorem wide_length (bs : List Int) : (wide bs).length = 64 := by rw [wide, grown_length, first_length]

/-- A Hash's fields. -/
structure Hsh where
  p : S8
  t : List Int
  n : Nat
/-- A Hash's fields say these bytes. -/
structure Hsh.Of (h : Hsh) (xs : List Int) : Prop where
  n : h.n = xs.length
  t : h.t.length = 64
  tail : h.t.take (xs.length % 64) = xs.drop (64 * (xs.length / 64))
  past : 64 ≤ xs.length → h.p = blk xs (xs.length / 64)

def Hsh.now (h : Hsh) : S8 := if h.n < 64 then s0 else h.p
theorem Hsh.Of.now {h : Hsh} {xs : List Int} (H : h.Of xs) : h.now = blk xs (xs.length / 64) := by
  unfold Hsh.now
  rw [H.n]
  split
  · rw [show xs.length / 64 = 0 by omega]; rfl
  · exact H.past (by omega)

/-- The tail with k bytes more from at on. -/
def laidIn (t ys : List Int) (at_ : Nat) : List Int := t.take at_ ++ (ys ++ t.drop (at_ + ys.length))
theorem laidIn_length {t ys : List Int} {a : Nat} (h : a + ys.length ≤ t.length) : (laidIn t ys a).length = t.length := by
  simp [laidIn]; omega

/-- One piece that fits behind the tail. -/
theorem Hsh.Of.part {h : Hsh} {xs : List Int} (H : h.Of xs) (ys : List Int) (hk : xs.length % 64 + ys.length < 64) :
    (Hsh.mk h.p (laidIn h.t ys (xs.length % 64)) (h.n + ys.length)).Of (xs ++ ys) := by
  have ht := H.t
  have e1 : (xs.length + ys.length) % 64 = xs.length % 64 + ys.length := by omega
  have e2 : (xs.length + ys.length) / 64 = xs.length / 64 := by omega
  refine ⟨by simp [H.n], ?_, ?_, fun h64 => ?_⟩
  · exact (laidIn_length (by omega)).trans ht
  · show (laidIn h.t ys (xs.length % 64)).take _ = _
    rw [List.length_append, e1, e2, laidIn, List.drop_append_of_le_length (by omega), ← H.tail]
    rw [← List.append_assoc, List.take_append_of_le_length (by simp; omega)]
    exact List.take_of_length_le (by simp; omega)
  · rw [List.length_append, e2, blk_append _ _ _ (by omega)]
    rw [List.length_append] at h64
    exact H.past (by omega)

/-- One that fills it up. -/
theorem Hsh.Of.full {h : Hsh} {xs : List Int} (H : h.Of xs) (ys : List Int) (hk : xs.length % 64 + ys.length = 64) :
    (Hsh.mk (turn h.now (laidIn h.t ys (xs.length % 64))) (laidIn h.t ys (xs.length % 64)) (h.n + ys.length)).Of (xs ++ ys) := by
  have ht := H.t
  have e1 : (xs.length + ys.length) % 64 = 0 := by omega
  have e2 : (xs.length + ys.length) / 64 = xs.length / 64 + 1 := by omega
  have e3 : laidIn h.t ys (xs.length % 64) = ((xs ++ ys).drop (64 * (xs.length / 64))).take 64 := by
    rw [laidIn, List.drop_append_of_le_length (by omega), ← H.tail, List.drop_eq_nil_of_le (by omega), List.append_nil]
    rw [List.take_of_length_le (l := _ ++ _) (by simp; omega)]
  refine ⟨by simp [H.n], ?_, ?_, fun h64 => ?_⟩
  · exact (laidIn_length (by omega)).trans ht
  · rw [List.length_append, e1, e2, List.drop_eq_nil_of_le (by simp; omega)]; rfl
  · rw [List.length_append, e2, blk, ← e3, blk_append _ _ _ (by omega), ← H.now]
end Go.Proofs.YtjdbmjkidljhpaaDoor
