package sum_test

import (
	"encoding/hex"
	"math"
	"math/big"
	"math/rand/v2"
	"slices"
	"strings"
	"testing"

	"retort/api"
	"retort/sum"
)

// rising is the digest of bytes 1 to 32.
func rising() api.Digest {
	var d api.Digest
	for i := range d {
		d[i] = byte(i + 1)
	}
	return d
}

// someDigest has few unlike bytes, so that fronts are alike and zeros stand behind.
func someDigest(r *rand.Rand) api.Digest {
	var d api.Digest
	for i := range r.IntN(len(d) + 1) {
		d[i] = []byte{0, 0, 1, 127, 128, 255}[r.IntN(6)]
	}
	return d
}

// badWidths are none of a digest.
func badWidths() []int { return []int{0, 33, -1, 34, 64, 256 + 1, math.MinInt, math.MaxInt} }

func TestCut(t *testing.T) {
	if c, e := sum.Cut(rising(), 2); e != api.OK || c != (api.Digest{1, 2}) {
		t.Errorf("P204: width 2: %v, %v", c, e)
	}
	for w := 1; w <= 32; w++ {
		var want api.Digest
		for i := range w {
			want[i] = byte(i + 1)
		}
		if c, e := sum.Cut(rising(), w); e != api.OK || c != want {
			t.Errorf("P204: width %d: %v, %v", w, c, e)
		}
	}
	for _, w := range badWidths() {
		if c, e := sum.Cut(rising(), w); e != api.ErrWidth || c != (api.Digest{}) {
			t.Errorf("P204: width %d: %v, %v", w, c, e)
		}
	}
}

func TestFits(t *testing.T) {
	c := api.Digest{1, 2}
	for w, want := range map[int]bool{1: false, 2: true, 3: true, 31: true, 32: true} {
		if sum.Fits(c, w) != want {
			t.Errorf("P205: width %d: %v", w, !want)
		}
	}
	for _, w := range badWidths() {
		if sum.Fits(c, w) || sum.Fits(api.Digest{}, w) {
			t.Errorf("P205: width %d fits", w)
		}
	}
	for at := range 32 {
		d := api.Digest{}
		d[at] = 128
		for w := 1; w <= 32; w++ {
			if sum.Fits(d, w) != (at < w) {
				t.Errorf("P205: a byte at %d, width %d: %v", at, w, at >= w)
			}
		}
		if !sum.Fits(api.Digest{}, at+1) {
			t.Errorf("P205: zeros do not fit width %d", at+1)
		}
	}
}

func TestCutFits(t *testing.T) {
	r := source(21)
	for range 2000 {
		d, w := someDigest(r), 1+r.IntN(32)
		c, e := sum.Cut(d, w)
		if e != api.OK || !sum.Fits(c, w) {
			t.Fatalf("P209: Cut of %x, width %d: %x, %v", d, w, c, e)
		}
		if again, e := sum.Cut(c, w); e != api.OK || again != c {
			t.Fatalf("P209: Cut again of %x, width %d: %x, %v", c, w, again, e)
		}
		if sum.Fits(d, w) != (c == d) {
			t.Fatalf("P205: %x, width %d: %v", d, w, c != d)
		}
	}
}

func TestText(t *testing.T) {
	want := "0102030405060708090a0b0c0d0e0f101112131415161718191a1b1c1d1e1f20"
	if s := sum.Text(rising()); s != want {
		t.Errorf("P206: Text: %s", s)
	}
	if s := sum.Text(api.Digest{}); s != strings.Repeat("0", 64) {
		t.Errorf("P206: Text of zeros: %s", s)
	}
	for c := range 256 {
		d := api.Digest{5: byte(c), 31: byte(255 - c)}
		if s := sum.Text(d); s != hex.EncodeToString(d[:]) {
			t.Errorf("P206: Text of %x: %s", d, s)
		}
	}
}

func TestParseRefuses(t *testing.T) {
	s := sum.Text(rising())
	bad := []string{"", "0", s[:62], s[:63], s + "0", s + "00", s + s, " " + s, s + "\n", "0x" + s[2:], "0x" + s,
		strings.Repeat("é", 32), strings.Repeat("é", 64), strings.Repeat("\x00", 64), strings.ToUpper(s)}
	for _, b := range bad {
		if d, e := sum.Parse(b); e != api.ErrText || d != (api.Digest{}) {
			t.Errorf("P206: Parse of %q: %v, %v", b, d, e)
		}
	}
}

// Each byte at each place: 16 of them are digits.
func TestEachLetterOfAText(t *testing.T) {
	s := sum.Text(rising())
	for at := range s {
		for c := range 256 {
			b := []byte(s)
			b[at] = byte(c)
			d, e := sum.Parse(string(b))
			if strings.IndexByte("0123456789abcdef", byte(c)) < 0 {
				if e != api.ErrText || d != (api.Digest{}) {
					t.Fatalf("P206: Parse of %q: %v, %v", b, d, e)
				}
			} else if e != api.OK || sum.Text(d) != string(b) {
				t.Fatalf("P209: Parse of %q: %v, %v", b, d, e)
			}
		}
	}
}

func TestParseOfText(t *testing.T) {
	r := source(22)
	for range 2000 {
		d := api.Digest(someBytes(r, 32))
		if r.IntN(2) == 0 {
			d = someDigest(r)
		}
		if got, e := sum.Parse(sum.Text(d)); e != api.OK || got != d {
			t.Fatalf("P209: Parse of Text of %x: %x, %v", d, got, e)
		}
	}
}

func TestLess(t *testing.T) {
	row := []api.Digest{
		{}, {31: 1}, {31: 255}, {30: 1}, {0: 1}, {0: 1, 2: 9}, {0: 1, 1: 1}, {0: 127, 1: 255}, {0: 128}, {0: 255},
	}
	for i, a := range row {
		for j, b := range row {
			if sum.Less(a, b) != (i < j) {
				t.Errorf("P207: Less(%x, %x): %v", a, b, i >= j)
			}
		}
	}
}

// A digest is a number of 256 bits: the order of these is the oracle.
func TestLessIsAnOrder(t *testing.T) {
	r := source(23)
	num := func(d api.Digest) *big.Int { return new(big.Int).SetBytes(d[:]) }
	for range 3000 {
		a, b, c := someDigest(r), someDigest(r), someDigest(r)
		if r.IntN(4) == 0 {
			b = a
			b[r.IntN(32)]++
		}
		if sum.Less(a, a) {
			t.Fatalf("P209: %x ahead of itself", a)
		}
		if a != b && sum.Less(a, b) == sum.Less(b, a) {
			t.Fatalf("P209: of %x, %x not just one comes ahead", a, b)
		}
		if sum.Less(a, b) && sum.Less(b, c) && !sum.Less(a, c) {
			t.Fatalf("P209: %x, %x, %x in a row", a, b, c)
		}
		if got := sum.Less(a, b); got != (num(a).Cmp(num(b)) < 0) || got != (sum.Text(a) < sum.Text(b)) {
			t.Fatalf("P207, P209: Less(%x, %x): %v", a, b, got)
		}
	}
}

func TestTextsInOrder(t *testing.T) {
	r := source(24)
	var ds []api.Digest
	var texts []string
	for range 500 {
		d := someDigest(r)
		ds, texts = append(ds, d), append(texts, sum.Text(d))
	}
	slices.SortFunc(ds, func(a, b api.Digest) int {
		if sum.Less(a, b) {
			return -1
		} else if sum.Less(b, a) {
			return 1
		}
		return 0
	})
	slices.Sort(texts)
	for i, d := range ds {
		if sum.Text(d) != texts[i] {
			t.Fatalf("P209: at %d the digest %x, the text %s", i, d, texts[i])
		}
	}
}

func FuzzParse(f *testing.F) {
	f.Add("")
	f.Add(ofABC)
	f.Add(strings.ToUpper(ofABC))
	f.Fuzz(func(t *testing.T, s string) {
		d, e := sum.Parse(s)
		good := len(s) == 64 && strings.Trim(s, "0123456789abcdef") == ""
		if good != (e == api.OK) || (e != api.OK && (e != api.ErrText || d != (api.Digest{}))) {
			t.Errorf("P206: Parse of %q: %x, %v", s, d, e)
		}
		if e == api.OK && sum.Text(d) != s {
			t.Errorf("P209: Text of Parse of %q: %s", s, sum.Text(d))
		}
	})
}
