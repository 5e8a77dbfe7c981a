package sum_test

import (
	"testing"

	"retort/sum"
)

func wantHash(t *testing.T, what string, h *sum.Hash, text string, n int) {
	t.Helper()
	if got := sum.Text(h.Sum()); got != text || h.Len() != n {
		t.Errorf("%s: %s of %d bytes, want %s of %d", what, got, h.Len(), text, n)
	}
}

func TestHashExample(t *testing.T) {
	h := sum.New()
	wantHash(t, "P203: New", h, ofNone, 0)
	h.Write([]byte("ab"))
	h.Sum()
	h.Write([]byte("c"))
	wantHash(t, "P203: abc", h, ofABC, 3)
	wantHash(t, "P203: asked again", h, ofABC, 3)
	h.Reset()
	wantHash(t, "P203: Reset", h, ofNone, 0)
	h.Write([]byte(twoBlk))
	wantHash(t, "P203: written behind Reset", h, ofTwo, len(twoBlk))
}

func TestHashThatNobodyMade(t *testing.T) {
	var h sum.Hash
	wantHash(t, "P203: all its fields zero", &h, ofNone, 0)
	h.Write(nil)
	wantHash(t, "P203: nothing written", &h, ofNone, 0)
	h.Write([]byte("abc"))
	wantHash(t, "P203: abc", &h, ofABC, 3)
	var z sum.Hash
	z.Reset()
	wantHash(t, "P203: Reset", &z, ofNone, 0)
}

// Reset must forget whole blocks, and what stands behind them.
func TestResetFromEachLength(t *testing.T) {
	r := source(11)
	for n := range 64*2 + 3 {
		h := sum.New()
		h.Write(someBytes(r, n))
		h.Reset()
		wantHash(t, "P203: Reset", h, ofNone, 0)
		b := someBytes(r, n%70)
		h.Write(b)
		wantDigest(t, "P203: behind Reset", h.Sum(), b)
	}
}

func TestWhateverIsAskedBetween(t *testing.T) {
	r := source(12)
	for range 200 {
		b := someBytes(r, r.IntN(600))
		asked, plain, at := sum.New(), sum.New(), 0
		for _, p := range pieces(r, b) {
			asked.Write(p)
			plain.Write(p)
			at += len(p)
			wantDigest(t, "P203: Sum on the way", asked.Sum(), b[:at])
			if asked.Len() != at {
				t.Fatalf("P203: Len %d, want %d", asked.Len(), at)
			}
		}
		if d := sum.Of(b); asked.Sum() != d || plain.Sum() != d {
			t.Errorf("P208: of %d bytes: %x, %x, want %x", len(b), asked.Sum(), plain.Sum(), d)
		}
	}
}

func TestByteByByte(t *testing.T) {
	b := someBytes(source(13), 200)
	h := sum.New()
	for i := range b {
		h.Write(b[i : i+1])
		wantDigest(t, "P208: byte by byte", h.Sum(), b[:i+1])
	}
}

func TestWriteKeepsNothing(t *testing.T) {
	b := someBytes(source(14), 130)
	was := string(b)
	h := sum.New()
	h.Write(b[:100])
	if string(b) != was {
		t.Error("P2: Write changed what it was handed, or its spare room")
	}
	clear(b)
	wantDigest(t, "P2: changed behind Write", h.Sum(), []byte(was[:100]))
}

func TestHashesAreApart(t *testing.T) {
	one, two := sum.New(), sum.New()
	one.Write([]byte("abc"))
	wantHash(t, "P7: another Hash", two, ofNone, 0)
	three := *one
	three.Write([]byte("d"))
	wantHash(t, "P203: a copy was written to", one, ofABC, 3)
}
