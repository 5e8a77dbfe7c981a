package sum_test

import (
	"crypto/sha256"
	"math/rand/v2"
	"strings"
	"testing"

	"retort/api"
	"retort/sum"
)

const (
	ofNone = "e3b0c44298fc1c149afbf4c8996fb92427ae41e4649b934ca495991b7852b855"
	ofABC  = "ba7816bf8f01cfea414140de5dae2223b00361a396177a9cb410ff61f20015ad"
	twoBlk = "abcdbcdecdefdefgefghfghighijhijkijkljklmklmnlmnomnopnopq"
	ofTwo  = "248d6a61d20638b8e5c026930c3e6039a33ce45964ff2167f6ecedd419db06c1"
)

// source is seeded: each run of the tests has the same bytes.
func source(seed uint64) *rand.Rand { return rand.New(rand.NewPCG(seed, 2)) }

func someBytes(r *rand.Rand, n int) []byte {
	b := make([]byte, n)
	for i := range b {
		b[i] = byte(r.Uint32())
	}
	return b
}

// pieces cuts b into parts at random, some of them empty.
func pieces(r *rand.Rand, b []byte) [][]byte {
	var parts [][]byte
	for len(b) > 0 {
		k := r.IntN(min(len(b), 1+r.IntN(150)) + 1)
		parts = append(parts, b[:k])
		b = b[k:]
	}
	return parts
}

func wantDigest(t *testing.T, what string, got api.Digest, b []byte) {
	t.Helper()
	if want := api.Digest(sha256.Sum256(b)); got != want {
		t.Errorf("%s: %x, want %x", what, got, want)
	}
}

func TestExamplesOfDigests(t *testing.T) {
	for s, want := range map[string]string{
		"":                           ofNone,
		"abc":                        ofABC,
		twoBlk:                       ofTwo,
		strings.Repeat("a", 1000000): "cdc76e5c9914fb9281a1c7e284d73e67f1809a48a497200e046d39ccc7112cd0",
	} {
		if got := sum.Text(sum.Of([]byte(s))); got != want {
			t.Errorf("P201: of %d bytes: %s, want %s", len(s), got, want)
		}
	}
	if got := sum.Text(sum.Of([]byte("a"), nil, []byte("bc"))); got != ofABC {
		t.Errorf("P202: of a, none, bc: %s", got)
	}
}

// Each length up to some blocks: all ways in which the filling can fall.
func TestEachLength(t *testing.T) {
	r := source(1)
	for n := range 64*5 + 2 {
		b := someBytes(r, n)
		wantDigest(t, "P201: Of", sum.Of(b), b)
		wantDigest(t, "P201: of zeros", sum.Of(make([]byte, n)), make([]byte, n))
	}
}

func TestGreatLengths(t *testing.T) {
	r := source(2)
	for _, n := range []int{1<<13 - 1, 1 << 13, 1<<16 + 55, 1<<20 - 8, 1 << 20, 1<<21 + 1} {
		b := someBytes(r, n)
		wantDigest(t, "P201: Of", sum.Of(b), b)
	}
}

// 8 * n has more than 32 bits from 1 << 29 bytes on.
func TestLengthAboveAWord(t *testing.T) {
	if testing.Short() {
		t.Skip("half a GiB")
	}
	h, want := sum.New(), sha256.New()
	chunk := someBytes(source(3), 1<<20)
	for range 1<<9 + 1 {
		h.Write(chunk)
		want.Write(chunk)
	}
	if got := h.Sum(); got != api.Digest(want.Sum(nil)) {
		t.Errorf("P201: of %d bytes: %x", h.Len(), got)
	}
}

func TestOfParts(t *testing.T) {
	if sum.Of() != sum.Of(nil) || sum.Of() != sum.Of([]byte{}, nil) || sum.Text(sum.Of()) != ofNone {
		t.Error("P202: of no part, of empty parts")
	}
	r := source(4)
	for range 300 {
		b := someBytes(r, r.IntN(700))
		wantDigest(t, "P202: in parts", sum.Of(pieces(r, b)...), b)
		wantDigest(t, "P208: in other parts", sum.Of(pieces(r, b)...), b)
	}
	a, b := []byte("one"), []byte("two")
	if sum.Of(a, b) == sum.Of(b, a) {
		t.Error("P202: the parts' order")
	}
}

func TestOfLeavesItsParts(t *testing.T) {
	b := someBytes(source(5), 300)
	was := string(b)
	parts := [][]byte{b[:70], b[70:70:90], b[70:100:120], nil}
	sum.Of(parts...)
	if string(b) != was {
		t.Error("P2: Of changed its parts, or their spare room")
	}
	if len(parts) != 4 || string(parts[0]) != was[:70] || len(parts[1]) != 0 || string(parts[2]) != was[70:100] || parts[3] != nil {
		t.Error("P2: Of changed the list of its parts")
	}
}

func FuzzOf(f *testing.F) {
	f.Add([]byte(nil), 0)
	f.Add([]byte(twoBlk), 55)
	f.Fuzz(func(t *testing.T, b []byte, cut int) {
		k := min(max(cut, 0), len(b))
		wantDigest(t, "P201", sum.Of(b), b)
		wantDigest(t, "P208", sum.Of(b[:k], b[k:]), b)
	})
}
