package flow_test

import (
	"bytes"
	"fmt"
	"slices"
	"testing"

	"retort/api"
	"retort/cas"
	"retort/flow"
)

// roomy has those things with spare room behind them, in which something lies too.
func roomy[T any](l []T, spare T) []T {
	more := append(make([]T, 0, len(l)+4), l...)
	return append(more, spare, spare, spare)[:len(l)]
}

// image is all of a list, its spare room too, apart.
func image[T any](l []T) []T { return slices.Clone(l[:cap(l)]) }

// spoil writes all of a list, its spare room too.
func spoil[T any](l []T, x T) {
	l = l[:cap(l)]
	for i := range l {
		l[i] = x
	}
}

// What Reach and Pack tell is changed without a trace in the Store, or in what they told and tell besides.
func TestToldApart(t *testing.T) {
	x := example(t)
	was := lying(x.s)
	for _, root := range digests(x.d2, x.d1, putDir(t, x.s.Twin()), x.x) {
		one, _ := flow.Reach(x.s, root, greatest())
		two, _ := flow.Reach(x.s, root, greatest())
		want := slices.Clone(two)
		spoil(one, api.Digest{9})
		sameDigests(t, "P2: two answers of Reach", two, want)
		again, _ := flow.Reach(x.s, root, greatest())
		sameDigests(t, "P3: Reach again", again, want)

		pack, _ := flow.Pack(x.s, root, greatest())
		other, _ := flow.Pack(x.s, root, greatest())
		all := bytes.Clone(other)
		spoil(pack, 9)
		sameBytes(t, "P2: two answers of Pack", other, all)
		pack, _ = flow.Pack(x.s, root, greatest())
		sameBytes(t, "P3: Pack again", pack, all)
	}
	is(t, "P2: what lies in the Store", lying(x.s), was)
}

// The roots that are handed in to Sweep stay as they are, right or wrong.
func TestRootsStay(t *testing.T) {
	x := example(t)
	for _, l := range [][]api.Digest{digests(x.d1, x.d2, x.d1), digests(x.d1), digests(x.d1, api.Digest{9}), digests(x.x), nil} {
		roots := roomy(l, api.Digest{7})
		was := image(roots)
		flow.Sweep(x.s, roots, greatest())
		sameDigests(t, "P2: the roots", roots[:cap(roots)], was)
	}
}

// The bytes that are handed in to Unpack stay as they are, and may be written behind it.
func TestPackStays(t *testing.T) {
	x := example(t)
	all, _ := flow.Pack(x.s, x.d2, greatest())
	for i, b := range [][]byte{all, all[:len(all)-1], append(bytes.Clone(all), 0), packed(32, []byte{1, 2}), packed(32, []byte{1, 0}), nil} {
		s := store(t, 32, 10000)
		b = roomy(b, 7)
		was := image(b)
		d, e := flow.Unpack(s, b)
		sameBytes(t, fmt.Sprint("P2: the bytes ", i), b[:cap(b)], was)
		lay := lying(s)
		spoil(b, 9)
		is(t, fmt.Sprint("P2: kept ", i), lying(s), lay)
		is(t, fmt.Sprint("P2: whole ", i), s.Whole(d), e == api.OK)
	}
}

// No list and an empty one are the same.
func TestNoneAndEmpty(t *testing.T) {
	x := example(t)
	for _, roots := range [][]api.Digest{nil, {}} {
		sweeps(t, "no roots", x.s.Twin(), roots, greatest(), 3, api.OK, 0)
	}
	for _, b := range [][]byte{nil, {}} {
		refuses(t, "no bytes", b, api.ErrCut)
	}
	s := store(t, 32, 1000)
	root := putDir(t, s, fileAt("a", put(t, s)))
	packs(t, "a file of no bytes", s, root, greatest(), packed(32, nil, raw(s, root)), api.OK, 2)
}

// Two Stores have no memory in common behind a Copy or an Unpack: what is done to one is not seen in the other.
func TestStoresStayApart(t *testing.T) {
	x := example(t)
	to := store(t, 32, 10000)
	flow.Copy(x.s, to, x.d2, greatest())
	was := lying(to)
	for _, d := range digests(x.x, x.d1, x.d2) {
		plant(t, x.s, d, 9, 9)
		x.s.Evict(d)
	}
	is(t, "P2: the other Store", lying(to), was)
}

// P3: the same calls answer the same, however a map is gone through.
func TestSameAgain(t *testing.T) {
	for n := range uint64(30) {
		s, l := nest(t, seeded(n))
		root := l[len(l)-1]
		answer := func() string {
			to, few := store(t, 1, 10000), s.Twin()
			reached, e := flow.Reach(s, root, greatest())
			pack, _ := flow.Pack(s, root, greatest())
			laid, _ := flow.Copy(s, to, root, greatest())
			went, _ := flow.Sweep(few, digests(root), greatest())
			there, _ := flow.Unpack(to, pack)
			return fmt.Sprint(reached, int(e), pack, laid, lying(to), went, lying(few), there)
		}
		want := answer()
		for range 5 {
			is(t, "P3", answer(), want)
		}
	}
}

// P1: a Store that nobody made has the width 0, and nothing fits into it: the calls end all the same.
func TestBareStore(t *testing.T) {
	s := new(cas.Store)
	for _, b := range [][]byte{nil, {5, 0, 1, 2, 1, 0}, {5, 0, 2, 2, 1, 0, 2, 1, 0}, {5, 32, 1, 2, 1, 0}, {5, 0, 1, 0}} {
		_, e := flow.Unpack(s, b)
		is(t, "P1: an error", e != api.OK, true)
	}
	_, e := flow.Reach(s, api.Digest{}, greatest())
	is(t, "P1: Reach", e, api.ErrMissing)
	_, e = flow.Pack(s, api.Digest{}, greatest())
	is(t, "P1: Pack", e, api.ErrMissing)
	_, e = flow.Copy(s, new(cas.Store), api.Digest{}, greatest())
	is(t, "P1: Copy", e, api.ErrMissing)
	_, e = flow.Sweep(s, nil, greatest())
	is(t, "P1: Sweep", e, api.OK)
}
