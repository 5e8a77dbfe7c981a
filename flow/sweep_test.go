package flow_test

import (
	"fmt"
	"slices"
	"testing"

	"retort/api"
	"retort/cas"
	"retort/flow"
	"retort/tree"
)

// sweeps holds Sweep against what is wanted: how many went, its error, its Gets; and the Store against what P803 says of it.
func sweeps(t testing.TB, what string, s *cas.Store, roots []api.Digest, room api.Room, n int, e api.Errno, gets int) {
	t.Helper()
	want, counts := s.Twin(), s.Counts()
	sweepOf(want, roots, room)
	got, err := flow.Sweep(s, roots, room)
	if got != n || err != e {
		t.Fatalf("P803: %s: %d, %v, want %d, %v", what, got, err, n, e)
	}
	is(t, "P803: how often the Store is asked: "+what, asked(s, counts), api.Counts{Gets: gets})
	is(t, "P803: the Store: "+what, lying(s), lying(want))
}

func TestSweepTheExamples(t *testing.T) {
	x := example(t)
	sweeps(t, "example 3", x.s, digests(x.d1), greatest(), 1, api.OK, 2)
	is(t, "P803: D2 goes", fmt.Sprint(x.s.Has(x.d2), x.s.Whole(x.d1), x.s.Whole(x.x)), "false true true")
	sweeps(t, "again", x.s, digests(x.d1), greatest(), 0, api.OK, 2)
	sweeps(t, "no roots", x.s, nil, greatest(), 2, api.OK, 0)
	is(t, "P803: no roots", x.s.Len(), 0)
	sweeps(t, "nothing there", x.s, nil, greatest(), 0, api.OK, 0)
	sweeps(t, "nothing there", x.s, digests(), api.Room{}, 0, api.OK, 0)
}

// What is spoilt goes like all else, if no root reaches it.
func TestSweepSpoilt(t *testing.T) {
	x := example(t)
	plant(t, x.s, api.Digest{8}, 1, 2, 3)
	plant(t, x.s, x.d2)
	other := put(t, x.s, []byte("other")...)
	sweeps(t, "spoilt", x.s, digests(x.d1), greatest(), 3, api.OK, 2)
	is(t, "P803: spoilt", fmt.Sprint(x.s.Has(api.Digest{8}), x.s.Has(x.d2), x.s.Has(other), x.s.Len()), "false false false 2")
	plant(t, x.s, x.x, 7)
	sweeps(t, "a root reaches it", x.s, digests(x.d1), greatest(), 0, api.ErrCorrupt, 2)
	sweeps(t, "no roots", x.s, nil, greatest(), 2, api.OK, 0)
	is(t, "P803: no roots", x.s.Len(), 0)
}

// Each root is walked by itself, with all of the Room, as often as it is handed in.
func TestSweepRoots(t *testing.T) {
	x := example(t)
	more := put(t, x.s, 7)
	sweeps(t, "the same root twice", x.s, digests(x.d1, x.d1), api.Room{Nodes: 2, Depth: 1, Bytes: 2}, 2, api.OK, 4)
	is(t, "P803: what goes", x.s.Has(more), false)
	x = example(t)
	sweeps(t, "one root within another", x.s, digests(x.d2, x.d1), greatest(), 0, api.OK, 8)
	sweeps(t, "one root within another", x.s, digests(x.d1, x.d2), greatest(), 0, api.OK, 8)
	a, b := putDir(t, x.s, fileAt("a", put(t, x.s, 5))), putDir(t, x.s, fileAt("b", put(t, x.s, 6)), dirAt("c", x.d1))
	sweeps(t, "two roots", x.s, digests(b, a), greatest(), 1, api.OK, 6)
	is(t, "P803: two roots", fmt.Sprint(x.s.Has(x.d2), x.s.Has(x.d1), x.s.Whole(a), x.s.Whole(b)), "false true true true")
	empty := putDir(t, x.s)
	sweeps(t, "an empty directory", x.s, digests(empty), api.Room{Nodes: 1}, 6, api.OK, 1)
}

// The first root that has an error tells it; no root behind it is walked, and nothing is evicted.
func TestSweepErrors(t *testing.T) {
	x := example(t)
	spoilt := api.Digest{8}
	plant(t, x.s, spoilt, 1, 2, 3)
	gone := api.Digest{9}
	was := lying(x.s)
	for _, c := range []struct {
		roots []api.Digest
		room  api.Room
		e     api.Errno
		gets  int
	}{
		{digests(gone), greatest(), api.ErrMissing, 1},
		{digests(x.d1, gone), greatest(), api.ErrMissing, 3},
		{digests(gone, x.d1), greatest(), api.ErrMissing, 1},
		{digests(x.d2, x.d1, spoilt, gone), greatest(), api.ErrCorrupt, 9},
		{digests(x.d1, gone, spoilt), greatest(), api.ErrMissing, 3},
		{digests(x.d1, x.x, gone), greatest(), api.ErrCut, 3},
		{digests(x.d1, x.d2), api.Room{Nodes: 5, Depth: 9, Bytes: 9}, api.ErrNodes, 7},
		{digests(x.d1, x.d2), api.Room{Nodes: 6, Depth: 1, Bytes: 9}, api.ErrDeep, 4},
		{digests(x.d1, x.d2), api.Room{Nodes: 6, Depth: 2, Bytes: 5}, api.ErrBytes, 8},
		{digests(x.d1, x.d1, x.d2, x.d1), api.Room{Nodes: 6, Depth: 2, Bytes: 3}, api.ErrBytes, 8},
		{digests(x.d1), api.Room{}, api.ErrNodes, 0},
	} {
		sweeps(t, short(c.roots), x.s, c.roots, c.room, 0, c.e, c.gets)
		is(t, "P803: nothing is evicted", lying(x.s), was)
	}
}

// MaxItems roots, and one more.
func TestSweepMostRoots(t *testing.T) {
	s := store(t, 32, 1000)
	root := putDir(t, s)
	put(t, s, 7)
	roots := slices.Repeat(digests(root), 1<<16+1)
	was := lying(s)
	n, e := flow.Sweep(s, roots, greatest())
	is(t, "P803: one root more", fmt.Sprint(n, int(e)), fmt.Sprint(0, int(api.ErrLong)))
	is(t, "P803: one root more", lying(s), was)
	roots[0] = api.Digest{9}
	n, e = flow.Sweep(s, roots, api.Room{})
	is(t, "P803: one root more, the first one missing", fmt.Sprint(n, int(e)), fmt.Sprint(0, int(api.ErrLong)))
	is(t, "P803: one root more: Counts", s.Counts(), api.Counts{Puts: 2})
	roots[0] = root
	roots[1<<16-1] = api.Digest{9}
	n, e = flow.Sweep(s, roots[:1<<16], greatest())
	is(t, "P803: the last one missing", fmt.Sprint(n, int(e)), fmt.Sprint(0, int(api.ErrMissing)))
	n, e = flow.Sweep(s, roots[:1<<16-1], greatest())
	is(t, "P803: as many as there are", fmt.Sprint(n, int(e)), "1 0")
	roots[1<<16-1] = root
	n, e = flow.Sweep(s, roots[:1<<16], greatest())
	is(t, "P803: MaxItems roots", fmt.Sprint(n, int(e)), "0 0")
	is(t, "P803: Gets", s.Counts(), api.Counts{Gets: 3<<16 - 1, Puts: 2})
}

// A digest that stands as a file alone keeps nothing else; on a way round all is kept.
func TestSweepStandings(t *testing.T) {
	s := store(t, 32, 10000)
	text := put(t, s, 9)
	sub := putDir(t, s, fileAt("x", text))
	alone := putDir(t, s, fileAt("a", sub))
	sweeps(t, "as a file alone", s, digests(alone), greatest(), 1, api.OK, 2)
	is(t, "P803: as a file alone", fmt.Sprint(s.Has(text), s.Whole(sub)), "false true")

	s = store(t, 1, 10000)
	one, two, three := api.Digest{1}, api.Digest{2}, api.Digest{3}
	tied(t, s, one, dirAt("", two))
	tied(t, s, two, fileAt("", one))
	tied(t, s, three, fileAt("", one))
	sweeps(t, "round", s, digests(one), greatest(), 1, api.OK, 3)
	is(t, "P803: round", fmt.Sprint(s.Whole(one), s.Whole(two), s.Has(three)), "true true false")
}

func TestSweepDrawn(t *testing.T) {
	seen := map[api.Errno]int{}
	for n := range uint64(400) {
		r := seeded(n)
		s, l := nest(t, r)
		if n%3 == 0 {
			s = store(t, 32, 1<<20)
			l = nil
			for range 1 + r.IntN(4) {
				l = append(l, kept(t, s, drawTree(r, "", 2)))
			}
		}
		for range r.IntN(5) {
			plant(t, s, api.Digest{byte(r.Int())}, byte(r.Int()))
		}
		var roots []api.Digest
		for range r.IntN(4) {
			roots = append(roots, l[len(l)-1-r.IntN(min(len(l), 3))])
		}
		room := drawRoom(r)
		before := s.Twin()
		went, e, gets := sweepOf(s.Twin(), roots, room)
		sweeps(t, fmt.Sprint("drawn ", n), s, roots, room, went, e, gets)
		seen[e]++
		if e == api.OK {
			followsSweep(t, before, s, roots, room)
		}
	}
	for _, e := range []api.Errno{api.OK, api.ErrDeep, api.ErrNodes, api.ErrBytes, api.ErrMissing, api.ErrCorrupt} {
		if seen[e] < 5 {
			t.Errorf("%v was met %d times only", e, seen[e])
		}
	}
}

// followsSweep is P808.
func followsSweep(t testing.TB, was, s *cas.Store, roots []api.Digest, room api.Room) {
	t.Helper()
	var reached []api.Digest
	for _, root := range roots {
		l, e := flow.Reach(s, root, room)
		is(t, "P808: reached", e, api.OK)
		reached = append(reached, l...)
		before, _ := tree.Load(was, root, room)
		now, e := tree.Load(s, root, room)
		is(t, "P808: loaded", e, api.OK)
		sameTree(t, "P808: the tree that it had", now, before)
	}
	for d := range s.All() {
		is(t, "P808: just what the roots reach", slices.Contains(reached, d), true)
		is(t, "P808: it stays as it is", s.Stamp(d), was.Stamp(d))
	}
	for _, d := range reached {
		is(t, "P808: what the roots reach", s.Whole(d), true)
	}
	n, e := flow.Sweep(s, roots, room)
	is(t, "P808: again", fmt.Sprint(n, int(e)), "0 0")
}
