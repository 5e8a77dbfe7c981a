package flow_test

import (
	"fmt"
	"math/rand/v2"
	"slices"
	"testing"

	"retort/api"
	"retort/cas"
	"retort/flow"
	"retort/tree"
)

// copies holds Copy against what is wanted, and both Stores against what they must be then.
func copies(t testing.TB, what string, from, to *cas.Store, root api.Digest, room api.Room, n int, e api.Errno, gets, puts int) {
	t.Helper()
	was, f, o := lying(from), from.Counts(), to.Counts()
	got, err := flow.Copy(from, to, root, room)
	if got != n || err != e {
		t.Fatalf("P802: %s: %d, %v, want %d, %v", what, got, err, n, e)
	}
	if from == to {
		is(t, "P802: how often the Store is asked: "+what, asked(from, f), api.Counts{Gets: gets, Puts: puts})
	} else {
		is(t, "P802: how often from is asked: "+what, asked(from, f), api.Counts{Gets: gets})
		is(t, "P802: how often to is asked: "+what, asked(to, o), api.Counts{Puts: puts})
	}
	is(t, "P802: from: "+what, lying(from), was)
}

func TestCopyTheExamples(t *testing.T) {
	x := example(t)
	to := store(t, 32, 10000)
	copies(t, "example 2", x.s, to, x.d2, greatest(), 3, api.OK, 6, 3)
	is(t, "P802: in this order", fmt.Sprint(to.Stamp(x.x), to.Stamp(x.d1), to.Stamp(x.d2)), "1 2 3")
	is(t, "P802: nothing else", to.Len(), 3)
	copies(t, "again", x.s, to, x.d2, greatest(), 0, api.OK, 6, 3)
	is(t, "P802: nothing is laid down again", fmt.Sprint(to.Stamp(x.x), to.Stamp(x.d1), to.Stamp(x.d2)), "1 2 3")
	room := 2 + 32 + len(raw(x.s, x.d1)) + 32
	small := store(t, 32, room)
	copies(t, "room for two", x.s, small, x.d2, greatest(), 2, api.ErrFull, 6, 3)
	is(t, "P802: what was put stays", fmt.Sprint(small.Whole(x.x), small.Whole(x.d1), small.Has(x.d2), small.Used()), fmt.Sprint(true, true, false, room))
	copies(t, "refused again", x.s, small, x.d2, greatest(), 0, api.ErrFull, 6, 3)
	small.Limit(10000)
	copies(t, "room by now", x.s, small, x.d2, greatest(), 1, api.OK, 6, 3)
}

func TestCopyRoots(t *testing.T) {
	x := example(t)
	to := store(t, 32, 10000)
	copies(t, "D1 alone", x.s, to, x.d1, greatest(), 2, api.OK, 2, 2)
	copies(t, "the rest", x.s, to, x.d2, greatest(), 1, api.OK, 6, 3)
	empty := putDir(t, x.s)
	copies(t, "an empty directory", x.s, to, empty, api.Room{Nodes: 1}, 1, api.OK, 1, 1)
	copies(t, "just enough", x.s, store(t, 32, 10000), x.d2, api.Room{Nodes: 6, Depth: 2, Bytes: 6}, 3, api.OK, 6, 3)
}

// Unlike widths are told ahead of the walk's error, and nothing is asked.
func TestCopyWidths(t *testing.T) {
	x := example(t)
	for _, width := range []int{1, 2, 16, 31} {
		to := store(t, width, 10000)
		for _, root := range digests(x.d2, x.x, api.Digest{9}, api.Digest{}) {
			copies(t, "unlike widths", x.s, to, root, greatest(), 0, api.ErrWidth, 0, 0)
			copies(t, "unlike widths, and no Room", x.s, to, root, api.Room{}, 0, api.ErrWidth, 0, 0)
			copies(t, "unlike widths", to, x.s, root, greatest(), 0, api.ErrWidth, 0, 0)
		}
		is(t, "P802: nothing is put", to.Len(), 0)
	}
	for width := 1; width <= 32; width++ {
		s, to := store(t, width, 10000), store(t, width, 10000)
		root := kept(t, s, []api.Item{{Path: "a", Data: []byte("ox")}})
		copies(t, "like widths", s, to, root, greatest(), 2, api.OK, 2, 2)
	}
}

// One Store as both sides: its blobs are put, and nothing is laid down; also where there is no room at all.
func TestCopyOneStore(t *testing.T) {
	x := example(t)
	was := lying(x.s)
	copies(t, "one Store", x.s, x.s, x.d2, greatest(), 0, api.OK, 6, 3)
	is(t, "P802: one Store", lying(x.s), was)
	x.s.Limit(0)
	copies(t, "one Store, over-full", x.s, x.s, x.d2, greatest(), 0, api.OK, 6, 3)
}

// Room for each number of blobs, just enough and one byte less.
func TestCopyIntoEachRoom(t *testing.T) {
	x := example(t)
	used := 0
	for i, d := range digests(x.x, x.d1, x.d2) {
		copies(t, "a byte less", x.s, store(t, 32, used+31+len(raw(x.s, d))), x.d2, greatest(), i, api.ErrFull, 6, i+1)
		used += 32 + len(raw(x.s, d))
		if i < 2 {
			copies(t, "just enough", x.s, store(t, 32, used), x.d2, greatest(), i+1, api.ErrFull, 6, i+2)
		}
	}
	copies(t, "just enough", x.s, store(t, 32, used), x.d2, greatest(), 3, api.OK, 6, 3)
}

// What lies there already, whole or spoilt, ahead of a Copy.
func TestCopyOntoOthers(t *testing.T) {
	x := example(t)
	for i, d := range digests(x.x, x.d1, x.d2) {
		to := store(t, 32, 10000)
		put(t, to, raw(x.s, d)...)
		copies(t, fmt.Sprint("there: ", i), x.s, to, x.d2, greatest(), 2, api.OK, 6, 3)
		is(t, "P802: what was there stays", to.Stamp(d), 1)
		to = store(t, 32, 10000)
		plant(t, to, d, []byte("spoilt")...)
		copies(t, fmt.Sprint("spoilt: ", i), x.s, to, x.d2, greatest(), 3, api.OK, 6, 3)
		is(t, "P802: it is whole now", to.Whole(d), true)
	}
	all := x.s.Twin()
	all.Limit(0)
	copies(t, "all is there, over-full", x.s, all, x.d2, greatest(), 0, api.OK, 6, 3)
	all.Limit(10000)
	plant(t, all, x.d1, 1, 2, 3, 4, 5)
	all.Limit(all.Used())
	copies(t, "no room in the place of a spoilt one", x.s, all, x.d2, greatest(), 0, api.ErrFull, 6, 2)
}

// A clash on the way: what was laid down up to it is told, and stays; nothing is put behind it.
func TestCopyClash(t *testing.T) {
	one, two, three, four := api.Digest{1}, api.Digest{2}, api.Digest{3}, api.Digest{4}
	s := store(t, 1, 10000)
	tiedFile(t, s, one)
	tied(t, s, two, fileAt("", one))
	tiedFile(t, s, three)
	tied(t, s, four, fileAt("", one), dirAt("a", two), fileAt("b", three))
	order := digests(one, two, three, four)
	for i, d := range order {
		to := store(t, 1, 10000)
		clash := fileOf(d, 1)
		put(t, to, clash...)
		copies(t, fmt.Sprint("a clash at ", i), s, to, four, greatest(), i, api.ErrClash, 5, i+1)
		want := []int{2, 3, 4, 5}[:i]
		want = append(want, 1, 0, 0, 0)
		for j, x := range order {
			is(t, "P802: what lies there", to.Stamp(x), want[j])
		}
		sameBytes(t, "P802: the other stays", raw(to, d), clash)
	}
}

// The order of Puts where a digest stands as a file first, and on ways round.
func TestCopyOrder(t *testing.T) {
	s := store(t, 32, 10000)
	text := put(t, s, 9)
	sub := putDir(t, s, fileAt("x", text))
	top := putDir(t, s, fileAt("a", sub), dirAt("b", sub), fileAt("c", text))
	to := store(t, 32, 10000)
	copies(t, "a file here, a directory there", s, to, top, greatest(), 3, api.OK, 5, 3)
	is(t, "P802: its parts are ahead of it", fmt.Sprint(to.Stamp(text), to.Stamp(sub), to.Stamp(top)), "1 2 3")
	alone := putDir(t, s, fileAt("a", sub), fileAt("b", text))
	to = store(t, 32, 10000)
	copies(t, "as a file alone", s, to, alone, greatest(), 3, api.OK, 3, 3)
	is(t, "P802: a file has no parts", fmt.Sprint(to.Stamp(text), to.Stamp(sub), to.Stamp(alone)), "2 1 3")

	one, two, three := api.Digest{1}, api.Digest{2}, api.Digest{3}
	s, to = store(t, 1, 10000), store(t, 1, 10000)
	tied(t, s, one, dirAt("", two))
	tied(t, s, two, fileAt("", one), dirAt("a", three))
	tied(t, s, three, fileAt("", two), fileAt("a", one))
	copies(t, "round", s, to, one, greatest(), 3, api.OK, 6, 3)
	is(t, "P802: round", fmt.Sprint(to.Stamp(one), to.Stamp(two), to.Stamp(three)), "3 2 1")
}

// A way of parts is longer than any tree is deep: the end of each chain names, as a file, the top of the next one.
func TestCopyLongWay(t *testing.T) {
	s, to := store(t, 32, 1<<24), store(t, 32, 1<<24)
	at := put(t, s)
	var tops []api.Entry
	for i := range 1024 {
		at = putDir(t, s, fileAt("f", at))
		for range 28 {
			at = putDir(t, s, dirAt("d", at))
		}
		tops = append(tops, dirAt(fmt.Sprintf("%04d", 1023-i), at))
	}
	slices.Reverse(tops)
	root := putDir(t, s, tops...)
	n, e := flow.Copy(s, to, root, greatest())
	is(t, "P802: a long way", fmt.Sprint(n, int(e)), fmt.Sprint(1024*29+2, 0))
	for d := range s.All() {
		if s.Stamp(d) != to.Stamp(d) {
			t.Fatalf("P802: a long way: %d was put as number %d", s.Stamp(d), to.Stamp(d))
		}
	}
	b, e := flow.Pack(s, root, greatest())
	is(t, "P804: a long way", e, api.OK)
	d, e := flow.Unpack(store(t, 32, 1<<24), b)
	is(t, "P805: a long way", e, api.OK)
	is(t, "P805: a long way", d, root)
}

// drawTo is a Store with some of what another has, something in its place, something else, and some room.
func drawTo(t testing.TB, r *rand.Rand, from *cas.Store, l []api.Digest) *cas.Store {
	to := store(t, from.Width(), 1<<20)
	for _, d := range l {
		switch r.IntN(12) {
		case 0, 1:
			to.Put(raw(from, d))
		case 2:
			plant(t, to, d, make([]byte, r.IntN(90))...)
		case 3:
			if from.Width() == 1 && r.IntN(2) == 0 {
				put(t, to, fileOf(d, 1)...)
			}
		}
	}
	to.Put([]byte("something else"))
	if r.IntN(2) == 0 {
		to.Limit(to.Used() + r.IntN(1+from.Used()))
	}
	return to
}

func TestCopyDrawn(t *testing.T) {
	seen, round := map[api.Errno]int{}, 0
	for n := range uint64(600) {
		r := seeded(n)
		s, l := nest(t, r)
		if n%3 == 0 {
			s = store(t, 32, 1<<20)
			l = digests(kept(t, s, drawTree(r, "", 3)))
		}
		root, room := l[len(l)-1], drawRoom(r)
		to := drawTo(t, r, s, walkOf(s, root, greatest()).met)
		want, was := to.Twin(), to.Twin()
		c := want.Counts()
		laid, e, gets := copyOf(s, want, root, room)
		copies(t, fmt.Sprint("drawn ", n), s, to, root, room, laid, e, gets, asked(want, c).Puts)
		is(t, "P802: drawn: to", lying(to), lying(want))
		seen[e]++
		if e == api.OK || e == api.ErrFull || e == api.ErrClash {
			round += followsCopy(t, s, was, to, root, room)
		}
		if e == api.OK {
			loadsAlike(t, "P807", s, to, root, room)
			copies(t, "again", s, to, root, room, 0, api.OK, gets, len(walkOf(s, root, room).met))
		}
		if e == api.ErrFull {
			thenThereIsRoom(t, s, to, root, room)
		}
	}
	for _, e := range []api.Errno{api.OK, api.ErrFull, api.ErrClash, api.ErrDeep, api.ErrNodes, api.ErrBytes, api.ErrMissing} {
		if seen[e] < 10 {
			t.Errorf("%v was met %d times only", e, seen[e])
		}
	}
	if round < 10 {
		t.Errorf("%d ways round were met only", round)
	}
}

// followsCopy is P807's second sentence; how many parts were not there for a way round.
func followsCopy(t testing.TB, from, was, to *cas.Store, root api.Digest, room api.Room) int {
	t.Helper()
	w, round := walkOf(from, root, room), 0
	for d := range w.dirs {
		if to.Stamp(d) == was.Stamp(d) {
			continue
		}
		for _, p := range w.partsOf(d) {
			if to.Whole(p) && string(raw(to, p)) == string(raw(from, p)) {
				continue
			}
			if !w.hasBelow(p, d) {
				t.Fatalf("P807: %x was laid down, its part %x does not lie there", d[:2], p[:2])
			}
			round++
		}
	}
	return round
}

func loadsAlike(t testing.TB, what string, from, to *cas.Store, root api.Digest, room api.Room) {
	t.Helper()
	there, e := tree.Load(from, root, room)
	is(t, what, e, api.OK)
	here, e := tree.Load(to, root, room)
	is(t, what, e, api.OK)
	sameTree(t, what, here, there)
}

// thenThereIsRoom is P807's last sentence.
func thenThereIsRoom(t testing.TB, from, to *cas.Store, root api.Digest, room api.Room) {
	t.Helper()
	to.Limit(1 << 26)
	stamps := map[api.Digest]int{}
	for _, d := range walkOf(from, root, room).met {
		if to.Whole(d) {
			stamps[d] = to.Stamp(d)
		}
	}
	if _, e := flow.Copy(from, to, root, room); e != api.OK && e != api.ErrClash {
		t.Fatalf("P807: done again with room: %v", e)
	}
	for d, stamp := range stamps {
		is(t, "P807: laid down again", to.Stamp(d), stamp)
	}
}
