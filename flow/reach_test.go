package flow_test

import (
	"fmt"
	"math"
	"slices"
	"testing"

	"retort/api"
	"retort/cas"
	"retort/flow"
	"retort/node"
	"retort/tree"
)

// reaches holds Reach against what is wanted: its digests (none with an error), its error, its Gets; and nothing else of the Store is touched.
func reaches(t testing.TB, what string, s *cas.Store, root api.Digest, room api.Room, want []api.Digest, e api.Errno, gets int) {
	t.Helper()
	was, counts := lying(s), s.Counts()
	l, got := flow.Reach(s, root, room)
	if got != e {
		t.Fatalf("P801: %s: %v: %v, want %v", what, room, got, e)
	}
	sameDigests(t, "P801: "+what, l, want)
	is(t, "P801: how often the Store is asked: "+what, asked(s, counts), api.Counts{Gets: gets})
	is(t, "P801: the Store: "+what, lying(s), was)
}

// fails holds all calls that walk against the walk's error and its Gets: none of them puts, evicts or tells anything.
func fails(t testing.TB, what string, s *cas.Store, root api.Digest, room api.Room, e api.Errno, gets int) {
	t.Helper()
	reaches(t, what, s, root, room, nil, e, gets)
	was, counts := lying(s), s.Counts()
	b, got := flow.Pack(s, root, room)
	is(t, "P804: the walk's error: "+what, got, e)
	is(t, "P804: beside it: "+what, len(b), 0)
	is(t, "P804: Counts: "+what, asked(s, counts), api.Counts{Gets: gets})
	to, _ := cas.New(s.Width(), 1<<26)
	n, got := flow.Copy(s, to, root, room)
	is(t, "P802: the walk's error: "+what, got, e)
	is(t, "P802: beside it: "+what, n, 0)
	is(t, "P802: nothing is put: "+what, to.Counts(), api.Counts{})
	n, got = flow.Copy(s, s, root, room)
	is(t, "P802: the walk's error, of one Store: "+what, got, e)
	is(t, "P802: beside it, of one Store: "+what, n, 0)
	n, got = flow.Sweep(s, digests(root), room)
	is(t, "P803: the walk's error: "+what, got, e)
	is(t, "P803: beside it: "+what, n, 0)
	is(t, "P802, P803, P804: Counts: "+what, asked(s, counts), api.Counts{Gets: 4 * gets})
	is(t, "P802, P803, P804: the Store: "+what, lying(s), was)
}

func TestReachTheExamples(t *testing.T) {
	x := example(t)
	reaches(t, "example 1", x.s, x.d2, greatest(), digests(x.d2, x.d1, x.x), api.OK, 6)
	reaches(t, "D1", x.s, x.d1, greatest(), digests(x.d1, x.x), api.OK, 2)
	fails(t, "example 1", x.s, x.d2, api.Room{Nodes: 5, Depth: 9, Bytes: 9}, api.ErrNodes, 5)
	fails(t, "a file", x.s, x.x, greatest(), api.ErrCut, 1)

	s := store(t, 1, 1000)
	tied(t, s, api.Digest{7}, fileAt("", api.Digest{7}))
	reaches(t, "example 5", s, api.Digest{7}, greatest(), digests(api.Digest{7}), api.OK, 2)
	b, e := flow.Pack(s, api.Digest{7}, greatest())
	is(t, "P804: example 5", e, api.OK)
	sameBytes(t, "P804: example 5", b, packed(1, raw(s, api.Digest{7})))
}

// Rooms that are just enough, and one less of each.
func TestReachJustEnough(t *testing.T) {
	x := example(t)
	all := digests(x.d2, x.d1, x.x)
	just := api.Room{Nodes: 6, Depth: 2, Bytes: 6}
	reaches(t, "just enough", x.s, x.d2, just, all, api.OK, 6)
	fails(t, "a node less", x.s, x.d2, api.Room{Nodes: 5, Depth: 2, Bytes: 6}, api.ErrNodes, 5)
	fails(t, "a depth less", x.s, x.d2, api.Room{Nodes: 6, Depth: 1, Bytes: 6}, api.ErrDeep, 2)
	fails(t, "a byte less", x.s, x.d2, api.Room{Nodes: 6, Depth: 2, Bytes: 5}, api.ErrBytes, 6)
	empty := putDir(t, x.s)
	reaches(t, "an empty directory", x.s, empty, api.Room{Nodes: 1}, digests(empty), api.OK, 1)
	reaches(t, "an empty directory", x.s, empty, api.Room{Nodes: 1, Bytes: -1}, digests(empty), api.OK, 1)
	fails(t, "an empty directory", x.s, empty, api.Room{Nodes: 0}, api.ErrNodes, 0)
	fails(t, "an empty directory", x.s, empty, api.Room{Nodes: 1, Depth: -1}, api.ErrDeep, 0)
}

func TestReachOddRooms(t *testing.T) {
	x := example(t)
	all := digests(x.d2, x.d1, x.x)
	most, least := math.MaxInt, math.MinInt
	reaches(t, "the greatest numbers", x.s, x.d2, api.Room{Nodes: most, Depth: most, Bytes: most}, all, api.OK, 6)
	fails(t, "none", x.s, x.d2, api.Room{}, api.ErrNodes, 0)
	fails(t, "all below 0", x.s, x.d2, api.Room{Nodes: -1, Depth: -1, Bytes: -1}, api.ErrDeep, 0)
	fails(t, "Nodes -1", x.s, x.d2, api.Room{Nodes: -1, Depth: 9, Bytes: 9}, api.ErrNodes, 0)
	fails(t, "Bytes -1", x.s, x.d2, api.Room{Nodes: 9, Depth: 9, Bytes: -1}, api.ErrBytes, 3)
	fails(t, "Bytes 0", x.s, x.d2, api.Room{Nodes: 9, Depth: 9}, api.ErrBytes, 3)
	fails(t, "Depth 0", x.s, x.d2, api.Room{Nodes: 9, Bytes: 9}, api.ErrDeep, 1)
	fails(t, "the least numbers", x.s, x.d2, api.Room{Nodes: least, Depth: least, Bytes: least}, api.ErrDeep, 0)
	fails(t, "the least Nodes", x.s, x.d2, api.Room{Nodes: least, Depth: most, Bytes: most}, api.ErrNodes, 0)
	fails(t, "the least Depth", x.s, x.d2, api.Room{Nodes: most, Depth: least, Bytes: most}, api.ErrDeep, 0)
	fails(t, "the least Bytes", x.s, x.d2, api.Room{Nodes: most, Depth: most, Bytes: least}, api.ErrBytes, 3)
	none := put(t, x.s)
	bare := putDir(t, x.s, fileAt("a", none))
	reaches(t, "a file of no bytes", x.s, bare, api.Room{Nodes: 2, Depth: 1}, digests(bare, none), api.OK, 2)
	fails(t, "a file of no bytes", x.s, bare, api.Room{Nodes: 2, Depth: 1, Bytes: -1}, api.ErrBytes, 2)
}

// Whatever ails the root's blob is told, behind one Get.
func TestReachRoots(t *testing.T) {
	s := store(t, 32, 1<<22)
	fails(t, "an empty Store", s, api.Digest{}, greatest(), api.ErrMissing, 1)
	fails(t, "an empty Store", s, api.Digest{1, 31: 7}, greatest(), api.ErrMissing, 1)
	for _, x := range []struct {
		b []byte
		e api.Errno
	}{
		{nil, api.ErrCut}, {[]byte{1}, api.ErrCut}, {[]byte{1, 1}, api.ErrCut}, {[]byte{2}, api.ErrTag}, {[]byte{5, 0}, api.ErrTag},
		{[]byte{248, 1}, api.ErrForm}, {[]byte{1, 249, 4, 1}, api.ErrLong}, {[]byte{1, 1, 3}, api.ErrEntry}, {[]byte{1, 1, 1, 1, 47, 0}, api.ErrEntry},
		{[]byte{1, 2, 1, 1, 97, 0, 1, 1, 97, 0}, api.ErrEntry}, {[]byte{1, 0, 0}, api.ErrTail}, {make([]byte, 1<<20), api.ErrTag},
	} {
		fails(t, brief(x.b), s, put(t, s, x.b...), greatest(), x.e, 1)
	}
	spoilt := s.Digest([]byte("to be spoilt"))
	plant(t, s, spoilt, 1, 0)
	fails(t, "spoilt", s, spoilt, greatest(), api.ErrCorrupt, 1)
	fails(t, "a digest of another width", store(t, 1, 0), api.Digest{1, 1}, greatest(), api.ErrMissing, 1)
	empty := put(t, s, 1, 0)
	reaches(t, "an empty directory", s, empty, greatest(), digests(empty), api.OK, 1)
}

// W7: at one standing Depth is looked at ahead of Nodes, both ahead of Get, Get ahead of what is read or how long it is.
func TestReachOrderOfLooks(t *testing.T) {
	s := store(t, 32, 4000)
	long := put(t, s, []byte("longer than there is room for")...)
	gone := s.Digest([]byte("never put"))
	spoilt := s.Digest([]byte("to be spoilt"))
	plant(t, s, spoilt, []byte("these bytes are spoilt, and longer than there is room for")...)
	for _, x := range []struct {
		what string
		y    api.Entry
		e    api.Errno
	}{
		{"missing", fileAt("y", gone), api.ErrMissing},
		{"missing", dirAt("y", gone), api.ErrMissing},
		{"spoilt", fileAt("y", spoilt), api.ErrCorrupt},
		{"spoilt", dirAt("y", spoilt), api.ErrCorrupt},
		{"long", fileAt("y", long), api.ErrBytes},
		{"of another kind", dirAt("y", long), api.ErrTag},
	} {
		root := putDir(t, s, x.y, fileAt("z", gone))
		fails(t, x.what, s, root, api.Room{Nodes: 2, Depth: 1, Bytes: 5}, x.e, 2)
		fails(t, x.what+", and a node too many", s, root, api.Room{Nodes: 1, Depth: 1, Bytes: 5}, api.ErrNodes, 1)
		fails(t, x.what+", too deep, and a node too many", s, root, api.Room{Nodes: 1, Depth: 0, Bytes: 5}, api.ErrDeep, 1)
		fails(t, x.what+", and too deep", s, root, api.Room{Nodes: 2, Depth: 0, Bytes: 5}, api.ErrDeep, 1)
	}
}

// One fault at each standing of a tree: a digest that goes is missed where it is met first, and nothing is got behind it.
func TestReachFaultAtEachDigest(t *testing.T) {
	all := store(t, 32, 10000)
	c, d, f := put(t, all, 1), put(t, all, 2), put(t, all, 3)
	b := putDir(t, all, fileAt("c", c))
	a := putDir(t, all, dirAt("b", b), fileAt("d", d), fileAt("e", c))
	root := putDir(t, all, dirAt("a", a), dirAt("e", putDir(t, all)), fileAt("f", f))
	met := digests(root, a, b, c, d, putDir(t, all), f)
	reaches(t, "whole", all, root, greatest(), met, api.OK, 8)
	for i, x := range met {
		gets := i + 1
		if i > 4 {
			gets = i + 2 // c stands twice
		}
		s := all.Twin()
		s.Evict(x)
		fails(t, fmt.Sprint("missing: ", i), s, root, greatest(), api.ErrMissing, gets)
		plant(t, s, x, []byte("spoilt")...)
		fails(t, fmt.Sprint("spoilt: ", i), s, root, greatest(), api.ErrCorrupt, gets)
	}
}

// A digest may stand more than once, as a file here and as a directory there: it is told once, where it is met first, and got and counted at each standing.
func TestReachStandings(t *testing.T) {
	s := store(t, 32, 10000)
	empty := putDir(t, s)
	sub := putDir(t, s, fileAt("f", empty), dirAt("g", empty))
	size := len(raw(s, sub)) + 6
	fileFirst := putDir(t, s, fileAt("a", sub), dirAt("b", sub), dirAt("c", empty), fileAt("d", empty), dirAt("e", sub))
	reaches(t, "a file first", s, fileFirst, greatest(), digests(fileFirst, sub, empty), api.OK, 10)
	dirFirst := putDir(t, s, dirAt("a", sub), fileAt("b", sub), dirAt("c", empty), fileAt("d", empty), dirAt("e", sub))
	reaches(t, "a directory first", s, dirFirst, greatest(), digests(dirFirst, sub, empty), api.OK, 10)
	for _, root := range digests(fileFirst, dirFirst) {
		reaches(t, "just enough", s, root, api.Room{Nodes: 10, Depth: 2, Bytes: size}, digests(root, sub, empty), api.OK, 10)
		fails(t, "a node less", s, root, api.Room{Nodes: 9, Depth: 2, Bytes: size}, api.ErrNodes, 9)
		fails(t, "a byte less", s, root, api.Room{Nodes: 10, Depth: 2, Bytes: size - 1}, api.ErrBytes, 9)
	}
	alone := putDir(t, s, fileAt("a", sub))
	reaches(t, "as a file alone", s, alone, greatest(), digests(alone, sub), api.OK, 2)
	text := put(t, s, 9)
	first := putDir(t, s, fileAt("z", text))
	order := putDir(t, s, dirAt("a", first), fileAt("b", text), fileAt("c", empty), dirAt("d", sub))
	reaches(t, "met first", s, order, greatest(), digests(order, first, text, empty, sub), api.OK, 8)
}

// At a small width there are ways round: as files they end by themselves, as directories where the Room does.
func TestReachRound(t *testing.T) {
	s := store(t, 1, 10000)
	one, two, three := api.Digest{1}, api.Digest{2}, api.Digest{3}
	tied(t, s, one, dirAt("", two))
	tied(t, s, two, fileAt("", three), fileAt("a", one))
	tied(t, s, three, fileAt("", one))
	reaches(t, "round by a file", s, one, greatest(), digests(one, two, three), api.OK, 4)
	reaches(t, "from another side", s, three, greatest(), digests(three, one), api.OK, 2)
	s = store(t, 1, 10000)
	tied(t, s, one, dirAt("", two))
	tied(t, s, two, dirAt("", one))
	fails(t, "round by directories", s, one, api.Room{Nodes: math.MaxInt, Depth: math.MaxInt}, api.ErrDeep, 33)
	fails(t, "round by directories", s, one, api.Room{Nodes: 9, Depth: 9}, api.ErrNodes, 9)
	fails(t, "round by directories", s, one, api.Room{Nodes: 9, Depth: 8}, api.ErrDeep, 9)
}

// crowd is a tree of so many nodes, all of unlike digests if they are to be; from 1025 on.
func crowd(t testing.TB, s *cas.Store, nodes int, unlike bool) api.Digest {
	t.Helper()
	var dirs []api.Entry
	for left, n := nodes-1, 0; left > 0; {
		var files []api.Entry
		for range min(1024, left-1) {
			var b []byte
			if unlike {
				b = []byte{byte(n), byte(n >> 8), byte(n >> 16)}
			}
			files = append(files, fileAt(fmt.Sprintf("%04d", len(files)), put(t, s, b...)))
			n++
		}
		dirs = append(dirs, dirAt(fmt.Sprintf("%04d", len(dirs)), putDir(t, s, files...)))
		left -= len(files) + 1
	}
	return putDir(t, s, dirs...)
}

// Of Room's Depth and Nodes none counts for more than 32 and 1 << 16.
func TestReachMostDepthAndNodes(t *testing.T) {
	s := store(t, 32, 1<<24)
	most := api.Room{Nodes: math.MaxInt, Depth: math.MaxInt, Bytes: math.MaxInt}
	chain := digests(put(t, s, 7))
	chain = append(chain, putDir(t, s, fileAt("f", chain[0])))
	for range 31 {
		chain = append(chain, putDir(t, s, dirAt("d", chain[len(chain)-1])))
	}
	top := chain[len(chain)-1]
	deeper := putDir(t, s, dirAt("d", top))
	slices.Reverse(chain)
	reaches(t, "as deep as may be", s, top, most, chain, api.OK, 33)
	fails(t, "one deeper", s, deeper, most, api.ErrDeep, 33)
	fails(t, "one deeper, no node left for it", s, deeper, api.Room{Nodes: 33, Depth: 33}, api.ErrDeep, 33)

	root := crowd(t, s, 1<<16, false)
	counts := s.Counts()
	l, e := flow.Reach(s, root, most)
	is(t, "P801: as many nodes as may be", e, api.OK)
	is(t, "P801: of few digests", len(l), 4)
	is(t, "P801: Gets", asked(s, counts), api.Counts{Gets: 1 << 16})
	fails(t, "one node more", s, crowd(t, s, 1<<16+1, false), most, api.ErrNodes, 1<<16)

	root = crowd(t, s, 1<<16, true)
	l, e = flow.Reach(s, root, most)
	is(t, "P801: as many nodes as may be", e, api.OK)
	is(t, "P801: of as many digests", len(l), 1<<16)
}

// Of Room's Bytes none counts for more than 1 << 26.
func TestReachMostBytes(t *testing.T) {
	if testing.Short() {
		t.Skip("it hashes 128 MiB")
	}
	s := store(t, 32, 1<<22)
	most := api.Room{Nodes: math.MaxInt, Depth: math.MaxInt, Bytes: math.MaxInt}
	root, more, long, one := longFiles(t, s)
	reaches(t, "as many bytes as may be", s, root, most, digests(root, long), api.OK, 65)
	counts := s.Counts()
	_, e := flow.Reach(s, more, most)
	is(t, "P801: one byte more", e, api.ErrBytes)
	is(t, "P801: one byte more: Gets", asked(s, counts), api.Counts{Gets: 66})
	is(t, "one byte", s.Whole(one), true)
}

// longFiles are a root with files of 1 << 26 bytes, one with a byte more, the long file of both, and the short one.
func longFiles(t testing.TB, s *cas.Store) (root, more, long, one api.Digest) {
	long, one = put(t, s, make([]byte, 1<<20)...), put(t, s, 1)
	var files []api.Entry
	for i := range 64 {
		files = append(files, fileAt(fmt.Sprintf("%02d", i), long))
	}
	return putDir(t, s, files...), putDir(t, s, append(files, fileAt("64", one))...), long, one
}

func TestReachDrawn(t *testing.T) {
	seen := map[api.Errno]int{}
	for n := range uint64(300) {
		r := seeded(n)
		s, l := nest(t, r)
		if r.IntN(3) == 0 {
			d := l[r.IntN(len(l))]
			plant(t, s, d, fileOf(api.Digest{d[0] + 1}, 0)...)
		}
		for _, root := range l {
			room := drawRoom(r)
			w := walkOf(s, root, room)
			want := w.met
			if w.e != api.OK {
				want = nil
			}
			reaches(t, fmt.Sprint("drawn ", n), s, root, room, want, w.e, w.gets)
			seen[w.e]++
			if w.e == api.OK {
				followsReach(t, s, root, room, w.met)
			}
		}
	}
	for _, e := range []api.Errno{api.OK, api.ErrDeep, api.ErrNodes, api.ErrMissing, api.ErrCorrupt, api.ErrBytes, api.ErrTag} {
		if seen[e] < 10 {
			t.Errorf("%v was met %d times only", e, seen[e])
		}
	}
}

// followsReach is P806 of what Reach told.
func followsReach(t testing.TB, s *cas.Store, root api.Digest, room api.Room, l []api.Digest) {
	t.Helper()
	w := walkOf(s, root, room)
	for _, d := range l {
		is(t, "P806: whole", s.Whole(d), true)
		if !w.dirs[d] {
			continue
		}
		entries, e := node.Decode(raw(s, d))
		is(t, "P806: a directory", e, api.OK)
		for _, x := range entries {
			is(t, "P806: its entries are told", slices.Contains(l, x.Digest), true)
		}
	}
	few := s.Twin()
	for d := range s.All() {
		if !slices.Contains(l, d) {
			few.Evict(d)
		}
	}
	got, _ := flow.Reach(few, root, room)
	sameDigests(t, "P806: behind an eviction of all else", got, l)
	for i := range 300 {
		few.Put([]byte{1, byte(i), byte(i >> 8)})
	}
	got, _ = flow.Reach(few, root, room)
	sameDigests(t, "P806: whatever is put", got, l)
}

func TestReachOfTrees(t *testing.T) {
	for n := range uint64(100) {
		r := seeded(n)
		s := store(t, 32, 1<<20)
		l := drawTree(r, "", 3)
		root := kept(t, s, l)
		w := walkOf(s, root, greatest())
		reaches(t, "a tree", s, root, greatest(), w.met, api.OK, len(l)+1)
		followsReach(t, s, root, greatest(), w.met)
		_, blobs, _ := tree.Build(32, l)
		is(t, "P801: as many as a tree has blobs", len(w.met), len(blobs))
	}
}
