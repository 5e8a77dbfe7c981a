package tree_test

import (
	"fmt"
	"math"
	"math/rand/v2"
	"slices"
	"strings"
	"testing"

	"retort/api"
	"retort/cas"
	"retort/node"
	"retort/tree"
)

// loads holds Load against what is wanted: its items (none with an error), its error, its Gets; and nothing else of the Store is touched.
func loads(t testing.TB, what string, s *cas.Store, root api.Digest, room api.Room, want []api.Item, e api.Errno, gets int) {
	t.Helper()
	was, counts := lying(s), s.Counts()
	l, got := tree.Load(s, root, room)
	if got != e {
		t.Fatalf("P602: %s: %v: %v, want %v", what, room, got, e)
	}
	sameItems(t, "P602: "+what, l, want)
	counts.Gets += gets
	is(t, "P602: how often the Store is asked: "+what, s.Counts(), counts)
	is(t, "P602: the Store: "+what, lying(s), was)
}

// fails holds Load against an error and its Gets.
func fails(t testing.TB, what string, s *cas.Store, root api.Digest, room api.Room, e api.Errno, gets int) {
	t.Helper()
	loads(t, what, s, root, room, nil, e, gets)
}

func kept(t testing.TB, s *cas.Store, l []api.Item) api.Digest {
	t.Helper()
	root, e := tree.Keep(s, l)
	if e != api.OK {
		t.Fatal(e)
	}
	return root
}

func TestLoadTheExamples(t *testing.T) {
	s := store(t, 32, 1000)
	root := kept(t, s, example())
	loads(t, "example 2", s, root, greatest(), example(), api.OK, 4)
	loads(t, "just enough", s, root, api.Room{Nodes: 4, Depth: 2, Bytes: 4}, example(), api.OK, 4)
	fails(t, "Nodes", s, root, api.Room{Nodes: 3, Depth: 2, Bytes: 4}, api.ErrNodes, 3)
	fails(t, "Depth", s, root, api.Room{Nodes: 4, Depth: 1, Bytes: 4}, api.ErrDeep, 2)
	fails(t, "Bytes", s, root, api.Room{Nodes: 4, Depth: 2, Bytes: 3}, api.ErrBytes, 4)
	empty := kept(t, s, nil)
	loads(t, "example 1", s, empty, greatest(), nil, api.OK, 1)
	loads(t, "example 1", s, empty, api.Room{Nodes: 1}, nil, api.OK, 1)
}

// Each room that is just enough, and each one less.
func TestLoadJustEnough(t *testing.T) {
	deep := append(chain("a", 31), file(strings.Repeat("a/", 31)+"f", 1, 2, 3))
	for what, l := range map[string][]api.Item{
		"none":    nil,
		"example": example(),
		"deep":    deep,
		"wide":    append(list(dir("a")), fan("a/", 1024)...),
		"empty":   list(dir("a"), file("a/b"), file("a/c"), dir("a/d"), dir("a/d/e"), file("b")),
	} {
		s := store(t, 32, 1<<20)
		root := kept(t, s, l)
		just := api.Room{Nodes: len(l) + 1}
		files := 0
		for _, x := range l {
			just.Depth = max(just.Depth, len(namesOf(x.Path)))
			just.Bytes += len(x.Data)
			if !x.Dir {
				files++
			}
		}
		loads(t, what, s, root, just, l, api.OK, len(l)+1)
		less := just
		less.Nodes--
		fails(t, what+": a node less", s, root, less, api.ErrNodes, len(l))
		less = just
		less.Depth--
		_, _, gets := walkOf(s, root, less)
		fails(t, what+": a depth less", s, root, less, api.ErrDeep, gets)
		less = just
		less.Bytes--
		_, _, gets = walkOf(s, root, less)
		if files > 0 {
			fails(t, what+": a byte less", s, root, less, api.ErrBytes, gets)
		} else {
			loads(t, what+": no file asks for bytes", s, root, less, l, api.OK, len(l)+1)
		}
	}
}

func TestLoadOddRooms(t *testing.T) {
	s := store(t, 32, 1000)
	root := kept(t, s, example())
	most, least := math.MaxInt, math.MinInt
	loads(t, "the greatest numbers", s, root, api.Room{Nodes: most, Depth: most, Bytes: most}, example(), api.OK, 4)
	fails(t, "none", s, root, api.Room{}, api.ErrNodes, 0)
	fails(t, "Depth -1", s, root, api.Room{Depth: -1}, api.ErrDeep, 0)
	fails(t, "all below 0", s, root, api.Room{Nodes: -1, Depth: -1, Bytes: -1}, api.ErrDeep, 0)
	fails(t, "Nodes -1", s, root, api.Room{Nodes: -1, Depth: 9, Bytes: 9}, api.ErrNodes, 0)
	fails(t, "the least numbers", s, root, api.Room{Nodes: least, Depth: least, Bytes: least}, api.ErrDeep, 0)
	fails(t, "the least Nodes", s, root, api.Room{Nodes: least, Depth: most, Bytes: most}, api.ErrNodes, 0)
	fails(t, "the least Depth", s, root, api.Room{Nodes: most, Depth: least, Bytes: most}, api.ErrDeep, 0)
	fails(t, "the least Bytes", s, root, api.Room{Nodes: most, Depth: most, Bytes: least}, api.ErrBytes, 3)
	fails(t, "Depth 0", s, root, api.Room{Nodes: most, Depth: 0, Bytes: most}, api.ErrDeep, 1)
	fails(t, "Bytes 0", s, root, api.Room{Nodes: most, Depth: most}, api.ErrBytes, 3)
	empty := kept(t, s, list(file("a")))
	loads(t, "a file of no bytes", s, empty, api.Room{Nodes: 2, Depth: 1}, list(file("a")), api.OK, 2)
	fails(t, "a file of no bytes", s, empty, api.Room{Nodes: 2, Depth: 1, Bytes: -1}, api.ErrBytes, 2)
	fails(t, "a file of no bytes", s, empty, api.Room{Nodes: 2, Depth: 1, Bytes: least}, api.ErrBytes, 2)
}

// W7: at one standing Depth is looked at ahead of Nodes, both ahead of Get, Get ahead of what is read or how long it is.
func TestLoadOrderOfLooks(t *testing.T) {
	s := store(t, 32, 2000)
	long := s.Digest([]byte("longer than there is room for"))
	put(t, s, []byte("longer than there is room for")...)
	gone := s.Digest([]byte("never put"))
	spoils := s.Digest([]byte("to be spoilt"))
	if s.Plant(spoils, []byte("these bytes are spoilt, and longer than there is room for")) != api.OK {
		t.Fatal("plant")
	}
	for _, x := range []struct {
		what string
		y    api.Entry
		e    api.Errno
		gets int
	}{
		{"missing", fileAt("y", gone), api.ErrMissing, 2},
		{"missing", dirAt("y", gone), api.ErrMissing, 2},
		{"spoilt", fileAt("y", spoils), api.ErrCorrupt, 2},
		{"spoilt", dirAt("y", spoils), api.ErrCorrupt, 2},
		{"long", fileAt("y", long), api.ErrBytes, 2},
		{"of another kind", dirAt("y", long), api.ErrTag, 2},
	} {
		root := putDir(t, s, x.y)
		fails(t, x.what, s, root, api.Room{Nodes: 2, Depth: 1, Bytes: 5}, x.e, x.gets)
		fails(t, x.what+", and a node too many", s, root, api.Room{Nodes: 1, Depth: 1, Bytes: 5}, api.ErrNodes, 1)
		fails(t, x.what+", too deep, and a node too many", s, root, api.Room{Nodes: 1, Depth: 0, Bytes: 5}, api.ErrDeep, 1)
		fails(t, x.what+", and too deep", s, root, api.Room{Nodes: 2, Depth: 0, Bytes: 5}, api.ErrDeep, 1)
	}
	for _, root := range []api.Digest{gone, spoils, long} {
		fails(t, "the root: a node too many", s, root, api.Room{Nodes: 0, Depth: 0}, api.ErrNodes, 0)
		fails(t, "the root: too deep, a node too many", s, root, api.Room{Nodes: 0, Depth: -1}, api.ErrDeep, 0)
	}
}

// Whatever ails the root's blob is told, behind one Get.
func TestLoadRoots(t *testing.T) {
	s := store(t, 32, 1<<22)
	fails(t, "an empty Store", s, api.Digest{}, greatest(), api.ErrMissing, 1)
	fails(t, "an empty Store", s, api.Digest{1, 31: 7}, greatest(), api.ErrMissing, 1)
	for _, x := range []struct {
		b []byte
		e api.Errno
	}{
		{nil, api.ErrCut}, {[]byte{1}, api.ErrCut}, {[]byte{1, 1}, api.ErrCut}, {[]byte{2}, api.ErrTag}, {[]byte{5, 0}, api.ErrTag},
		{[]byte{248, 1}, api.ErrForm}, {[]byte{1, 249, 4, 1}, api.ErrLong}, {[]byte{1, 1, 3}, api.ErrEntry}, {[]byte{1, 1, 1, 1, 47, 0}, api.ErrEntry},
		{[]byte{1, 2, 1, 1, 97, 0, 1, 1, 97, 0}, api.ErrEntry}, {[]byte{1, 0, 0}, api.ErrTail}, {make([]byte, 1<<20), api.ErrTag},
	} {
		fails(t, brief(x.b), s, put(t, s, x.b...), greatest(), x.e, 1)
	}
	fails(t, "a digest of another width", store(t, 1, 0), api.Digest{1, 1}, greatest(), api.ErrMissing, 1)
}

// One fault at each standing of a tree, one standing behind the other.
func TestLoadFaultAtEachStanding(t *testing.T) {
	l := list(dir("a"), dir("a/b"), file("a/b/c", 1), file("a/d", 2), dir("e"), file("f", 3))
	all := store(t, 32, 10000)
	root := kept(t, all, l)
	faults := map[string]func(s *cas.Store, d api.Digest) api.Errno{
		"missing": func(s *cas.Store, d api.Digest) api.Errno {
			s.Evict(d)
			return api.ErrMissing
		},
		"spoilt": func(s *cas.Store, d api.Digest) api.Errno {
			s.Plant(d, []byte("spoilt"))
			return api.ErrCorrupt
		},
		"empty": func(s *cas.Store, d api.Digest) api.Errno {
			s.Plant(d, nil)
			return api.ErrCorrupt
		},
		"another's": func(s *cas.Store, d api.Digest) api.Errno {
			b, _ := s.Raw(root)
			if d == root {
				b = []byte{1, 0}
			}
			s.Plant(d, b)
			return api.ErrCorrupt
		},
	}
	for i := range len(l) + 1 {
		d := root
		if i > 0 && l[i-1].Dir {
			d = digestOf(32, dirBlob(32, l, l[i-1].Path))
		} else if i > 0 {
			d = digestOf(32, l[i-1].Data)
		}
		for what, fault := range faults {
			s := all.Twin()
			e := fault(s, d)
			fails(t, fmt.Sprint(what, " at ", i), s, root, greatest(), e, i+1)
		}
	}
}

// Of two faults the one that the walk meets first is told, and nothing is got behind it.
func TestLoadFirstFault(t *testing.T) {
	s := store(t, 32, 10000)
	text := put(t, s, 9, 9)
	gone := s.Digest([]byte("gone"))
	bad := s.Digest([]byte("bad"))
	s.Plant(bad, []byte("ly spoilt"))
	tail := put(t, s, 1, 0, 0)
	sub := putDir(t, s, fileAt("x", text), dirAt("y", tail))
	for _, x := range []struct {
		l    []api.Entry
		e    api.Errno
		gets int
	}{
		{[]api.Entry{fileAt("a", gone), fileAt("b", bad)}, api.ErrMissing, 2},
		{[]api.Entry{fileAt("a", bad), fileAt("b", gone)}, api.ErrCorrupt, 2},
		{[]api.Entry{fileAt("a", text), dirAt("b", text), fileAt("c", gone)}, api.ErrTag, 3},
		{[]api.Entry{dirAt("a", sub), fileAt("b", gone)}, api.ErrTail, 4},
		{[]api.Entry{fileAt("a", text), dirAt("b", sub), fileAt("c", gone)}, api.ErrTail, 5},
		{[]api.Entry{fileAt("a", tail), fileAt("b", gone), dirAt("c", sub)}, api.ErrMissing, 3},
	} {
		fails(t, fmt.Sprint(x.l), s, putDir(t, s, x.l...), greatest(), x.e, x.gets)
	}
	root := putDir(t, s, fileAt("a", text), fileAt("b", text), fileAt("c", gone))
	fails(t, "bytes ahead of missing", s, root, api.Room{Nodes: 9, Depth: 9, Bytes: 3}, api.ErrBytes, 3)
	fails(t, "missing ahead of bytes", s, root, api.Room{Nodes: 9, Depth: 9, Bytes: 4}, api.ErrMissing, 4)
	fails(t, "nodes ahead of missing", s, root, api.Room{Nodes: 3, Depth: 9, Bytes: 4}, api.ErrNodes, 3)
}

// W6: each standing counts by itself, and is got by itself; a digest may stand as a file here and as a directory there.
func TestLoadStandings(t *testing.T) {
	s := store(t, 32, 10000)
	empty := putDir(t, s)
	sub := putDir(t, s, fileAt("f", empty), dirAt("g", empty))
	root := putDir(t, s, dirAt("a", sub), fileAt("b", sub), dirAt("c", empty), fileAt("d", empty), dirAt("e", sub))
	blob, _ := s.Raw(sub)
	want := list(dir("a"), file("a/f", 1, 0), dir("a/g"), file("b", blob...), dir("c"), file("d", 1, 0), dir("e"), file("e/f", 1, 0), dir("e/g"))
	size := len(blob) + 6
	loads(t, "standings", s, root, greatest(), want, api.OK, 10)
	loads(t, "just enough", s, root, api.Room{Nodes: 10, Depth: 2, Bytes: size}, want, api.OK, 10)
	fails(t, "a node less", s, root, api.Room{Nodes: 9, Depth: 2, Bytes: size}, api.ErrNodes, 9)
	fails(t, "a byte less", s, root, api.Room{Nodes: 10, Depth: 2, Bytes: size - 1}, api.ErrBytes, 9)
}

// Of Room's Depth and Nodes none counts for more than 32 and 1 << 16.
func TestLoadMostDepthAndNodes(t *testing.T) {
	s := store(t, 32, 1<<22)
	most := api.Room{Nodes: math.MaxInt, Depth: math.MaxInt, Bytes: math.MaxInt}
	text := put(t, s, 7)
	at := putDir(t, s, fileAt("f", text))
	for range 31 {
		at = putDir(t, s, dirAt("d", at))
	}
	want := append(chain("d", 31), file(strings.Repeat("d/", 31)+"f", 7))
	loads(t, "as deep as may be", s, at, most, want, api.OK, 33)
	fails(t, "one deeper", s, putDir(t, s, dirAt("d", at)), most, api.ErrDeep, 33)
	fails(t, "one deeper, no node left for it", s, putDir(t, s, dirAt("d", at)), api.Room{Nodes: 33, Depth: 33}, api.ErrDeep, 33)

	none := put(t, s)
	var files []api.Entry
	for i := range 1024 {
		files = append(files, fileAt(fmt.Sprintf("%04d", i), none))
	}
	whole, less, more := putDir(t, s, files...), putDir(t, s, files[:959]...), putDir(t, s, files[:960]...)
	var dirs []api.Entry
	for i := range 63 {
		dirs = append(dirs, dirAt(fmt.Sprintf("%02d", i), whole))
	}
	l, e := tree.Load(s, putDir(t, s, append(slices.Clone(dirs), dirAt("last", less))...), most)
	if e != api.OK || len(l) != 1<<16-1 || !isTree(l) {
		t.Errorf("P602: as many nodes as may be: %d, %v", len(l), e)
	}
	fails(t, "one node more", s, putDir(t, s, append(slices.Clone(dirs), dirAt("last", more))...), most, api.ErrNodes, 1<<16)
}

// Of Room's Bytes none counts for more than 1 << 26.
func TestLoadMostBytes(t *testing.T) {
	if testing.Short() {
		t.Skip("it hashes 128 MiB")
	}
	s := store(t, 32, 1<<22)
	most := api.Room{Nodes: math.MaxInt, Depth: math.MaxInt, Bytes: math.MaxInt}
	long, one := put(t, s, make([]byte, 1<<20)...), put(t, s, 1)
	var files []api.Entry
	for i := range 64 {
		files = append(files, fileAt(fmt.Sprintf("%02d", i), long))
	}
	l, e := tree.Load(s, putDir(t, s, files...), most)
	if e != api.OK || len(l) != 64 || tree.Check(l) != api.OK {
		t.Errorf("P602: as many bytes as may be: %d, %v", len(l), e)
	}
	fails(t, "one byte more", s, putDir(t, s, append(files, fileAt("64", one))...), most, api.ErrBytes, 66)
}

// round puts, at the width 1, a directory whose only entry, of that kind, has the directory's own digest.
func round(t testing.TB, s *cas.Store, kind int) (api.Digest, string) {
	t.Helper()
	for i := range 1 << 16 {
		x := api.Entry{Name: fmt.Sprint(i), Kind: kind, Digest: api.Digest{byte(i)}}
		b, _ := node.Encode([]api.Entry{x})
		if s.Digest(b) == x.Digest {
			return put(t, s, b...), x.Name
		}
	}
	t.Fatal("there is none")
	return api.Digest{}, ""
}

// A way round ends where a Room does.
func TestLoadRound(t *testing.T) {
	s := store(t, 1, 1000)
	root, _ := round(t, s, api.KDir)
	fails(t, "round", s, root, api.Room{Nodes: math.MaxInt, Depth: math.MaxInt}, api.ErrDeep, 33)
	fails(t, "round", s, root, api.Room{Nodes: 9, Depth: 9}, api.ErrNodes, 9)
	fails(t, "round", s, root, api.Room{Nodes: 9, Depth: 8}, api.ErrDeep, 9)
	s = store(t, 1, 1000)
	root, name := round(t, s, api.KFile)
	b, _ := s.Raw(root)
	loads(t, "itself as a file", s, root, greatest(), list(file(name, b...)), api.OK, 2)
}

// drawStore has directories that name any digests, files, spoilt blobs.
func drawStore(t testing.TB, r *rand.Rand) *cas.Store {
	s := store(t, 1, 1<<20)
	for range 100 + r.IntN(400) {
		if r.IntN(4) == 0 {
			s.Put([]byte{byte(r.IntN(4)), byte(r.Int()), byte(r.Int())})
			continue
		}
		var l []api.Entry
		for _, name := range names() {
			if r.IntN(6) == 0 {
				l = append(l, api.Entry{Name: name, Kind: 1 + r.IntN(2), Digest: api.Digest{byte(r.Int())}})
			}
		}
		b, _ := node.Encode(l)
		s.Put(b)
	}
	for range r.IntN(20) {
		s.Plant(api.Digest{byte(r.Int())}, []byte{1, 0})
	}
	return s
}

func TestLoadDrawn(t *testing.T) {
	seen := map[api.Errno]int{}
	for n := range uint64(30) {
		r := seeded(n)
		s := drawStore(t, r)
		was := lying(s)
		for i := range 256 {
			root := api.Digest{byte(i)}
			for range 4 {
				room := api.Room{Nodes: r.IntN(40) - 1, Depth: r.IntN(7) - 1, Bytes: r.IntN(200) - 1}
				want, e, gets := walkOf(s, root, room)
				counts := s.Counts()
				l, got := tree.Load(s, root, room)
				if got != e {
					t.Fatalf("P602: %d: %x, %v: %v, want %v", n, root[0], room, got, e)
				}
				sameItems(t, "P602: drawn", l, want)
				counts.Gets += gets
				is(t, "P602: drawn: Counts", s.Counts(), counts)
				seen[e]++
				if e == api.OK {
					backAgain(t, s, root, l)
				}
			}
		}
		is(t, "P602: the Store", lying(s), was)
	}
	for _, e := range []api.Errno{api.OK, api.ErrDeep, api.ErrNodes, api.ErrMissing, api.ErrCorrupt, api.ErrBytes, api.ErrTag} {
		if seen[e] < 20 {
			t.Errorf("%v was met %d times only", e, seen[e])
		}
	}
}

// backAgain is P609.
func backAgain(t testing.TB, s *cas.Store, root api.Digest, l []api.Item) {
	t.Helper()
	is(t, "P609: what Load tells", tree.Check(l), api.OK)
	got, e := tree.Keep(store(t, s.Width(), 1<<26), l)
	if e != api.OK || got != root {
		t.Fatalf("P609: Keep of what was loaded from %x: %x, %v", root, got, e)
	}
}
