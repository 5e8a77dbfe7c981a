package diff_test

import (
	"fmt"
	"math"
	"math/rand/v2"
	"slices"
	"strings"
	"testing"

	"retort/api"
	"retort/cas"
	"retort/diff"
	"retort/node"
	"retort/path"
	"retort/tree"
)

// tells holds Between against what is wanted: its changes (none with an error), its error, its Gets; and nothing else of the Store is touched.
func tells(t testing.TB, what string, s *cas.Store, a, b api.Digest, room api.Room, want []api.Change, e api.Errno, gets int) {
	t.Helper()
	was, counts := lying(s), s.Counts()
	l, got := diff.Between(s, a, b, room)
	if got != e {
		t.Fatalf("P701: %s: %v: %v, want %v", what, room, got, e)
	}
	sameChanges(t, "P701: "+what, l, want)
	counts.Gets += gets
	is(t, "P701: how often the Store is asked: "+what, s.Counts(), counts)
	is(t, "P701: the Store: "+what, lying(s), was)
}

// refuses holds Between against an error and its Gets.
func refuses(t testing.TB, what string, s *cas.Store, a, b api.Digest, room api.Room, e api.Errno, gets int) {
	t.Helper()
	tells(t, what, s, a, b, room, nil, e, gets)
}

// fromAToB are the changes of the chapter's example.
func fromAToB(width int) []api.Change {
	at := func(b ...byte) api.Digest { return digestOf(width, b) }
	return []api.Change{edited("a/x", fileAt("x", at(1)), fileAt("x", at(3))), dropped("b", fileAt("b", at(2))), added("c", dirAt("c", at(1, 0)))}
}

func TestBetweenTheExamples(t *testing.T) {
	for _, width := range []int{8, 31, 32} {
		s := store(t, width, 1000)
		a, b := kept(t, s, exampleA()), kept(t, s, exampleB())
		l := fromAToB(width)
		tells(t, "example 1", s, a, b, greatest(), l, api.OK, 4)
		tells(t, "just enough", s, a, b, api.Room{Nodes: 4, Depth: 2}, l, api.OK, 4)
		refuses(t, "Nodes 3", s, a, b, api.Room{Nodes: 3, Depth: 2}, api.ErrNodes, 3)
		refuses(t, "Depth 1", s, a, b, api.Room{Nodes: 4, Depth: 1}, api.ErrDeep, 2)
		refuses(t, "Depth 0", s, a, b, api.Room{Nodes: 4, Depth: 0}, api.ErrDeep, 0)
		tells(t, "a and a", s, a, a, greatest(), nil, api.OK, 0)
	}
}

func TestBetweenTheSameDigest(t *testing.T) {
	s := store(t, 32, 5000)
	file, tail := put(t, s, 9), put(t, s, 1, 0, 0)
	spoilt := s.Digest([]byte("spoilt"))
	s.Plant(spoilt, []byte{1, 0})
	for _, d := range []api.Digest{kept(t, s, exampleA()), {}, {1, 31: 7}, s.Digest([]byte("gone")), file, tail, spoilt} {
		for _, room := range []api.Room{greatest(), {}, {Nodes: -1, Depth: -1, Bytes: -1}, {Nodes: math.MinInt, Depth: math.MinInt, Bytes: math.MinInt}} {
			tells(t, "the same digest twice", s, d, d, room, nil, api.OK, 0)
		}
	}
	// further down too: nothing is looked at, nothing got, whatever is under it, and no room is asked for
	gone := s.Digest([]byte("gone"))
	for _, d := range []api.Digest{gone, spoilt, tail, {}} {
		a, b := putDir(t, s, dirAt("d", d), fileAt("e", gone)), putDir(t, s, dirAt("d", d), fileAt("f", gone))
		want := []api.Change{dropped("e", fileAt("e", gone)), added("f", fileAt("f", gone))}
		tells(t, "the same digest further down", s, a, b, api.Room{Nodes: 2, Depth: 1}, want, api.OK, 2)
	}
}

// Names that only one has, first, between and last; a name that is another one's front; an empty directory.
func TestBetweenNames(t *testing.T) {
	s := store(t, 32, 1<<16)
	one, two := put(t, s, 1), put(t, s, 2)
	same := func(names ...string) []api.Entry {
		var l []api.Entry
		for _, name := range names {
			l = append(l, fileAt(name, one))
		}
		return l
	}
	for _, x := range []struct {
		a, b []api.Entry
		want []api.Change
	}{
		{nil, same("a"), []api.Change{added("a", fileAt("a", one))}},
		{same("a"), nil, []api.Change{dropped("a", fileAt("a", one))}},
		{same("a"), same("b"), []api.Change{dropped("a", fileAt("a", one)), added("b", fileAt("b", one))}},
		{same("b"), same("a"), []api.Change{added("a", fileAt("a", one)), dropped("b", fileAt("b", one))}},
		{same("b", "c"), same("a", "b", "c"), []api.Change{added("a", fileAt("a", one))}},
		{same("a", "c"), same("a", "b", "c"), []api.Change{added("b", fileAt("b", one))}},
		{same("a", "b"), same("a", "b", "c"), []api.Change{added("c", fileAt("c", one))}},
		{same("a", "b", "c"), same("b", "c"), []api.Change{dropped("a", fileAt("a", one))}},
		{same("a", "b", "c"), same("a", "c"), []api.Change{dropped("b", fileAt("b", one))}},
		{same("a", "b", "c"), same("a", "b"), []api.Change{dropped("c", fileAt("c", one))}},
		{same("a", "ab"), same("a-", "ab"), []api.Change{dropped("a", fileAt("a", one)), added("a-", fileAt("a-", one))}},
		{same("a", "b"), same("aa", "b", "c"), []api.Change{dropped("a", fileAt("a", one)), added("aa", fileAt("aa", one)), added("c", fileAt("c", one))}},
		{same("\xff"), same("\x01"), []api.Change{added("\x01", fileAt("\x01", one)), dropped("\xff", fileAt("\xff", one))}},
		{same("a", "b", "c"), []api.Entry{fileAt("a", two), fileAt("b", one), fileAt("c", two)}, []api.Change{edited("a", fileAt("a", one), fileAt("a", two)), edited("c", fileAt("c", one), fileAt("c", two))}},
	} {
		a, b := putDir(t, s, x.a...), putDir(t, s, x.b...)
		tells(t, fmt.Sprint(x.a, x.b), s, a, b, api.Room{Nodes: 2, Depth: 1}, x.want, api.OK, 2)
	}
}

// A file where the other has a directory is one change, the same digest or not; files, and directories that only one has, are not got.
func TestBetweenKinds(t *testing.T) {
	s := store(t, 32, 1<<16)
	gone := s.Digest([]byte("gone"))
	d := putDir(t, s, fileAt("f", gone))
	for _, x := range []struct{ was, now api.Entry }{
		{fileAt("x", gone), dirAt("x", gone)}, {dirAt("x", gone), fileAt("x", gone)},
		{fileAt("x", d), dirAt("x", d)}, {dirAt("x", d), fileAt("x", d)},
		{dirAt("x", d), fileAt("x", gone)}, {fileAt("x", gone), dirAt("x", d)},
		{fileAt("x", gone), fileAt("x", d)}, {fileAt("x", d), fileAt("x", api.Digest{})},
		{dirAt("x", d), api.Entry{}}, {api.Entry{}, dirAt("x", d)}, {dirAt("x", gone), api.Entry{}}, {api.Entry{}, dirAt("x", gone)},
		{fileAt("x", gone), api.Entry{}}, {api.Entry{}, fileAt("x", gone)}, {api.Entry{}, fileAt("x", api.Digest{})},
	} {
		of := func(y api.Entry) api.Digest {
			if y == (api.Entry{}) {
				return putDir(t, s)
			}
			return putDir(t, s, y)
		}
		c := edited("x", x.was, x.now)
		if x.was == (api.Entry{}) {
			c = added("x", x.now)
		} else if x.now == (api.Entry{}) {
			c = dropped("x", x.was)
		}
		tells(t, fmt.Sprint(x), s, of(x.was), of(x.now), api.Room{Nodes: 2, Depth: 1}, []api.Change{c}, api.OK, 2)
	}
}

// deepPair puts two roots that are unlike in one file, so many directories below them.
func deepPair(t testing.TB, s *cas.Store, deep int) (a, b api.Digest, c api.Change) {
	t.Helper()
	one, two := put(t, s, 1), put(t, s, 2)
	a, b = putDir(t, s, fileAt("f", one)), putDir(t, s, fileAt("f", two))
	for range deep {
		a, b = putDir(t, s, dirAt("d", a)), putDir(t, s, dirAt("d", b))
	}
	return a, b, edited(strings.Repeat("d/", deep)+"f", fileAt("f", one), fileAt("f", two))
}

// Rooms that are just enough in nodes and depth, and one less of each; both at once: the first look counts.
func TestBetweenRooms(t *testing.T) {
	most, least := math.MaxInt, math.MinInt
	for _, deep := range []int{0, 1, 2, 5, 31} {
		s := store(t, 32, 1<<16)
		a, b, c := deepPair(t, s, deep)
		want, gets := []api.Change{c}, 2*(deep+1)
		for _, bytes := range []int{0, -1, least, most} {
			tells(t, "just enough", s, a, b, api.Room{Nodes: gets, Depth: deep + 1, Bytes: bytes}, want, api.OK, gets)
		}
		tells(t, "the greatest numbers", s, a, b, api.Room{Nodes: most, Depth: most}, want, api.OK, gets)
		refuses(t, "a node less", s, a, b, api.Room{Nodes: gets - 1, Depth: deep + 1}, api.ErrNodes, gets-1)
		refuses(t, "two nodes less", s, a, b, api.Room{Nodes: gets - 2, Depth: deep + 1}, api.ErrNodes, gets-2)
		refuses(t, "a depth less", s, a, b, api.Room{Nodes: gets, Depth: deep}, api.ErrDeep, gets-2)
		refuses(t, "a depth less, two nodes less", s, a, b, api.Room{Nodes: gets - 2, Depth: deep}, api.ErrDeep, gets-2)
		refuses(t, "none", s, a, b, api.Room{}, api.ErrDeep, 0)
		refuses(t, "no nodes", s, a, b, api.Room{Depth: 1}, api.ErrNodes, 0)
		refuses(t, "one node", s, a, b, api.Room{Nodes: 1, Depth: 1}, api.ErrNodes, 1)
		for _, n := range []int{-1, least} {
			refuses(t, "below 0", s, a, b, api.Room{Nodes: n, Depth: n, Bytes: n}, api.ErrDeep, 0)
			refuses(t, "nodes below 0", s, a, b, api.Room{Nodes: n, Depth: most, Bytes: most}, api.ErrNodes, 0)
			refuses(t, "depth below 0", s, a, b, api.Room{Nodes: most, Depth: n, Bytes: most}, api.ErrDeep, 0)
		}
	}
}

// Of Room's Depth none counts for more than 32: what is unlike 33 names deep is not told.
func TestBetweenMostDepth(t *testing.T) {
	s := store(t, 32, 1<<16)
	for _, most := range []int{32, 33, 34, math.MaxInt} {
		a, b, _ := deepPair(t, s, 32)
		refuses(t, "one deeper", s, a, b, api.Room{Nodes: most * 3, Depth: most}, api.ErrDeep, 64)
	}
	// a change to a directory 32 deep is no pair that is looked at
	a, b := put(t, s, 1), putDir(t, s)
	was, now := fileAt("d", a), dirAt("d", b)
	a, b = putDir(t, s, was), putDir(t, s, now)
	for range 31 {
		a, b = putDir(t, s, dirAt("d", a)), putDir(t, s, dirAt("d", b))
	}
	tells(t, "32 deep", s, a, b, api.Room{Nodes: 64, Depth: 99}, []api.Change{edited(strings.Repeat("d/", 31)+"d", was, now)}, api.OK, 64)
}

// Of Room's Nodes none counts for more than 1 << 16: each standing of a pair counts.
func TestBetweenMostNodes(t *testing.T) {
	s := store(t, 32, 1<<24)
	one, two := put(t, s, 1), put(t, s, 2)
	// so many pairs right below a pair
	pairs := func(n int, a, b api.Digest) (api.Digest, api.Digest) {
		var x, y []api.Entry
		for i := range n {
			x = append(x, dirAt(fmt.Sprintf("%04d", i), a))
			y = append(y, dirAt(fmt.Sprintf("%04d", i), b))
		}
		return putDir(t, s, x...), putDir(t, s, y...)
	}
	leaf, other := putDir(t, s, fileAt("f", one)), putDir(t, s, fileAt("f", two))
	full, fuller := pairs(1023, leaf, other) // 1024 pairs each
	a, b := pairs(31, full, fuller)          // 31 * 1024 and its own
	less, lesser := pairs(1022, leaf, other) // and 1023: 1 << 15 pairs in all
	grow := func(a, b, c, d api.Digest) (api.Digest, api.Digest) {
		x, _ := s.Get(a)
		y, _ := s.Get(b)
		l, _ := node.Decode(x)
		m, _ := node.Decode(y)
		return putDir(t, s, append(l, dirAt("last", c))...), putDir(t, s, append(m, dirAt("last", d))...)
	}
	most := api.Room{Nodes: math.MaxInt, Depth: math.MaxInt}
	x, y := grow(a, b, less, lesser)
	n := s.Counts().Gets
	l, e := diff.Between(s, x, y, most)
	if e != api.OK || len(l) != 31*1023+1022 || s.Counts().Gets-n != 1<<16 {
		t.Errorf("P701: as many nodes as may be: %d, %v, %d Gets", len(l), e, s.Counts().Gets-n)
	}
	x, y = grow(a, b, full, fuller)
	refuses(t, "one pair more", s, x, y, most, api.ErrNodes, 1<<16)
	refuses(t, "one pair more", s, x, y, api.Room{Nodes: 1<<16 + 2, Depth: 9}, api.ErrNodes, 1<<16)
}

// A blob that is missing, spoilt or no directory, on either side, at the roots or below them; in each the first error is told.
func TestBetweenFaults(t *testing.T) {
	s := store(t, 32, 1<<22)
	gone := s.Digest([]byte("gone"))
	spoilt := s.Digest([]byte("spoilt"))
	s.Plant(spoilt, []byte{1, 0})
	type fault struct {
		d api.Digest
		e api.Errno
	}
	faults := []fault{{gone, api.ErrMissing}, {spoilt, api.ErrCorrupt}, {api.Digest{}, api.ErrMissing}}
	for _, x := range []struct {
		b []byte
		e api.Errno
	}{
		{nil, api.ErrCut}, {[]byte{1}, api.ErrCut}, {[]byte{2, 0}, api.ErrTag}, {[]byte{248, 1}, api.ErrForm}, {[]byte{1, 249, 4, 1}, api.ErrLong},
		{[]byte{1, 1, 3}, api.ErrEntry}, {[]byte{1, 2, 1, 1, 97, 0, 1, 1, 97, 0}, api.ErrEntry}, {[]byte{1, 0, 0}, api.ErrTail},
	} {
		faults = append(faults, fault{put(t, s, x.b...), x.e})
	}
	good := kept(t, s, exampleA())
	for i, x := range faults {
		what := fmt.Sprint("fault ", i)
		refuses(t, what+" in a", s, x.d, good, greatest(), x.e, 1)
		refuses(t, what+" in b", s, good, x.d, greatest(), x.e, 2)
		refuses(t, what+", no node for it", s, good, x.d, api.Room{Nodes: 1, Depth: 1}, api.ErrNodes, 1)
		refuses(t, what+", no depth for it", s, x.d, good, api.Room{Nodes: 9}, api.ErrDeep, 0)
		for _, y := range faults {
			if x.d != y.d {
				refuses(t, what+" in a, one in b", s, x.d, y.d, greatest(), x.e, 1)
			}
		}
		a, b := putDir(t, s, fileAt("c", gone), dirAt("d", x.d), dirAt("e", gone)), putDir(t, s, dirAt("d", good), dirAt("e", spoilt))
		refuses(t, what+" further down in a", s, a, b, greatest(), x.e, 3)
		refuses(t, what+" further down in b", s, b, a, greatest(), x.e, 4)
		refuses(t, what+" further down, no node for it", s, b, a, api.Room{Nodes: 3, Depth: 9}, api.ErrNodes, 3)
		refuses(t, what+" further down, too deep", s, b, a, api.Room{Nodes: 2, Depth: 1}, api.ErrDeep, 2)
	}
	at := store(t, 1, 1000)
	refuses(t, "a digest of another width", at, api.Digest{1, 1}, api.Digest{1}, greatest(), api.ErrMissing, 1)
}

// W1: what has one digest is alike, whatever the bytes; a way round ends where a Room does.
func TestBetweenRound(t *testing.T) {
	s := store(t, 1, 1000)
	// a directory that names itself, and another one that names that other one
	round := func(name string) api.Digest {
		for i := range 1 << 16 {
			x := dirAt("d", api.Digest{byte(i)})
			y := fileAt(name+fmt.Sprint(i), api.Digest{})
			b, _ := node.Encode([]api.Entry{x, y})
			if d := s.Digest(b); d == x.Digest && !s.Has(d) {
				return put(t, s, b...)
			}
		}
		t.Fatal("there is none")
		return api.Digest{}
	}
	a, b := round("x"), round("y")
	refuses(t, "round", s, a, b, api.Room{Nodes: math.MaxInt, Depth: math.MaxInt}, api.ErrDeep, 64)
	refuses(t, "round", s, a, b, api.Room{Nodes: 9, Depth: 9}, api.ErrNodes, 9)
	refuses(t, "round", s, a, b, api.Room{Nodes: 9, Depth: 4}, api.ErrDeep, 8)
	tells(t, "round", s, a, a, greatest(), nil, api.OK, 0)
}

// drawStore has directories that name any digests, files, spoilt blobs.
func drawStore(t testing.TB, r *rand.Rand) *cas.Store {
	s := store(t, 1, 1<<20)
	for range 100 + r.IntN(500) {
		if r.IntN(5) == 0 {
			s.Put([]byte{byte(r.IntN(4)), byte(r.Int()), byte(r.Int())})
			continue
		}
		var l []api.Entry
		for _, name := range names() {
			if r.IntN(4) == 0 {
				l = append(l, api.Entry{Name: name, Kind: 1 + r.IntN(2), Digest: api.Digest{byte(r.IntN(64) * 4)}})
			}
		}
		b, _ := node.Encode(l)
		s.Put(b)
	}
	for range r.IntN(20) {
		s.Plant(api.Digest{byte(r.Int())}, []byte{1, 0})
	}
	return s
}

func TestBetweenDrawn(t *testing.T) {
	seen := map[api.Errno]int{}
	for n := range uint64(30) {
		r := seeded(n)
		s := drawStore(t, r)
		was := lying(s)
		for range 1000 {
			a, b := api.Digest{byte(r.Int())}, api.Digest{byte(r.Int())}
			room := api.Room{Nodes: r.IntN(40) - 1, Depth: r.IntN(7) - 1, Bytes: r.IntN(3) - 1}
			want, e, gets := betweenOf(s, a, b, room)
			counts := s.Counts()
			l, got := diff.Between(s, a, b, room)
			if got != e {
				t.Fatalf("P701: %d: %x, %x, %v: %v, want %v", n, a[0], b[0], room, got, e)
			}
			sameChanges(t, "P701: drawn", l, want)
			counts.Gets += gets
			is(t, "P701: drawn: Counts", s.Counts(), counts)
			seen[e]++
			if e == api.OK {
				isFew(t, l)
				back, e := diff.Between(s, b, a, room)
				is(t, "P706: the other way", e, api.OK)
				sameChanges(t, "P706: the other way", back, turned(l))
			}
		}
		is(t, "P701: the Store", lying(s), was)
	}
	for _, e := range []api.Errno{api.OK, api.ErrDeep, api.ErrNodes, api.ErrMissing, api.ErrCorrupt, api.ErrTag} {
		if seen[e] < 20 {
			t.Errorf("%v was met %d times only", e, seen[e])
		}
	}
}

// isFew is P706 of what Between tells.
func isFew(t testing.TB, l []api.Change) {
	t.Helper()
	for i, c := range l {
		is(t, "P701: a clean path", path.IsClean(c.Path) && c.Path != "", true)
		if i > 0 && (!path.Less(l[i-1].Path, c.Path) || path.Under(l[i-1].Path, c.Path)) {
			t.Errorf("P706: %q behind %q", c.Path, l[i-1].Path)
		}
	}
}

// turned are changes the other way.
func turned(l []api.Change) []api.Change {
	l = slices.Clone(l)
	for i, c := range l {
		kind := map[int]int{api.CAdd: api.CDrop, api.CDrop: api.CAdd, api.CEdit: api.CEdit}[c.Kind]
		l[i] = api.Change{Path: c.Path, Kind: kind, Was: c.Now, Now: c.Was}
	}
	return l
}

// P705: what Between tells, laid on the one tree, makes the other.
func TestThereByBetween(t *testing.T) {
	for n := range uint64(400) {
		r := seeded(n)
		s := store(t, 32, 1<<20)
		one := drawTree(r, "", 3)
		other := drawNext(r, one, 6)
		a, b := kept(t, s, one), kept(t, s, other)
		l, e := diff.Between(s, a, b, greatest())
		is(t, "P701", e, api.OK)
		isFew(t, l)
		got, e := diff.Lay(s, one, l)
		is(t, "P705", e, api.OK)
		sameItems(t, "P705: there", got, other)
		back, e := diff.Between(s, b, a, greatest())
		is(t, "P706", e, api.OK)
		sameChanges(t, "P706: the other way", back, turned(l))
		got, e = diff.Lay(s, other, back)
		is(t, "P705", e, api.OK)
		sameItems(t, "P705: and back", got, one)
	}
}

// P705 of Stores of a small width in which both trees found room beside each other.
func TestThereAtSmallWidths(t *testing.T) {
	there := 0
	for n := range uint64(3000) {
		r := seeded(n)
		s := store(t, 1+r.IntN(2), 1<<20)
		one := drawTree(r, "", 2)
		other := drawNext(r, one, 3)
		a, e := tree.Keep(s, one)
		b, f := tree.Keep(s, other)
		if e != api.OK || f != api.OK {
			continue
		}
		there++
		l, e := diff.Between(s, a, b, greatest())
		is(t, "P701", e, api.OK)
		plain, _ := diff.Plain(s.Width(), one, other)
		sameChanges(t, "P702: what Between tells", plain, l)
		got, e := diff.Lay(s, one, l)
		is(t, "P705", e, api.OK)
		sameItems(t, "P705: there", got, other)
	}
	if there < 1000 {
		t.Errorf("only %d of them", there)
	}
}
