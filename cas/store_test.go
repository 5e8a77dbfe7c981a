package cas_test

import (
	"bytes"
	"crypto/sha256"
	"fmt"
	"math"
	"strings"
	"testing"

	"retort/api"
	"retort/cas"
)

var (
	ofNone = api.Digest{0xe3, 0xb0} // at the width 2
	ofA    = api.Digest{0xca, 0x97}
	zero   = api.Digest{}
)

func store(t *testing.T, width, capacity int) *cas.Store {
	t.Helper()
	s, e := cas.New(width, capacity)
	if e != api.OK || s == nil {
		t.Fatalf("P401: New(%d, %d): %v", width, capacity, e)
	}
	return s
}

// brief leaves the front of what may be a MiB.
func brief(v any) string { return fmt.Sprintf("%.300s", fmt.Sprintf("%v", v)) }

func is[T comparable](t *testing.T, what string, got, want T) {
	t.Helper()
	if got != want {
		t.Fatalf("%s: %s, want %s", what, brief(got), brief(want))
	}
}

func TestNew(t *testing.T) {
	const far = math.MaxInt
	for _, c := range []struct {
		width, capacity int
		e               api.Errno
	}{
		{0, 9, api.ErrWidth}, {33, 9, api.ErrWidth}, {-1, 9, api.ErrWidth}, {far, 9, api.ErrWidth}, {-far - 1, 9, api.ErrWidth},
		{2, -1, api.ErrArg}, {1, -1, api.ErrArg}, {32, -1, api.ErrArg}, {2, 1<<26 + 1, api.ErrArg}, {2, far, api.ErrArg}, {2, -far - 1, api.ErrArg},
		{0, -1, api.ErrWidth}, {33, 1<<26 + 1, api.ErrWidth},
	} {
		if s, e := cas.New(c.width, c.capacity); s != nil || e != c.e {
			t.Errorf("P401: New(%d, %d): %v, %v; want %v", c.width, c.capacity, s, e, c.e)
		}
	}
	for width := 1; width <= 32; width++ {
		for _, capacity := range []int{0, 1, 31, 32, 1<<26 - 1, 1 << 26} {
			newPair(t, width, capacity).same(zero)
		}
	}
}

func TestNewOnesApart(t *testing.T) {
	p, q := newPair(t, 2, 100), newPair(t, 2, 100)
	p.put("a")
	q.same(ofA)
	q.put("b")
	p.same()
}

func TestDigest(t *testing.T) {
	for _, n := range []int{0, 1, 55, 56, 64, 1 << 20, 1<<20 + 1, 1 << 22} {
		b := bytes.Repeat([]byte{97}, n)
		full := sha256.Sum256(b)
		for _, width := range []int{1, 2, 31, 32} {
			var want api.Digest
			copy(want[:width], full[:])
			s := store(t, width, 0)
			is(t, "P402: Digest", s.Digest(b), want)
			is(t, "P402: nothing is laid down", s.Len(), 0)
			is(t, "P402: nothing counts", s.Counts(), api.Counts{})
		}
	}
}

func TestExamples(t *testing.T) {
	p := newPair(t, 2, 70)
	is(t, "example: of none", p.s.Digest(nil), ofNone)
	is(t, "example: of 97", p.s.Digest([]byte("a")), ofA)
	p.put("")
	p.put("a")
	is(t, "P409: Len", p.s.Len(), 2)
	is(t, "P409: Used", p.s.Used(), 65)
	p.put("b")
	p.put("a")
	is(t, "P409: Counts", p.s.Counts(), api.Counts{Gets: 0, Puts: 4})
	is(t, "P405: Stamp", p.s.Stamp(ofA), 2)
	p.plant(ofA, "b")
	is(t, "P405: Stamp", p.s.Stamp(ofA), 3)
	p.get(ofA)
	p.put("a")
	is(t, "P405: Stamp", p.s.Stamp(ofA), 4)
	p.get(ofA)
	is(t, "P407: 71 would be used", p.s.Plant(ofA, []byte{1, 2, 3, 4, 5, 6, 7}), api.ErrFull)
	p.plant(ofA, "123456")
	is(t, "P407: a third byte", p.s.Plant(api.Digest{0xca, 0x97, 1}, nil), api.ErrArg)
	p.evict(ofNone)
	p.evict(ofNone)
	p.get(ofNone)
	p.limit(10)
	p.put("c")
	p.same(ofNone, ofA)
}

func TestPutRoom(t *testing.T) {
	for _, b := range []string{"", "a", strings.Repeat("x", 1000)} {
		for _, short := range []int{0, 1} {
			p := newPair(t, 32, len(b)+32-short)
			p.put(b)
			is(t, "P403: laid down just where there is room", p.s.Len(), 1-short)
			p.same(p.m.digest(b))
		}
	}
	p := newPair(t, 32, 0)
	p.put("")
	is(t, "P403: there is room for none", p.s.Len(), 0)
}

// What is laid in another's place has the room of that one too.
func TestRoomInPlace(t *testing.T) {
	b := strings.Repeat("x", 50)
	for _, short := range []int{0, 1} {
		for _, old := range []string{"", "y", strings.Repeat("y", 50), strings.Repeat("y", 49)} {
			p := newPair(t, 2, 82+33-short)
			p.put("a")
			d := p.m.digest(b)
			p.plant(d, old)
			p.put(b)
			p.same(d)
			q := newPair(t, 2, 82+33-short)
			q.put("a")
			q.plant(d, old)
			q.plant(d, b)
			q.same(d)
			is(t, "P403, P407: room to the byte", p.s.Whole(d), short == 0)
			is(t, "P407: room to the byte", q.s.Whole(d), short == 0)
		}
	}
}

// Where less is to be used than before, but more than there may be, there is no room.
func TestLimitBelowUsed(t *testing.T) {
	p := newPair(t, 2, 300)
	p.put("a")
	p.put("0123456789")
	p.plant(ofNone, "spoilt")
	for _, c := range []int{0, 32, p.s.Used() - 1, p.s.Used() - 6, p.s.Used() - 7, p.s.Used(), 1 << 26} {
		p.limit(c)
		p.same(ofNone)
		p.put("a")
		p.put("new")
		p.evict(p.m.digest("new"))
		p.plant(ofNone, "spoil")
		p.plant(ofNone, "spoilt")
		p.plant(ofA, "a")
		w := p.twin()
		w.put("")
		w.same(ofNone)
		p.get(ofA)
		p.same(ofNone)
	}
	p.limit(0)
	before := p.m.twin()
	for _, c := range []int{-1, 1<<26 + 1, math.MaxInt, math.MinInt} {
		is(t, "P408: Limit", p.s.Limit(c), api.ErrArg)
	}
	p.m = before
	p.same()
	p.put("a")
	is(t, "P412: found, however full", p.s.Stamp(ofA), p.m.row[p.m.at(ofA)].stamp)
}

func TestLimitEdges(t *testing.T) {
	p := newPair(t, 2, 40)
	for _, c := range []int{0, 1, 1<<26 - 1, 1 << 26, 1<<26 + 1, -1, 5} {
		p.limit(c)
		p.same()
	}
}

func TestLong(t *testing.T) {
	most := strings.Repeat("m", 1<<20)
	p := newPair(t, 2, 1<<26)
	d := p.m.digest(most)
	p.put(most + "m")
	p.plant(d, most+"m")
	p.plant(zero, most+"m")
	p.same(zero, d)
	is(t, "P403: ErrLong", p.s.Len(), 0)
	is(t, "P409: a Put of too long a blob counts", p.s.Counts(), api.Counts{Puts: 1})
	p.put(most)
	p.plant(zero, most)
	p.get(d)
	p.get(zero)
	p.same(zero)
	is(t, "P403, P407: as long as may be", p.s.Len(), 2)
	is(t, "P407: ErrArg is named ahead of ErrLong", p.s.Plant(api.Digest{0, 0, 1}, []byte(most+"m")), api.ErrArg)
	q := newPair(t, 2, 0)
	_, e := q.s.Put([]byte(most + "m"))
	is(t, "P403: ErrLong is named ahead of ErrFull", e, api.ErrLong)
	is(t, "P407: ErrLong is named ahead of ErrFull", q.s.Plant(zero, []byte(most+"m")), api.ErrLong)
	is(t, "P407: ErrArg is named ahead of ErrFull", q.s.Plant(api.Digest{0, 0, 1}, nil), api.ErrArg)
}

func TestFullOfGreatBlobs(t *testing.T) {
	s := store(t, 32, 1<<26)
	b := make([]byte, 1<<20)
	for i := range 63 {
		is(t, "P407: Plant", s.Plant(api.Digest{byte(i)}, b), api.OK)
	}
	left := 1<<26 - 63*(1<<20+32) - 32
	is(t, "P407: one byte short", s.Plant(api.Digest{63}, b[:left+1]), api.ErrFull)
	is(t, "P407: to the byte", s.Plant(api.Digest{63}, b[:left]), api.OK)
	is(t, "P409: Used", s.Used(), 1<<26)
	is(t, "P409: Len", s.Len(), 64)
}

// blobsOfOneDigest are unlike, and have one digest at the width 1.
func blobsOfOneDigest(m *model) (string, string) {
	met := map[api.Digest]string{}
	for i := range 257 {
		b := string([]byte{byte(i), byte(i >> 8)})
		d := m.digest(b)
		if old, there := met[d]; there {
			return old, b
		}
		met[d] = b
	}
	return "", ""
}

func TestClash(t *testing.T) {
	p := newPair(t, 1, 1000)
	x, y := blobsOfOneDigest(p.m)
	d := p.m.digest(x)
	is(t, "one digest", p.m.digest(y), d)
	p.put(x)
	p.put(y)
	_, e := p.s.Put([]byte(y))
	is(t, "P403: others lie there that are whole", e, api.ErrClash)
	p.m.counts.Puts++
	p.get(d)
	p.same(d)

	p.limit(0)
	_, e = p.s.Put([]byte(y))
	is(t, "P403: ErrClash, however full", e, api.ErrClash)
	p.m.counts.Puts++
	p.limit(1000)

	p.plant(d, y)
	is(t, "P405: as whole as the other", p.s.Whole(d), true)
	p.put(y)
	is(t, "P403: nothing happens", p.s.Stamp(d), 2)
	p.put(x)
	p.same(d)

	p.plant(d, "no")
	p.put(y)
	p.get(d)
	p.evict(d)
	p.put(x)
	p.get(d)
	p.same(d)
}

// At the width 1 there are 256 digests: with many blobs each has all fates.
func TestManyOfFewDigests(t *testing.T) {
	p := newPair(t, 1, 1<<26)
	for i := range 600 {
		b := string([]byte{byte(i), byte(i >> 8)})
		d := p.m.digest(b)
		if i%7 == 0 {
			p.plant(d, b[1:])
		}
		p.put(b)
		p.get(d)
	}
	p.same()
}

// Digests that may not be one of the width: nothing lies there, and they are not taken for their fronts.
func TestBehindTheWidth(t *testing.T) {
	for _, width := range []int{1, 2, 31} {
		p := newPair(t, width, 1000)
		p.put("a")
		for _, at := range []int{width, 31} {
			d := p.m.digest("a")
			d[at] = 1
			p.get(d)
			p.evict(d)
			p.plant(d, "a")
			p.plant(d, "")
			p.same(d)
			is(t, "P407: ErrArg", p.s.Plant(d, []byte("a")), api.ErrArg)
		}
		full := sha256.Sum256([]byte("a"))
		p.get(api.Digest(full))
		p.evict(api.Digest(full))
		p.same(api.Digest(full))
	}
	p := newPair(t, 32, 1000)
	p.plant(api.Digest{31: 255}, "a")
	p.same(api.Digest{31: 255})
	is(t, "P407: all 32 bytes", p.s.Has(api.Digest{31: 255}), true)
}

func TestSpoilt(t *testing.T) {
	p := newPair(t, 2, 1000)
	p.put("a")
	p.put("")
	for _, b := range []string{"", "b", "a\x00", "aa", "A"} {
		p.plant(ofA, b)
		p.same()
		_, e := p.s.Get(ofA)
		is(t, "P404: ErrCorrupt", e, api.ErrCorrupt)
		p.m.counts.Gets++
		if b == "b" {
			p.put("a")
		}
	}
	p.plant(ofA, "a")
	p.get(ofA)
	is(t, "P405: what is planted may be whole", p.s.Whole(ofA), true)
	p.plant(zero, "")
	p.get(zero)
	p.same()
	p.plant(ofNone, "x")
	p.get(ofNone)
	p.put("")
	p.get(ofNone)
	p.same()
}

func TestStamps(t *testing.T) {
	p := newPair(t, 2, 100)
	is(t, "P405: nothing lies there", p.s.Stamp(ofA), 0)
	p.put("a")
	is(t, "the first stamp", p.s.Stamp(ofA), 1)
	p.put("a")
	is(t, "W13: nothing is laid down", p.s.Stamp(ofA), 1)
	p.plant(ofA, "a")
	is(t, "P407: also if it lay there already", p.s.Stamp(ofA), 2)
	p.evict(ofA)
	is(t, "P406: nothing lies there any more", p.s.Stamp(ofA), 0)
	p.put("a")
	is(t, "P406: stamps are not given again", p.s.Stamp(ofA), 3)
	p.plant(ofNone, strings.Repeat("x", 100))
	p.put(strings.Repeat("x", 100))
	p.plant(api.Digest{0, 0, 1}, "")
	p.put("")
	is(t, "P4: what is refused takes no stamp", p.s.Stamp(ofNone), 4)
	p.plant(ofA, "b")
	p.put("a")
	is(t, "P403: laid anew in the place of spoilt bytes", p.s.Stamp(ofA), 6)
	is(t, "P405: another's stamp stays", p.s.Stamp(ofNone), 4)
}

func TestCounts(t *testing.T) {
	s := store(t, 1, 70)
	s.Put([]byte("a"))
	s.Put([]byte("a"))
	s.Put(make([]byte, 100))
	s.Put(make([]byte, 1<<20+1))
	is(t, "P409: Puts", s.Counts(), api.Counts{Puts: 4})
	d := s.Digest([]byte("a"))
	s.Get(d)
	s.Get(api.Digest{1, 2})
	s.Get(api.Digest{1})
	s.Plant(d, nil)
	s.Get(d)
	is(t, "P409: Gets", s.Counts(), api.Counts{Gets: 4, Puts: 4})
	s.Raw(d)
	s.Has(d)
	s.Whole(d)
	s.Stamp(d)
	s.Evict(d)
	s.Limit(9)
	s.Digest(nil)
	s.Plant(d, nil)
	for range s.All() {
	}
	s.Twin().Put(nil)
	is(t, "P409: others do not count", s.Counts(), api.Counts{Gets: 4, Puts: 4})
}

// A Store that nobody made is given no width: no call panics.
func TestStoreThatNobodyMade(t *testing.T) {
	var s cas.Store
	s.Put([]byte("a"))
	s.Plant(zero, nil)
	s.Get(zero)
	s.Raw(zero)
	s.Evict(zero)
	s.Limit(100)
	s.Put([]byte("a"))
	s.Put([]byte("b"))
	for range s.Twin().All() {
	}
}
