package cas_test

import (
	"bytes"
	"crypto/sha256"
	"math/rand/v2"
	"slices"
	"testing"

	"retort/api"
	"retort/cas"
)

// record is one blob of a model.
type record struct {
	d     api.Digest
	b     string
	stamp int
}

// model is what a Store is, told anew: a row of records, all else reckoned from it.
type model struct {
	width, capacity, stamps int
	row                     []record
	counts                  api.Counts
}

func (m *model) digest(b string) api.Digest {
	full := sha256.Sum256([]byte(b))
	var d api.Digest
	copy(d[:], full[:m.width])
	return d
}

func (m *model) at(d api.Digest) int {
	return slices.IndexFunc(m.row, func(x record) bool { return x.d == d })
}

func (m *model) used() int {
	n := 0
	for _, x := range m.row {
		n += len(x.b) + 32
	}
	return n
}

func (m *model) lay(d api.Digest, b string) api.Errno {
	row := slices.Clone(m.row)
	if i := m.at(d); i >= 0 {
		row = slices.Delete(row, i, i+1)
	}
	behind := model{row: append(row, record{d, b, m.stamps + 1})}
	if behind.used() > m.capacity {
		return api.ErrFull
	}
	m.row = behind.row
	m.stamps++
	return api.OK
}

func (m *model) put(b string) (api.Digest, api.Errno) {
	m.counts.Puts++
	if len(b) > 1<<20 {
		return api.Digest{}, api.ErrLong
	}
	d := m.digest(b)
	if i := m.at(d); i >= 0 {
		if m.row[i].b == b {
			return d, api.OK
		}
		if m.digest(m.row[i].b) == d {
			return api.Digest{}, api.ErrClash
		}
	}
	if e := m.lay(d, b); e != api.OK {
		return api.Digest{}, e
	}
	return d, api.OK
}

func (m *model) get(d api.Digest) (string, api.Errno) {
	m.counts.Gets++
	i := m.at(d)
	if i < 0 {
		return "", api.ErrMissing
	}
	if m.digest(m.row[i].b) != d {
		return "", api.ErrCorrupt
	}
	return m.row[i].b, api.OK
}

func (m *model) plant(d api.Digest, b string) api.Errno {
	for _, c := range d[m.width:] {
		if c != 0 {
			return api.ErrArg
		}
	}
	if len(b) > 1<<20 {
		return api.ErrLong
	}
	return m.lay(d, b)
}

func (m *model) evict(d api.Digest) bool {
	i := m.at(d)
	if i >= 0 {
		m.row = slices.Delete(slices.Clone(m.row), i, i+1)
	}
	return i >= 0
}

func (m *model) limit(c int) api.Errno {
	if c < 0 || c > 1<<26 {
		return api.ErrArg
	}
	m.capacity = c
	return api.OK
}

func (m *model) twin() *model {
	w := *m
	w.row = slices.Clone(m.row)
	return &w
}

// sorted is what All tells.
func (m *model) sorted() []record {
	row := slices.Clone(m.row)
	slices.SortFunc(row, func(x, y record) int { return bytes.Compare(x.d[:], y.d[:]) })
	return row
}

// pair is a Store with its model; both are always called alike.
type pair struct {
	t *testing.T
	s *cas.Store
	m *model
}

func newPair(t *testing.T, width, capacity int) pair {
	t.Helper()
	return pair{t, store(t, width, capacity), &model{width: width, capacity: capacity}}
}

func (p pair) put(b string) {
	p.t.Helper()
	d, e := p.s.Put([]byte(b))
	if wd, we := p.m.put(b); d != wd || e != we {
		p.t.Fatalf("P403: Put of %.20q (%d bytes): %x, %v; want %x, %v", b, len(b), d, e, wd, we)
	}
}

func (p pair) get(d api.Digest) {
	p.t.Helper()
	b, e := p.s.Get(d)
	if wb, we := p.m.get(d); string(b) != wb || e != we {
		p.t.Fatalf("P404: Get of %x: %.20q, %v; want %.20q, %v", d, b, e, wb, we)
	}
}

func (p pair) plant(d api.Digest, b string) {
	p.t.Helper()
	if e, we := p.s.Plant(d, []byte(b)), p.m.plant(d, b); e != we {
		p.t.Fatalf("P407: Plant of %.20q (%d bytes) under %x: %v, want %v", b, len(b), d, e, we)
	}
}

func (p pair) evict(d api.Digest) {
	p.t.Helper()
	if was, want := p.s.Evict(d), p.m.evict(d); was != want {
		p.t.Fatalf("P406: Evict of %x: %v", d, was)
	}
}

func (p pair) limit(c int) {
	p.t.Helper()
	if e, we := p.s.Limit(c), p.m.limit(c); e != we {
		p.t.Fatalf("P408: Limit(%d): %v, want %v", c, e, we)
	}
}

func (p pair) twin() pair { return pair{p.t, p.s.Twin(), p.m.twin()} }

// same asks all that a Store tells of itself, and of some digests beside those that it has.
func (p pair) same(others ...api.Digest) {
	p.t.Helper()
	is(p.t, "P401: Width", p.s.Width(), p.m.width)
	is(p.t, "P401, P408: Cap", p.s.Cap(), p.m.capacity)
	is(p.t, "P409: Len", p.s.Len(), len(p.m.row))
	is(p.t, "P409: Used", p.s.Used(), p.m.used())
	is(p.t, "P409: Counts", p.s.Counts(), p.m.counts)
	want := p.m.sorted()
	var got []record
	for d, b := range p.s.All() {
		got = append(got, record{d, string(b), p.s.Stamp(d)})
	}
	if !slices.Equal(got, want) {
		p.t.Fatalf("P409: All: %s, want %s", brief(got), brief(want))
	}
	for _, x := range want {
		others = append(others, x.d)
	}
	for _, d := range others {
		p.sameAt(d)
	}
}

// sameAt asks what lies under d, without Get, which would count.
func (p pair) sameAt(d api.Digest) {
	p.t.Helper()
	var x record
	i := p.m.at(d)
	if i >= 0 {
		x = p.m.row[i]
	}
	b, there := p.s.Raw(d)
	if string(b) != x.b || there != (i >= 0) {
		p.t.Fatalf("P405: Raw of %x: %.20q, %v; want %.20q", d, b, there, x.b)
	}
	is(p.t, "P405: Has", p.s.Has(d), i >= 0)
	is(p.t, "P405: Whole", p.s.Whole(d), i >= 0 && p.m.digest(x.b) == d)
	is(p.t, "P405: Stamp", p.s.Stamp(d), x.stamp)
}

// someBlobs are few, so that calls meet what calls ahead of them left.
func someBlobs() []string {
	row := []string{"", "a", "b", "ab", "\x00"}
	for i := range 40 {
		row = append(row, string(bytes.Repeat([]byte{byte(i)}, i)))
	}
	return row
}

// pick tells a digest of a blob, or one that is no blob's, or one with bytes behind the width.
func pick(r *rand.Rand, p pair, blobs []string) api.Digest {
	d := p.m.digest(blobs[r.IntN(len(blobs))])
	switch r.IntN(8) {
	case 0:
		return api.Digest{byte(r.IntN(256))}
	case 1:
		d[r.IntN(32)] ^= 1 << r.IntN(8)
	}
	return d
}

func oneCall(r *rand.Rand, p pair, blobs []string) {
	b := blobs[r.IntN(len(blobs))]
	d := pick(r, p, blobs)
	switch r.IntN(10) {
	case 0, 1, 2, 3:
		p.put(b)
	case 4, 5:
		p.get(d)
	case 6:
		p.evict(d)
	case 7, 8:
		p.plant(d, b)
	case 9:
		p.limit(r.IntN(500) - 10)
	}
	p.same(d)
}

func TestAnyCalls(t *testing.T) {
	blobs := someBlobs()
	for seed := range uint64(60) {
		r := rand.New(rand.NewPCG(seed, 4))
		row := []pair{newPair(t, []int{1, 1, 2, 31, 32}[r.IntN(5)], r.IntN(600))}
		for range 300 {
			if r.IntN(40) == 0 && len(row) < 4 {
				row = append(row, row[r.IntN(len(row))].twin())
			}
			oneCall(r, row[r.IntN(len(row))], blobs)
		}
		for _, p := range row {
			p.same()
		}
	}
}

// FuzzCalls takes its input as calls, some bytes each.
func FuzzCalls(f *testing.F) {
	f.Add([]byte{0, 5, 0, 6, 1, 5, 2, 5, 3, 5, 0, 5})
	f.Fuzz(func(t *testing.T, script []byte) {
		if len(script) < 2 {
			return
		}
		blobs := someBlobs()
		p := newPair(t, 1+int(script[0])%32, 2*int(script[1]))
		for i := 2; i+2 < len(script); i += 3 {
			b := blobs[int(script[i+1])%len(blobs)]
			d := p.m.digest(blobs[int(script[i+2])%len(blobs)])
			switch script[i] % 6 {
			case 0:
				p.put(b)
			case 1:
				p.get(d)
			case 2:
				p.evict(d)
			case 3:
				p.plant(d, b)
			case 4:
				p.limit(4*int(script[i+1]) - 8)
			case 5:
				d[script[i+1]%32] ^= script[i+2]
				p.plant(d, b)
			}
			p.same(d)
		}
	})
}
