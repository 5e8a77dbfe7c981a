package cas_test

import (
	"bytes"
	"iter"
	"slices"
	"testing"

	"retort/api"
)

// spoil writes all bytes of b, its spare room too.
func spoil(b []byte) {
	b = b[:cap(b)]
	for i := range b {
		b[i] ^= 0xff
	}
}

// roomy has those bytes with spare room behind them.
func roomy(b string) []byte {
	return append(make([]byte, 0, len(b)+40), b...)
}

func TestHandedInIsNotKept(t *testing.T) {
	p := newPair(t, 2, 1000)
	for _, s := range []string{"", "a", "some more bytes than that"} {
		d := p.m.digest(s)
		b := roomy(s)
		p.s.Put(b)
		p.m.put(s)
		spoil(b)
		p.get(d)
		p.same()
		b = roomy(s)
		p.s.Plant(d, b)
		p.m.plant(d, s)
		spoil(b)
		p.get(d)
		p.same()
	}
}

func TestHandedInIsNotChanged(t *testing.T) {
	s := store(t, 2, 1000)
	b := roomy("abc")
	copy(b[3:cap(b)], "behind")
	was := bytes.Clone(b[:cap(b)])
	s.Digest(b)
	s.Put(b)
	s.Put(b)
	s.Plant(ofA, b)
	s.Plant(ofA, b)
	if !bytes.Equal(b[:cap(b)], was) {
		t.Errorf("P2: changed: %q", b[:cap(b)])
	}
}

func TestToldIsNewMemory(t *testing.T) {
	p := newPair(t, 2, 1000)
	p.put("abc")
	p.plant(ofA, "spoilt")
	whole := p.m.digest("abc")
	for range 3 {
		b, _ := p.s.Get(whole)
		c, _ := p.s.Get(whole)
		p.m.counts.Gets += 2
		spoil(b)
		is(t, "P2: two answers", string(c), "abc")
		for _, d := range []api.Digest{whole, ofA} {
			b, _ = p.s.Raw(d)
			spoil(b)
		}
		for _, b := range p.s.All() {
			spoil(b)
		}
		p.same()
		p.get(whole)
	}
}

func TestWhatAllTellsIsNewMemory(t *testing.T) {
	p := newPair(t, 2, 1000)
	p.put("abc")
	p.put("defg")
	p.put("")
	seq := p.s.All()
	var told [][]byte
	for range 2 {
		for _, b := range seq {
			told = append(told, b)
		}
	}
	want := make([]string, len(told))
	for i, b := range told {
		want[i] = string(b)
	}
	for i, b := range told {
		spoil(b)
		for j := i + 1; j < len(told); j++ {
			is(t, "P2: no two lists share memory", string(told[j]), want[j])
		}
	}
	is(t, "P5: ranged over again", texts(seq), texts(p.s.All()))
	p.same()
}

// texts lists what a sequence goes over.
func texts(seq iter.Seq2[api.Digest, []byte]) string {
	var row []byte
	for d, b := range seq {
		row = append(row, d[:]...)
		row = append(row, b...)
		row = append(row, '\n')
		spoil(b)
	}
	return string(row)
}

func TestAllIsInOrder(t *testing.T) {
	p := newPair(t, 32, 1<<20)
	row := []api.Digest{{}, {0, 1}, {0, 255}, {1}, {1, 0, 0, 7}, {127}, {128}, {255}, {255, 31: 1}, {255, 31: 128}}
	for i := range row {
		p.plant(row[(i*7+3)%len(row)], "x")
	}
	var got []api.Digest
	for d := range p.s.All() {
		got = append(got, d)
	}
	if !slices.Equal(got, row) {
		t.Errorf("P409: the order of All: %x", got)
	}
}

func TestAllOfNothing(t *testing.T) {
	s := store(t, 1, 100)
	for range s.All() {
		t.Error("P409: nothing lies there")
	}
	s.Put(nil)
	s.Evict(s.Digest(nil))
	for range s.All() {
		t.Error("P409: nothing lies there any more")
	}
}

func TestAllLeftEarly(t *testing.T) {
	p := newPair(t, 2, 1000)
	for _, b := range []string{"a", "b", "c", "d"} {
		p.put(b)
	}
	seq := p.s.All()
	want := p.m.sorted()
	for stop := range 4 {
		n := 0
		for d, b := range seq {
			if d != want[n].d || string(b) != want[n].b {
				t.Errorf("P5: behind leaving early: %x, %q", d, b)
			}
			if n == stop {
				break
			}
			n++
		}
		is(t, "P5: left early", n, stop)
	}
	is(t, "P5: ranged over again", texts(seq), texts(p.s.All()))
}

func TestAllWithinItself(t *testing.T) {
	p := newPair(t, 2, 1000)
	for _, b := range []string{"a", "b", "c"} {
		p.put(b)
	}
	seq := p.s.All()
	want := texts(p.s.All())
	n := 0
	for range seq {
		is(t, "P5: within itself", texts(seq), want)
		for range seq {
			n++
			break
		}
		n++
	}
	is(t, "P5: around itself", n, 6)
	next, stop := iter.Pull2(seq)
	defer stop()
	for _, x := range p.m.sorted() {
		d, b, ok := next()
		is(t, "P5: while it is pulled", texts(seq), want)
		if d != x.d || string(b) != x.b || !ok {
			t.Errorf("P5: pulled: %x, %q, %v", d, b, ok)
		}
	}
}

func TestStoreChangedMeanwhile(t *testing.T) {
	p := newPair(t, 2, 1000)
	for _, b := range []string{"a", "b", "c"} {
		p.put(b)
	}
	seq := p.s.All()
	want := texts(p.s.All())
	p.evict(ofA)
	p.plant(p.m.digest("b"), "spoilt")
	p.put("new")
	is(t, "P5: what the Store was when it was made", texts(seq), want)
	fresh := p.s.All()
	var got string
	n := 0
	for d, b := range fresh {
		got += string(d[:]) + string(b) + "\n"
		n++
		for _, x := range p.m.sorted() {
			p.evict(x.d)
		}
		p.put(string(bytes.Repeat([]byte("x"), n)))
		p.plant(d, "other")
		p.same(d)
	}
	is(t, "P5: changed while it is ranged over", n, 3)
	is(t, "P5: and again", texts(fresh), got)
	is(t, "P5: the one ahead", texts(seq), want)
	p.same()
}

func TestTwin(t *testing.T) {
	p := newPair(t, 2, 200)
	p.put("a")
	p.get(ofA)
	p.plant(ofNone, "x")
	p.evict(ofNone)
	w := p.twin()
	w.same(ofNone)
	p.put("")
	w.same(ofNone)
	w.put("")
	is(t, "P410: the next stamp", w.s.Stamp(ofNone), 3)
	is(t, "P410: the next stamp of this one", p.s.Stamp(ofNone), 3)
	p.evict(ofA)
	p.limit(0)
	w.get(ofA)
	w.same(ofA, ofNone)
	w.plant(ofA, "other")
	w.limit(90)
	p.same(ofA, ofNone)
	v := w.twin()
	v.evict(ofA)
	w.same(ofA)
	v.same(ofA)
	p.same(ofA)
}

func TestTwinOfNothing(t *testing.T) {
	p := newPair(t, 32, 100)
	w := p.twin()
	w.put("a")
	p.same(p.m.digest("a"))
	p.put("b")
	w.same(p.m.digest("b"))
	p.same(p.m.digest("a"))
}

// A Store and its Twin take turns in the same calls.
func TestTwinInTurns(t *testing.T) {
	p := newPair(t, 1, 2000)
	for _, b := range someBlobs() {
		p.put(b)
	}
	w := p.twin()
	for i, b := range someBlobs() {
		one, other := p, w
		if i%2 == 1 {
			one, other = w, p
		}
		d := one.m.digest(b)
		one.evict(d)
		other.get(d)
		one.plant(d, b+"!")
		other.put(b)
		one.put(b)
		one.same(d)
		other.same(d)
	}
}

// P411: what was put is told, whatever is done under other digests.
func TestFound(t *testing.T) {
	s := store(t, 32, 1<<20)
	d, _ := s.Put([]byte("found"))
	s.Put([]byte("other"))
	s.Plant(zero, []byte("found"))
	s.Plant(s.Digest([]byte("other")), []byte("spoilt"))
	s.Evict(zero)
	s.Evict(s.Digest([]byte("other")))
	s.Limit(0)
	s.Put([]byte("full"))
	for range 2 {
		if b, e := s.Get(d); string(b) != "found" || e != api.OK {
			t.Errorf("P411: Get: %q, %v", b, e)
		}
	}
	s.Limit(1 << 20)
	s.Plant(d, []byte("foun"))
	if b, e := s.Get(d); b != nil || e != api.ErrCorrupt {
		t.Errorf("P411: bytes of another digest: %q, %v", b, e)
	}
}

// P412: only Limit may leave more used than there may be.
func TestNeverAboveCap(t *testing.T) {
	blobs := someBlobs()
	for capacity := range 200 {
		s := store(t, 1, capacity)
		for i := range 100 {
			b := []byte(blobs[i*17%len(blobs)])
			s.Put(b)
			s.Plant(s.Digest([]byte(blobs[i*5%len(blobs)])), b)
			if s.Used() > s.Cap() {
				t.Fatalf("P412: used %d of %d", s.Used(), s.Cap())
			}
		}
		for _, b := range s.All() {
			if d := s.Digest(b); s.Whole(d) {
				if raw, _ := s.Raw(d); bytes.Equal(raw, b) {
					got, e := s.Put(b)
					is(t, "P412: found, however full", e, api.OK)
					is(t, "P412: found", got, d)
				}
			}
		}
	}
}
