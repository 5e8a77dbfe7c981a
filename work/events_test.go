package work_test

import (
	"fmt"
	"math"
	"testing"

	"retort/api"
	"retort/cas"
	"retort/work"
)

func TestNew(t *testing.T) {
	for _, e := range []struct {
		cache int
		want  api.Errno
	}{{math.MinInt, api.ErrArg}, {-1, api.ErrArg}, {0, api.OK}, {1, api.OK}, {63, api.OK}, {64, api.OK}, {65, api.ErrArg}, {math.MaxInt, api.ErrArg}} {
		s := store(t, 32, 1000)
		put(t, s, 1, 2)
		was := lying(s)
		w, got := work.New(s, e.cache)
		is(t, fmt.Sprintf("P2001: New with %d", e.cache), got, e.want)
		is(t, fmt.Sprintf("P2001: the Store, New with %d", e.cache), lying(s), was)
		is(t, "P2001: New asks nothing", s.Counts(), api.Counts{Puts: 1})
		if e.want != api.OK {
			is(t, "P4: a worker beside an error", w, nil)
			continue
		}
		is(t, "P2001: no actions", len(w.Queue()), 0)
		is(t, "P2001: no answers", len(w.Answers()), 0)
		is(t, "P2001: an empty cache", len(w.Cached()), 0)
		is(t, "P2004: Store", lying(w.Store()), was)
		is(t, "P2004: Store", w.Store().Counts(), api.Counts{Puts: 1})
	}
}

// The cache holds as many answers as New was handed.
func TestCacheSizes(t *testing.T) {
	for _, cache := range []int{0, 1, 2, 63, 64} {
		s := store(t, 32, 1<<20)
		var l []api.Digest
		for i := range 66 {
			l = append(l, action(t, s, aborts(i), nil))
		}
		p := newPair(t, s, cache)
		for _, d := range l {
			is(t, "P2002: VDo", p.w.Do(ask(d)), p.m.do(ask(d)))
			is(t, "P2002: VPick", p.w.Do(pick(0)), p.m.do(pick(0)))
		}
		p.same(fmt.Sprint("a cache of ", cache))
		sameDigests(t, "P2003: those used last", p.w.Cached(), l[66-cache:])
	}
}

func TestQueue(t *testing.T) {
	s := store(t, 2, 1000)
	p := newPair(t, s, 1)
	at := func(i int) api.Digest { return api.Digest{byte(i), byte(i >> 8), 31: 1} } // any digest may wait
	for i := range 256 {
		is(t, "P2002: VDo", p.w.Do(ask(at(i))), api.OK)
		p.m.do(ask(at(i)))
	}
	p.same("256 wait")
	for range 2 {
		is(t, "P2002: VDo of the 257th", p.do(ask(at(256))), api.ErrQueue)
	}
	for _, n := range []int{256, 257, -1, math.MaxInt, math.MinInt} {
		is(t, "P2002: VPick of no place", p.do(pick(n)), api.ErrArg)
	}
	for _, n := range []int{255, 0, 17, 252, 100, 0, 249} {
		is(t, "P2002: VPick", p.do(pick(n)), api.OK)
	}
	is(t, "P2002: VPick behind the last", p.do(pick(249)), api.ErrArg)
	for i := range 7 {
		is(t, "P2002: VDo where some were taken", p.do(ask(at(300+i))), api.OK)
	}
	is(t, "P2002: VDo of one too many", p.do(ask(at(400))), api.ErrQueue)
	is(t, "P2004: Queue", len(p.w.Queue()), 256)
}

func TestPickOfNothing(t *testing.T) {
	p := newPair(t, store(t, 32, 1000), 1)
	for _, n := range []int{0, 1, -1} {
		is(t, "P2002: VPick of an empty queue", p.do(pick(n)), api.ErrArg)
	}
	p.do(ask(api.Digest{1}))
	is(t, "P2002: VPick of 1 with one that waits", p.do(pick(1)), api.ErrArg)
	is(t, "P2002: VPick of -1 with one that waits", p.do(pick(-1)), api.ErrArg)
	is(t, "P2002: VPick answers OK whatever it came to", p.do(pick(0)), api.OK)
	is(t, "P2003: the answer", p.w.Answers()[0].Err, api.ErrMissing)
}

// The events about the Store answer what the Store answers.
func TestForeignHands(t *testing.T) {
	p := newPair(t, store(t, 2, 300), 1)
	a, empty := p.m.s.Digest([]byte("a")), p.m.s.Digest(nil)
	for _, x := range []struct {
		e    api.Event
		want api.Errno
	}{
		{lay('a'), api.OK}, {lay('a'), api.OK}, {lay(make([]byte, 1<<20+1)...), api.ErrLong}, {lay(make([]byte, 300)...), api.ErrFull}, {lay(), api.OK},
		{plant(a, 'b'), api.OK}, {plant(a, 'b'), api.OK}, {lay('a'), api.OK}, {plant(api.Digest{2: 1}, 1), api.ErrArg}, {plant(a, make([]byte, 1<<20+1)...), api.ErrLong},
		{plant(a, make([]byte, 300)...), api.ErrFull}, {plant(api.Digest{7}), api.OK}, {plant(api.Digest{7, 7}, 7, 7), api.OK},
		{evict(empty), api.OK}, {evict(empty), api.OK}, {evict(api.Digest{31: 3}), api.OK},
		{limit(-1), api.ErrArg}, {limit(1<<26 + 1), api.ErrArg}, {limit(1 << 26), api.OK}, {lay(make([]byte, 300)...), api.OK}, {limit(0), api.OK}, {lay(1), api.ErrFull}, {lay('a'), api.OK}, {limit(math.MinInt), api.ErrArg},
		{api.Event{Kind: api.VTick, N: -5, D: a, B: []byte{1}}, api.OK}, {api.Event{Kind: api.VDraw, N: 1 << 40, D: empty, B: []byte{2}}, api.OK},
	} {
		is(t, fmt.Sprintf("P2002: %d", x.e.Kind), p.do(x.e), x.want)
	}
	p.m.s.Limit(1000)
	p.w.Do(limit(1000))
	for i := range 700 { // at this width some of them clash
		p.do(lay(byte(i), byte(i>>8), 9))
		p.do(evict(api.Digest{byte(i)}))
	}
}

// Blobs of one digest.
func TestClash(t *testing.T) {
	p := newPair(t, store(t, 1, 1<<20), 1)
	clashes := 0
	for i := range 400 {
		if p.do(lay(byte(i), byte(i>>8))) == api.ErrClash {
			clashes++
		}
	}
	if clashes < 100 {
		t.Errorf("P2002: %d clashes", clashes)
	}
}

func TestKinds(t *testing.T) {
	s := store(t, 32, 1000)
	d := action(t, s, seven(), nil)
	for _, kind := range []int{0, 9, 10, -1, -8, 258, math.MaxInt, math.MinInt} {
		p := newPair(t, s, 1)
		p.do(ask(d))
		is(t, fmt.Sprint("P2002: the kind ", kind), p.do(api.Event{Kind: kind, D: d, B: []byte{1}}), api.ErrArg)
	}
}

// Of an event just the fields that its kind names are looked at.
func TestOtherFields(t *testing.T) {
	s := store(t, 32, 100000)
	d := action(t, s, seven(), nil, "a")
	other := put(t, s, 9, 9)
	long := make([]byte, 1<<20+1)
	l := []api.Event{
		{Kind: api.VDo, D: d, N: 77, B: long},
		{Kind: api.VDo, D: d, N: -1, B: []byte{9, 9}},
		{Kind: api.VPick, N: 1, D: other, B: long},
		{Kind: api.VPut, B: []byte{5}, D: api.Digest{31: 1}, N: -7},
		{Kind: api.VPlant, D: other, B: []byte{4}, N: -7},
		{Kind: api.VEvict, D: other, N: -7, B: long},
		{Kind: api.VLimit, N: 90000, D: other, B: long},
		{Kind: api.VTick, N: math.MinInt, D: d, B: long},
		{Kind: api.VDraw, N: math.MaxInt, D: d, B: long},
		{Kind: api.VPick, N: 0, D: other, B: long},
	}
	p := newPair(t, s, 1)
	for i, e := range l {
		is(t, fmt.Sprint("P2002: other fields, event ", i), p.do(e), api.OK)
	}
	is(t, "P2003: the second answer", p.w.Answers()[1].Cached, true)
}

// P2004 and P2009: Play is Do of each, also behind errors.
func TestPlay(t *testing.T) {
	s := store(t, 32, 100000)
	d := action(t, s, writing("a", 1, 2), list(file("b", 3)), "a", "b")
	l := []api.Event{ask(d), pick(1), pick(0), {Kind: 99}, ask(d), limit(-1), pick(0), evict(d), ask(d), pick(0), lay(1, 2, 3), pick(0), ask(d)}
	want := []api.Errno{api.OK, api.ErrArg, api.OK, api.ErrArg, api.OK, api.ErrArg, api.OK, api.OK, api.OK, api.OK, api.OK, api.ErrArg, api.OK}
	for n := range len(l) + 1 {
		p := newPair(t, s, 1)
		for _, e := range l[:n] {
			p.m.do(e)
		}
		got := p.w.Play(l[:n])
		is(t, "P2004: Play", fmt.Sprint(got), fmt.Sprint(want[:n]))
		p.same("P2009: Play")
		one := newPair(t, s, 1)
		for i, e := range l[:n] {
			is(t, "P2009: one by one", one.do(e), want[i])
		}
		is(t, "P2009: Play and one by one", p.said(), one.said())
		is(t, "P2009: Counts", p.w.Store().Counts(), one.w.Store().Counts())
	}
	is(t, "P2004: Play of nothing", len(worker(t, s, 0).Play(nil)), 0)
}

// P1: a worker that nobody made, and one whose Store nobody made: the calls end all the same.
func TestNobodysWorker(t *testing.T) {
	other, e := work.New(new(cas.Store), 2)
	is(t, "P2001: New", e, api.OK)
	for _, w := range []*work.Worker{new(work.Worker), other} {
		for range 2 {
			for kind := -1; kind < 10; kind++ {
				w.Do(api.Event{Kind: kind, N: 1000, B: []byte{1}})
				w.Do(api.Event{Kind: kind, B: []byte{3}})
			}
			for _, d := range []api.Digest{{}, {1}} {
				is(t, "P1: VDo", w.Do(ask(d)), api.OK)
				is(t, "P1: VPick", w.Do(pick(len(w.Queue())-1)), api.OK)
				is(t, "P1: VDo", w.Do(ask(d)), api.OK)
			}
			for crew := 1; crew <= 8; crew++ {
				_, e := w.Farm(crew)
				is(t, "P1: Farm", e, api.OK)
			}
			for _, x := range w.Answers() {
				if x.Err == api.OK {
					t.Errorf("P1: %+v", x)
				}
			}
		}
		is(t, "P1: Cached", len(w.Cached()), 0)
		is(t, "P1: Queue", len(w.Queue()), 0)
		is(t, "P1: Store", w.Store().Width(), 0)
	}
}

func TestExamples(t *testing.T) {
	s := store(t, 32, 100000)
	x := action(t, s, writing("out", 1, 2, 3), list(file("in", 9)), "out")
	y := action(t, s, seven(), nil, "a", "b/c")
	program := s.Digest(programBytes(writing("out", 1, 2, 3)))
	twice := func(cache int, between ...api.Event) (*pair, api.Answer) {
		p := newPair(t, s, cache)
		for _, e := range append([]api.Event{ask(x), ask(x), pick(0)}, between...) {
			is(t, "P2002", p.do(e), api.OK)
		}
		p.do(pick(0))
		l := p.w.Answers()
		is(t, "two answers", len(l), 2)
		return p, l[1]
	}
	_, a := twice(0)
	is(t, "example 1: without a cache", a.Cached, false)
	is(t, "example 1: without a cache", a.Err, api.OK)
	_, a = twice(1)
	is(t, "example 2: the second one", a.Cached, true)
	p, a := twice(1, evict(program))
	is(t, "example 2: without the program", a.Err, api.ErrMissing)
	is(t, "example 2: without the program", len(a.Result), 0)
	is(t, "example 2: Cached", len(p.w.Cached()), 0)
	p, a = twice(1, evict(s.Digest([]byte{1, 2, 3})))
	is(t, "example 3: without the kept file", a.Cached, false)
	is(t, "example 3: without the kept file", a.Err, api.OK)
	is(t, "example 3: it lies there again", p.w.Store().Whole(s.Digest([]byte{1, 2, 3})), true)
	_, a = twice(1, plant(program, programBytes(writing("out", 1, 2, 3))...))
	is(t, "example 3: the very program planted", a.Cached, false)
	is(t, "example 3: the very program planted", a.Err, api.OK)
	p = newPair(t, s, 1)
	for _, d := range digests(x, y, x) {
		p.do(ask(d))
		p.do(pick(0))
	}
	for i, a := range p.w.Answers() {
		is(t, fmt.Sprint("example 4: answer ", i), a.Cached, false)
	}
	sameDigests(t, "example 4: Cached", p.w.Cached(), digests(x))
}
