package work_test

import (
	"fmt"
	"slices"
	"testing"

	"retort/act"
	"retort/api"
	"retort/cas"
)

// second is the answer to an action that is done, and once more behind what happens between.
func second(t testing.TB, s *cas.Store, d api.Digest, between ...api.Event) (*pair, api.Answer) {
	t.Helper()
	p := newPair(t, s, 2)
	p.do(ask(d))
	p.do(pick(0))
	is(t, "the first answer", p.w.Answers()[0].Err, api.OK)
	for _, e := range between {
		is(t, "P2002: between", p.do(e), api.OK)
	}
	p.do(ask(d))
	p.do(pick(0))
	return p, p.w.Answers()[1]
}

// touched are things that may happen to what lies under a digest, with which its stamp is another one.
func touched(s *cas.Store, d api.Digest) map[string][]api.Event {
	b, there := s.Raw(d)
	l := map[string][]api.Event{
		"evicted": {evict(d)},
		"spoilt":  {plant(d, append(slices.Clone(b), 1)...)},
		"mended":  {plant(d, append(slices.Clone(b), 1)...), lay(b...)},
	}
	if there {
		l["planted"] = []api.Event{plant(d, b...)}
		l["evicted and put"] = []api.Event{evict(d), lay(b...)}
		l["evicted and planted"] = []api.Event{evict(d), plant(d, b...)}
	}
	return l
}

// hangsOn does an action again behind everything that may happen to what lies there: it is done anew just if that hangs on the answer.
func hangsOn(t *testing.T, what string, s *cas.Store, d api.Digest, want []api.Digest) {
	t.Helper()
	first, _ := second(t, s, d)
	after := first.w.Store()
	met := 0
	for x := range after.All() {
		for how, l := range touched(after, x) {
			_, a := second(t, s, d, l...)
			is(t, fmt.Sprintf("P2003: %s: %x %s: Cached", what, x[:4], how), a.Cached, !slices.Contains(want, x))
		}
		b, _ := after.Raw(x)
		_, a := second(t, s, d, lay(b...))
		is(t, fmt.Sprintf("P2003: %s: %x put, which is there: Cached", what, x[:4]), a.Cached, true)
		if slices.Contains(want, x) {
			met++
		}
	}
	is(t, "all of them lie there: "+what, met, len(want))
}

func TestWhatHangs(t *testing.T) {
	s := store(t, 32, 100000)
	put(t, s, 0, 0)
	putTree(t, s, file("of", 1), dir("others"))
	of := func(b ...byte) api.Digest { return s.Digest(b) }
	file1, file2, empty := of(1, 2), of(3), of(dirBytes()...)
	inner := dirBytes(api.Entry{Name: "x", Kind: api.KFile, Digest: file1})
	root := dirBytes(api.Entry{Name: "a", Kind: api.KDir, Digest: of(inner...)}, api.Entry{Name: "b", Kind: api.KFile, Digest: file2}, api.Entry{Name: "e", Kind: api.KDir, Digest: empty})
	input := list(dir("a"), file("a/x", 1, 2), file("b", 3), dir("e"))

	p := writing("o/p", 5, 6)
	d := action(t, s, p, input, "a/x", "o")
	made := dirBytes(api.Entry{Name: "p", Kind: api.KFile, Digest: of(5, 6)})
	out := dirBytes(api.Entry{Name: "a", Kind: api.KDir, Digest: of(inner...)}, api.Entry{Name: "o", Kind: api.KDir, Digest: of(made...)})
	in := digests(d, of(programBytes(p)...), of(root...), of(inner...), file1, file2, empty)
	hangsOn(t, "a run that halts", s, d, append(in, of(out...), of(made...), of(5, 6)))

	d = action(t, s, p, input)
	in[0] = d
	hangsOn(t, "nothing is kept", s, d, in) // the empty directory is its root

	d = action(t, s, aborts(3), input, "a")
	hangsOn(t, "a run that traps", s, d, digests(d, of(programBytes(aborts(3))...), of(root...), of(inner...), file1, file2, empty))
	d = action(t, s, aborts(3), nil, "a")
	hangsOn(t, "a trap without a tree", s, d, digests(d, of(programBytes(aborts(3))...), empty))
}

// The room, and whatever hangs on nothing, are of no weight.
func TestWhatDoesNotHang(t *testing.T) {
	s := store(t, 32, 100000)
	d := action(t, s, writing("out", 1), list(file("in", 2)), "out")
	for i, l := range [][]api.Event{
		nil, {limit(0)}, {limit(1 << 26)}, {limit(0), limit(100000)}, {lay(7, 7)}, {evict(api.Digest{9})}, {plant(api.Digest{9}, 1)},
		{{Kind: api.VTick}}, {{Kind: api.VDraw}, {Kind: api.VDraw, N: 3}}, {lay(1), lay(2)}, {ask(api.Digest{7}), pick(0)},
	} {
		p, a := second(t, s, d, l...)
		is(t, fmt.Sprint("P2003: ", i, ": Cached"), p.w.Answers()[len(p.w.Answers())-1].Cached, true)
		is(t, fmt.Sprint("P2003: ", i, ": Err"), a.Err, p.w.Answers()[1].Err)
	}
}

// A digest that stands as an action's input and as what it keeps, as a file and as a directory, is one digest.
func TestOneDigestAtManyPlaces(t *testing.T) {
	s := store(t, 32, 100000)
	empty := dirBytes()
	d := action(t, s, writing("a/f", empty...), list(dir("b"), file("c", empty...)), "")
	p, a := second(t, s, d)
	is(t, "P2003: Cached", a.Cached, true)
	_, a = second(t, s, d, evict(s.Digest(empty)), lay(empty...))
	is(t, "P2003: evicted and put: Cached", a.Cached, false)
	sameDigests(t, "P2004: Cached", p.w.Cached(), digests(d))
}

// P2007: no answer with an error is held; one that was held is dropped when the action comes to an error.
func TestErrorsAreNotHeld(t *testing.T) {
	s := store(t, 32, 100000)
	d := action(t, s, writing("out", 1, 2), list(file("in", 2)), "out")
	b, _ := s.Raw(d)
	root := s.Digest(dirBytes(api.Entry{Name: "out", Kind: api.KFile, Digest: s.Digest([]byte{1, 2})}))
	deep := api.Action{Program: s.Digest(programBytes(writing("out", 1, 2))), Input: putTree(t, s, dir("a"), dir("a/b"), file("a/b/c")), Limits: wide()}
	deep.Limits.Depth = 1
	over := put(t, s, actionBytes(deep)...)
	p := newPair(t, s, 3)
	does := func(x api.Digest, want api.Errno, cached bool) {
		t.Helper()
		p.do(ask(x))
		p.do(pick(0))
		l := p.w.Answers()
		is(t, "P2003: Err", l[len(l)-1].Err, want)
		is(t, "P2003: Cached", l[len(l)-1].Cached, cached)
	}
	for range 2 {
		does(over, api.ErrDeep, false)
		does(api.Digest{1}, api.ErrMissing, false)
		does(deep.Program, api.ErrTag, false)
		is(t, "P2007: Cached", len(p.w.Cached()), 0)
		does(d, api.OK, false)
		sameDigests(t, "P2007: Cached", p.w.Cached(), digests(d))
		does(d, api.OK, true)
		p.do(plant(d, 1))
		does(d, api.ErrCorrupt, false)
		is(t, "P2007: Cached", len(p.w.Cached()), 0)
		p.do(plant(d, b...))
		does(d, api.OK, false)
		p.do(limit(p.w.Store().Used() - 1))
		does(d, api.OK, true)
		p.do(evict(s.Digest([]byte{1, 2})))
		p.do(evict(root))
		p.do(limit(p.w.Store().Used() + 33))
		does(d, api.ErrFull, false)
		is(t, "P2007: Cached", len(p.w.Cached()), 0)
		does(d, api.ErrFull, false)
		p.do(limit(100000))
		does(d, api.OK, false)
		does(d, api.OK, true)
		p.do(evict(d))
		does(d, api.ErrMissing, false)
		p.do(lay(b...))
	}
}

// An action whose outputs clash with what lies there.
func TestClashIsNotHeld(t *testing.T) {
	s := store(t, 1, 1<<20)
	d, e := api.Digest{}, api.OK
	for i := 0; ; i++ { // the digest of the file that it makes is its program's
		s = store(t, 1, 1<<20)
		p := writing("o", byte(i), byte(i>>8))
		a := api.Action{Program: put(t, s, programBytes(p)...), Limits: wide(), Keep: []string{"o"}}
		if a.Input, e = s.Put(dirBytes()); e != api.OK || s.Digest([]byte{byte(i), byte(i >> 8)}) != a.Program {
			continue
		}
		if d, e = s.Put(actionBytes(a)); e == api.OK {
			break
		}
	}
	p := newPair(t, s, 2)
	for range 2 {
		p.do(ask(d))
		p.do(pick(0))
		l := p.w.Answers()
		is(t, "P2003: Err", l[len(l)-1].Err, api.ErrClash)
		is(t, "P2007: Cached", len(p.w.Cached()), 0)
	}
	for crew := 1; crew <= 8; crew++ {
		p.do(ask(d))
		p.do(ask(d))
		p.farm(crew)
	}
}

func TestFresh(t *testing.T) {
	s := store(t, 32, 100000)
	d := fresh(t, s, writing("out", 1), list(file("in", 2)), "out")
	other := action(t, s, writing("out", 1), list(file("in", 2)), "out")
	for _, cache := range []int{0, 1, 64} {
		p := newPair(t, s, cache)
		for i := range 4 {
			p.do(ask(d))
			p.do(pick(0))
			a := p.w.Answers()[i]
			is(t, "P2003: a fresh one", a.Err, api.OK)
			is(t, "P2003: a fresh one", a.Cached, false)
			is(t, "P2003: a fresh one", len(p.w.Cached()), 0)
		}
		p.do(ask(other))
		p.do(pick(0))
		p.do(ask(d))
		p.do(pick(0))
		is(t, "P2003: beside one that is not", len(p.w.Cached()), min(cache, 1))
	}
}

// Under one digest there may lie an action that is fresh and, later, one that is not.
func TestFreshInThePlaceOfAnother(t *testing.T) {
	s := store(t, 1, 1<<20)
	a := api.Action{Program: put(t, s, programBytes(seven())...), Limits: wide()}
	a.Input, _ = s.Put(dirBytes())
	met := map[api.Digest][]byte{}
	for i := 0; ; i++ {
		a.Limits.Fuel, a.Fresh = 10+i/2, i%2 == 0
		b := actionBytes(a)
		d := s.Digest(b)
		if d == a.Program || d == a.Input {
			continue
		}
		other, there := met[d]
		met[d] = b
		if !there || slices.Equal(other[len(other)-1:], b[len(b)-1:]) {
			continue
		}
		p := newPair(t, s, 4)
		for _, c := range [][]byte{b, other, b, other} {
			is(t, "P2002: VPlant", p.do(plant(d, c...)), api.OK)
			for range 2 {
				p.do(ask(d))
				p.do(pick(0))
				l := p.w.Answers()
				is(t, "P2003: Err", l[len(l)-1].Err, api.OK)
			}
			is(t, "P2003: Cached", len(p.w.Cached()), 1-int(c[len(c)-1]))
		}
		return
	}
}

// The one that was used longest ago goes: held anew, and answered from, are used.
func TestUsedLongestAgo(t *testing.T) {
	s := store(t, 32, 100000)
	var l []api.Digest
	for i := range 5 {
		l = append(l, action(t, s, aborts(i), nil))
	}
	program := func(i int) []byte { return programBytes(aborts(i)) }
	p := newPair(t, s, 3)
	does := func(i int, cached bool, want ...int) {
		t.Helper()
		p.do(ask(l[i]))
		p.do(pick(0))
		a := p.w.Answers()
		is(t, fmt.Sprint("P2003: action ", i, ": Cached"), a[len(a)-1].Cached, cached)
		var row []api.Digest
		for _, j := range want {
			row = append(row, l[j])
		}
		sameDigests(t, "P2004: Cached", p.w.Cached(), row)
	}
	does(0, false, 0)
	does(1, false, 0, 1)
	does(2, false, 0, 1, 2)
	does(0, true, 1, 2, 0)
	does(3, false, 2, 0, 3)
	does(2, true, 0, 3, 2)
	does(1, false, 3, 2, 1)
	p.do(plant(s.Digest(program(3)), program(3)...))
	does(3, false, 2, 1, 3) // held anew
	does(0, false, 1, 3, 0)
	p.do(evict(s.Digest(program(3))))
	does(3, false, 1, 0) // an error
	does(4, false, 1, 0, 4)
	does(1, true, 0, 4, 1)
	does(1, true, 0, 4, 1)
	p.do(lay(program(3)...))
	does(3, false, 4, 1, 3)
	does(0, false, 1, 3, 0)
}

// A cached answer asks the Store for nothing that Counts count, nor does it look at anything but stamps.
func TestCachedAsksNothing(t *testing.T) {
	s := store(t, 32, 100000)
	d := action(t, s, writing("out", 1), list(file("in", 2)), "out")
	w := worker(t, s, 1)
	w.Play([]api.Event{ask(d), pick(0)})
	was := w.Store().Counts()
	for range 5 {
		w.Play([]api.Event{ask(d), pick(0)})
	}
	w.Play([]api.Event{ask(d), ask(d), ask(d)})
	l, e := w.Farm(3)
	is(t, "P2005: Farm", e, api.OK)
	for _, a := range append(l, w.Answers()[1:]...) {
		is(t, "P2003: Cached", a.Cached, true)
	}
	is(t, "P2003: Counts", w.Store().Counts(), was)
	is(t, "P2001: the Store is the worker's own", s.Counts(), was)
}

// Without a cache, and of a fresh action, nothing is asked but what Exec asks.
func TestWithoutACacheNothingIsLookedFor(t *testing.T) {
	for _, cache := range []int{0, 1} {
		s := store(t, 32, 100000)
		d := fresh(t, s, writing("out", 1), list(file("in", 2)), "out")
		if cache == 0 {
			d = action(t, s, writing("out", 1), list(file("in", 2)), "out")
		}
		w := worker(t, s, cache)
		twin := w.Store()
		_, e := act.Exec(twin, d)
		is(t, "P1906", e, api.OK)
		w.Play([]api.Event{ask(d), pick(0)})
		is(t, "P2003: Counts", w.Store().Counts(), twin.Counts())
	}
}

// A run that trapped has no root: what lies under the zero Digest does not hang on it.
func TestTrapHasNoRoot(t *testing.T) {
	s := store(t, 1, 1<<20)
	b := dirBytes()
	for i := 0; s.Digest(b) != (api.Digest{}); i++ {
		b = dirBytes(api.Entry{Name: fmt.Sprint("empty", i), Kind: api.KDir, Digest: s.Digest(dirBytes())})
	}
	put(t, s, b...)
	d := action(t, s, aborts(3), nil, "a")
	p, a := second(t, s, d, evict(api.Digest{}))
	is(t, "P2003: Cached", a.Cached, true)
	p.do(lay(b...))
	p.do(ask(d))
	p.farm(1)
	is(t, "P2003: Cached", p.w.Answers()[2].Cached, true)
	q := newPair(t, s, 1)
	q.do(ask(d))
	q.farm(1)
	q.do(evict(api.Digest{}))
	q.do(ask(d))
	q.farm(1)
	is(t, "P2003: Cached, of a farm", q.w.Answers()[1].Cached, true)
}
