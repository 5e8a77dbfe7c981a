package work_test

import (
	"bytes"
	"fmt"
	"slices"
	"testing"

	"retort/api"
	"retort/work"
)

// roomy has that list with spare room behind it, in which something lies too.
func roomy[T any](l []T, spare T) []T {
	more := append(make([]T, 0, len(l)+3), l...)
	for i := len(l); i < cap(more); i++ {
		more[:cap(more)][i] = spare
	}
	return more
}

func whole[T any](l []T) []T { return l[:cap(l)] }

func spoil[T any](l []T, x T) {
	l = whole(l)
	for i := range l {
		l[i] = x
	}
}

func spoilAnswers(l []api.Answer) {
	for _, a := range whole(l) {
		spoil(a.Result, 99)
	}
	spoil(l, api.Answer{Action: api.Digest{9}, Err: 9, Cached: true})
}

// some is a worker with answers of every kind, a queue and a cache; and its model.
func some(t *testing.T) (*pair, api.Digest) {
	t.Helper()
	s := store(t, 32, 100000)
	d := action(t, s, writing("out", 1, 2), list(file("in", 3)), "out")
	p := newPair(t, s, 3)
	for _, e := range []api.Event{ask(d), ask(api.Digest{1}), ask(d), pick(0), pick(0), pick(0), ask(d), ask(d), pick(0), ask(api.Digest{2}), ask(d)} {
		p.do(e)
	}
	return p, d
}

func TestHandedInIsNotChangedNorKept(t *testing.T) {
	s := store(t, 32, 100000)
	d := action(t, s, writing("out", 1, 2), nil, "out")
	other := s.Digest([]byte("planted"))
	for _, byPlay := range []bool{false, true} {
		p := newPair(t, s, 2)
		var l []api.Event
		for _, e := range []api.Event{lay([]byte("some bytes")...), plant(other, []byte("planted")...), plant(d, 1, 2, 3), ask(d), pick(0), lay(actionOf(t, p, d)...), ask(d), pick(0)} {
			e.B = roomy(e.B, 77)
			l = append(l, e)
		}
		l = roomy(l, api.Event{Kind: api.VLimit})
		image := func() string {
			said := fmt.Sprint(whole(l))
			for _, e := range l {
				said += fmt.Sprint(whole(e.B))
			}
			return said
		}
		was := image()
		for _, e := range l {
			p.m.do(e)
		}
		if byPlay {
			p.w.Play(l)
		} else {
			for _, e := range l {
				p.w.Do(e)
			}
		}
		is(t, "P2: handed in", image(), was)
		for _, e := range l {
			spoil(e.B, 200)
		}
		spoil(l, api.Event{})
		p.same("P2: not kept")
		p.do(ask(d))
		p.do(pick(0))
	}
}

func actionOf(t *testing.T, p *pair, d api.Digest) []byte {
	t.Helper()
	b, there := p.w.Store().Raw(d)
	is(t, "it lies there", there, true)
	return b
}

func TestToldIsNewMemory(t *testing.T) {
	p, d := some(t)
	for range 3 {
		l, told := p.w.Answers(), p.w.Answers()
		spoilAnswers(l)
		sameAnswers(t, "P2: two answers of Answers", told, p.m.answers)
		queue, cached := p.w.Queue(), p.w.Cached()
		spoil(p.w.Queue(), api.Digest{9})
		spoil(p.w.Cached(), api.Digest{9})
		sameDigests(t, "P2: two answers of Queue", queue, p.m.queue)
		sameDigests(t, "P2: two answers of Cached", cached, p.m.cached())
		p.same("P2: the worker's own")
		p.do(pick(0)) // the cached bytes are still the same
		p.do(ask(d))
	}
	l := p.w.Play([]api.Event{ask(d), pick(99), ask(d)})
	p.m.do(ask(d))
	p.m.do(ask(d))
	other := p.w.Play([]api.Event{pick(99), pick(99), pick(99)})
	spoil(other, 7)
	is(t, "P2: two answers of Play", fmt.Sprint(l), fmt.Sprint([]api.Errno{0, api.ErrArg, 0}))
}

// Many answers of one action: their bytes are the same, their memory is not.
func TestNoTwoListsShareMemory(t *testing.T) {
	for crew := range 4 {
		p, d := some(t)
		for range 5 {
			p.do(ask(d))
		}
		l := p.w.Answers()
		if crew > 0 {
			l, _ = p.w.Farm(crew)
			p.m.farm()
		}
		for i := range l {
			want := make([][]byte, len(l))
			for j, a := range l {
				want[j] = bytes.Clone(whole(a.Result))
			}
			spoil(l[i].Result, byte(100+i))
			for j, a := range l {
				if j != i {
					sameBytes(t, fmt.Sprint("P2: answers ", i, " and ", j), whole(a.Result), want[j])
				}
			}
		}
		p.same("P2: the worker's own answers")
	}
}

func TestFarmIsApart(t *testing.T) {
	p, d := some(t)
	for crew := 1; crew <= 8; crew++ {
		queue := p.w.Queue()
		l, _ := p.w.Farm(crew)
		want := p.m.farm()
		sameAnswers(t, "P2005: Farm", l, want)
		spoilAnswers(l)
		spoil(queue, api.Digest{9})
		p.same("P2: Farm's answers are not the worker's")
		for range 2 {
			p.do(ask(d))
		}
		p.do(pick(0))
	}
}

// The Store that Store tells is apart, and so is each from the others.
func TestStoreIsApart(t *testing.T) {
	p, d := some(t)
	counts := p.w.Store().Counts()
	s, other := p.w.Store(), p.w.Store()
	was := lying(other)
	for x := range other.All() {
		s.Plant(x, []byte("spoilt"))
	}
	s.Get(d)
	s.Put([]byte{1, 2, 3, 4})
	s.Evict(d)
	s.Limit(5)
	p.same("P2004: a Twin")
	is(t, "P7: two Twins", lying(other), was)
	is(t, "P2004: Counts", p.w.Store().Counts(), counts)
	is(t, "P2004: the Counts are the Store's", p.w.Store().Counts() == api.Counts{}, false)
	p.do(pick(0))
	is(t, "P2004: it is as it was", lying(other), was)
	is(t, "P410: a Twin's next stamp", next(p.w), next(p.w))
}

// next is the stamp that a Twin gives next.
func next(w *work.Worker) int {
	s := w.Store()
	s.Limit(1 << 26)
	s.Put([]byte("not there yet"))
	return s.Stamp(s.Digest([]byte("not there yet")))
}

// Two workers over twins of one Store are apart.
func TestWorkersAreApart(t *testing.T) {
	s := store(t, 32, 100000)
	d := action(t, s, writing("out", 1, 2), list(file("in", 3)), "out")
	one, two := newPair(t, s, 2), newPair(t, s, 2)
	one.do(ask(d))
	one.do(pick(0))
	two.same("P7: the other one")
	two.do(ask(d))
	two.do(pick(0))
	is(t, "P7: not the other one's cache", two.w.Answers()[0].Cached, false)
	one.do(ask(d))
	one.do(ask(d))
	two.do(ask(d))
	one.farm(2)
	two.farm(3)
	is(t, "P3: the same answers", slices.EqualFunc(one.w.Answers()[:2], two.w.Answers(), sameAnswer), true)
}
