package work_test

import (
	"fmt"
	"math/rand/v2"
	"slices"
	"testing"

	"retort/act"
	"retort/api"
	"retort/cas"
	"retort/tree"
)

// world is a Store in which actions lie, and what they are made of.
type world struct {
	s       *cas.Store
	actions []api.Digest // some are of no action, or lie nowhere yet
	blobs   [][]byte     // what was put, or will be, if an action does it
}

// one is any of the digests, or one that lies there.
func (w *world) one(r *rand.Rand, l []api.Digest) api.Digest {
	if len(l) > 0 && r.IntN(20) > 0 {
		return l[r.IntN(len(l))]
	}
	return w.any(r)
}

func (w *world) any(r *rand.Rand) api.Digest { return w.s.Digest(w.blobs[r.IntN(len(w.blobs))]) }

// drawnProgram ends in some way, most often behind a file that it makes.
func (w *world) drawnProgram(r *rand.Rand) api.Program {
	names := []string{"a", "b", "c/d", "c/e", "f"}
	switch r.IntN(9) {
	case 0:
		return aborts(r.IntN(3))
	case 1:
		return seven()
	case 2:
		return program("func f 0 0 1 | again: jump again")
	case 3, 4: // what it makes is what others need
		return writing(names[r.IntN(5)], w.blobs[r.IntN(len(w.blobs))]...)
	case 5:
		return writingAll(file(names[r.IntN(5)], byte(r.IntN(3))), file(names[r.IntN(5)], w.blobs[r.IntN(len(w.blobs))]...))
	}
	return writing(names[r.IntN(5)], byte(r.IntN(9)))
}

// drawnTree has few items, and few bytes, many of them the same.
func drawnTree(r *rand.Rand) []api.Item {
	var l []api.Item
	for _, p := range []string{"a", "c", "g"} {
		switch r.IntN(3) {
		case 1:
			l = append(l, file(p, byte(r.IntN(3))))
		case 2:
			l = append(l, dir(p))
			if r.IntN(2) == 0 {
				l = append(l, file(p+"/d", byte(r.IntN(3)), 1))
			}
		}
	}
	return l
}

func drawnKeep(r *rand.Rand) []string {
	return [][]string{nil, {""}, {"a"}, {"a", "b", "c"}, {"c/d"}, {"b", "c/d", "f"}, {""}, {"f", "g/d"}}[r.IntN(8)]
}

// drawnWorld has few digests, or many. Of what its actions need some is not there at first, but is what others make.
func drawnWorld(t testing.TB, r *rand.Rand) *world {
	w := &world{s: store(t, []int{1, 1, 2, 32}[r.IntN(4)], 1<<20)}
	w.blobs = [][]byte{dirBytes(), programBytes(seven()), {}, {1}, {2, 1}}
	var programs, roots []api.Digest
	for range 5 {
		b := programBytes(w.drawnProgram(r))
		w.blobs = append(w.blobs, b)
		programs = append(programs, w.s.Digest(b))
		root, l, _ := tree.Build(w.s.Width(), drawnTree(r))
		w.blobs = append(w.blobs, l...)
		roots = append(roots, root)
		a := api.Action{Program: w.one(r, programs), Input: w.one(r, roots), Limits: wide(), Keep: drawnKeep(r), Fresh: r.IntN(4) == 0}
		if r.IntN(4) == 0 {
			a.Limits.Files, a.Limits.Nodes, a.Limits.Fuel = r.IntN(5), 1+r.IntN(5), r.IntN(60)
		}
		b = actionBytes(a)
		w.blobs = append(w.blobs, b)
		w.actions = append(w.actions, w.s.Digest(b))
	}
	for _, b := range w.blobs {
		if r.IntN(16) > 0 {
			w.s.Put(b)
		}
	}
	w.outputs(t, r)
	w.actions = append(w.actions, w.any(r), api.Digest{31: 1})
	return w
}

// outputs makes actions whose trees are what others keep.
func (w *world) outputs(t testing.TB, r *rand.Rand) {
	for _, d := range w.actions[:2] {
		b, e := act.Exec(w.s.Twin(), d)
		x, _ := act.DecodeResult(b)
		if e != api.OK || x.End != api.EHalt {
			continue
		}
		b = actionBytes(api.Action{Program: w.any(r), Input: x.Root, Limits: wide(), Keep: drawnKeep(r)})
		w.s.Put(b)
		w.blobs = append(w.blobs, b)
		w.actions = append(w.actions, w.s.Digest(b))
	}
}

// drawnEvent is something that happens; most often an action is asked for, or done.
func (w *world) drawnEvent(r *rand.Rand, p *pair) api.Event {
	one := func() api.Digest { // what lies there, more often than not
		var l []api.Digest
		for d := range p.m.s.All() {
			l = append(l, d)
		}
		return w.one(r, l)
	}
	switch n := r.IntN(30); {
	case n < 9:
		return ask(w.actions[r.IntN(len(w.actions))])
	case n < 20:
		return pick(r.IntN(len(p.m.queue)+2) - r.IntN(2))
	case n < 23:
		return lay(w.blobs[r.IntN(len(w.blobs))]...)
	case n < 25:
		return evict(one())
	case n < 26:
		d := one()
		b, _ := p.m.s.Raw(d)
		return plant(d, b...)
	case n < 27:
		return plant(one(), w.blobs[r.IntN(len(w.blobs))]...)
	case n < 28:
		return limit([]int{1 << 20, 1 << 20, 0, p.m.s.Used() + r.IntN(99)}[r.IntN(4)])
	}
	return api.Event{Kind: []int{6, 7, 6, 7, 0, 9, -1}[r.IntN(7)], N: r.IntN(3), D: one()}
}

// seen is how often things were met that have to be met.
type seen map[string]int

func (m seen) note(w *pair, from int) {
	for _, a := range w.m.answers[from:] {
		m[a.Err.Error()]++
		if a.Cached {
			m["cached"]++
		}
	}
}

// P2006 behind every event of drawn worlds, and farms between them.
func TestDrawn(t *testing.T) {
	rounds := uint64(400)
	if testing.Short() {
		rounds = 60
	}
	met := seen{}
	for n := range rounds {
		r := seeded(n)
		w := drawnWorld(t, r)
		p := newPair(t, w.s, r.IntN(6))
		var l []api.Event
		for range 60 {
			e := w.drawnEvent(r, p)
			l = append(l, e)
			p.do(e)
		}
		met.note(p, 0)
		played := newPair(t, w.s, p.m.most)
		played.w.Play(l)
		is(t, "P2009: Play", played.said(), p.said())
	}
	if !testing.Short() {
		met.enough(t)
	}
}

func (m seen) enough(t *testing.T) {
	t.Helper()
	t.Log(m)
	for _, what := range []string{"ok", "cached", "missing", "corrupt", "tag", "files", "nodes", "full", "clash"} {
		if m[what] < 10 {
			t.Errorf("%s was met %d times only", what, m[what])
		}
	}
}

// P2008 in drawn worlds, with what was done before a farm and what is done behind it.
func TestDrawnFarms(t *testing.T) {
	rounds := uint64(600)
	if testing.Short() {
		rounds = 80
	}
	met := seen{}
	for n := range rounds {
		r := seeded(1<<20 + n)
		w := drawnWorld(t, r)
		p := newPair(t, w.s, r.IntN(6))
		for range 4 {
			for range r.IntN(12) {
				e := w.drawnEvent(r, p)
				is(t, "P2002", p.w.Do(e), p.m.do(e))
			}
			for range r.IntN(16) {
				e := ask(w.actions[r.IntN(len(w.actions))])
				is(t, "P2002", p.w.Do(e), p.m.do(e))
			}
			from := len(p.m.answers)
			p.farm(1 + r.IntN(8))
			met.note(p, from)
		}
		for range 20 {
			p.do(w.drawnEvent(r, p))
		}
	}
	if !testing.Short() {
		met.enough(t)
	}
}

// Every crew leaves the same behind, its Counts too.
func TestDrawnCrews(t *testing.T) {
	for n := range uint64(60) {
		r := seeded(1<<30 + n)
		w := drawnWorld(t, r)
		cache := r.IntN(4)
		var queue []api.Event
		for range 5 + r.IntN(30) {
			queue = append(queue, ask(w.actions[r.IntN(len(w.actions))]))
		}
		want := ""
		for crew := 1; crew <= 8; crew++ {
			p := newPair(t, w.s, cache)
			p.w.Play(queue)
			l, _ := p.w.Farm(crew)
			said := fmt.Sprint(l) + p.said() + fmt.Sprint(p.w.Store().Counts())
			if crew == 1 {
				want = said
			}
			is(t, fmt.Sprint("P2008: a crew of ", crew), said, want)
		}
	}
}

// FuzzEvents takes each byte as an event in a drawn world, and holds the worker against the model.
func FuzzEvents(f *testing.F) {
	for n := range uint64(20) {
		var b []byte
		r := seeded(n)
		for range 30 {
			b = append(b, byte(r.Int()))
		}
		f.Add(n, b)
	}
	f.Fuzz(func(t *testing.T, n uint64, b []byte) {
		w := drawnWorld(t, seeded(n%1000))
		p := newPair(t, w.s, int(n%5))
		for i, c := range b[:min(len(b), 60)] {
			if c > 240 {
				p.farm(1 + int(c)%8)
				continue
			}
			p.do(w.drawnEvent(seeded(uint64(c)<<8|uint64(i%4)), p))
		}
		if p.w.Farm(1); len(p.w.Queue()) > 0 || slices.ContainsFunc(p.w.Answers(), func(a api.Answer) bool { return a.Err != api.OK && len(a.Result) > 0 }) {
			t.Error("P2005: all is done")
		}
	})
}
