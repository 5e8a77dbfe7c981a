package work_test

import (
	"fmt"
	"math"
	"runtime"
	"slices"
	"testing"
	"time"

	"retort/act"
	"retort/api"
	"retort/cas"
)

// farmed has a queue done by every crew, each over a twin of the Store, and holds it against one action behind the other; then once more, with what is cached by then. It tells the first answers.
func farmed(t *testing.T, what string, s *cas.Store, cache int, queue ...api.Digest) []api.Answer {
	t.Helper()
	var told []api.Answer
	for crew := 1; crew <= 8; crew++ {
		p := newPair(t, s, cache)
		for range 2 {
			for _, d := range queue {
				is(t, "P2002: VDo: "+what, p.w.Do(ask(d)), p.m.do(ask(d)))
			}
			p.farm(crew)
		}
		told = p.w.Answers()[:len(queue)]
	}
	return told
}

func TestCrew(t *testing.T) {
	s := store(t, 32, 100000)
	d := action(t, s, seven(), nil, "a")
	for _, queue := range [][]api.Digest{nil, {d}, {d, {1}, d}} {
		p := newPair(t, s, 1)
		for _, x := range queue {
			p.do(ask(x))
		}
		for _, crew := range []int{0, -1, 9, 10, math.MaxInt, math.MinInt} {
			was, counts := p.said(), p.w.Store().Counts()
			l, e := p.w.Farm(crew)
			is(t, fmt.Sprint("P2005: a crew of ", crew), e, api.ErrArg)
			is(t, "P4: answers beside an error", len(l), 0)
			is(t, "P4: an error changes nothing", p.said(), was)
			is(t, "P4: an error changes nothing", p.w.Store().Counts(), counts)
		}
		for crew := 1; crew <= 8; crew++ {
			p.farm(crew)
		}
	}
}

func TestFarmOfNothing(t *testing.T) {
	p := newPair(t, store(t, 32, 1000), 1)
	for crew := 1; crew <= 8; crew++ {
		l, e := p.w.Farm(crew)
		is(t, "P2005: Farm of nothing", e, api.OK)
		is(t, "P2005: Farm of nothing", len(l), 0)
		p.same("Farm of nothing")
	}
}

func TestFarmOfMany(t *testing.T) {
	s := store(t, 32, 1<<20)
	var l []api.Digest
	for i := range 20 {
		l = append(l, action(t, s, writing(fmt.Sprint("out", i), 1, byte(i)), list(file("in", byte(i/3))), fmt.Sprint("out", i)))
	}
	l = append(l, action(t, s, aborts(3), nil), action(t, s, seven(), nil, "a"), api.Digest{1}, fresh(t, s, seven(), nil), put(t, s, 3), l[0], l[0], l[7])
	for _, cache := range []int{0, 1, 3, 64} {
		farmed(t, fmt.Sprint("a cache of ", cache), s, cache, l...)
	}
}

// 256 of one action: what is cached, and what is not.
func TestFarmOfTheSame(t *testing.T) {
	s := store(t, 32, 1<<20)
	d := action(t, s, writing("out", 1, 2), nil, "out")
	f := fresh(t, s, writing("out", 1, 2), nil, "out")
	for cache := range 2 {
		for _, x := range digests(d, f, api.Digest{1}) {
			p := newPair(t, s, cache)
			for range 256 {
				p.w.Do(ask(x))
				p.m.do(ask(x))
			}
			is(t, "P2002: the 257th", p.w.Do(ask(x)), api.ErrQueue)
			was := p.w.Store().Counts()
			p.farm(5)
			is(t, "P2005: 256 answers", len(p.w.Answers()), 256)
			twin := s.Twin()
			act.Exec(twin, x)
			is(t, "what is the same is run once", counted(p.w.Store(), was).Gets, counted(twin, s.Counts()).Gets)
		}
	}
}

// What one action puts the next one needs: its program, its tree, a file of it, the action itself.
func TestChains(t *testing.T) {
	s := store(t, 32, 1<<20)
	empty := put(t, s, dirBytes()...)
	made := programBytes(writing("z", 5, 5))
	twig := dirBytes(api.Entry{Name: "w", Kind: api.KFile, Digest: s.Digest([]byte{8, 8})})
	makesProgram := action(t, s, writing("p", made...), nil, "p")
	makesTwig := action(t, s, writing("t", twig...), nil, "t")
	makesFile := action(t, s, writing("f", 8, 8), nil, "f")
	a := api.Action{Program: s.Digest(made), Input: empty, Limits: wide(), Keep: []string{"z"}}
	byProgram := put(t, s, actionBytes(a)...)
	a.Input = s.Digest(twig)
	a.Keep = []string{"w"}
	byTwig := put(t, s, actionBytes(a)...)
	a.Limits.Fuel++
	hidden := actionBytes(a)
	makesAction := action(t, s, writing("a", hidden...), nil, "a")
	all := digests(makesProgram, byProgram, makesTwig, makesFile, byTwig, makesAction, s.Digest(hidden))

	l := farmed(t, "in their order", s, 2, all...)
	for i, x := range l {
		is(t, fmt.Sprint("in their order: ", i), x.Err, api.OK)
	}
	slices.Reverse(all)
	l = farmed(t, "the other way round", s, 2, all...)
	missing := 0
	for _, x := range l {
		if x.Err == api.ErrMissing {
			missing++
		}
	}
	is(t, "the other way round: what is missing", missing, 3)
	farmed(t, "twice", s, 64, slices.Concat(all, all, all)...)
	r := seeded(1)
	for range 40 {
		var queue []api.Digest
		for range 20 {
			queue = append(queue, all[r.IntN(len(all))])
		}
		farmed(t, "drawn", s, r.IntN(5), queue...)
	}
}

// What was spoilt one action mends: the next one finds it whole.
func TestMended(t *testing.T) {
	s := store(t, 32, 1<<20)
	needs := action(t, s, seven(), list(file("in", 1, 2, 3)), "in")
	mends := action(t, s, writing("out", 1, 2, 3), nil, "out")
	s.Plant(s.Digest([]byte{1, 2, 3}), []byte{7})
	l := farmed(t, "mended", s, 2, needs, mends, needs, mends)
	is(t, "P2008: ahead of it", l[0].Err, api.ErrCorrupt)
	is(t, "P2008: behind it", l[2].Err, api.OK)
	is(t, "P2008: Cached", l[3].Cached, true)
}

// Whatever room there is: what is put up to ErrFull is put.
func TestFarmFull(t *testing.T) {
	s := store(t, 32, 1<<20)
	bits := list(file("a", 1, 2), dir("b"), file("b/c", 1, 2, 3), file("d"))
	x := action(t, s, writing("b/o", 4, 5, 6), bits, "a", "b")
	y := action(t, s, writing("o", 4, 5, 6), bits, "")
	z := action(t, s, writing("p/q", 9), nil, "p")
	used, full := s.Used(), 0
	for room := 0; room < 420; room += 3 {
		s.Limit(used + room)
		for _, a := range farmed(t, fmt.Sprint("room for ", room), s, 2, x, y, z, x, y, api.Digest{1}, z) {
			if a.Err == api.ErrFull {
				full++
			}
		}
	}
	if full < 200 {
		t.Errorf("P2008: ErrFull %d times", full)
	}
	s.Limit(0)
	farmed(t, "less room than is taken", s, 2, x, y, z, x)
}

// A file that is kept has the bytes of a directory that is kept behind it: so it is put ahead of that directory's parts.
func TestFileThatIsADirectory(t *testing.T) {
	s := store(t, 32, 1<<20)
	twig := dirBytes(api.Entry{Name: "x", Kind: api.KFile, Digest: s.Digest([]byte{1, 1})})
	d := action(t, s, writingAll(file("a", twig...), file("b/x", 1, 1)), nil, "")
	e := action(t, s, writingAll(file("b/x", 1, 1), file("c", twig...)), nil, "")
	for room := -20; room < 300; room += 7 {
		twin := s.Twin()
		twin.Limit(s.Used() + room)
		farmed(t, fmt.Sprint("room for ", room), twin, 1, d, e, d)
		farmed(t, fmt.Sprint("room for ", room), twin, 1, e, d, e)
	}
	p := newPair(t, s, 1)
	p.do(ask(d))
	p.farm(2)
	is(t, "P2008: it was done", p.w.Answers()[0].Err, api.OK)
	if p.w.Store().Stamp(s.Digest(twig)) > p.w.Store().Stamp(s.Digest([]byte{1, 1})) {
		t.Error("P2008: the file was put behind the directory's parts")
	}
}

// At a small width what is put clashes with what others have put.
func TestFarmClash(t *testing.T) {
	clashes, done := 0, 0
	for n := range uint64(30) {
		r := seeded(n)
		s := store(t, 1, 1<<20)
		var l []api.Digest
		for range 12 {
			b := programBytes(writing("o", byte(r.Int()), byte(r.Int())))
			program, e := s.Put(b)
			root, f := s.Put(dirBytes())
			d, g := s.Put(actionBytes(api.Action{Program: program, Input: root, Limits: wide(), Keep: []string{"o"}}))
			if e == api.OK && f == api.OK && g == api.OK {
				l = append(l, d)
			}
		}
		for i := range 40 {
			s.Put([]byte{byte(i), byte(n)})
		}
		for _, a := range farmed(t, "a small width", s, r.IntN(4), slices.Concat(l, l)...) {
			switch a.Err {
			case api.ErrClash:
				clashes++
			case api.OK:
				done++
			}
		}
	}
	if clashes < 20 || done < 20 {
		t.Errorf("P2008: ErrClash %d times, OK %d times", clashes, done)
	}
}

// A farm behind events, and events behind a farm.
func TestFarmAmongEvents(t *testing.T) {
	s := store(t, 32, 1<<20)
	x := action(t, s, writing("o", 1), list(file("i", 2)), "o")
	y := action(t, s, writing("o", 3), list(file("i", 2)), "o")
	p := newPair(t, s, 1)
	for _, e := range []api.Event{ask(x), ask(y), pick(1), ask(x), ask(y)} {
		p.do(e)
	}
	p.farm(3)
	sameDigests(t, "P2005: Cached", p.w.Cached(), digests(y))
	for _, e := range []api.Event{ask(y), pick(0), evict(s.Digest([]byte{3})), ask(x), ask(y), ask(y)} {
		p.do(e)
	}
	p.farm(8)
	sameAnswers(t, "P2005: behind the others", p.w.Answers()[len(p.w.Answers())-1:], []api.Answer{{Action: y, Result: p.w.Answers()[0].Result, Cached: true}})
	for _, e := range []api.Event{ask(y), evict(s.Digest([]byte{2})), ask(y), pick(1), pick(0)} {
		p.do(e)
	}
	is(t, "P2003: behind the farm", p.w.Answers()[len(p.w.Answers())-1].Err, api.ErrMissing)
}

// P2006 of a farm: each answer is what Exec answers in its turn.
func TestFarmAnswersAsExec(t *testing.T) {
	s := store(t, 32, 1<<20)
	var queue []api.Digest
	for i := range 12 {
		queue = append(queue, action(t, s, writing("o", 1, byte(i%5)), list(file("i", byte(i))), "i", "o"), action(t, s, aborts(i), nil))
	}
	s.Evict(s.Digest([]byte{3}))
	w := worker(t, s.Twin(), 7)
	for _, d := range queue {
		w.Do(ask(d))
	}
	l, _ := w.Farm(4)
	for i, d := range queue {
		b, e := act.Exec(s, d)
		is(t, fmt.Sprint("P2006: ", i), l[i].Err, e)
		sameBytes(t, fmt.Sprint("P2006: ", i), l[i].Result, b)
	}
	is(t, "P2006: what lies there", lying(w.Store()), lying(s))
}

// However little runs ahead may weigh, the answers are the same; and nothing is left of them.
func TestWeight(t *testing.T) {
	s := store(t, 32, 1<<20)
	made := programBytes(writing("z", 5, 5))
	var l []api.Digest
	for i := range 9 {
		l = append(l, action(t, s, writing("o", 1, byte(i)), list(file("i", 2)), "o"))
	}
	byMade := put(t, s, actionBytes(api.Action{Program: s.Digest(made), Input: putTree(t, s), Limits: wide()})...)
	l = append(l, byMade, action(t, s, writing("p", made...), nil, "p"), byMade, fresh(t, s, seven(), nil))
	l = slices.Concat(l, l[5:], l)
	for _, most := range []int64{-1, 0, 200, 500, 2000, 1 << 40} {
		for _, crew := range []int{1, 2, 8} {
			for _, cache := range []int{0, 3} {
				p := newPair(t, s, cache)
				for _, d := range l {
					p.w.Do(ask(d))
					p.m.do(ask(d))
				}
				told, weight, runs := p.w.FarmOf(crew, most)
				sameAnswers(t, fmt.Sprint("P2008: at most ", most), told, p.m.farm())
				p.same(fmt.Sprint("at most ", most))
				is(t, "what the runs weigh behind it", weight, 0)
				is(t, "the runs behind it", runs, 0)
			}
		}
	}
}

// Where runs ahead may weigh nothing, an action is run when all ahead of it are done: so it is fetched once, as Exec would.
func TestWeightHoldsRunsBack(t *testing.T) {
	s := store(t, 32, 1<<20)
	made := programBytes(writing("z", 5, 5))
	makes := action(t, s, writing("p", made...), nil, "p")
	byMade := put(t, s, actionBytes(api.Action{Program: s.Digest(made), Input: putTree(t, s), Limits: wide()})...)
	gets := func(most int64) int {
		p := newPair(t, s, 0)
		for _, d := range digests(makes, byMade) {
			p.do(ask(d))
		}
		was := p.m.s.Counts()
		told, _, _ := p.w.FarmOf(4, most)
		sameAnswers(t, "P2008", told, p.m.farm())
		return counted(p.w.Store(), was).Gets - counted(p.m.s, was).Gets
	}
	is(t, "Gets beside those of Exec", gets(-1), 0)
	is(t, "Gets beside those of Exec, where all is run at once", gets(1<<26), 2)
}

// All goroutines have ended when Farm answers.
func TestGoroutinesEnd(t *testing.T) {
	s := store(t, 32, 1<<20)
	d := action(t, s, writing("o", 1), nil, "o")
	was := runtime.NumGoroutine()
	w := worker(t, s, 1)
	for i := range 200 {
		for range i % 4 {
			w.Do(ask(d))
			w.Do(ask(api.Digest{byte(i)}))
		}
		if _, e := w.Farm(1 + i%8); e != api.OK {
			t.Fatal(e)
		}
	}
	for range 100 { // one that was joined may still be on its way out
		if runtime.NumGoroutine() <= was {
			return
		}
		time.Sleep(time.Millisecond)
	}
	t.Errorf("%d goroutines, there were %d", runtime.NumGoroutine(), was)
}

// P3: a farm's Counts, too, are the same when all is done again.
func TestFarmAgain(t *testing.T) {
	s := store(t, 32, 1<<20)
	made := programBytes(writing("z", 5, 5))
	var l []api.Digest
	for i := range 16 {
		l = append(l, action(t, s, writing("o", 1, byte(i)), list(file("i", 2)), "o"))
	}
	byMade := put(t, s, actionBytes(api.Action{Program: s.Digest(made), Input: putTree(t, s), Limits: wide()})...)
	l = append(l, byMade, action(t, s, writing("p", made...), nil, "p"), byMade)
	want := ""
	for i := range 40 {
		p := newPair(t, s, 3)
		for _, d := range l {
			p.w.Do(ask(d))
		}
		p.w.Farm(1 + i%8)
		said := p.said() + fmt.Sprint(p.w.Store().Counts())
		if i == 0 {
			want = said
		}
		is(t, "P3: Farm again", said, want)
	}
}
