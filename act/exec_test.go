package act_test

import (
	"fmt"
	"slices"
	"strings"
	"testing"

	"retort/act"
	"retort/api"
	"retort/cas"
	"retort/prog"
	"retort/tree"
)

// does holds Exec and Reach of a digest against the oracle, and looks at all that follows of Exec. What Exec puts stays in s.
func does(t testing.TB, what string, s *cas.Store, d api.Digest) done {
	t.Helper()
	reached(t, what, s, d)
	was, then := s.Twin(), s.Twin()
	x := execOf(then, d)
	counts := s.Counts()
	b, e := act.Exec(s, d)
	is(t, "P1906: "+what, e, x.e)
	sameBytes(t, "P1906: "+what, b, x.b)
	is(t, "P1906: Counts: "+what, counted(s, counts), x.counts)
	is(t, "P1906: what lies there: "+what, lying(s), lying(then))
	followsHarvest(t, what, was, s, x)
	followsAgain(t, what, s, d, x)
	followsHermetic(t, what, was, d, x)
	if x.e == api.OK || x.counts.Gets > 2 {
		l := x.a.Limits
		if x.counts.Gets > l.Nodes+2 || x.counts.Puts > l.Files+1 {
			t.Fatalf("P1910: %s: %+v with Nodes %d, Files %d", what, x.counts, l.Nodes, l.Files)
		}
	}
	return x
}

// followsHarvest is T3.
func followsHarvest(t testing.TB, what string, was, s *cas.Store, x done) {
	t.Helper()
	for d, b := range was.All() {
		now, _ := s.Raw(d)
		if was.Whole(d) {
			sameBytes(t, "T3: what lay there whole: "+what, now, b)
			is(t, "T3: what lay there whole: "+what, s.Stamp(d), was.Stamp(d))
		}
	}
	if x.e == api.OK && x.o.End == api.EHalt {
		r, e := act.DecodeResult(x.b)
		is(t, "P1911: a right result: "+what, e, api.OK)
		l, e := tree.Load(s, r.Root, greatest())
		is(t, "T3: Load of the root: "+what, e, api.OK)
		is(t, "T3: the tree of the root: "+what, text(l), text(x.o.Keep))
		is(t, "T3: the paths at which there was nothing: "+what, text(r.Missing), text(x.o.Missing))
		return
	}
	if x.e != api.ErrFull && x.e != api.ErrClash {
		is(t, "T3: nothing is laid down: "+what, lying(s), lying(was))
	}
}

// followsAgain is P1911: s is as Exec left it.
func followsAgain(t testing.TB, what string, s *cas.Store, d api.Digest, x done) {
	t.Helper()
	if x.e == api.OK {
		_, e := act.DecodeResult(x.b)
		is(t, "P1911: a right result: "+what, e, api.OK)
	}
	again := s.Twin()
	b, e := act.Exec(again, d)
	is(t, "P1911: Exec again: "+what, e, x.e)
	sameBytes(t, "P1911: Exec again: "+what, b, x.b)
	is(t, "P1911: Exec again lays nothing down: "+what, lying(again), lying(s))
}

// followsHermetic is T2: all that is not reached is evicted, or is another's.
func followsHermetic(t testing.TB, what string, was *cas.Store, d api.Digest, x done) {
	t.Helper()
	reach, _, _ := reachOf(was, d)
	few, more := was.Twin(), was.Twin()
	for at := range was.All() {
		if !slices.Contains(reach, at) {
			few.Evict(at)
			more.Evict(at)
		}
	}
	few.Limit(1 << 26)
	more.Limit(1 << 26)
	for i := range 20 {
		at := more.Digest([]byte{byte(i), 77})
		if !more.Has(at) && !slices.Contains(reach, at) {
			more.Plant(at, []byte{byte(i), byte(77 + i%2)})
		}
	}
	for _, s := range []*cas.Store{few, more} {
		b, e := act.Exec(s, d)
		if full := func(e api.Errno) bool { return e == api.ErrFull || e == api.ErrClash }; full(e) || full(x.e) {
			continue
		}
		is(t, "T2: "+what, e, x.e)
		sameBytes(t, "T2: "+what, b, x.b)
	}
}

// fails does an action that must come to that error, behind so many Gets and Puts.
func fails(t testing.TB, what string, s *cas.Store, d api.Digest, want api.Errno, gets, puts int) {
	t.Helper()
	counts := s.Counts()
	b, e := act.Exec(s.Twin(), d)
	is(t, "P1906: "+what, e, want)
	is(t, "P4: bytes beside an error: "+what, len(b), 0)
	x := does(t, what, s, d)
	is(t, "P1906: "+what, x.e, want)
	is(t, "P1906: Counts: "+what, counted(s, counts), api.Counts{Gets: 2 * gets, Puts: puts}) // Reach has got as many
}

func TestExamples(t *testing.T) {
	s := store(t, 32, 1<<20)
	for _, d := range []api.Digest{{}, {1}, s.Digest(nil), {31: 9}} {
		fails(t, "an empty Store", s, d, api.ErrMissing, 1, 0)
	}
	fails(t, "1 3 5", s, put(t, s, 1, 3, 5), api.ErrTag, 1, 0)

	d := action(t, s, seven(), nil, wide(), "a", "b/c")
	empty := s.Digest([]byte{1, 0}) // the input, which is the output too
	b, e := act.Exec(s, d)
	is(t, "P1906: the second example", e, api.OK)
	sameBytes(t, "P1906: the second example", b, laidResult(api.Result{End: 1, Code: 7, Fuel: 2, Root: empty, Missing: keep("a", "b/c")}))

	other := action(t, s, seven(), list(file("x", 5)), wide(), "a")
	s.Evict(empty)
	counts := s.Counts()
	b, e = act.Exec(s, other)
	is(t, "P1906: that directory is put", e, api.OK)
	is(t, "P1906: that directory is put", s.Whole(empty), true)
	is(t, "P1906: Counts", counted(s, counts), api.Counts{Gets: 4, Puts: 1})
	sameBytes(t, "P1906: that directory is put", b, laidResult(api.Result{End: 1, Code: 7, Fuel: 2, Root: empty, Missing: keep("a")}))

	lim := wide()
	lim.Fuel = 1
	little := action(t, s, seven(), list(file("x", 5)), lim, "a")
	s.Evict(empty)
	counts = s.Counts()
	b, e = act.Exec(s, little)
	is(t, "P1906: with Fuel 1", e, api.OK)
	sameBytes(t, "P1906: with Fuel 1", b, laidResult(api.Result{End: 2, Trap: api.TFuel, Fuel: 1}))
	is(t, "P1906: nothing is put", s.Has(empty), false)
	is(t, "P1906: nothing is put", counted(s, counts), api.Counts{Gets: 4})

	lim = wide()
	lim.Nodes = 2
	three := action(t, s, seven(), list(file("a"), file("b", 1)), lim)
	fails(t, "three standings, Nodes 2", s, three, api.ErrNodes, 4, 0)
	is(t, "P1908", act.Class(api.ErrNodes), api.GOver)

	s.Evict(empty)
	s.Limit(s.Used())
	fails(t, "no room", s, other, api.ErrFull, 4, 1)
	s.Limit(1 << 20)
	put(t, s, 1, 0)
	s.Limit(0)
	x := does(t, "no room, but it is there", s, other)
	is(t, "P1906: no room, but it is there", x.e, api.OK)
}

// faulty is what may be wrong with an action, line by line; each one leaves the others as they are.
type faulty struct {
	what string
	e    api.Errno
	turn func(a *api.Action, s *cas.Store, t testing.TB)
}

// Faults of the program, of the input, of the run and of what is kept, in the order of Exec's lines.
func faults() []faulty {
	spoilt := func(s *cas.Store, t testing.TB, b string) api.Digest {
		d := s.Digest([]byte(b))
		plant(t, s, d, "spoilt")
		return d
	}
	return []faulty{
		{"no program", api.ErrMissing, func(a *api.Action, s *cas.Store, t testing.TB) { a.Program = s.Digest([]byte("gone")) }},
		{"a spoilt program", api.ErrCorrupt, func(a *api.Action, s *cas.Store, t testing.TB) { a.Program = spoilt(s, t, "bad") }},
		{"a program that is none", api.ErrTag, func(a *api.Action, s *cas.Store, t testing.TB) { a.Program = put(t, s, 1, 0) }},
		{"a program of no bytes", api.ErrCut, func(a *api.Action, s *cas.Store, t testing.TB) { a.Program = put(t, s) }},
		{"a program with a tail", api.ErrTail, func(a *api.Action, s *cas.Store, t testing.TB) {
			b, _ := prog.Encode(seven())
			a.Program = put(t, s, append(b, 0)...)
		}},
		{"a program that may not be", api.ErrProg, func(a *api.Action, s *cas.Store, t testing.TB) { a.Program = put(t, s, 2, 0, 0, 0) }},
		{"a program with no such instruction", api.ErrOp, func(a *api.Action, s *cas.Store, t testing.TB) { a.Program = put(t, s, 2, 0, 0, 1, 0, 0, 1, 1, 46) }},
		{"a program that wants an operand", api.ErrUnder, func(a *api.Action, s *cas.Store, t testing.TB) {
			a.Program = putProgram(t, s, program("func f 0 0 1 | pop | num 1 | ret"))
		}},
		{"a program that jumps beside", api.ErrJump, func(a *api.Action, s *cas.Store, t testing.TB) {
			a.Program = putProgram(t, s, program("func f 0 0 1 | jump 9"))
		}},
		{"a program whose first function answers nothing", api.ErrFirst, func(a *api.Action, s *cas.Store, t testing.TB) {
			a.Program = putProgram(t, s, program("func f 0 0 0 | ret"))
		}},
		{"no input", api.ErrMissing, func(a *api.Action, s *cas.Store, t testing.TB) { a.Input = s.Digest([]byte("gone")) }},
		{"a spoilt input", api.ErrCorrupt, func(a *api.Action, s *cas.Store, t testing.TB) { a.Input = spoilt(s, t, "worse") }},
		{"an input that is no directory", api.ErrTag, func(a *api.Action, s *cas.Store, t testing.TB) { a.Input = put(t, s, 9) }},
		{"an input with a tail", api.ErrTail, func(a *api.Action, s *cas.Store, t testing.TB) { a.Input = put(t, s, 1, 0, 0) }},
		{"too many nodes", api.ErrNodes, func(a *api.Action, s *cas.Store, t testing.TB) {
			a.Input, a.Limits.Nodes = putTree(t, s, file("x", 1), file("y", 2)), 2
		}},
		{"too many files", api.ErrFiles, func(a *api.Action, s *cas.Store, t testing.TB) { a.Limits.Files = 1 }},
	}
}

// Every fault, and every two of them, of which the one that its line meets first is told.
func TestFaultsInOrder(t *testing.T) {
	build := func(l ...faulty) (*cas.Store, api.Digest) {
		s := store(t, 32, 1<<20)
		a := api.Action{Program: putProgram(t, s, seven()), Input: putTree(t, s, file("x", 1), file("y", 2)), Limits: wide(), Keep: keep("x")}
		for _, f := range slices.Backward(l) {
			f.turn(&a, s, t)
		}
		return s, putAction(t, s, a)
	}
	s, d := build()
	is(t, "no fault", does(t, "no fault", s, d).e, api.OK)
	for i, f := range faults() {
		s, d := build(f)
		is(t, "P1906: "+f.what, does(t, f.what, s, d).e, f.e)
		for _, g := range faults()[i+1:] {
			s, d := build(f, g)
			is(t, "P1906: "+f.what+" and "+g.what, does(t, f.what+" and "+g.what, s, d).e, f.e)
		}
		s, d = build(f)
		s.Limit(0)
		is(t, "P1906: "+f.what+" and no room", does(t, f.what+" and no room", s, d).e, f.e)
		blob, _ := s.Raw(d)
		plant(t, growing(s), d, string(blob)+"x")
		is(t, "P1906: "+f.what+" and a spoilt action", does(t, "spoilt", s, d).e, api.ErrCorrupt)
		s.Evict(d)
		is(t, "P1906: "+f.what+" and no action", does(t, "none", s, d).e, api.ErrMissing)
	}
}

// growing is the Store, with room.
func growing(s *cas.Store) *cas.Store {
	s.Limit(1 << 20)
	return s
}

// The action's own faults, ahead of all others.
func TestFaultsOfActions(t *testing.T) {
	right := laid(api.Action{Limits: wide()})
	limits := laid(api.Action{Limits: api.Limits{}})
	paths := laid(api.Action{Limits: wide(), Keep: keep("b", "a")})
	manyPaths := laid(api.Action{Limits: wide(), Keep: many(65)})
	for _, c := range []struct {
		b    []byte
		want api.Errno
	}{
		{nil, api.ErrCut}, {[]byte{3}, api.ErrCut}, {right[:len(right)-1], api.ErrCut}, {append(slices.Clone(right), 0), api.ErrTail}, {[]byte{248, 3}, api.ErrForm},
		{[]byte{4}, api.ErrTag}, {[]byte{1, 0}, api.ErrTag}, {make([]byte, 1<<20), api.ErrTag}, {limits, api.ErrLimits}, {paths, api.ErrKeep}, {manyPaths, api.ErrKeep}, {right, api.ErrMissing},
	} {
		s := store(t, 32, 1<<21)
		d := put(t, s, c.b...)
		gets := 1
		if c.want == api.ErrMissing {
			gets = 2
		}
		fails(t, brief(c.b), s, d, c.want, gets, 0)
	}
}

// A tree's faults, at each of its standings, are told behind just so many Gets.
func TestFaultsOfTrees(t *testing.T) {
	l := list(dir("a"), dir("a/b"), file("a/b/c", 1), file("a/d", 2), dir("e"), file("f", 3))
	all := store(t, 32, 1<<20)
	d := action(t, all, seven(), l, wide(), "a")
	w := &tour{s: all}
	is(t, "the tree", w.fetch(d), api.OK)
	for i, at := range w.gets {
		s := all.Twin()
		s.Evict(at)
		fails(t, fmt.Sprint("missing at ", i), s, d, api.ErrMissing, i+1, 0)
		s = all.Twin()
		plant(t, s, at, "spoilt")
		fails(t, fmt.Sprint("spoilt at ", i), s, d, api.ErrCorrupt, i+1, 0)
		plant(t, s, at, "")
		fails(t, fmt.Sprint("cut to nothing at ", i), s, d, api.ErrCorrupt, i+1, 0)
	}
	for nodes := 1; nodes < 10; nodes++ {
		lim := wide()
		lim.Nodes = nodes
		s := all.Twin()
		d := action(t, s, seven(), l, lim)
		if nodes < 7 {
			fails(t, fmt.Sprint("Nodes ", nodes), s, d, api.ErrNodes, nodes+2, 0)
		} else {
			is(t, "P1906: nodes enough", does(t, "nodes enough", s, d).e, api.OK)
		}
	}
	for depth, want := range []api.Errno{api.ErrDeep, api.ErrDeep, api.ErrDeep, api.OK, api.OK} {
		lim := wide()
		lim.Depth = depth
		s := all.Twin()
		is(t, fmt.Sprint("P1906: Depth ", depth), does(t, "depth", s, action(t, s, seven(), l, lim)).e, want)
	}
	for size, want := range []api.Errno{api.ErrBytes, api.ErrBytes, api.ErrBytes, api.OK, api.OK} {
		lim := wide()
		lim.Bytes = size
		s := all.Twin()
		is(t, fmt.Sprint("P1906: Bytes ", size), does(t, "bytes", s, action(t, s, seven(), l, lim)).e, want)
	}
	for files, want := range []api.Errno{api.ErrFiles, api.ErrFiles, api.ErrFiles, api.ErrFiles, api.ErrFiles, api.ErrFiles, api.OK, api.OK} {
		lim := wide()
		lim.Files = files
		s := all.Twin()
		is(t, fmt.Sprint("P1906: Files ", files), does(t, "files", s, action(t, s, seven(), l, lim)).e, want)
	}
}

// What the run made is in the Store behind it, and what it is not to keep is not.
func TestHarvest(t *testing.T) {
	l := list(file("a", '1'), dir("e"), dir("e/e"), dir("f"), file("f/g", '2'))
	p := writing(2, [2]int{0, 1}, [2]int{2, 3}) // a anew, c and c/d made
	for _, c := range []struct {
		keep []string
		want []api.Item
		puts int
	}{
		{nil, nil, 1},
		{keep("x", "y/z"), nil, 1},
		{keep("a"), list(file("a", 'a', 'b')), 2},
		{keep("c/d"), list(dir("c"), file("c/d", 'a', 'b')), 3},
		{keep("a", "b", "c"), list(file("a", 'a', 'b'), dir("c"), file("c/d", 'a', 'b')), 3},
		{keep("e"), list(dir("e"), dir("e/e")), 3},
		{keep("e/e"), list(dir("e"), dir("e/e")), 3},
		{keep(""), list(file("a", 'a', 'b'), dir("c"), file("c/d", 'a', 'b'), dir("e"), dir("e/e"), dir("f"), file("f/g", '2')), 7},
	} {
		s := store(t, 32, 1<<20)
		d := action(t, s, p, l, wide(), c.keep...)
		counts := s.Counts()
		b, e := act.Exec(s.Twin(), d)
		is(t, "P1906", e, api.OK)
		x := does(t, brief(c.keep), s, d)
		is(t, "P1906: Puts: "+brief(c.keep), counted(s, counts).Puts, c.puts)
		sameBytes(t, "P1906", b, x.b)
		r, _ := act.DecodeResult(b)
		got, e := tree.Load(s, r.Root, greatest())
		is(t, "T3", e, api.OK)
		is(t, "T3: "+brief(c.keep), text(got), text(c.want))
		is(t, "P1906: the result", fmt.Sprint(r.End, r.Code, r.Trap), "1 7 0")
	}
	s := store(t, 32, 1<<20)
	d := action(t, s, p, l, wide(), "c")
	does(t, "what is not to be kept", s, d)
	is(t, "the result's bytes are not put", s.Has(s.Digest(does(t, "again", s, d).b)), false)
}

// Of a run that trapped nothing is put, whatever it wrote.
func TestTrapsPutNothing(t *testing.T) {
	write := openAs(0, 1, 2) + "num 0 | num 2 | sys write | pop |"
	for code, want := range map[string]api.Result{
		"num -8 | abort":                     {End: 2, Trap: api.TAbort, Code: -8, Fuel: 13},
		"num 1 | num 0 | div | ret":          {End: 2, Trap: api.TDivide, Fuel: 14},
		"num 13 | load | ret":                {End: 2, Trap: api.TBounds, Fuel: 13},
		"num 0x7ff8000000000000 | toi | ret": {End: 2, Trap: api.TFloat, Fuel: 13},
		"again: jump again":                  {End: 2, Trap: api.TFuel, Fuel: 1000},
	} {
		s := store(t, 32, 1<<20)
		d := action(t, s, body(write+code), list(file("a", 9)), wide(), "a", "b")
		was := lying(s)
		x := does(t, code, s, d)
		is(t, "P1906: "+code, x.e, api.OK)
		sameBytes(t, "P1906: "+code, x.b, laidResult(want))
		is(t, "P1906: nothing is put: "+code, lying(s), was)
		s.Limit(0)
		is(t, "P1906: no room is needed: "+code, does(t, code, s, d).e, api.OK)
	}
	lim := wide()
	lim.Memory = 19
	s := store(t, 32, 1<<20)
	x := does(t, "memory", s, action(t, s, body("num 1 | ret"), nil, lim, ""))
	sameBytes(t, "P1906: memory", x.b, laidResult(api.Result{End: 2, Trap: api.TMemory}))
	lim = wide()
	lim.Stack = 1
	x = does(t, "stack", s, action(t, s, body("num 1 | ret"), nil, lim, ""))
	sameBytes(t, "P1906: stack", x.b, laidResult(api.Result{End: 2, Trap: api.TStack}))
}

// Room for each number of bytes: what there is room for is put, in its order, and stays.
func TestFull(t *testing.T) {
	p := writing(3, [2]int{0, 1}, [2]int{2, 3})
	met := map[api.Errno]int{}
	for more := range 300 {
		s := store(t, 32, 1<<20)
		d := action(t, s, p, list(file("f", 1, 2)), wide(), "a", "c", "f")
		s.Limit(s.Used() + more)
		was := s.Len()
		x := does(t, fmt.Sprint("room for ", more), s, d)
		met[x.e]++
		if x.e == api.OK {
			is(t, "T3: all is laid down", s.Len(), was+3)
			continue
		}
		is(t, "P1906: no room", x.e, api.ErrFull)
		is(t, "T3: what there was room for is laid down", s.Len()-was, min(x.counts.Puts-1, 2)) // the third one, f's, lay there already
		s.Limit(1 << 20)
		is(t, "P1906: when there is room", does(t, "when there is room", s, d).e, api.OK)
	}
	if met[api.OK] < 5 || met[api.ErrFull] < 100 {
		t.Errorf("met %v", met)
	}
}

// Of a small width an output may have the digest of something else: that stays.
func TestClash(t *testing.T) {
	s := store(t, 2, 1<<20)
	d := action(t, s, writing(3, [2]int{0, 1}, [2]int{2, 3}), list(file("f", 1, 2)), wide(), "a", "c")
	wanted := s.Digest([]byte("abc"))
	n := 0
	for s.Digest(fmt.Append(nil, n)) != wanted {
		n++
	}
	clean := s.Twin()
	put(t, s, fmt.Append(nil, n)...)
	fails(t, "another's file", s, d, api.ErrClash, 4, 1)
	b, _ := s.Raw(wanted)
	sameBytes(t, "T3: another's file", b, fmt.Append(nil, n))
	is(t, "P1908", act.Class(api.ErrClash), api.GClash)
	s.Limit(0)
	fails(t, "another's file, and no room", s, d, api.ErrClash, 4, 1)

	x := does(t, "no clash", clean.Twin(), d)
	is(t, "P1906: no clash", x.e, api.OK)
	r, _ := act.DecodeResult(x.b)
	s = clean.Twin()
	for n = 0; s.Digest(fmt.Append(nil, n)) != r.Root; n++ {
	}
	put(t, s, fmt.Append(nil, n)...)
	fails(t, "another's root", s, d, api.ErrClash, 4, 3)
	is(t, "T3: what was put ahead of it stays", s.Whole(wanted), true)
}

// What is spoilt where an output belongs is made whole.
func TestSpoiltOutputs(t *testing.T) {
	s := store(t, 32, 1<<20)
	d := action(t, s, writing(3, [2]int{0, 1}), nil, wide(), "a")
	first := does(t, "clean", s, d)
	for _, b := range [][]byte{[]byte("abc"), {1, 1, 1, 1, 'a', 32}} {
		if len(b) > 3 {
			sum := s.Digest([]byte("abc"))
			b = append(b, sum[:]...)
		}
		at := s.Digest(b)
		is(t, "an output", s.Whole(at), true)
		plant(t, s, at, "spoilt")
		x := does(t, "spoilt", s, d)
		sameBytes(t, "P1906: spoilt outputs", x.b, first.b)
		now, _ := s.Raw(at)
		sameBytes(t, "T3: it is whole again", now, b)
	}
}

// As many Gets and Puts as there may be, and no more.
func TestCounts(t *testing.T) {
	lim := wide()
	lim.Files, lim.Nodes, lim.Bytes = 6, 7, 50
	l := list(file("b0", 0), file("b1", 1), file("b2", 2), file("b3", 3), file("b4", 4))
	s := store(t, 32, 1<<20)
	d := action(t, s, writing(1, [2]int{0, 1}), l, lim, "")
	x := does(t, "all of it", s, d)
	is(t, "P1910: Files + 1 Puts", fmt.Sprint(x.e, x.counts), "ok {8 7}")
	lim.Nodes = 6
	s = store(t, 32, 1<<20)
	x = does(t, "all nodes", s, action(t, s, writing(1, [2]int{0, 1}), l, lim, ""))
	is(t, "P1910: Nodes + 2 Gets", fmt.Sprint(x.e, x.counts), "ok {8 7}")
	lim.Nodes = 5
	s = store(t, 32, 1<<20)
	x = does(t, "a node too few", s, action(t, s, writing(1, [2]int{0, 1}), l, lim, ""))
	is(t, "P1910: Nodes + 2 Gets", fmt.Sprint(x.e, x.counts), "nodes {7 0}")
	same := make([]api.Item, 5)
	for i := range same {
		same[i] = file(fmt.Sprint("b", i), 'a')
	}
	lim.Nodes = 6
	s = store(t, 32, 1<<20)
	x = does(t, "the same bytes", s, action(t, s, writing(1, [2]int{0, 1}), same, lim, ""))
	is(t, "P1906: blobs of the same bytes are put once", fmt.Sprint(x.e, x.counts), "ok {8 2}")
}

// Whether an action is Fresh is nothing to Exec; nor does it look at what other actions said.
func TestFreshIsNothing(t *testing.T) {
	s := store(t, 32, 1<<20)
	a := api.Action{Program: putProgram(t, s, seven()), Input: putTree(t, s, file("a", 1)), Limits: wide(), Keep: keep("a")}
	stale := does(t, "not fresh", s, putAction(t, s, a))
	a.Fresh = true
	fresh := does(t, "fresh", s, putAction(t, s, a))
	sameBytes(t, "P1906: Fresh", fresh.b, stale.b)
}

// A digest may stand as a file, as a directory, as the program, as the action itself.
func TestStandings(t *testing.T) {
	s := store(t, 32, 1<<20)
	program := putProgram(t, s, seven())
	empty := putDir(t, s)
	sub := putDir(t, s, fileAt("f", empty), dirAt("g", empty))
	root := putDir(t, s, dirAt("a", sub), fileAt("b", sub), fileAt("c", program), dirAt("d", sub))
	d := putAction(t, s, api.Action{Program: program, Input: root, Limits: wide(), Keep: keep("")})
	x := does(t, "standings", s, d)
	is(t, "P1906: standings", fmt.Sprint(x.e, x.counts.Gets), "ok 11")
	r, _ := act.DecodeResult(x.b)
	is(t, "P1906: all is kept", r.Root, root)
	l, _, gets := reachOf(s, d)
	is(t, "P1907: standings", gets, 11)
	sameDigests(t, "P1907: standings", l, []api.Digest{d, program, root, sub, empty})
}

// The greatest of everything: limits, paths, a tree of many items, and a long way down.
func TestGreat(t *testing.T) {
	lim := limitsOf(mostLimits())
	var l []api.Item
	for i := range 4 {
		l = append(l, dir(fmt.Sprint(i)))
		for j := range 1000 {
			l = append(l, file(fmt.Sprintf("%d/%03d", i, j), byte(j), byte(j>>8), byte(i)))
		}
	}
	deep := "p"
	for range 31 {
		l = append(l, dir(deep))
		deep += "/p"
	}
	l = append(l, file(deep, 1))
	s := store(t, 32, 1<<24)
	d := action(t, s, seven(), l, lim, "")
	counts := s.Counts()
	b, e := act.Exec(s, d)
	is(t, "P1906: great", e, api.OK)
	is(t, "P1906: great", counted(s, counts), api.Counts{Gets: len(l) + 3, Puts: 4000 + 4 + 32 + 1})
	r, _ := act.DecodeResult(b)
	back, _ := tree.Load(s, r.Root, greatest())
	is(t, "T3: great", text(back), text(l))

	long := list(file("a", make([]byte, 1<<20)...), file("b", make([]byte, 1<<20)...))
	d = action(t, s, seven(), long, lim, "a")
	b, e = act.Exec(s, d)
	is(t, "P1906: long files", e, api.OK)
	r, _ = act.DecodeResult(b)
	back, _ = tree.Load(s, r.Root, greatest())
	is(t, "T3: long files", len(back) == 1 && len(back[0].Data) == 1<<20, true)

	var missing []string
	for _, p := range many(64) {
		missing = append(missing, p+strings.Repeat("/"+strings.Repeat("y", 64), 31))
	}
	x := does(t, "long paths", s, action(t, s, seven(), nil, lim, missing...))
	r, e = act.DecodeResult(x.b)
	is(t, "P1906: long paths", e, api.OK)
	is(t, "P1906: long paths", text(r.Missing), text(missing))
}
