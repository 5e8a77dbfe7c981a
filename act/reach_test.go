package act_test

import (
	"fmt"
	"testing"

	"retort/act"
	"retort/api"
	"retort/cas"
	"retort/node"
)

// reached holds Reach against the oracle; nothing of the Store is touched but its Counts.
func reached(t testing.TB, what string, s *cas.Store, d api.Digest) ([]api.Digest, api.Errno) {
	t.Helper()
	want, we, gets := reachOf(s, d)
	was, counts := lying(s), s.Counts()
	l, e := act.Reach(s, d)
	is(t, "P1907: "+what, e, we)
	sameDigests(t, "P1907: "+what, l, want)
	is(t, "P1907: Counts: "+what, counted(s, counts), api.Counts{Gets: gets})
	is(t, "P1907: what lies there: "+what, lying(s), was)
	return l, e
}

// reaches holds Reach against what is written out.
func reaches(t testing.TB, what string, s *cas.Store, d api.Digest, want api.Errno, digests ...api.Digest) {
	t.Helper()
	l, e := reached(t, what, s, d)
	is(t, "P1907: "+what, e, want)
	sameDigests(t, "P1907: "+what, l, digests)
}

// Line by line: with an error, too, the digests up to it are told, that of the last Get among them.
func TestReachLines(t *testing.T) {
	s := store(t, 32, 1<<20)
	gone := s.Digest([]byte("gone"))
	bad := s.Digest([]byte("bad"))
	plant(t, s, bad, "spoilt")
	x, y := put(t, s, 'x'), put(t, s, 'y')
	reaches(t, "no action", s, gone, api.ErrMissing, gone)
	reaches(t, "a spoilt action", s, bad, api.ErrCorrupt, bad)
	reaches(t, "no action's bytes", s, x, api.ErrTag, x)

	a := api.Action{Program: gone, Input: bad, Limits: wide()}
	d := putAction(t, s, a)
	reaches(t, "no program", s, d, api.ErrMissing, d, gone)
	a.Program, a.Input = bad, gone
	d = putAction(t, s, a)
	reaches(t, "a spoilt program", s, d, api.ErrCorrupt, d, bad)
	a.Program = x
	d = putAction(t, s, a)
	reaches(t, "no program's bytes", s, d, api.ErrTag, d, x)
	a.Program = putProgram(t, s, program("func f 0 0 1 | pop | num 1 | ret"))
	d = putAction(t, s, a)
	reaches(t, "a program that check refuses", s, d, api.ErrUnder, d, a.Program)

	a.Program = putProgram(t, s, seven())
	d = putAction(t, s, a)
	reaches(t, "no input", s, d, api.ErrMissing, d, a.Program, gone)
	a.Input = bad
	d = putAction(t, s, a)
	reaches(t, "a spoilt input", s, d, api.ErrCorrupt, d, a.Program, bad)
	a.Input = x
	d = putAction(t, s, a)
	reaches(t, "no directory", s, d, api.ErrTag, d, a.Program, x)
	a.Input = a.Program
	d = putAction(t, s, a)
	reaches(t, "the program as a directory", s, d, api.ErrTag, d, a.Program)

	sub := putDir(t, s, fileAt("1", y), fileAt("2", gone))
	a.Input = putDir(t, s, fileAt("a", x), dirAt("b", sub), fileAt("c", bad))
	d = putAction(t, s, a)
	reaches(t, "a file that is not there", s, d, api.ErrMissing, d, a.Program, a.Input, x, sub, y, gone)
	sub = putDir(t, s, fileAt("1", y), dirAt("2", x))
	a.Input = putDir(t, s, fileAt("a", x), dirAt("b", sub), fileAt("c", bad))
	d = putAction(t, s, a)
	reaches(t, "a file as a directory", s, d, api.ErrTag, d, a.Program, a.Input, x, sub, y)
	sub = putDir(t, s, fileAt("1", y), fileAt("2", x))
	a.Input = putDir(t, s, fileAt("a", x), dirAt("b", sub), fileAt("c", d), dirAt("d", sub))
	d = putAction(t, s, a)
	reaches(t, "all is there", s, d, api.OK, d, a.Program, a.Input, x, sub, y, last(t, s, a.Input))
}

// last is the digest of a directory's third entry.
func last(t testing.TB, s *cas.Store, d api.Digest) api.Digest {
	b, _ := s.Raw(d)
	l, e := node.Decode(b)
	is(t, "a directory", e, api.OK)
	return l[2].Digest
}

// Where the walk ends for want of room: what would be got behind it is not told.
func TestReachRooms(t *testing.T) {
	s := store(t, 32, 1<<20)
	x, y := put(t, s, 'x'), put(t, s, 'y', 'y')
	sub := putDir(t, s, fileAt("1", y))
	root := putDir(t, s, fileAt("a", x), dirAt("b", sub), fileAt("c", x))
	p := putProgram(t, s, seven())
	all := []api.Digest{root, x, sub, y}
	do := func(what string, lim api.Limits, want api.Errno, n int) {
		t.Helper()
		d := putAction(t, s, api.Action{Program: p, Input: root, Limits: lim})
		reaches(t, what, s, d, want, append([]api.Digest{d, p}, all[:n]...)...)
	}
	lim := wide()
	do("room", lim, api.OK, 4)
	for nodes, n := range []int{0, 1, 2, 3, 4} {
		if nodes > 0 {
			lim.Nodes = nodes
			do(fmt.Sprint("Nodes ", nodes), lim, api.ErrNodes, n)
		}
	}
	lim.Nodes = 5
	do("Nodes 5", lim, api.OK, 4)
	lim.Depth = 0
	do("Depth 0", lim, api.ErrDeep, 1)
	lim.Depth = 1
	do("Depth 1", lim, api.ErrDeep, 3)
	lim.Depth = 2
	do("Depth 2", lim, api.OK, 4)
	for size, n := range []int{2, 4, 4, 4} {
		lim.Bytes = size
		do(fmt.Sprint("Bytes ", size), lim, api.ErrBytes, n)
	}
	lim.Bytes = 4
	do("Bytes 4", lim, api.OK, 4)
	lim.Files, lim.Fuel, lim.Memory, lim.Stack = 0, 0, 0, 0
	do("what the run asks for is nothing to it", lim, api.OK, 4)
}

// tied puts, at the width 1, a directory of that digest whose only entry is of that kind.
func tied(t testing.TB, s *cas.Store, d api.Digest, x api.Entry) {
	t.Helper()
	for i := range 1 << 16 {
		x.Name = fmt.Sprint(i)
		b, _ := node.Encode([]api.Entry{x})
		if s.Digest(b) == d {
			put(t, s, b...)
			return
		}
	}
	t.Fatal("there is none")
}

// putAt puts, at the width 1, an action of a digest that nothing has.
func putAt(t testing.TB, s *cas.Store, a api.Action) api.Digest {
	t.Helper()
	for s.Has(s.Digest(laid(a))) {
		a.Limits.Fuel++
	}
	return putAction(t, s, a)
}

// A directory that has itself below itself: the walk ends where its room does, and so does Reach.
func TestReachRound(t *testing.T) {
	for _, kind := range []int{api.KDir, api.KFile} {
		s := store(t, 1, 1<<20)
		p := putProgram(t, s, seven())
		round := api.Digest{p[0] + 1}
		tied(t, s, round, api.Entry{Kind: kind, Digest: round})
		a := api.Action{Program: p, Input: round, Limits: wide(), Keep: keep("")}
		a.Limits.Depth, a.Limits.Nodes = 32, 1<<16
		d := putAt(t, s, a)
		want := map[int]api.Errno{api.KDir: api.ErrDeep, api.KFile: api.OK}[kind]
		reaches(t, "round", s, d, want, d, p, round)
		does(t, "round", s, d)
	}
	s := store(t, 1, 1<<20)
	p := putProgram(t, s, seven())
	one, two := api.Digest{p[0] + 1}, api.Digest{p[0] + 2}
	tied(t, s, one, api.Entry{Kind: api.KDir, Digest: two})
	tied(t, s, two, api.Entry{Kind: api.KDir, Digest: one})
	a := api.Action{Program: p, Input: one, Limits: wide()}
	a.Limits.Depth, a.Limits.Nodes = 32, 9
	d := putAt(t, s, a)
	reaches(t, "round by two, few nodes", s, d, api.ErrNodes, d, p, one, two)
	does(t, "round by two", s, d)
}

// Exec of a digest and Reach of it get the same, up to the same error, if the run and what is kept meet none.
func TestReachIsExecs(t *testing.T) {
	for n := range uint64(300) {
		r := seeded(5000 + n)
		w := drawnWorld(t, r)
		for _, d := range append(w.actions, w.one(r, nil)) {
			s, other := w.s.Twin(), w.s.Twin()
			_, e := act.Exec(s, d)
			l, re := act.Reach(other, d)
			is(t, "P1907: Gets", other.Counts().Gets, s.Counts().Gets)
			if re != api.OK {
				is(t, "P1907: its error is Exec's", e, re)
			}
			if len(l) == 0 || l[0] != d {
				t.Fatalf("P1907: the action stands first: %x", l)
			}
		}
	}
}

// As many digests as a walk may come to.
func TestReachGreat(t *testing.T) {
	s := store(t, 32, 1<<24)
	var dirs []api.Entry
	for i := range 64 {
		var files []api.Entry
		for j := range 1023 {
			if i == 63 && j == 1022 {
				break // the root is a node too
			}
			files = append(files, fileAt(fmt.Sprintf("%04d", j), put(t, s, byte(i), byte(j), byte(j>>8))))
		}
		dirs = append(dirs, dirAt(fmt.Sprintf("%02d", i), putDir(t, s, files...)))
	}
	root := putDir(t, s, dirs...)
	d := putAction(t, s, api.Action{Program: putProgram(t, s, seven()), Input: root, Limits: limitsOf(mostLimits())})
	l, e := act.Reach(s, d)
	is(t, "P1907: as many nodes as may be", e, api.OK)
	is(t, "P1907: as many nodes as may be", len(l), 1<<16+2)
	met := map[api.Digest]bool{}
	for _, x := range l {
		met[x] = true
	}
	is(t, "P1907: each once", len(met), len(l))
	b, e := act.Exec(s, d)
	is(t, "P1906: more than Files", e, api.ErrFiles)
	is(t, "P4", len(b), 0)
	root = putDir(t, s, append(dirs, fileAt("zz", root))...)
	d = putAction(t, s, api.Action{Program: putProgram(t, s, seven()), Input: root, Limits: limitsOf(mostLimits())})
	l, e = act.Reach(s, d)
	is(t, "P1907: one node more", e, api.ErrNodes)
	is(t, "P1907: one node more", len(l), 1<<16+2)
}
