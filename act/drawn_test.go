package act_test

import (
	"fmt"
	"math/rand/v2"
	"slices"
	"strings"
	"testing"

	"retort/api"
	"retort/cas"
	"retort/node"
	"retort/prog"
	"retort/tree"
)

// drawnProgram does calls of files, one behind the other, and ends in some way.
func drawnProgram(r *rand.Rand) api.Program {
	paths := [][2]int{{0, 1}, {1, 1}, {2, 3}, {2, 1}, {0, 2}, {0, 0}, {5, 2}}
	s := fmt.Sprintf(`memory %d | data "abc/d" | func f 0 1 1 |`, []int{20, 20, 20, 20, 20, 20, 101}[r.IntN(7)])
	for range r.IntN(9) {
		p := paths[r.IntN(len(paths))]
		switch r.IntN(6) {
		case 0, 1:
			s += openAs(p[0], p[1], []int{0, 1, 2, 3, 5, 6, 7, 6, 6}[r.IntN(9)])
		case 2, 3:
			s += fmt.Sprintf("num %d | num %d | num %d | sys write |", r.IntN(3), r.IntN(9), r.IntN(7))
		case 4:
			s += fmt.Sprintf("num %d | num %d | num %d | sys read |", r.IntN(3), 8+r.IntN(5), r.IntN(7))
		case 5:
			s += fmt.Sprintf("num %d | num %d | num 10 | num %d | sys list |", p[0], p[1], r.IntN(10))
		}
		s += []string{"pop |", "get 0 | add | set 0 |"}[r.IntN(2)]
		if r.IntN(5) == 0 {
			s += fmt.Sprintf("num %d | sys close | pop |", r.IntN(2))
		}
	}
	s += []string{
		"num 1 | num 0 | div | ret", "num 13 | load | ret", "num 0x7ff8000000000000 | toi | ret", "num -3 | abort", "get 0 | abort", "again: jump again",
		"num 1 | call 1 | ret | func g 1 1 1 | get 0 | call 1 | ret",
		"num 3 | ret", "get 0 | ret", "get 0 | halt", "get 0 | ret", "get 0 | ret", "get 0 | ret", "num 3 | ret", "num 3 | ret", "num 3 | ret", "num 3 | ret", "num 3 | ret", "num 3 | ret", "num 3 | ret",
	}[r.IntN(20)]
	return program(s)
}

// drawnTree is one with few items in each directory, and few bytes, many of them the same.
func drawnTree(r *rand.Rand, ahead string, depth int) []api.Item {
	contents := [][]byte{nil, {0}, {1, 0}, []byte("ab"), []byte("bytes")}
	var l []api.Item
	for _, name := range []string{"a", "b", "c", "d"} {
		switch r.IntN(4) {
		case 0, 1:
		case 2:
			l = append(l, file(ahead+name, contents[r.IntN(len(contents))]...))
		case 3:
			l = append(l, dir(ahead+name))
			if depth > 0 {
				l = append(l, drawnTree(r, ahead+name+"/", depth-1)...)
			}
		}
	}
	return l
}

// drawnKeep are paths to keep; now and then they may not be.
func drawnKeep(r *rand.Rand) []string {
	switch r.IntN(12) {
	case 0:
		return keep("b", "a")
	case 1, 2, 3:
		return keep("")
	}
	var l []string
	for _, p := range []string{"a", "a/a", "a/b", "ab", "b", "c", "c/d", "d/d"} {
		if r.IntN(3) == 0 && (len(l) == 0 || !under(l[len(l)-1], p)) {
			l = append(l, p)
		}
	}
	return l
}

// drawnLimits are wide, but for one of them now and then.
func drawnLimits(r *rand.Rand) api.Limits {
	l := wide()
	if r.IntN(2) == 0 {
		return l
	}
	switch r.IntN(8) {
	case 0:
		l.Fuel = r.IntN(60)
	case 1:
		l.Memory = r.IntN(30)
	case 2:
		l.Stack = r.IntN(8)
	case 3:
		l.Bytes = r.IntN(30)
	case 4:
		l.Files = r.IntN(12)
	case 5:
		l.Open = r.IntN(3)
	case 6:
		l.Nodes = 1 + r.IntN(12)
	case 7:
		l.Depth = r.IntN(4)
	}
	return l
}

// world is a Store in which actions lie, and what they are made of.
type world struct {
	s        *cas.Store
	programs []api.Digest
	roots    []api.Digest
	actions  []api.Digest
}

// one is drawn of those that were made, or of all that lie there, or lies nowhere.
func (w *world) one(r *rand.Rand, made []api.Digest) api.Digest {
	switch n := r.IntN(16); {
	case n == 0:
		return w.s.Digest([]byte{byte(r.Int()), byte(r.Int())})
	case n > 1 && len(made) > 0:
		return made[r.IntN(len(made))]
	}
	var all []api.Digest
	for d := range w.s.All() {
		all = append(all, d)
	}
	if len(all) == 0 {
		return api.Digest{}
	}
	return all[r.IntN(len(all))]
}

// oddDir is a directory that names any digests.
func (w *world) oddDir(r *rand.Rand) []byte {
	var l []api.Entry
	for _, name := range []string{"a", "b", "c", "d", "e"} {
		if r.IntN(2) == 0 {
			l = append(l, api.Entry{Name: name, Kind: 1 + r.IntN(2), Digest: w.one(r, w.roots)})
		}
	}
	b, _ := node.Encode(l)
	return b
}

// drawnWorld has few digests, or many; of small widths unlike blobs have the same ones.
func drawnWorld(t testing.TB, r *rand.Rand) *world {
	w := &world{s: store(t, []int{1, 1, 2, 32}[r.IntN(4)], 1<<20)}
	put := func(l *[]api.Digest, b []byte) {
		if d, e := w.s.Put(b); e == api.OK {
			*l = append(*l, d)
		}
	}
	var others []api.Digest
	for range r.IntN(30) {
		put(&others, []byte(strings.Repeat("x", r.IntN(40))))
	}
	for range 4 {
		b, _ := prog.Encode(drawnProgram(r))
		put(&w.programs, b)
		if root, e := tree.Keep(w.s, drawnTree(r, "", 2)); e == api.OK {
			w.roots = append(w.roots, root)
		}
	}
	for range r.IntN(4) {
		put(&w.roots, w.oddDir(r))
	}
	if r.IntN(4) == 0 { // programs that check refuses
		put(&w.programs, []byte{2, 0, 0, 1, 0, 0, 1, 1, 18})
		put(&w.programs, []byte{2, 0, 0, 1, 0, 0, 1, 2, 4, 18})
	}
	put(&others, []byte{3, 0})
	for range 6 {
		a := api.Action{Program: w.one(r, w.programs), Input: w.one(r, w.roots), Limits: drawnLimits(r), Keep: drawnKeep(r), Fresh: r.IntN(2) == 0}
		put(&w.actions, laid(a))
	}
	w.spoil(r)
	return w
}

// spoil lets foreign hands in.
func (w *world) spoil(r *rand.Rand) {
	if r.IntN(3) == 0 {
		w.s.Evict(w.one(r, slices.Concat(w.programs, w.roots)))
	}
	if r.IntN(2) == 0 {
		w.s.Plant(w.one(r, nil), []byte(strings.Repeat("spoilt", r.IntN(9))))
	}
	if r.IntN(3) == 0 {
		w.s.Plant(w.s.Digest([]byte{1, 0}), []byte("spoilt, longer than it was")) // the empty directory's place
	}
	if r.IntN(3) == 0 {
		w.s.Limit(max(0, w.s.Used()+r.IntN(120)-10))
	}
}

// Each action of drawn Stores, and digests of no action, done as the oracle has it, with all that follows.
func TestDrawn(t *testing.T) {
	rounds := uint64(700)
	if testing.Short() {
		rounds = 100
	}
	seen, laid := map[api.Errno]int{}, map[string]int{}
	for n := range rounds {
		r := seeded(n)
		w := drawnWorld(t, r)
		for _, d := range append(w.actions, w.one(r, nil)) {
			was := lying(w.s)
			x := does(t, fmt.Sprint("drawn ", n), w.s, d)
			seen[x.e]++
			if x.e == api.OK {
				laid[fmt.Sprint(x.o.End, " ", lying(w.s) != was)]++
			} else if lying(w.s) != was {
				laid[x.e.Error()]++
			}
			if r.IntN(4) == 0 {
				w.spoil(r)
			}
		}
	}
	if testing.Short() {
		return
	}
	for _, e := range []api.Errno{api.OK, api.ErrMissing, api.ErrCorrupt, api.ErrTag, api.ErrCut, api.ErrKeep, api.ErrUnder, api.ErrRet, api.ErrDeep, api.ErrNodes, api.ErrBytes, api.ErrFiles, api.ErrFull, api.ErrClash} {
		if seen[e] < 5 {
			t.Errorf("%v was met %d times only", e, seen[e])
		}
	}
	for _, what := range []string{"1 true", "1 false", "2 false", "full", "clash"} {
		if laid[what] < 5 {
			t.Errorf("%s was met %d times only", what, laid[what])
		}
	}
	t.Log(seen, laid)
}

// FuzzExec takes bytes as an action, a program and a directory in one Store of a drawn width and capacity.
func FuzzExec(f *testing.F) {
	p, _ := prog.Encode(writing(2, [2]int{0, 1}))
	d, _ := node.Encode(nil)
	f.Add(laid(api.Action{Limits: wide(), Keep: keep("a")})[65:], p, d, 32, 1000)
	f.Add(laid(api.Action{Limits: wide(), Keep: keep("")})[65:], p, d, 1, 400)
	for n := range uint64(20) {
		r := seeded(n)
		p, _ = prog.Encode(drawnProgram(r))
		d, _ = node.Encode([]api.Entry{fileAt("a", api.Digest{byte(n)}), dirAt("b", api.Digest{byte(n)})})
		f.Add(laid(api.Action{Limits: drawnLimits(r), Keep: drawnKeep(r)})[65:], p, d, 1, 1000)
	}
	f.Fuzz(func(t *testing.T, rest, program, root []byte, width, capacity int) {
		s := store(t, 1+int(uint(width)%32), 1<<20)
		p, i := s.Digest(program), s.Digest(root)
		a := slices.Concat([]byte{3}, p[:], i[:], rest)
		x, e := actionOf(a)
		if e == api.OK && x.Limits.Fuel > 5000 {
			return
		}
		for _, b := range [][]byte{program, root, a} {
			s.Put(b)
		}
		s.Limit(int(uint(capacity) % (1 << 16)))
		does(t, "fuzz", s, s.Digest(a))
		does(t, "fuzz", s, s.Digest(root))
	})
}
