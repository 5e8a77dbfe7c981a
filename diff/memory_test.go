package diff_test

import (
	"bytes"
	"fmt"
	"slices"
	"strings"
	"testing"
	"unsafe"

	"retort/api"
	"retort/cas"
	"retort/diff"
)

// roomyBytes has those bytes with spare room behind them, in which something lies too.
func roomyBytes(b []byte) []byte {
	more := append(append(make([]byte, 0, len(b)+8), b...), "spare"...)
	return more[:len(b)]
}

// roomy has those items, with spare room behind them and behind their bytes.
func roomy(l []api.Item) []api.Item {
	more := make([]api.Item, len(l)+3)
	for i := range more {
		more[i] = file("spare", 's')
	}
	for i, x := range l {
		more[i] = api.Item{Path: strings.Clone(x.Path), Dir: x.Dir, Data: roomyBytes(x.Data)}
	}
	return more[:len(l)]
}

func roomyChanges(l []api.Change) []api.Change {
	more := slices.Clone(l)
	for i, c := range more {
		c.Path, c.Was.Name, c.Now.Name = strings.Clone(c.Path), strings.Clone(c.Was.Name), strings.Clone(c.Now.Name)
		more[i] = c
	}
	return append(more, added("spare", f2()), added("spare", f2()))[:len(l)]
}

// image is all of a list, its spare room and that of its bytes too, apart.
func image(l []api.Item) []api.Item {
	l = slices.Clone(l[:cap(l)])
	for i, x := range l {
		l[i].Data = bytes.Clone(x.Data[:cap(x.Data)])
	}
	return l
}

func spoilBytes(b []byte) {
	b = b[:cap(b)]
	for i := range b {
		b[i] ^= 0xff
	}
}

// spoil writes all of a list, its spare room and its bytes too.
func spoil(l []api.Item) {
	l = l[:cap(l)]
	for i := range l {
		spoilBytes(l[i].Data)
		l[i] = file("spoilt", 0)
	}
}

func spoilChanges(l []api.Change) {
	l = l[:cap(l)]
	for i := range l {
		l[i] = added("spoilt", f2())
	}
}

// told is an answer of any of the calls.
type told struct {
	items     []api.Item
	changes   []api.Change
	conflicts []api.Conflict
}

// text is all that an answer says.
func (x told) text() string { return fmt.Sprint(x.items, x.changes, x.conflicts) }

// bytesOf are all lists of bytes of an answer.
func (x told) bytesOf() [][]byte {
	var l [][]byte
	for _, y := range x.items {
		l = append(l, y.Data)
	}
	for _, c := range x.conflicts {
		l = append(l, c.Base.Data, c.Ours.Data, c.Theirs.Data)
	}
	return l
}

func (x told) texts() []string {
	var l []string
	for _, y := range x.items {
		l = append(l, y.Path)
	}
	for _, c := range x.changes {
		l = append(l, c.Path, c.Was.Name, c.Now.Name)
	}
	for _, c := range x.conflicts {
		l = append(l, c.Path, c.Base.Path, c.Ours.Path, c.Theirs.Path)
	}
	return l
}

func (x told) spoil() {
	spoil(x.items)
	spoilChanges(x.changes)
	for _, c := range x.conflicts {
		spoil(list(c.Base, c.Ours, c.Theirs))
	}
	for i := range x.conflicts[:cap(x.conflicts)] {
		x.conflicts[:cap(x.conflicts)][i] = api.Conflict{Path: "spoilt"}
	}
}

// given is what is handed in to a call.
type given struct {
	lists   [3][]api.Item
	changes []api.Change
}

func (g given) roomy() given {
	for i, l := range g.lists {
		g.lists[i] = roomy(l)
	}
	g.changes = roomyChanges(g.changes)
	return g
}

// text is all of what is handed in, its spare room too.
func (g given) text() string {
	return fmt.Sprint(image(g.lists[0]), image(g.lists[1]), image(g.lists[2]), g.changes[:cap(g.changes)])
}

func (g given) texts() []string {
	x := told{items: slices.Concat(g.lists[:]...), changes: g.changes}
	return x.texts()
}

func (g given) spoil() {
	for _, l := range g.lists {
		spoil(l)
	}
	spoilChanges(g.changes)
}

// calls are those of the package.
func calls(s *cas.Store) map[string]func(g given) told {
	return map[string]func(g given) told{
		"Plain": func(g given) told {
			l, _ := diff.Plain(32, g.lists[1], g.lists[2])
			return told{changes: l}
		},
		"Between": func(g given) told {
			l, _ := diff.Between(s, rootOf(32, exampleA()), rootOf(32, exampleB()), greatest())
			return told{changes: l}
		},
		"Lay": func(g given) told {
			l, _ := diff.Lay(s, g.lists[1], g.changes)
			return told{items: l}
		},
		"Merge": func(g given) told {
			l, c, _ := diff.Merge(g.lists[0], g.lists[1], g.lists[2])
			return told{items: l, conflicts: c}
		},
	}
}

// givens are handed in: right, wrong, none.
func givens() []given {
	x := list(dir("a"), file("a/x", 1), file("b", 7, 8, 9), dir("c"), file("c/c", 4))
	o := list(dir("a"), file("a/x", 2), file("a/y", 2), file("b", 7), file("e", 1))
	u := list(dir("a"), file("a/x", 3), file("b", 7, 8), dir("c"), file("c/c", 4), file("c/d", 5), dir("d"), file("d/f", 1))
	changes := plainOf(32, o, u)
	return []given{
		{[3][]api.Item{x, o, u}, changes}, {[3][]api.Item{nil, o, u}, changes}, {[3][]api.Item{x, o, nil}, changes[:1]}, {},
		{[3][]api.Item{x, o, u[1:]}, turned(changes)}, {[3][]api.Item{x[1:], o, u}, append(slices.Clone(changes), changes...)}, {[3][]api.Item{x, o[1:], u}, nil},
	}
}

// What is handed in stays as it is, its spare room too; what is told is changed without a trace in it or in what lies in the Store; and the other way.
func TestListsStayApart(t *testing.T) {
	for i, was := range givens() {
		s := store(t, 32, 10000)
		kept(t, s, exampleA())
		kept(t, s, exampleB())
		kept(t, s, givens()[0].lists[2])
		lay := lying(s)
		for what, call := range calls(s) {
			what = fmt.Sprint(what, " of ", i)
			g := was.roomy()
			all := g.text()
			answer := call(g)
			is(t, "P2: handed in to "+what, g.text(), all)
			want := answer.text()
			call(g).spoil()
			is(t, "P2: two answers of "+what, answer.text(), want)
			is(t, "P2: what is told by "+what, g.text(), all)
			for _, p := range answer.texts() {
				for _, q := range g.texts() {
					if p != "" && q != "" && unsafe.StringData(p) == unsafe.StringData(q) {
						t.Errorf("P2: %s: %q is told in the memory in which it was handed in", what, q)
					}
				}
			}
			g.spoil()
			is(t, "P2: kept by "+what, answer.text(), want)
			is(t, "P2: the Store: "+what, lying(s), lay)
			again := call(was)
			is(t, "P3: again: "+what, again.text(), want)
		}
	}
}

// No two lists of one answer share memory: each is spoilt with the others looked at.
func TestToldApart(t *testing.T) {
	s := store(t, 32, 10000)
	kept(t, s, givens()[0].lists[2])
	same := []byte{1, 2, 3}
	g := givens()[0]
	shared := given{[3][]api.Item{list(api.Item{Path: "a", Data: same}), list(api.Item{Path: "a", Data: same[:2]}, api.Item{Path: "b", Data: same}), list(api.Item{Path: "a", Data: same[:1]}, api.Item{Path: "b", Data: same}, api.Item{Path: "c", Data: same})}, nil}
	twice := given{[3][]api.Item{1: list(dir("a"))}, row(added("b", fileAt("b", digestOf(32, []byte{3}))), added("c", fileAt("c", digestOf(32, []byte{3}))), added("d", dirAt("d", rootOf(32, list(file("f", 1))))))}
	for _, g := range []given{g, shared, twice} {
		for what, call := range calls(s) {
			lists := call(g).bytesOf()
			for i, b := range lists {
				var was [][]byte
				for _, c := range lists {
					was = append(was, bytes.Clone(c))
				}
				spoilBytes(b)
				for j, c := range lists {
					if j != i && !bytes.Equal(c, was[j]) {
						t.Errorf("P2: %s: two lists of one answer", what)
					}
				}
			}
		}
	}
	is(t, "P2: what lies in the Store", s.Whole(digestOf(32, []byte{3})), true)
}

// Each answer's spare room is its own: what is put behind one list is not seen in another.
func TestSpareRoom(t *testing.T) {
	g := givens()[0]
	l, conflicts, _ := diff.Merge(g.lists[0], g.lists[1], g.lists[2])
	want := told{items: l, conflicts: conflicts}.text()
	for _, x := range l {
		_ = append(x.Data, "behind it"...)
	}
	for _, c := range conflicts {
		_ = append(c.Ours.Data, "behind it"...)
	}
	_ = append(l, file("behind"))
	is(t, "P2: spare room", told{items: l, conflicts: conflicts}.text(), want)
}

// No list and an empty one are the same.
func TestNoneAndEmpty(t *testing.T) {
	s := store(t, 32, 1000)
	put(t, s)
	bare := []api.Item{{Path: "a", Dir: true, Data: []byte{}}, {Path: "a/x", Data: []byte{}}}
	plain(t, "no bytes", 32, bare, list(dir("a"), file("a/x")), nil)
	x := fileAt("x", digestOf(32, nil))
	lays(t, "no bytes", s, bare, row(edited("a/x", x, x)), list(dir("a"), file("a/x")), api.OK, 1)
	merges(t, "no bytes", bare, list(dir("a"), file("a/x")), nil, nil)
	merges(t, "no bytes", list(dir("a"), file("a/x")), nil, bare, nil)
	for _, l := range [][]api.Item{nil, {}} {
		plain(t, "none", 32, l, nil, nil)
		lays(t, "none", s, l, nil, nil, api.OK, 0)
		lays(t, "none", s, l, []api.Change{}, nil, api.OK, 0)
		merges(t, "none", l, nil, []api.Item{}, nil)
	}
}

// P3: the same calls answer the same, however a map is gone through.
func TestSameAgain(t *testing.T) {
	r := seeded(3)
	for range 30 {
		x := drawTree(r, "", 3)
		o, u := drawNext(r, x, 8), drawNext(r, x, 8)
		s := store(t, 32, 1<<20)
		kept(t, s, u)
		answer := func() string {
			changes, _ := diff.Plain(2, o, u)
			full, _ := diff.Plain(32, o, u)
			laid, _ := diff.Lay(s, o, full)
			l, conflicts, _ := diff.Merge(x, o, u)
			return told{l, changes, conflicts}.text() + fmt.Sprint(laid)
		}
		want := answer()
		for range 10 {
			is(t, "P3", answer(), want)
		}
	}
}
