package diff_test

import (
	"fmt"
	"math"
	"slices"
	"strings"
	"testing"

	"retort/api"
	"retort/diff"
	"retort/tree"
)

// plain holds Plain against what is wanted of two trees.
func plain(t testing.TB, what string, width int, a, b []api.Item, want []api.Change) {
	t.Helper()
	l, e := diff.Plain(width, a, b)
	if e != api.OK {
		t.Fatalf("P702: %s: %v", what, e)
	}
	sameChanges(t, "P702: "+what, l, want)
}

func TestPlainTheExamples(t *testing.T) {
	for _, width := range []int{8, 31, 32} {
		plain(t, "example 1", width, exampleA(), exampleB(), fromAToB(width))
		plain(t, "the other way", width, exampleB(), exampleA(), turned(fromAToB(width)))
		plain(t, "A and A", width, exampleA(), exampleA(), nil)
		plain(t, "none", width, nil, []api.Item{}, nil)
	}
}

func TestPlainRefuses(t *testing.T) {
	good := exampleA()
	for what, l := range wrongs() {
		for _, x := range [][2][]api.Item{{l, good}, {good, l}, {l, l}} {
			m, e := diff.Plain(32, x[0], x[1])
			if len(m) > 0 || e != api.ErrItems {
				t.Errorf("P702: %s: %d changes, %v", what, len(m), e)
			}
			m, e = diff.Plain(0, x[0], x[1])
			if len(m) > 0 || e != api.ErrWidth {
				t.Errorf("P702: the width ahead of %s: %d changes, %v", what, len(m), e)
			}
		}
	}
	for _, width := range []int{math.MinInt, -32, -1, 0, 33, 64, math.MaxInt} {
		m, e := diff.Plain(width, good, exampleB())
		if len(m) > 0 || e != api.ErrWidth {
			t.Errorf("P702: the width %d: %d changes, %v", width, len(m), e)
		}
	}
}

func TestPlainWidths(t *testing.T) {
	for width := 1; width <= 32; width++ {
		plain(t, fmt.Sprint("the width ", width), width, exampleA(), exampleB(), plainOf(width, exampleA(), exampleB()))
	}
}

// clash is two unlike blobs of one digest at the width 1.
func clash() ([]byte, []byte) {
	for i := 1; ; i++ {
		b := fmt.Appendf(nil, "%d", i)
		if digestOf(1, b) == digestOf(1, []byte("0")) {
			return []byte("0"), b
		}
	}
}

// W1: at a small width unlike files, directories, roots may have one digest: then nothing is told of them, and the rest is.
func TestPlainClash(t *testing.T) {
	one, other := clash()
	a, b := list(file("a", one...), file("b", 1)), list(file("a", other...), file("b", 2))
	at := func(b byte) api.Entry { return fileAt("b", digestOf(1, []byte{b})) }
	plain(t, "files of one digest", 1, a, b, []api.Change{edited("b", at(1), at(2))})
	is(t, "P702: at another width", len(plainOf(2, a, b)), 2)
	plain(t, "at another width", 2, a, b, plainOf(2, a, b))
	plain(t, "a file alone", 1, list(file("a", one...)), list(file("a", other...)), nil)

	// two directories of one digest with unlike files in them
	dirs := func(i int) []api.Item {
		return list(dir("d"), file("d/f", fmt.Append(nil, i)...), file("d/g", fmt.Append(nil, "g", i)...))
	}
	i := 1
	for rootOf(1, below(dirs(i), "d")) != rootOf(1, below(dirs(0), "d")) || digestOf(1, fmt.Append(nil, i)) == digestOf(1, []byte("0")) {
		i++
	}
	plain(t, "directories of one digest", 1, append(dirs(0), file("e", 1)), append(dirs(i), file("e", 2)), plainOf(1, list(file("e", 1)), list(file("e", 2))))
	is(t, "P702: one change", len(plainOf(1, append(dirs(0), file("e", 1)), append(dirs(i), file("e", 2)))), 1)
	plain(t, "roots of one digest", 1, below(dirs(0), "d"), below(dirs(i), "d"), nil)
	is(t, "P702: at another width", len(plainOf(32, below(dirs(0), "d"), below(dirs(i), "d"))), 2)

	// and a directory that stands at two places, unlike at one of them
	x := append(dirs(0), list(dir("e"), file("e/f", '0'), file("e/g", 'g', '0'))...)
	y := append(dirs(i), list(dir("e"), file("e/f", 1, 2, 3))...)
	plain(t, "by paths, not by digests", 1, x, y, plainOf(1, x, y))
	plain(t, "by paths, not by digests", 1, y, x, plainOf(1, y, x))
}

func TestPlainKinds(t *testing.T) {
	d, f := list(dir("d"), file("d/x", 1)), list(file("d", 1))
	was := dirAt("d", rootOf(32, list(file("x", 1))))
	now := fileAt("d", digestOf(32, []byte{1}))
	plain(t, "a directory, then a file", 32, d, f, []api.Change{edited("d", was, now)})
	plain(t, "a file, then a directory", 32, f, d, []api.Change{edited("d", now, was)})
	plain(t, "none, then a directory", 32, nil, d, []api.Change{added("d", was)})
	plain(t, "a directory, then none", 32, d, nil, []api.Change{dropped("d", was)})
	// a file with the bytes of the directory in whose place it stands
	empty := fileAt("d", digestOf(32, []byte{1, 0}))
	plain(t, "one digest, two kinds", 32, list(dir("d")), list(file("d", 1, 0)), []api.Change{edited("d", dirAt("d", empty.Digest), empty)})
	plain(t, "no bytes", 32, list(api.Item{Path: "a", Dir: true, Data: []byte{}}, api.Item{Path: "b", Data: []byte{}}), list(dir("a"), file("b")), nil)
}

// As deep, as wide and as much as may be.
func TestPlainMost(t *testing.T) {
	long := strings.Repeat("n", 64)
	at := strings.Repeat(long+"/", 31)
	a, b := append(chain(long, 31), file(at+"f", 1)), append(chain(long, 31), file(at+"f", 2))
	one, two := digestOf(32, []byte{1}), digestOf(32, []byte{2})
	plain(t, "as deep", 32, a, b, []api.Change{edited(at+"f", fileAt("f", one), fileAt("f", two))})
	empty := digestOf(32, []byte{1, 0})
	plain(t, "a directory as deep", 32, append(chain(long, 31), dir(at+"f")), b, []api.Change{edited(at+"f", dirAt("f", empty), fileAt("f", two))})
	plain(t, "as deep and alike", 32, chain("a", 32), chain("a", 32), nil)

	wide := append(list(dir("a")), fan("a/", 1024)...)
	var want []api.Change
	for _, x := range fan("a/", 1024) {
		want = append(want, dropped(x.Path, fileAt(nameOf(x.Path), digestOf(32, x.Data))))
	}
	plain(t, "as wide", 32, wide, list(dir("a")), want)
	plain(t, "as wide", 32, list(dir("a")), wide, turned(want))

	l := many("", 1<<16-1)
	m := slices.Clone(l)
	m[1<<15+1].Data = []byte{1}
	none := digestOf(32, nil)
	name := nameOf(m[1<<15+1].Path)
	plain(t, "as many", 32, l, m, []api.Change{edited(m[1<<15+1].Path, fileAt(name, none), fileAt(name, one))})
}

// No Room is looked at: here Between would meet ErrNodes.
func TestPlainLooksAtNoRoom(t *testing.T) {
	of := func(b byte) []api.Item {
		var l []api.Item
		for i := range 32 {
			l = append(l, dir(fmt.Sprintf("%02d", i)))
			for j := range 1023 {
				l = append(l, dir(fmt.Sprintf("%02d/%04d", i, j)), file(fmt.Sprintf("%02d/%04d/f", i, j), b))
			}
		}
		return l
	}
	a, b := of(1), of(2)
	l, e := diff.Plain(32, a, b)
	if e != api.OK || len(l) != 32*1023 {
		t.Errorf("P702: %d changes, %v", len(l), e)
	}
	s := store(t, 32, 1<<24)
	refuses(t, "one pair more than half of 1 << 16", s, kept(t, s, a), kept(t, s, b), greatest(), api.ErrNodes, 1<<16)
}

// What Plain tells is what the other way round, over lists, tells; and what Between tells of a Store in which all lies.
func TestPlainDrawn(t *testing.T) {
	seen := map[int]int{}
	for n := range uint64(1500) {
		r := seeded(n)
		a := drawTree(r, "", 3)
		b := drawNext(r, a, 6)
		width := 1 + r.IntN(3)
		if n%3 == 0 {
			width = 32
		}
		want := plainOf(width, a, b)
		plain(t, fmt.Sprint("drawn ", n), width, a, b, want)
		plain(t, fmt.Sprint("drawn, turned ", n), width, b, a, turned(want))
		for _, c := range want {
			seen[c.Kind]++
		}
		if width < 32 {
			continue
		}
		s := store(t, 32, 1<<20)
		x, y := kept(t, s, a), kept(t, s, b)
		l, e := diff.Between(s, x, y, greatest())
		is(t, "P702: Between", e, api.OK)
		sameChanges(t, "P702: what Between tells", l, want)
		got, e := diff.Lay(s, a, want)
		is(t, "P705", e, api.OK)
		sameItems(t, "P705: by Plain", got, b)
	}
	for _, kind := range []int{api.CAdd, api.CDrop, api.CEdit} {
		if seen[kind] < 200 {
			t.Errorf("the kind %d was met %d times only", kind, seen[kind])
		}
	}
}

// P705, where b's blobs alone lie in the Store: of the changes nothing else is got.
func TestThereByPlain(t *testing.T) {
	for n := range uint64(300) {
		r := seeded(n)
		a := drawTree(r, "", 3)
		b := drawNext(r, a, 6)
		s := store(t, 32, 1<<20)
		kept(t, s, b)
		l, _ := diff.Plain(32, a, b)
		got, e := diff.Lay(s, a, l)
		is(t, "P703", e, api.OK)
		sameItems(t, "P705: by Plain", got, b)
		root, _, _ := tree.Build(32, got)
		is(t, "P705: its root", root, rootOf(32, b))
	}
}
