package tree_test

import (
	"fmt"
	"math/rand/v2"
	"slices"
	"strings"
	"testing"

	"retort/api"
	"retort/tree"
)

// paths has n of them, in order.
func paths(n int) []string {
	var keep []string
	for i := range n {
		keep = append(keep, fmt.Sprintf("%03d", i))
	}
	return keep
}

func rightKeeps() [][]string {
	long := strings.Repeat("n", 64)
	return [][]string{
		nil, {}, {""}, {"a"}, {"a/x", "c"}, {"a", "b"}, {"a/b", "a-"}, {"a/b", "a-/b", "ab"}, {"a/b/c", "a/c"}, {"a", "aa", "aaa"}, {"a/x", "a/xx", "b"},
		{"...", "a"}, {"\x01", "\xff"}, {long}, {strings.Repeat(long+"/", 31) + long}, {strings.Repeat("a/", 31) + "a", strings.Repeat("a/", 31) + "b"}, paths(63), paths(64),
	}
}

func wrongKeeps() [][]string {
	return [][]string{
		{"", "a"}, {"a", ""}, {"", ""}, {"a", "a"}, {"b", "a"}, {"a", "a/x"}, {"a/x", "a"}, {"a", "a/x/y"}, {"a", "a/x", "b"}, {"a", "b", "b/c"}, {"a", "b", "c", "c"},
		{"a-", "a/b"}, {"aa", "a"}, {"a", "c", "b"}, {"a/"}, {"/a"}, {"/"}, {"."}, {".."}, {"a/../b"}, {"a//b"}, {"a/."}, {"a\x00"}, {"a", "b/"}, {"a/", "b"},
		{strings.Repeat("n", 65)}, {strings.Repeat("a/", 32) + "a"}, {strings.Repeat("n", 5000)}, paths(65), paths(1000), slices.Repeat([]string{""}, 65), append(paths(64), "a"),
	}
}

func TestCheckKeep(t *testing.T) {
	for _, keep := range rightKeeps() {
		is(t, fmt.Sprintf("P605: %q", keep), tree.CheckKeep(keep), api.OK)
		is(t, "the oracle", checkKeepOf(keep), api.OK)
	}
	for _, keep := range wrongKeeps() {
		is(t, fmt.Sprintf("P605: %q", keep), tree.CheckKeep(keep), api.ErrKeep)
		is(t, "the oracle", checkKeepOf(keep), api.ErrKeep)
		for _, l := range [][]api.Item{nil, example()} {
			left, missing, e := tree.Cut(l, keep)
			if len(left) > 0 || len(missing) > 0 || e != api.ErrKeep {
				t.Errorf("P606: %q: %s, %q, %v", keep, brief(left), missing, e)
			}
		}
	}
}

// drawKeep is some paths, of a tree or near it, mostly such as may be kept.
func drawKeep(r *rand.Rand, l []api.Item) []string {
	var keep []string
	for range r.IntN(5) {
		p := names()[r.IntN(len(names()))]
		if len(l) > 0 && r.IntN(4) > 0 {
			p = l[r.IntN(len(l))].Path
		}
		if r.IntN(5) == 0 {
			p += "/" + names()[r.IntN(len(names()))]
		}
		keep = append(keep, p)
	}
	if r.IntN(10) == 0 {
		keep = append(keep, "")
	}
	if r.IntN(5) > 0 {
		slices.SortFunc(keep, order)
		keep = slices.CompactFunc(keep, under)
	}
	return keep
}

// cuts holds Cut against what is wanted, P610 too.
func cuts(t testing.TB, l []api.Item, keep []string, want []api.Item, gone []string) {
	t.Helper()
	left, missing, e := tree.Cut(l, keep)
	is(t, fmt.Sprintf("P606: %q", keep), e, api.OK)
	sameItems(t, fmt.Sprintf("P606: %q", keep), left, want)
	sameTexts(t, fmt.Sprintf("P606: %q: missing", keep), missing, gone)
	is(t, "P610: a tree", tree.Check(left), api.OK)
	for _, x := range left {
		if y, ok := tree.Find(l, x.Path); !ok || !sameItem(x, y) {
			t.Fatalf("P610: %q is none of the tree's", x.Path)
		}
	}
	again, missing, e := tree.Cut(left, keep)
	is(t, "P610: again", e, api.OK)
	sameItems(t, "P610: again", again, left)
	sameTexts(t, "P610: missing again", missing, gone)
}

func TestCutTheExamples(t *testing.T) {
	l := example()
	cuts(t, l, []string{"a/x", "c"}, l[:2], []string{"c"})
	cuts(t, l, []string{"a"}, l[:2], nil)
	cuts(t, l, nil, nil, nil)
	cuts(t, l, []string{""}, l, nil)
}

func TestCut(t *testing.T) {
	l := list(dir("a"), dir("a/b"), file("a/b/c", 1), dir("a/b/d"), file("a/b-", 2), file("a-", 3), file("aa", 4), dir("b"), dir("b/c"), file("c", 5))
	at := func(paths ...string) []api.Item {
		var want []api.Item
		for _, p := range paths {
			i := slices.IndexFunc(l, func(x api.Item) bool { return x.Path == p })
			want = append(want, l[i])
		}
		return want
	}
	for _, x := range []struct{ keep, left, missing []string }{
		{[]string{"a"}, []string{"a", "a/b", "a/b/c", "a/b/d", "a/b-"}, nil},
		{[]string{"a/b"}, []string{"a", "a/b", "a/b/c", "a/b/d"}, nil},
		{[]string{"a/b/c"}, []string{"a", "a/b", "a/b/c"}, nil},
		{[]string{"a/b/d"}, []string{"a", "a/b", "a/b/d"}, nil},
		{[]string{"a/b-"}, []string{"a", "a/b-"}, nil},
		{[]string{"a/b/d", "a/b-"}, []string{"a", "a/b", "a/b/d", "a/b-"}, nil},
		{[]string{"aa"}, []string{"aa"}, nil},
		{[]string{"b"}, []string{"b", "b/c"}, nil},
		{[]string{"b/c", "c"}, []string{"b", "b/c", "c"}, nil},
		{[]string{"b/c/d"}, nil, []string{"b/c/d"}},
		{[]string{"a/x"}, nil, []string{"a/x"}},
		{[]string{"a/b/c/d"}, nil, []string{"a/b/c/d"}},
		{[]string{"c/d"}, nil, []string{"c/d"}},
		{[]string{"a/b/x", "a/x", "b/c", "b/x", "d"}, []string{"b", "b/c"}, []string{"a/b/x", "a/x", "b/x", "d"}},
		{[]string{"!", "a/b/c", "z"}, []string{"a", "a/b", "a/b/c"}, []string{"!", "z"}},
		{[]string{"a/b/c", "a-", "aa", "c"}, []string{"a", "a/b", "a/b/c", "a-", "aa", "c"}, nil},
	} {
		cuts(t, l, x.keep, at(x.left...), x.missing)
	}
	cuts(t, nil, []string{""}, nil, nil)
	cuts(t, nil, []string{"a", "b/c"}, nil, []string{"a", "b/c"})
	cuts(t, nil, nil, nil, nil)
}

// As many paths as may be, all, some and none of them there.
func TestCutMany(t *testing.T) {
	keep := paths(64)
	var l []api.Item
	for _, p := range paths(70) {
		l = append(l, file(p, 1))
	}
	cuts(t, l, keep, l[:64], nil)
	cuts(t, l[32:], keep, l[32:64], keep[:32])
	cuts(t, list(file("a")), keep, nil, keep)
}

// As deep as may be.
func TestCutDeep(t *testing.T) {
	l := chain("a", 32)
	for i := range l {
		cuts(t, l, []string{l[i].Path}, l, nil)
		if i < 31 {
			cuts(t, l, []string{l[i].Path + "/b"}, nil, []string{l[i].Path + "/b"})
		}
	}
}

func TestCutDrawn(t *testing.T) {
	r := seeded(606)
	seen := map[api.Errno]int{}
	for range 5000 {
		l := drawTree(r, "", 3)
		keep := drawKeep(r, l)
		e := checkKeepOf(keep)
		is(t, fmt.Sprintf("P605: %q", keep), tree.CheckKeep(keep), e)
		seen[e]++
		if e == api.OK {
			want, gone := cutOf(l, keep)
			cuts(t, l, keep, want, gone)
			continue
		}
		left, missing, got := tree.Cut(l, keep)
		if len(left) > 0 || len(missing) > 0 || got != e {
			t.Fatalf("P606: %q: %s, %q, %v", keep, brief(left), missing, got)
		}
	}
	if seen[api.OK] < 500 || seen[api.ErrKeep] < 500 {
		t.Error("too few of a kind:", seen)
	}
}

// T3: what was cut, kept and loaded is what was cut.
func TestCutAndKept(t *testing.T) {
	r := seeded(608)
	for range 300 {
		l := drawTree(r, "", 3)
		keep := drawKeep(r, l)
		left, _, e := tree.Cut(l, keep)
		if e == api.OK {
			thereAndBack(t, store(t, 32, 1<<20), left)
		}
	}
}

func TestFind(t *testing.T) {
	l := example()
	for _, x := range l {
		got, ok := tree.Find(l, x.Path)
		if !ok || !sameItem(got, x) {
			t.Errorf("P607: %q: %v, %v", x.Path, got, ok)
		}
	}
	for _, p := range []string{"", "c", "A", "a/", "/a", "a/y", "a/x/", "x", "a//x", ".", "a\x00"} {
		got, ok := tree.Find(l, p)
		if ok || !sameItem(got, api.Item{}) {
			t.Errorf("P607: %q: %v, %v", p, got, ok)
		}
		if got, ok = tree.Find(nil, p); ok || !sameItem(got, api.Item{}) {
			t.Errorf("P607: of no items: %q: %v, %v", p, got, ok)
		}
	}
}

// Of any list: no tree, not in order, the same path more than once.
func TestFindInAnyList(t *testing.T) {
	l := []api.Item{file("z", 1), file("a//", 2), {Path: "a", Dir: true, Data: []byte{3}}, file("z", 4), file("", 5), file("a", 6), file("a//", 7), dir("")}
	for p, i := range map[string]int{"z": 0, "a//": 1, "a": 2, "": 4} {
		got, ok := tree.Find(l, p)
		if !ok || !sameItem(got, l[i]) {
			t.Errorf("P607: %q: %v, %v", p, got, ok)
		}
	}
	if got, ok := tree.Find(l, "b"); ok || !sameItem(got, api.Item{}) {
		t.Errorf("P607: %v, %v", got, ok)
	}
	big := fan("", 5000)
	if got, ok := tree.Find(big, "04999"); !ok || !sameItem(got, big[4999]) {
		t.Errorf("P607: %v, %v", got, ok)
	}
}
