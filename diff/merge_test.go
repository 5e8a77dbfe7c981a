package diff_test

import (
	"fmt"
	"slices"
	"testing"

	"retort/api"
	"retort/diff"
	"retort/tree"
)

// merges holds Merge against what is wanted: the tree, and the conflicts.
func merges(t testing.TB, what string, x, o, u, want []api.Item, conflicts ...api.Conflict) {
	t.Helper()
	l, c, e := diff.Merge(x, o, u)
	if e != api.OK {
		t.Fatalf("P704: %s: %v", what, e)
	}
	sameItems(t, "P704: "+what, l, want)
	sameConflicts(t, "P704: conflicts: "+what, c, conflicts)
}

// refusesMerge holds Merge against ErrItems.
func refusesMerge(t testing.TB, what string, x, o, u []api.Item) {
	t.Helper()
	l, c, e := diff.Merge(x, o, u)
	if len(l)+len(c) > 0 || e != api.ErrItems {
		t.Errorf("P704: %s: %d items, %d conflicts, %v", what, len(l), len(c), e)
	}
}

// clashing is the conflict of three items, of which the zero ones are nothing.
func clashing(x, o, u api.Item) api.Conflict {
	return api.Conflict{Path: max(x.Path, o.Path, u.Path), Base: x, Ours: o, Theirs: u}
}

func TestMergeTheExamples(t *testing.T) {
	a, b, nothing := exampleA(), exampleB(), api.Item{}
	merges(t, "example 3", a, a[:2], b, list(dir("a"), file("a/x", 3), dir("c")))
	five := list(dir("a"), file("a/x", 1), file("b", 5))
	merges(t, "example 3", a, five, b, list(dir("a"), file("a/x", 3), file("b", 5), dir("c")), clashing(file("b", 2), file("b", 5), nothing))
	p, q := list(dir("d"), file("d/p")), list(dir("d"), file("d/q"))
	merges(t, "example 4", nil, p, q, list(dir("d"), file("d/p"), file("d/q")))
	merges(t, "example 4", nil, list(file("d")), q, list(file("d")), clashing(nothing, file("d"), dir("d")))
}

func TestMergeNoTrees(t *testing.T) {
	a := exampleA()
	for what, l := range wrongs() {
		refusesMerge(t, what+" as base", l, a, a)
		refusesMerge(t, what+" as ours", a, l, a)
		refusesMerge(t, what+" as theirs", a, a, l)
		refusesMerge(t, what+" all over", l, l, l)
	}
}

// things are those that may stand at a path: nothing, files, directories.
func things(p string) [][]api.Item {
	return [][]api.Item{
		nil, list(file(p)), list(file(p, 1)), list(file(p, 1, 0)), list(dir(p)), list(dir(p), file(p+"/a", 1)), list(dir(p), file(p+"/a", 2)),
		list(dir(p), file(p+"/b", 1)), list(dir(p), dir(p+"/a")), list(dir(p), dir(p+"/a"), file(p+"/a/a", 1)), list(dir(p), dir(p+"/a"), file(p+"/a/a", 2)), list(dir(p), file(p+"/a", 1), file(p+"/b", 1)),
	}
}

// Each of the five cases, of every three of some things: at the root, on the way down, and beside others.
func TestMergeEachCase(t *testing.T) {
	for _, p := range []string{"m", "d/m", "d/e/m"} {
		for _, x := range things(p) {
			for _, o := range things(p) {
				for _, u := range things(p) {
					var around [3][]api.Item
					for i, l := range [][]api.Item{x, o, u} {
						var ahead []api.Item
						for j := range len(namesOf(p)) - 1 {
							ahead = append(ahead, dir([]string{"d", "d/e"}[j]))
						}
						around[i] = append(ahead, append(slices.Clone(l), file("z", byte(i)))...)
					}
					want, conflicts := mergeOf(around[0], around[1], around[2])
					merges(t, fmt.Sprint(around), around[0], around[1], around[2], want, conflicts...)
				}
			}
		}
	}
}

// The five rules, one by one, said by hand.
func TestMergeRules(t *testing.T) {
	nothing := api.Item{}
	one, two, three := list(file("f", 1)), list(file("f", 2)), list(file("f", 3))
	merges(t, "1: both the same", one, two, two, two)
	merges(t, "1: both nothing", one, nil, nil, nil)
	merges(t, "1: both have added it", nil, two, two, two)
	merges(t, "2: they have changed it", one, one, two, two)
	merges(t, "2: they have dropped it", one, one, nil, nil)
	merges(t, "2: they have added it", nil, nil, two, two)
	merges(t, "3: we have changed it", one, two, one, two)
	merges(t, "3: we have dropped it", one, nil, one, nil)
	merges(t, "3: we have added it", nil, two, nil, two)
	merges(t, "5: both unlike", one, two, three, two, clashing(one[0], two[0], three[0]))
	merges(t, "5: both added, unlike", nil, two, three, two, clashing(nothing, two[0], three[0]))
	merges(t, "5: we have dropped what they changed", one, nil, two, nil, clashing(one[0], nothing, two[0]))
	merges(t, "5: they have dropped what we changed", one, two, nil, two, clashing(one[0], two[0], nothing))

	d := func(l ...api.Item) []api.Item { return append(list(dir("f")), rename(l, "f/")...) }
	a, b, c := file("a", 1), file("b", 1), file("c", 1)
	merges(t, "1: directories, the same", one, d(a), d(a), d(a))
	merges(t, "2: a directory in the place of a file", one, one, d(a, b), d(a, b))
	merges(t, "2: a directory is dropped, with all under it", d(a, b), d(a, b), nil, nil)
	merges(t, "3: a file in the place of a directory", d(a, b), one, d(a, b), one)
	merges(t, "4: both in it", d(a), d(a, b), d(a, c), d(a, b, c))
	merges(t, "4: both in it, it was nothing", nil, d(a, b), d(a, c), d(a, b, c))
	merges(t, "4: both in it, it was a file", one, d(a, b), d(a, c), d(a, b, c))
	merges(t, "4: one drops, one adds", d(a, b), d(b), d(a, b, c), d(b, c))
	merges(t, "4: all is dropped, the directory stays", d(a, b), d(a), d(b), d())
	merges(t, "4: a conflict in it", d(a), d(file("a", 2)), d(file("a", 3)), d(file("a", 2)), clashing(file("f/a", 1), file("f/a", 2), file("f/a", 3)))
	merges(t, "4: it was a file: what is in it was nothing", list(file("f", 2)), d(file("a", 2)), d(file("a", 3)), d(file("a", 2)), clashing(nothing, file("f/a", 2), file("f/a", 3)))
	merges(t, "5: a directory and a file", d(a), d(b), one, d(b), clashing(dir("f"), dir("f"), one[0]))
	merges(t, "5: a file and a directory", d(a), two, d(b), two, clashing(dir("f"), two[0], dir("f")))
	merges(t, "5: a directory and nothing", d(a), d(a, b), nil, d(a, b), clashing(dir("f"), dir("f"), nothing))
	merges(t, "5: nothing and a directory", d(a), nil, d(a, b), nil, clashing(dir("f"), nothing, dir("f")))
	merges(t, "5: an empty directory and a file of no bytes", nil, d(), list(file("f")), d(), clashing(nothing, dir("f"), file("f")))
}

// Conflicts stand in the order of the walk, not of their texts.
func TestMergeOrderOfConflicts(t *testing.T) {
	of := func(b byte) []api.Item {
		return list(dir("a"), file("a/b", b), dir("a/c"), file("a/c/d", b), file("a/d", b), file("a-", b), file("ab", b), file("b", b))
	}
	var conflicts []api.Conflict
	x, o, u := of(1), of(2), of(3)
	for i := range x {
		if !x[i].Dir {
			conflicts = append(conflicts, clashing(x[i], o[i], u[i]))
		}
	}
	merges(t, "in order", x, o, u, o, conflicts...)
	is(t, "so many", len(conflicts), 6)
}

// What comes out may be no tree: too many items, too many in one place, too many bytes.
func TestMergeOutcomeNoTree(t *testing.T) {
	f := func(names ...string) []api.Item {
		var l []api.Item
		for _, name := range names {
			l = append(l, file(name))
		}
		return l
	}
	half := fan("", 1023)
	merges(t, "as many at the root", half, append(slices.Clone(half), f("x")...), half, append(slices.Clone(half), f("x")...))
	refusesMerge(t, "one more at the root", half, append(slices.Clone(half), f("x")...), append(slices.Clone(half), f("y")...))
	in := append(list(dir("d")), fan("d/", 1023)...)
	refusesMerge(t, "one more in one", in, append(slices.Clone(in), f("d/x")...), append(slices.Clone(in), f("d/y")...))
	merges(t, "one more, one less", in, append(slices.Clone(in), f("d/x")...), append(append(list(dir("d")), in[2:]...), f("d/y")...), append(append(list(dir("d")), in[2:]...), f("d/x", "d/y")...))

	base := many("", 1<<16-2)
	refusesMerge(t, "one item more", base, append(slices.Clone(base), f("x")...), append(slices.Clone(base), f("y")...))
	merges(t, "as many items", base[:len(base)-1], append(base[:len(base)-1:len(base)-1], f("x")...), append(base[:len(base)-1:len(base)-1], f("y")...), append(base[:len(base)-1:len(base)-1], f("x", "y")...))
	refusesMerge(t, "far too many", nil, many("", 1<<16-1), many("x", 1<<16-1))

	heavier := heavy("", 1<<26-1)
	x, y := file("x", 1), file("y", 2)
	refusesMerge(t, "one byte more", heavier, append(slices.Clone(heavier), x), append(slices.Clone(heavier), y))
	heavier = heavy("", 1<<26-2)
	merges(t, "as many bytes", heavier, append(slices.Clone(heavier), x), append(slices.Clone(heavier), y), append(slices.Clone(heavier), x, y))
	refusesMerge(t, "far too many bytes", nil, heavy("", 1<<26), heavy("x", 1<<26))
	// a conflict beside it does not count
	refusesMerge(t, "one more, and a conflict", append(slices.Clone(half[1:]), f("z")...), append(append(slices.Clone(half[1:]), f("x")...), file("z", 1)), append(append(slices.Clone(half[1:]), f("y")...), file("z", 2)))
}

// P707, and the oracle, of trees that were drawn.
func TestMergeDrawn(t *testing.T) {
	met := 0
	for n := range uint64(3000) {
		r := seeded(n)
		x := drawTree(r, "", 3)
		o, u := drawNext(r, x, 8), drawNext(r, x, 8)
		what := fmt.Sprint("drawn ", n)
		want, conflicts := mergeOf(x, o, u)
		is(t, "drawn", tree.Check(want), api.OK)
		merges(t, what, x, o, u, want, conflicts...)
		met += len(conflicts)
		followsMerge(t, what, x, o, u)
	}
	if met < 500 {
		t.Errorf("only %d conflicts", met)
	}
}

// followsMerge is P707.
func followsMerge(t testing.TB, what string, x, o, u []api.Item) {
	t.Helper()
	merges(t, "P707: Merge(x, x, t): "+what, x, x, u, u)
	merges(t, "P707: Merge(x, o, x): "+what, x, o, x, o)
	merges(t, "P707: Merge(x, o, o): "+what, x, o, o, o)
	l, c, _ := diff.Merge(x, o, u)
	turned := slices.Clone(c)
	for i, y := range c {
		turned[i].Ours, turned[i].Theirs = y.Theirs, y.Ours
	}
	m, d, e := diff.Merge(x, u, o)
	is(t, "P707: turned about: "+what, e, api.OK)
	sameConflicts(t, "P707: turned about: "+what, d, turned)
	if len(c) == 0 {
		sameItems(t, "P707: turned about: "+what, m, l)
	}
}
