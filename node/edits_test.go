package node_test

import (
	"fmt"
	"maps"
	"slices"
	"strings"
	"testing"

	"retort/api"
	"retort/node"
)

// dict is what a right list says, by name.
type dict map[string]api.Entry

func dictOf(l []api.Entry) dict {
	m := dict{}
	for _, x := range l {
		m[x.Name] = x
	}
	return m
}

// row is the right list that says it.
func (m dict) row() []api.Entry {
	var l []api.Entry
	for _, s := range slices.Sorted(maps.Keys(m)) {
		l = append(l, m[s])
	}
	return l
}

func (m dict) with(x api.Entry) dict {
	m = maps.Clone(m)
	m[x.Name] = x
	return m
}

func (m dict) without(s string) dict {
	m = maps.Clone(m)
	delete(m, s)
	return m
}

func find(t *testing.T, l []api.Entry, s string, m dict) {
	t.Helper()
	x, ok := node.Find(l, s)
	want, there := m[s]
	if x != want || ok != there {
		t.Errorf("P504: Find of %.80q in %s: %s, %v", s, brief(l), brief(list(x)), ok)
	}
}

func with(t *testing.T, l []api.Entry, x api.Entry) []api.Entry {
	t.Helper()
	got := node.With(l, x)
	m := dictOf(l).with(x)
	same(t, "P504: With "+brief(list(x)), got, m.row())
	find(t, got, x.Name, m)
	if len(got) <= api.MaxFan {
		is(t, "P506: With is right", node.Check(got), api.OK)
	}
	same(t, "P506: With again", node.With(got, x), got)
	return got
}

func without(t *testing.T, l []api.Entry, s string) []api.Entry {
	t.Helper()
	got := node.Without(l, s)
	m := dictOf(l).without(s)
	same(t, fmt.Sprintf("P504: Without %.80q", s), got, m.row())
	find(t, got, s, m)
	is(t, "P506: Without is right", node.Check(got), api.OK)
	same(t, "P506: Without again", node.Without(got, s), got)
	if x, ok := node.Find(l, s); ok {
		same(t, "P506: With of Without", node.With(got, x), l)
	}
	return got
}

func TestEditExamples(t *testing.T) {
	l := node.With(nil, file("b", 1))
	same(t, "P504: With b", l, list(file("b", 1)))
	l = node.With(l, dir("a", 2))
	same(t, "P504: With a", l, list(dir("a", 2), file("b", 1)))
	same(t, "P504: Without c", node.Without(l, "c"), l)
	x, ok := node.Find(l, "b")
	is(t, "P504: Find b", x, file("b", 1))
	is(t, "P504: Find b", ok, true)
}

// asked are names, and any other texts.
func asked() []string {
	return append(append(names(), notNames()...), "ac", "aaa", "zz", "c", "\xfe", strings.Repeat("b", 62), strings.Repeat("\x00", 70000))
}

func TestEditsOfFew(t *testing.T) {
	for _, l := range few() {
		m := dictOf(l)
		for _, s := range []string{"", "Z", "a", "a\x00", "aa", "ab", "ac", "b", "c"} {
			find(t, l, s, m)
			without(t, l, s)
		}
		for _, s := range []string{"Z", "a", "a-", "ab", "ac", "b", "c"} {
			for _, x := range list(file(s), dir(s, 1), file(s, 1)) {
				with(t, l, x)
			}
		}
	}
}

// At the first, the last, and every other place of lists of many lengths.
func TestEditsAtEachPlace(t *testing.T) {
	for _, n := range []int{0, 1, 2, 3, 4, 5, 7, 8, 9, 16, 31, 64, 1023, 1024} {
		l := fan(n)
		m := dictOf(l)
		for i := -1; i <= n; i++ {
			if n > 64 && i > 2 && i < n-2 && i%97 != 0 {
				continue
			}
			at, behind := fmt.Sprintf("%04d", i), fmt.Sprintf("%04d+", i)
			for _, s := range []string{at, behind} {
				find(t, l, s, m)
				without(t, l, s)
				with(t, l, dir(s, 4, 4))
			}
		}
	}
}

func TestFindAll(t *testing.T) {
	l := fan(1024)
	m := dictOf(l)
	for _, x := range l {
		find(t, l, x.Name, m)
		find(t, l, x.Name+"\x00", m)
		find(t, l, x.Name[:3], m)
	}
}

func TestEditsOfAnyText(t *testing.T) {
	r := seeded(504)
	for range 300 {
		l := draw(r, 12)
		m := dictOf(l)
		for _, s := range asked() {
			find(t, l, s, m)
			without(t, l, s)
		}
		for _, s := range names() {
			x := api.Entry{Name: s, Kind: 1 + r.IntN(2), Digest: digests()[r.IntN(len(digests()))]}
			with(t, l, x)
		}
	}
}

// What is not of the name stays as it was.
func TestOthersStay(t *testing.T) {
	r := seeded(507)
	for range 300 {
		l := draw(r, 12)
		s := names()[r.IntN(len(names()))]
		more, less := node.With(l, dir(s, 200)), node.Without(l, s)
		for _, other := range asked() {
			if other == s {
				continue
			}
			x, ok := node.Find(l, other)
			y, yes := node.Find(more, other)
			z, also := node.Find(less, other)
			if x != y || ok != yes || x != z || ok != also {
				t.Errorf("P506: Find of %.80q in %s, behind With and Without of %.80q", other, brief(l), s)
			}
		}
	}
}

// A right list is made from none, in any order.
func TestMadeByWith(t *testing.T) {
	r := seeded(508)
	want := list(dir("a", 1), file("a-"), file("a.", 3), dir("aa"), file("b", 9))
	for range 200 {
		var l []api.Entry
		for _, i := range r.Perm(len(want)) {
			l = with(t, l, want[i])
		}
		same(t, "P506: made by With", l, want)
	}
	want = fan(1024)
	var l []api.Entry
	for _, i := range r.Perm(len(want)) {
		l = node.With(l, want[i])
	}
	same(t, "P506: made by With", l, want)
	for n, i := range r.Perm(len(want)) {
		l = node.Without(l, want[i].Name)
		is(t, "P504: Without", len(l), len(want)-n-1)
	}
}

// One more than MaxFan is told, and may be taken away again; it is no directory's.
func TestMoreThanFan(t *testing.T) {
	l := fan(1024)
	for _, s := range []string{"0", "0512+", "a"} {
		more := with(t, l, file(s))
		is(t, "P504: With one more", len(more), 1025)
		is(t, "P501: With one more", node.Check(more), api.ErrLong)
		same(t, "P506: and away", node.Without(more, s), l)
	}
	is(t, "P504: With in a place", node.Check(with(t, l, dir("0512"))), api.OK)
}

// Lists that may not be, and entries that may not be: the calls end, and change nothing of them.
func TestEditsOfOthers(t *testing.T) {
	r := seeded(509)
	parts := append(notNames(), names()...)
	for range 5000 {
		var l []api.Entry
		for range r.IntN(12) {
			l = append(l, api.Entry{Name: parts[r.IntN(len(parts))], Kind: r.IntN(5) - 1})
		}
		was := slices.Clone(l)
		s := parts[r.IntN(len(parts))]
		node.With(l, api.Entry{Name: s, Kind: r.IntN(5) - 1})
		node.Without(l, s)
		node.Find(l, s)
		same(t, "P2: changed", l, was)
	}
}
