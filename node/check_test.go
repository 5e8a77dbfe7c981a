package node_test

import (
	"math"
	"slices"
	"testing"

	"retort/api"
	"retort/node"
)

// check holds Check and Encode against what is wanted: P501, and P502's first words.
func check(t *testing.T, l []api.Entry, want api.Errno) {
	t.Helper()
	if e := node.Check(l); e != want {
		t.Errorf("P501: Check of %s: %v, want %v", brief(l), e, want)
	}
	b, e := node.Encode(l)
	if e != want || e != api.OK && len(b) > 0 {
		t.Errorf("P502: Encode of %s: %s, %v, want %v", brief(l), brief(b), e, want)
	}
}

func TestCheckExamples(t *testing.T) {
	check(t, nil, api.OK)
	check(t, list(), api.OK)
	check(t, list(file("a"), file("b")), api.OK)
	check(t, list(file("a"), file("a")), api.ErrEntry)
	check(t, list(file("b"), file("a")), api.ErrEntry)
	check(t, list(file(".")), api.ErrEntry)
	check(t, list(file("a/b")), api.ErrEntry)
	check(t, list(api.Entry{Name: "a", Kind: 3}), api.ErrEntry)
	check(t, fan(1025), api.ErrLong)
}

func TestCheckFan(t *testing.T) {
	for _, n := range []int{0, 1, 2, 1023, 1024} {
		check(t, fan(n), api.OK)
	}
	for _, n := range []int{1025, 1026, 2048, 70000} {
		check(t, fan(n), api.ErrLong)
		check(t, make([]api.Entry, n), api.ErrLong)
	}
	check(t, make([]api.Entry, 1024), api.ErrEntry)
	check(t, append(fan(1023), file("a")), api.OK)
	check(t, append(fan(1023), file("0000")), api.ErrEntry)
	check(t, append(fan(1024), file("/")), api.ErrLong)
}

func TestCheckNames(t *testing.T) {
	for _, s := range names() {
		for _, d := range digests() {
			check(t, list(api.Entry{Name: s, Kind: api.KFile, Digest: d}), api.OK)
			check(t, list(api.Entry{Name: s, Kind: api.KDir, Digest: d}), api.OK)
		}
	}
	for _, s := range notNames() {
		for _, x := range list(file(s), dir(s), file(s, 1), dir(s, 1)) {
			check(t, list(x), api.ErrEntry)
			check(t, list(x, file("z")), api.ErrEntry)
			check(t, list(file("\x01"), x), api.ErrEntry)
			check(t, list(file("\x01"), x, file("z")), api.ErrEntry)
		}
	}
}

// Of any two and three names just those that rise may be side by side, whatever their kinds and digests.
func TestCheckOrder(t *testing.T) {
	for i, a := range names() {
		for j, b := range names() {
			want := api.ErrEntry
			if i < j {
				want = api.OK
			}
			check(t, list(file(a), file(b)), want)
			check(t, list(dir(a), file(b, 1)), want)
			check(t, list(file(a, 1), dir(b)), want)
			check(t, list(dir(a), dir(b)), want)
			check(t, append(list(file("\x01\x01")), file(a), dir(b)), checkOf(list(file("\x01\x01"), file(a), file(b))))
			check(t, list(file(a), dir(b), file("\xff\xff\xff")), want)
		}
	}
}

func TestCheckKinds(t *testing.T) {
	for _, k := range []int{math.MinInt, -2, -1, 0, 1, 2, 3, 4, 255, 257, 1<<32 + 1, math.MaxInt} {
		want := api.ErrEntry
		if k == 1 || k == 2 {
			want = api.OK
		}
		x := api.Entry{Name: "m", Kind: k, Digest: full()}
		check(t, list(x), want)
		check(t, list(file("a"), x), want)
		check(t, list(x, dir("z")), want)
		check(t, list(file("a"), x, dir("z")), want)
	}
}

// One entry that may not be, at each place of a great list, is found.
func TestCheckEachPlace(t *testing.T) {
	for i := range 1024 {
		l := fan(1024)
		l[i].Kind = api.KNone
		is(t, "P501: a kind", node.Check(l), api.ErrEntry)
		l = fan(1024)
		l[i].Name = "."
		is(t, "P501: a name", node.Check(l), api.ErrEntry)
		l = fan(1024)
		if i > 0 {
			l[i].Name = l[i-1].Name
			is(t, "P501: a name twice", node.Check(l), api.ErrEntry)
		}
	}
}

// Any lists of few parts are held against the oracle.
func TestCheckAny(t *testing.T) {
	r := seeded(501)
	parts := append(append(notNames(), names()...), "a", "aa", "b")
	for range 60000 {
		var l []api.Entry
		for range r.IntN(5) {
			l = append(l, api.Entry{Name: parts[r.IntN(len(parts))], Kind: 1 + r.IntN(2)})
			if r.IntN(9) == 0 {
				l[len(l)-1].Kind = r.IntN(5) - 1
			}
		}
		if r.IntN(2) == 0 {
			slices.SortFunc(l, func(x, y api.Entry) int { return slices.Compare([]byte(x.Name), []byte(y.Name)) })
		}
		check(t, l, checkOf(l))
	}
}
