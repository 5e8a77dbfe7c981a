package vfs_test

import (
	"math"
	"strings"
	"testing"

	"retort/api"
	"retort/vfs"
)

// news holds New against what is wanted, and what it made against the model.
func news(t testing.TB, what string, l []api.Item, q api.Quota, want api.Errno) {
	t.Helper()
	f, e := vfs.New(l, q)
	if e != want || (f == nil) != (e != api.OK) {
		t.Fatalf("P901: %s, %v: %v, want %v", what, q, e, want)
	}
	m, wrong := newOf(l, q)
	is(t, "the oracle: "+what, wrong, want)
	if e == api.OK {
		both{f, m}.alike(t, "behind New: "+what)
	}
}

func TestNewTakes(t *testing.T) {
	for what, l := range map[string][]api.Item{
		"none":          nil,
		"empty":         {},
		"a file":        list(file("a")),
		"a directory":   list(dir("a")),
		"no bytes":      list(api.Item{Path: "a", Dir: true, Data: []byte{}}, api.Item{Path: "b", Data: []byte{}}),
		"fronts":        list(dir("a"), file("a/b"), file("a-"), file("a."), dir("ab"), file("ab/a")),
		"odd names":     list(file("\x01"), file(" "), file("..."), file("..a"), file(".a"), file("\xff")),
		"deep":          append(chain("a", 31), file(strings.Repeat("a/", 31)+"a", 7)),
		"long names":    chain(strings.Repeat("n", 64), 32),
		"at the root":   fan("", 1024),
		"in one":        append(list(dir("a")), fan("a/", 1024)...),
		"a long file":   list(api.Item{Path: "a", Data: make([]byte, 1<<20)}),
		"many items":    many(1<<16 - 1),
		"many bytes":    heavy(1 << 26),
		"up and down":   list(dir("a"), dir("a/b"), file("a/b/c", 1), file("a/c"), dir("b"), file("c", 2)),
		"dirs and file": list(dir("a"), dir("b"), dir("b/a"), file("c", 1, 2, 3)),
	} {
		n, size := len(l), sizeOf(l)
		if testing.Short() && (n > 2000 || size > 1<<20) {
			continue
		}
		for _, open := range []int{math.MinInt, -1, 0, 1, math.MaxInt} {
			news(t, what, l, quota(size, n, open), api.OK)
		}
		news(t, what, l, quota(math.MaxInt, math.MaxInt, 1), api.OK)
		news(t, what, l, quota(size-1, n, 1), api.ErrQuota)
		news(t, what, l, quota(size, n-1, 1), api.ErrFiles)
		news(t, what, l, quota(size-1, n-1, 1), api.ErrQuota)
	}
}

// Numbers below 0 are less than nothing.
func TestNewBelowNothing(t *testing.T) {
	for _, l := range [][]api.Item{nil, {}, list(dir("a")), list(file("a", 1))} {
		for _, low := range []int{-1, -64, math.MinInt} {
			news(t, "bytes below 0", l, quota(low, 9, 9), api.ErrQuota)
			news(t, "files below 0", l, quota(9, low, 9), api.ErrFiles)
			news(t, "both below 0", l, quota(low, low, low), api.ErrQuota)
			news(t, "handles below 0", l, quota(9, 9, low), api.OK)
		}
	}
	news(t, "nothing for nothing", nil, api.Quota{}, api.OK)
	news(t, "directories have no bytes", list(dir("a")), quota(0, 1, 0), api.OK)
}

// A list that is no tree is the first error, whatever the quota.
func TestNewRefuses(t *testing.T) {
	for what, l := range map[string][]api.Item{
		"out of order":           list(file("b"), file("a")),
		"not in the walk's":      list(dir("a"), file("a-"), file("a/b")),
		"a file twice":           list(file("a"), file("a")),
		"a file and a directory": list(file("a"), dir("a")),
		"no directory":           list(file("a/b")),
		"no directory between":   list(dir("a"), file("a/b/c")),
		"below a file":           list(file("a"), file("a/b")),
		"bytes in a directory":   list(api.Item{Path: "a", Dir: true, Data: []byte{0}}),
		"the root":               list(dir("")),
		"the root as a file":     list(file("")),
		"a / behind":             list(dir("a/")),
		"a / ahead":              list(file("/a")),
		"two /":                  list(dir("a"), file("a//b")),
		".":                      list(file(".")),
		"..":                     list(file("..")),
		"a 0":                    list(file("a\x00")),
		"a long name":            list(file(strings.Repeat("n", 65))),
		"a long path":            list(file(strings.Repeat("n", 4097))),
		"too deep":               chain("a", 33),
		"one more at the root":   fan("", 1025),
		"one more in one":        append(list(dir("a")), fan("a/", 1025)...),
		"one byte longer":        list(api.Item{Path: "a", Data: make([]byte, 1<<20+1)}),
		"one item more":          many(1 << 16),
		"one byte more":          heavy(1<<26 + 1),
	} {
		for _, q := range []api.Quota{greatest(), quota(sizeOf(l), len(l), 1), quota(0, 0, 0), quota(-1, -1, -1)} {
			news(t, what, l, q, api.ErrItems)
		}
	}
}

// Of Bytes none above MaxStore counts for more.
func TestMostBytes(t *testing.T) {
	for _, bytes := range []int{1<<26 - 1, 1 << 26, 1<<26 + 1, 1 << 40, math.MaxInt} {
		f, e := vfs.New(heavy(1<<26-2), quota(bytes, 99, 9))
		is(t, "P901", e, api.OK)
		h, e := f.Open("a", api.MWrite)
		is(t, "P902", e, api.OK)
		is(t, "P904: one", f.Write(h, []byte{1}), api.OK)
		want := api.OK
		if bytes < 1<<26 {
			want = api.ErrQuota
		}
		is(t, "P904: May of the last", f.May(h, 1), want)
		is(t, "P904: May of one more", f.May(h, 2), api.ErrQuota)
		is(t, "P904: the last", f.Write(h, []byte{2}), want)
		is(t, "P904: one more", f.Write(h, []byte{3}), api.ErrQuota)
		is(t, "P910: bytes", f.Used().Bytes, min(bytes, 1<<26))
		is(t, "P910: a tree", isTree(f.Items()), true)
	}
}

// Of Files none above MaxItems - 1 counts for more.
func TestMostFiles(t *testing.T) {
	if testing.Short() {
		t.Skip("it makes many items")
	}
	for _, files := range []int{1<<16 - 2, 1<<16 - 1, 1 << 16, 1<<16 + 1, math.MaxInt} {
		f, e := vfs.New(many(1<<16-4), quota(9, files, 9))
		is(t, "P901", e, api.OK)
		_, e = f.Open("z/z/z/z", api.MWrite|api.MMake)
		is(t, "P902: four at once", e, api.ErrFiles)
		_, e = f.Open("z/z/z", api.MWrite|api.MMake)
		if files < 1<<16-1 {
			is(t, "P902: three at once", e, api.ErrFiles)
			_, e = f.Open("z/z", api.MWrite|api.MMake)
		}
		is(t, "P902: as many as may be", e, api.OK)
		_, e = f.Open("000/new", api.MWrite)
		is(t, "P902: one more", e, api.ErrFiles)
		is(t, "P910: files", f.Used().Files, min(files, 1<<16-1))
		is(t, "P910: a tree", isTree(f.Items()), true)
	}
}

// Of Open none above MaxOpen counts for more.
func TestMostHandles(t *testing.T) {
	for _, open := range []int{math.MinInt, -1, 0, 1, 2, 63, 64, 65, 1 << 40, math.MaxInt} {
		x := made(t, quota(9, 9, open), file("a", 1))
		most := max(0, min(open, 64))
		for h := range most {
			x.opens(t, "a", h%4, h, api.OK)
		}
		for _, mode := range []int{0, 1, 2, 3, 5, 6, 7} {
			x.opens(t, "a", mode, 0, api.ErrOpen)
			if mode != 0 {
				x.opens(t, "new", mode, 0, api.ErrOpen)
			}
		}
		is(t, "P910: handles", x.f.Used().Open, most)
	}
}
