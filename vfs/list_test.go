package vfs_test

import (
	"fmt"
	"math"
	"strings"
	"testing"

	"retort/api"
)

func (x both) lists(t testing.TB, p string, wrong api.Errno, want ...string) {
	t.Helper()
	l, e := x.list(t, p)
	sameTexts(t, fmt.Sprintf("P905: List(%.40q)", p), l, want)
	is(t, fmt.Sprintf("P905: List(%.40q)", p), e, wrong)
}

// Names that lie close to one another stand in the order of the names without /: by the texts that are told "a-" would be ahead of "a/".
func TestListOrder(t *testing.T) {
	x := made(t, greatest(), dir("a"), dir("a/a"), file("a/a/b"), file("a/a-"), file("a/b"), dir("a\x01"), file("a-"), dir("a."), file("a.b"), dir("a0"), dir("aa"), file("b"), dir("é"), file("\xff"))
	x.lists(t, "", api.OK, "a/", "a\x01/", "a-", "a./", "a.b", "a0/", "aa/", "b", "é/", "\xff")
	x.lists(t, "a", api.OK, "a/", "a-", "b")
	x.lists(t, "a/a", api.OK, "b")
	x.lists(t, "aa", api.OK)
	x.lists(t, "é", api.OK)
}

func TestListPaths(t *testing.T) {
	x := places(t, greatest())
	for p := range paths() {
		x.list(t, p)
	}
	for _, p := range []string{"", "/", ".", "d/..", "./d/d/../..", "q/.."} {
		x.lists(t, p, api.OK, "d/", "f")
	}
	for _, p := range []string{"d", "d/", "/d", "f/../d", "q/../d"} {
		x.lists(t, p, api.OK, "d/", "f")
	}
	x.lists(t, "d/d", api.OK)
	for _, p := range []string{"f", "f/", "d/f", "f/q", "f/f/f", "d/f/q"} {
		x.lists(t, p, api.ErrNotDir)
	}
	for _, p := range []string{"q", "d/q", "d/d/q", "q/q", "q/d", "d/q/q", "D"} {
		x.lists(t, p, api.ErrNoEnt)
	}
	for p, e := range paths() {
		if e != api.OK {
			x.lists(t, p, e)
		}
	}
	made(t, greatest()).lists(t, "", api.OK)
	made(t, greatest()).lists(t, "a", api.ErrNoEnt)
}

// What Open makes is listed in its place, whatever was there ahead of it.
func TestListBehindOpen(t *testing.T) {
	x := made(t, greatest(), file("m"))
	for _, p := range []string{"m-", "z", "a", "m\x01", "n/x", "b/y", "n/a", "m./q", "b/y-", "b/x/z"} {
		_, e := x.open(t, p, 5)
		is(t, "P902", e, api.OK)
		for _, d := range []string{"", "b", "n", "m.", "b/x"} {
			x.list(t, d)
		}
	}
	x.lists(t, "", api.OK, "a", "b/", "m", "m\x01", "m-", "m./", "n/", "z")
	x.lists(t, "b", api.OK, "x/", "y", "y-")
}

// With MaxFan items, and as deep as may be.
func TestListMost(t *testing.T) {
	x := made(t, greatest(), append(list(dir("a")), fan("a/", 1024)...)...)
	l, e := x.list(t, "a")
	is(t, "P905", len(l), 1024)
	is(t, "P905", e, api.OK)
	x = made(t, greatest(), chain(strings.Repeat("n", 64), 32)...)
	deep := strings.TrimSuffix(strings.Repeat(strings.Repeat("n", 64)+"/", 32), "/")
	x.lists(t, deep, api.OK)
	x.lists(t, deep[:31*65-1], api.OK, strings.Repeat("n", 64)+"/")
	x.lists(t, deep+"/n", api.ErrDeep)
}

func TestPlace(t *testing.T) {
	x := handles(t, greatest())
	for h, want := range []int{0, 7, 3, 0, 0, 1, 8} {
		p, at, e := x.f.Place(h)
		if p != "f" || at != want || e != api.OK {
			t.Errorf("P908: Place(%d): %q, %d, %v, want %d", h, p, at, e, want)
		}
	}
	for _, h := range []int{math.MinInt, -1, 7, 64, math.MaxInt} {
		if p, at, e := x.f.Place(h); p != "" || at != 0 || e != api.ErrHandle {
			t.Errorf("P908: Place(%d): %q, %d, %v", h, p, at, e)
		}
	}
	x.opens(t, "./q//r/../s/", 5, 7, api.OK)
	if p, _, _ := x.f.Place(7); p != "q/s" {
		t.Errorf("P908: the clean path: %q", p)
	}
}

func TestUsed(t *testing.T) {
	x := made(t, quota(10, 5, 3))
	is(t, "P908: nothing", x.f.Used(), api.Quota{})
	x.opens(t, "d/e/f", 5, 0, api.OK)
	is(t, "P908: made", x.f.Used(), quota(0, 3, 1))
	x.writes(t, 0, "12345", api.OK)
	x.opens(t, "d/e/f", 1, 1, api.OK)
	x.writes(t, 1, "12", api.OK)
	is(t, "P908: written", x.f.Used(), quota(5, 3, 2))
	x.opens(t, "g", 1, 2, api.OK)
	x.writes(t, 2, "123456", api.ErrQuota)
	is(t, "P908: refused", x.f.Used(), quota(5, 4, 3))
	is(t, "P906", x.shut(t, 1), api.OK)
	x.opens(t, "d/e/f", 2, 1, api.OK)
	is(t, "P908: cut", x.f.Used(), quota(0, 4, 3))
	for h := range 3 {
		is(t, "P906", x.shut(t, h), api.OK)
	}
	is(t, "P908: closed", x.f.Used(), quota(0, 4, 0))
}

// Items told as a tree give an FS anew that has the same in it, but for handles.
func TestItemsBackAgain(t *testing.T) {
	for n := range uint64(300) {
		r := seeded(n)
		l := drawTree(r, "", 3)
		x := made(t, greatest(), l...)
		sameItems(t, "P907", x.f.Items(), l)
		for range 5 {
			x.open(t, names()[r.IntN(12)]+"/"+names()[r.IntN(12)], 5)
		}
		y := made(t, greatest(), x.f.Items()...)
		sameItems(t, "P907: back again", y.f.Items(), x.f.Items())
		is(t, "P908: back again", y.f.Used().Files, x.f.Used().Files)
	}
}

// Each call on one side of a twin is not seen on the other, whichever of the two it is.
func TestTwin(t *testing.T) {
	calls := map[string]func(x both){
		"open":   func(x both) { x.opens(t, "f", 0, 7, api.OK) },
		"make":   func(x both) { x.opens(t, "new", 1, 7, api.OK) },
		"dirs":   func(x both) { x.opens(t, "a/b/c", 5, 7, api.OK) },
		"in one": func(x both) { x.opens(t, "d/a", 5, 7, api.OK) },
		"cut":    func(x both) { x.opens(t, "f", 2, 7, api.OK) },
		"write":  func(x both) { x.writes(t, 1, "!", api.OK) },
		"over":   func(x both) { x.writes(t, 0, "!", api.OK) },
		"append": func(x both) { x.writes(t, 3, "!?", api.OK) },
		"read":   func(x both) { x.reads(t, 2, 2, "tt") },
		"close":  func(x both) { is(t, "P906", x.shut(t, 4), api.OK) },
	}
	for what, call := range calls {
		for what2, call2 := range calls {
			x := handles(t, greatest())
			x.open(t, "d/q/r", 5)
			x.shut(t, 7)
			y := x.twin()
			third := y.twin()
			y.alike(t, "P909: a twin")
			third.alike(t, "P909: a twin's twin")
			call(y)
			x.alike(t, "P909: behind "+what+" on the twin")
			call2(x)
			y.alike(t, "P909: behind "+what2+" on the first")
			call(third)
			for _, z := range []both{x, y, third} {
				z.alike(t, "P909: behind "+what+" on a third")
				for _, p := range []string{"", "d", "d/q", "a", "a/b"} {
					z.list(t, p)
				}
			}
		}
	}
}

// A twin has the same quota, of bytes, files and handles.
func TestTwinQuota(t *testing.T) {
	x := made(t, quota(3, 2, 2), text("a", "12"))
	x.opens(t, "a", 3, 0, api.OK)
	for range 3 {
		x = x.twin()
		y := x.twin()
		y.writes(t, 0, "12", api.ErrQuota)
		y.writes(t, 0, "1", api.OK)
		y.opens(t, "b/c", 5, 0, api.ErrFiles)
		y.opens(t, "b", 5, 1, api.OK)
		y.opens(t, "c", 5, 0, api.ErrFiles)
		y.opens(t, "b", 5, 0, api.ErrOpen)
	}
	is(t, "P909: the first", x.f.Used(), quota(2, 1, 1))
	y := made(t, quota(3, 2, -1), text("a", "12")).twin()
	y.opens(t, "a", 0, 0, api.ErrOpen)
}
