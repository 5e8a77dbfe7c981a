package vfs_test

import (
	"math"
	"math/rand/v2"
	"strings"
	"testing"

	"retort/api"
	"retort/vfs"
)

// drawPath is a short one out of few names, clean or not, now and then one that may not be.
func drawPath(r *rand.Rand) string {
	if few := []string{"f", "a/f", "b", "a/b/f"}; r.IntN(2) == 0 {
		return few[r.IntN(len(few))]
	}
	parts := []string{"a", "a", "a", "b", "b", "a-", "", ".", "..", "c"}
	if r.IntN(12) == 0 {
		parts = append(parts, "\x00", strings.Repeat("n", 65), strings.Repeat("n/", 33), strings.Repeat("/", 4096))
	}
	var row []string
	for range r.IntN(5) {
		row = append(row, parts[r.IntN(len(parts))])
	}
	return strings.Join(row, "/")
}

func drawNumber(r *rand.Rand) int {
	odd := []int{math.MinInt, -1, 0, 1 << 20, 1<<20 + 1, math.MaxInt}
	if r.IntN(6) == 0 {
		return odd[r.IntN(len(odd))]
	}
	return r.IntN(9)
}

func drawHandle(r *rand.Rand) int {
	if r.IntN(10) == 0 {
		return drawNumber(r)
	}
	return r.IntN(5)
}

// drawList is mostly a tree.
func drawList(r *rand.Rand) []api.Item {
	l := drawTree(r, "", 2)
	if len(l) > 1 && r.IntN(9) == 0 {
		i := r.IntN(len(l) - 1)
		l[i], l[i+1] = l[i+1], l[i]
	}
	return l
}

// doOne does one call that is drawn to both.
func doOne(t testing.TB, r *rand.Rand, x both) api.Errno {
	h, n, e := drawHandle(r), drawNumber(r), api.OK
	switch r.IntN(9) {
	case 0, 1:
		modes := []int{-1, 0, 0, 0, 0, 1, 2, 3, 4, 5, 5, 6, 7, 7, 8}
		_, e = x.open(t, drawPath(r), modes[r.IntN(len(modes))])
	case 2, 3:
		_, e = x.read(t, h, n)
	case 4, 5:
		b := make([]byte, r.IntN(7))
		for i := range b {
			b[i] = byte(r.Int())
		}
		e = x.write(t, h, b)
	case 6:
		_, e = x.list(t, drawPath(r))
	case 7:
		e = x.may(t, h, n)
	case 8:
		if r.IntN(3) == 0 {
			e = x.shut(t, h)
		}
	}
	return e
}

// Rows of calls that are drawn, on an FS and on twins of it.
func TestDrawn(t *testing.T) {
	seen := map[api.Errno]int{}
	rounds := uint64(4000)
	if testing.Short() {
		rounds = 400
	}
	for n := range rounds {
		r := seeded(n)
		l, q := drawList(r), quota(r.IntN(60)-1, r.IntN(40)-1, r.IntN(9)-1)
		f, e := vfs.New(l, q)
		m, want := newOf(l, q)
		is(t, "P901", e, want)
		seen[e]++
		if e != api.OK {
			continue
		}
		row := []both{{f, m}}
		for _, mode := range []int{5, 0, 7, 0} { // so that there is something to read and to write
			row[0].open(t, "f", mode)
		}
		for range 60 {
			i := r.IntN(len(row))
			seen[doOne(t, r, row[i])]++
			if r.IntN(20) == 0 && len(row) < 4 {
				row = append(row, row[i].twin())
			}
			row[r.IntN(len(row))].alike(t, "P909: twins")
		}
		is(t, "P910: a tree", isTree(f.Items()), true)
	}
	for _, e := range []api.Errno{api.OK, api.ErrItems, api.ErrArg, api.ErrLong, api.ErrName, api.ErrRoot, api.ErrDeep, api.ErrNoEnt, api.ErrIsDir, api.ErrNotDir, api.ErrMode, api.ErrHandle, api.ErrQuota, api.ErrFiles, api.ErrOpen} {
		if seen[e] < 20 && !testing.Short() {
			t.Errorf("%v was met %d times only", e, seen[e])
		}
	}
}

// FuzzCalls takes bytes as a row of calls.
func FuzzCalls(f *testing.F) {
	f.Add([]byte("\x00a/b\x00\x05\x02\x00\x03\x04\x00xyz"), 40, 9, 3)
	f.Add([]byte("\x00d/f\x00\x02\x00f\x00\x00\x01\x01\x04\x05\x00\x06d\x00"), 20, 5, 2)
	f.Add([]byte("\x00f\x00\x03\x00f\x00\x06\x04\x00ab\x00\x04\x01c\x00\x07\x00"), 12, 4, 9)
	f.Fuzz(func(t *testing.T, b []byte, size, files, open int) {
		q := quota(size, files, open)
		l := list(dir("d"), dir("d/d"), text("d/f", "deep"), text("f", "flat"))
		v, e := vfs.New(l, q)
		m, want := newOf(l, q)
		is(t, "P901", e, want)
		if e != api.OK || len(b) > 2000 {
			return
		}
		x := both{v, m}
		number := func() int {
			if len(b) == 0 {
				return 0
			}
			n := int(int8(b[0]))
			b = b[1:]
			return n
		}
		word := func() string {
			s, behind, _ := strings.Cut(string(b), "\x00")
			b = []byte(behind)
			return s
		}
		for len(b) > 0 {
			switch number() % 8 {
			case 0:
				x.open(t, word(), number())
			case 1, 2:
				x.read(t, number(), number())
			case 3, 4:
				x.write(t, number(), []byte(word()))
			case 5:
				x.may(t, number(), number())
			case 6:
				x.list(t, word())
			case 7:
				x.shut(t, number())
			default:
				y := x.twin()
				y.write(t, number(), []byte("twin"))
				y.open(t, "f", 2)
				x.alike(t, "P909: twins")
			}
		}
		is(t, "P910: a tree", isTree(v.Items()), true)
	})
}
