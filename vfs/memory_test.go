package vfs_test

import (
	"bytes"
	"math"
	"slices"
	"strings"
	"testing"
	"unsafe"

	"retort/api"
	"retort/vfs"
)

// roomyBytes has those bytes with spare room behind them, in which something lies too.
func roomyBytes(b []byte) []byte {
	more := append(append(make([]byte, 0, len(b)+8), b...), "spare"...)
	return more[:len(b)]
}

// roomy has those items, with spare room behind them and behind their bytes.
func roomy(l []api.Item) []api.Item {
	more := make([]api.Item, len(l)+3)
	for i := range more {
		more[i] = text("spare", "s")
	}
	for i, x := range l {
		more[i] = api.Item{Path: strings.Clone(x.Path), Dir: x.Dir, Data: roomyBytes(x.Data)}
	}
	return more[:len(l)]
}

// image is all of a list, its spare room and that of its bytes too, apart.
func image(l []api.Item) []api.Item {
	l = slices.Clone(l[:cap(l)])
	for i, x := range l {
		l[i].Data = bytes.Clone(x.Data[:cap(x.Data)])
	}
	return l
}

func spoilBytes(b []byte) {
	b = b[:cap(b)]
	for i := range b {
		b[i] ^= 0xff
	}
}

// spoil writes all of a list, its spare room and its bytes too.
func spoil(l []api.Item) {
	l = l[:cap(l)]
	for i := range l {
		spoilBytes(l[i].Data)
		l[i] = text("spoilt", "s")
	}
}

// The items that are handed in stay as they are and are not kept, right or wrong.
func TestItemsStay(t *testing.T) {
	right := list(dir("a"), text("a/x", "abc"), text("b", "abc"), dir("c"))
	for _, l := range [][]api.Item{nil, right, right[1:], list(file("b"), file("a", 1))} {
		for _, q := range []api.Quota{greatest(), quota(2, 9, 9), quota(9, 2, 9)} {
			in := roomy(l)
			was := image(in)
			f, e := vfs.New(in, q)
			sameItems(t, "P2: handed in to New", image(in), was)
			if e != api.OK {
				continue
			}
			f.Open("b", api.MWrite)
			f.Open("a/x", api.MAppend)
			f.Open("b", api.MRead)
			for range 3 {
				f.Write(0, []byte("xy"))
				f.Write(1, []byte("xy"))
			}
			f.Read(2, 9)
			f.Open("a/x", api.MFresh)
			f.Open("a/y/z", api.MWrite|api.MMake)
			sameItems(t, "P2: behind calls", image(in), was)
			told := f.Items()
			spoil(in)
			sameItems(t, "P2: kept by New", f.Items(), told)
		}
	}
	// Bytes that two items share are two files' own.
	shared := []byte("abcd")
	f, _ := vfs.New(list(api.Item{Path: "a", Data: shared}, api.Item{Path: "b", Data: shared[:2]}), greatest())
	f.Open("b", api.MAppend)
	f.Write(0, []byte("xy"))
	sameItems(t, "P2: shared bytes", f.Items(), list(text("a", "abcd"), text("b", "abxy")))
}

// The bytes that are handed in to Write stay as they are and are not kept.
func TestWrittenStays(t *testing.T) {
	for _, mode := range []int{1, 2, 3, 5, 6, 7} {
		f, _ := vfs.New(nil, quota(9, 9, 9))
		f.Open("a", mode)
		f.Open("a", api.MAppend)
		for _, s := range []string{"abc", "", "de", "too many bytes", "fg"} {
			b := roomyBytes([]byte(s))
			was := bytes.Clone(b[:cap(b)])
			f.Write(0, b)
			is(t, "P2: handed in to Write", string(b[:cap(b)]), string(was))
			f.Write(1, []byte("!"))
			is(t, "P2: behind another Write", string(b[:cap(b)]), string(was))
			told := f.Items()
			spoilBytes(b)
			sameItems(t, "P2: kept by Write", f.Items(), told)
		}
	}
}

// What is told is changed by the caller without a trace in the files, or in what is told besides.
func TestToldApart(t *testing.T) {
	x := made(t, greatest(), dir("a"), text("a/x", "abcdef"), text("b", "abcdef"), dir("c"))
	x.opens(t, "b", 0, 0, api.OK)
	x.opens(t, "b", 0, 1, api.OK)
	x.opens(t, "b", 3, 2, api.OK)
	one, _ := x.read(t, 0, 4)
	other, _ := x.read(t, 1, 4)
	spoilBytes(one)
	is(t, "P2: two answers of Read", string(other), "abcd")
	spoilBytes(other)
	x.alike(t, "P2: what Read told")
	x.reads(t, 0, 9, "ef")
	x.writes(t, 2, "gh", api.OK)
	x.reads(t, 1, 9, "efgh")

	items, again := x.f.Items(), x.f.Items()
	spoil(items)
	sameItems(t, "P2: two answers of Items", again, x.m.items)
	for i := range again {
		want := copied(again)
		spoilBytes(again[i].Data)
		want[i].Data = again[i].Data
		sameItems(t, "P2: one answer of Items", again, want)
	}
	x.alike(t, "P2: what Items told")

	for _, p := range []string{"", "a", "c"} {
		l, _ := x.list(t, p)
		l = l[:cap(l)]
		for i := range l {
			l[i] = "spoilt"
		}
		x.list(t, p)
	}
	x.alike(t, "P2: what List told")
}

// Spare room of what is told is new, too: nothing of the files' is to be seen in it.
func TestSpareRoom(t *testing.T) {
	f, _ := vfs.New(list(text("a", strings.Repeat("secret", 100))), greatest())
	f.Open("a", api.MRead)
	for n := 1; n <= 600; n += 7 {
		b, _ := f.Read(0, 7)
		if spare := b[len(b):cap(b)]; bytes.ContainsAny(spare, "secret") {
			t.Fatalf("P2: %q behind %q", spare, b)
		}
	}
}

// Texts that are told share no memory with those that were handed in.
func TestTextsApart(t *testing.T) {
	in := list(api.Item{Path: strings.Clone("a"), Dir: true}, api.Item{Path: strings.Clone("a/x")}, api.Item{Path: strings.Clone("b")})
	f, _ := vfs.New(in, greatest())
	paths := []string{strings.Clone("c"), strings.Clone("d/e"), strings.Clone("b")}
	var told []string
	for h, p := range paths {
		f.Open(p, api.MWrite|api.MMake)
		at, _, _ := f.Place(h)
		told = append(told, at)
	}
	for _, x := range in {
		paths = append(paths, x.Path)
	}
	for _, x := range f.Items() {
		told = append(told, x.Path)
	}
	for _, p := range []string{"", "a", "d"} {
		l, _ := f.List(p)
		told = append(told, l...)
	}
	for _, p := range told {
		for _, q := range paths {
			from, to := uintptr(unsafe.Pointer(unsafe.StringData(q))), uintptr(unsafe.Pointer(unsafe.StringData(p)))
			if to >= from && to < from+uintptr(len(q)) {
				t.Errorf("P2: %q is told in the memory in which %q was handed in", p, q)
			}
		}
	}
	is(t, "the texts that are told", len(told), 3+6+6)
}

// No list and an empty one are the same.
func TestNoneAndEmpty(t *testing.T) {
	for _, l := range [][]api.Item{nil, {}} {
		x := made(t, quota(0, 1, 1), l...)
		x.opens(t, "a", 1, 0, api.OK)
		is(t, "P2: no bytes", x.write(t, 0, nil), api.OK)
		is(t, "P2: no bytes", x.write(t, 0, []byte{}), api.OK)
	}
	for _, b := range [][]byte{nil, {}} {
		x := made(t, quota(0, 2, 1), api.Item{Path: "a", Dir: true, Data: b}, api.Item{Path: "b", Data: b})
		x.opens(t, "b", 0, 0, api.OK)
		x.reads(t, 0, 9, "")
	}
}

// P1: an FS that nobody made has no files, and room for none.
func TestNobodysFiles(t *testing.T) {
	var f vfs.FS
	x := both{&f, &model{hands: map[int]hand{}}}
	for _, y := range []both{x, x.twin()} {
		y.alike(t, "nobody's")
		for p := range paths() {
			for mode := -1; mode <= 8; mode++ {
				y.open(t, p, mode)
			}
			y.list(t, p)
		}
		for _, n := range []int{math.MinInt, -1, 0, 1, math.MaxInt} {
			y.read(t, n, n)
			y.may(t, n, n)
			y.write(t, n, []byte{1})
			y.shut(t, n)
		}
	}
}

// P3: the same calls answer the same, however a map is gone through.
func TestSameAgain(t *testing.T) {
	for n := range uint64(20) {
		var first []api.Item
		for i := range 5 {
			r := seeded(n)
			f, _ := vfs.New(drawTree(r, "", 3), greatest())
			for range 30 {
				f.Open(names()[r.IntN(12)]+"/"+names()[r.IntN(12)], 5)
				f.Write(r.IntN(10), []byte(names()[r.IntN(12)]))
				f = f.Twin()
			}
			if i == 0 {
				first = f.Items()
			}
			sameItems(t, "P3", f.Items(), first)
		}
	}
}
