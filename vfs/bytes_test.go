package vfs_test

import (
	"math"
	"strings"
	"testing"

	"retort/api"
	"retort/vfs"
)

func TestReadPieces(t *testing.T) {
	x := made(t, greatest(), text("a", "0123456789"), text("none", ""))
	x.opens(t, "a", 0, 0, api.OK)
	x.reads(t, 0, 0, "")
	x.reads(t, 0, 1, "0")
	x.reads(t, 0, 3, "123")
	x.reads(t, 0, 0, "")
	x.opens(t, "a", 0, 1, api.OK)
	x.reads(t, 1, 10, "0123456789")
	x.reads(t, 1, 1, "")
	x.reads(t, 0, 7, "456789")
	x.reads(t, 0, 7, "")
	x.reads(t, 0, 0, "")
	x.opens(t, "a", 0, 2, api.OK)
	x.reads(t, 2, math.MaxInt, "0123456789")
	x.reads(t, 2, math.MaxInt, "")
	x.opens(t, "a", 0, 3, api.OK)
	x.reads(t, 3, 9, "012345678")
	x.reads(t, 3, math.MaxInt, "9")
	x.opens(t, "none", 0, 4, api.OK)
	for _, n := range []int{0, 1, math.MaxInt} {
		x.reads(t, 4, n, "")
	}
}

// handles is an FS in which the handles 0 to 6 are open by the modes, all of one file, at unlike places.
func handles(t testing.TB, q api.Quota) both {
	t.Helper()
	x := made(t, q, text("f", "file"), text("g", "other"))
	for h, mode := range []int{2, 1, 0, 3, 5, 6, 7} {
		x.opens(t, "f", mode, h, api.OK)
	}
	x.writes(t, 1, "written", api.OK)
	x.reads(t, 2, 3, "wri")
	x.writes(t, 5, "f", api.OK)
	x.writes(t, 6, "!", api.OK)
	x.has(t, "f", "fritten!")
	return x
}

// The errors of Read and Peek in their order; nothing is changed by them.
func TestReadErrors(t *testing.T) {
	x := handles(t, greatest())
	for _, n := range []int{math.MinInt, -1, 0, 1, math.MaxInt} {
		for _, h := range []int{math.MinInt, -1, 7, 8, 64, math.MaxInt} {
			_, e := x.read(t, h, n)
			is(t, "P903: no handle", e, api.ErrHandle)
		}
		for _, h := range []int{0, 1, 3, 4, 5, 6} {
			_, e := x.read(t, h, n)
			is(t, "P903: another mode", e, api.ErrMode)
		}
	}
	for _, n := range []int{math.MinInt, -2, -1} {
		_, e := x.read(t, 2, n)
		is(t, "P903: below 0", e, api.ErrArg)
	}
	is(t, "P906", x.shut(t, 2), api.OK)
	for _, n := range []int{-1, 0, 1} {
		_, e := x.read(t, 2, n)
		is(t, "P903: a handle that was closed", e, api.ErrHandle)
	}
}

// The errors of Write and May in their order; nothing is changed by them.
func TestWriteErrors(t *testing.T) {
	x := handles(t, quota(20, 2, 9))
	for _, b := range []string{"", "1", "12345678", strings.Repeat("x", 1<<20+1)} {
		for _, h := range []int{math.MinInt, -1, 7, 8, 64, math.MaxInt} {
			x.writes(t, h, b, api.ErrHandle)
		}
		x.writes(t, 2, b, api.ErrMode)
	}
	for _, n := range []int{math.MinInt, -1, 0, 1, 1 << 20, 1<<20 + 1, math.MaxInt} {
		is(t, "P904: May, no handle", x.may(t, 9, n), api.ErrHandle)
		is(t, "P904: May, another mode", x.may(t, 2, n), api.ErrMode)
	}
	for h, room := range map[int]int{0: 15, 1: 8, 3: 7, 4: 15, 5: 14, 6: 7} {
		for _, n := range []int{math.MinInt, -2, -1} {
			is(t, "P904: May, below 0", x.may(t, h, n), api.ErrArg)
		}
		is(t, "P904: May of none", x.may(t, h, 0), api.OK)
		is(t, "P904: May of just as many", x.may(t, h, room), api.OK)
		for _, n := range []int{room + 1, 1 << 20, 1<<20 + 1, 1 << 26, math.MaxInt - 8, math.MaxInt} {
			is(t, "P904: May of more", x.may(t, h, n), api.ErrQuota)
		}
		x.writes(t, h, strings.Repeat("x", room+1), api.ErrQuota)
		x.writes(t, h, strings.Repeat("x", 1<<20+1), api.ErrQuota)
		x.twin().writes(t, h, strings.Repeat("x", room), api.OK)
	}
	is(t, "P906", x.shut(t, 0), api.OK)
	x.writes(t, 0, "", api.ErrHandle)
	is(t, "P904: May, a handle that was closed", x.may(t, 0, -1), api.ErrHandle)
}

// Writes over what lies there, over the end, at the end, behind it.
func TestWritePlaces(t *testing.T) {
	for _, mode := range []int{1, 5} {
		x := made(t, greatest(), text("a", "0123456789"))
		x.opens(t, "a", mode, 0, api.OK)
		x.writes(t, 0, "ab", api.OK)
		x.has(t, "a", "ab23456789")
		x.writes(t, 0, "", api.OK)
		x.writes(t, 0, "cdefghi", api.OK)
		x.has(t, "a", "abcdefghi9")
		x.writes(t, 0, "jkl", api.OK)
		x.has(t, "a", "abcdefghijkl")
		x.writes(t, 0, "m", api.OK)
		x.has(t, "a", "abcdefghijklm")
		x.opens(t, "a", 2, 1, api.OK)
		x.writes(t, 0, "", api.OK)
		x.has(t, "a", "")
		x.writes(t, 0, "n", api.OK)
		x.has(t, "a", strings.Repeat("\x00", 13)+"n")
		x.writes(t, 1, "op", api.OK)
		x.has(t, "a", "op"+strings.Repeat("\x00", 11)+"n")
		x.opens(t, "a", mode, 2, api.OK)
		x.writes(t, 2, strings.Repeat("x", 14), api.OK)
		x.has(t, "a", strings.Repeat("x", 14))
	}
}

// A handle that appends writes at the end, wherever it stands, and stands there then.
func TestWriteAppends(t *testing.T) {
	for _, mode := range []int{3, 7} {
		x := made(t, greatest(), text("a", "01"))
		x.opens(t, "a", mode, 0, api.OK)
		x.opens(t, "a", 1, 1, api.OK)
		x.writes(t, 0, "", api.OK)
		p, at, _ := x.f.Place(0)
		if p != "a" || at != 0 {
			t.Errorf("P904: of no bytes nothing is done: %q, %d", p, at)
		}
		x.writes(t, 0, "23", api.OK)
		x.writes(t, 1, "abcdef", api.OK)
		x.has(t, "a", "abcdef")
		x.writes(t, 0, "g", api.OK)
		x.has(t, "a", "abcdefg")
		x.opens(t, "a", 6, 2, api.OK)
		x.writes(t, 0, "h", api.OK)
		x.has(t, "a", "h")
		if _, at, _ := x.f.Place(0); at != 1 {
			t.Errorf("P904: the place is behind what was written: %d", at)
		}
		x.writes(t, 1, "i", api.OK)
		x.has(t, "a", "h\x00\x00\x00\x00\x00i")
		x.writes(t, 0, "j", api.OK)
		x.has(t, "a", "h\x00\x00\x00\x00\x00ij")
	}
}

// A file is cut while handles stand in it, at its end, and is read and written through them then.
func TestCutUnderHandles(t *testing.T) {
	x := made(t, quota(8, 9, 9), text("a", "01234567"))
	x.opens(t, "a", 0, 0, api.OK)
	x.opens(t, "a", 1, 1, api.OK)
	x.opens(t, "a", 3, 2, api.OK)
	x.reads(t, 0, 5, "01234")
	x.writes(t, 1, "abc", api.OK)
	x.opens(t, "a", 6, 3, api.OK)
	x.reads(t, 0, 9, "")
	x.reads(t, 0, 0, "")
	if _, at, _ := x.f.Place(0); at != 5 {
		t.Errorf("P902: other handles stay at their places: %d", at)
	}
	x.writes(t, 1, "d", api.OK)
	x.has(t, "a", "\x00\x00\x00d")
	x.reads(t, 0, 9, "")
	x.writes(t, 2, "ef", api.OK)
	x.reads(t, 0, 9, "f")
	x.opens(t, "a", 2, 4, api.OK)
	x.reads(t, 0, 1, "")
	x.writes(t, 4, "1234567", api.OK)
	x.reads(t, 0, 9, "7")
	x.writes(t, 1, "xyz", api.OK)
	x.has(t, "a", "1234xyz")
	x.writes(t, 1, "!?", api.ErrQuota)
	x.writes(t, 1, "!", api.OK)
	x.reads(t, 0, 9, "!")
	x.has(t, "a", "1234xyz!")
}

// A handle stands so far behind the end that there is no room for the zeros: of no bytes that does not count, and very many are still too many.
func TestBehindTheQuota(t *testing.T) {
	x := made(t, quota(10, 9, 9), text("a", "0123456789"))
	x.opens(t, "a", 5, 0, api.OK)
	x.writes(t, 0, "abcdefghi", api.OK)
	x.opens(t, "a", 2, 1, api.OK)
	x.opens(t, "b", 1, 2, api.OK)
	for room := 10; room >= 0; room-- {
		is(t, "P904: May of none", x.may(t, 0, 0), api.OK)
		x.writes(t, 0, "", api.OK)
		want := map[bool]api.Errno{true: api.OK, false: api.ErrQuota}[room == 10]
		is(t, "P904: May of one", x.may(t, 0, 1), want)
		for _, n := range []int{2, 1 << 20, 1 << 26, math.MaxInt - 9, math.MaxInt - 8, math.MaxInt - 1, math.MaxInt} {
			is(t, "P904: May of many", x.may(t, 0, n), api.ErrQuota)
		}
		if room > 0 {
			x.writes(t, 2, "!", api.OK)
		}
	}
	x.writes(t, 2, "!", api.ErrQuota)
	x.has(t, "a", "")
}

// What lay there ahead of a cut is not to be seen again.
func TestCutLeavesZeros(t *testing.T) {
	x := made(t, greatest(), text("a", strings.Repeat("old", 100)))
	x.opens(t, "a", 1, 0, api.OK)
	x.writes(t, 0, strings.Repeat("new", 99), api.OK)
	x.opens(t, "a", 2, 1, api.OK)
	x.writes(t, 1, "ox", api.OK)
	x.writes(t, 0, "end", api.OK)
	x.has(t, "a", "ox"+strings.Repeat("\x00", 295)+"end")
	x.opens(t, "a", 2, 2, api.OK)
	x.opens(t, "a", 0, 3, api.OK)
	x.writes(t, 1, "z", api.OK)
	x.reads(t, 3, 9, "\x00\x00z")
}

// All files together have just as many bytes as may be, and one more: zeros between count, what is written over does not, what is cut is free.
func TestWriteQuota(t *testing.T) {
	x := made(t, quota(10, 3, 9), text("a", "012"), text("b", "0123"))
	x.opens(t, "a", 1, 0, api.OK)
	x.opens(t, "b", 3, 1, api.OK)
	x.opens(t, "c", 1, 2, api.OK)
	x.writes(t, 0, "abcdefg", api.ErrQuota)
	x.writes(t, 0, "abcdef", api.OK)
	x.writes(t, 1, "4", api.ErrQuota)
	x.writes(t, 2, "4", api.ErrQuota)
	x.writes(t, 2, "", api.OK)
	x.opens(t, "a", 1, 3, api.OK)
	x.writes(t, 3, "ABCDEF", api.OK)
	x.writes(t, 3, "G", api.ErrQuota)
	x.opens(t, "b", 2, 4, api.OK)
	x.writes(t, 0, "4567", api.OK)
	x.has(t, "a", "ABCDEF4567")
	x.opens(t, "a", 2, 5, api.OK)
	x.writes(t, 0, "!", api.ErrQuota)
	is(t, "P908: bytes", x.f.Used().Bytes, 0)
	x.writes(t, 3, "1234", api.OK)
	x.has(t, "a", "\x00\x00\x00\x00\x00\x001234")
	x.writes(t, 2, "x", api.ErrQuota)
	x = made(t, quota(0, 2, 9), text("a", ""))
	x.opens(t, "a", 7, 0, api.OK)
	x.writes(t, 0, "", api.OK)
	x.writes(t, 0, "0", api.ErrQuota)
}

// A file of just MaxBlob bytes, and one more: at once, in pieces, behind a place, by a handle that appends.
func TestLongestFile(t *testing.T) {
	if testing.Short() {
		t.Skip("it writes many bytes, one by one in the model")
	}
	const most = 1 << 20
	whole := strings.Repeat("x", most)
	for _, mode := range []int{1, 2, 3, 5, 6, 7} {
		x := made(t, greatest())
		x.opens(t, "a", mode, 0, api.OK)
		x.writes(t, 0, whole+"x", api.ErrQuota)
		x.writes(t, 0, "0", api.OK)
		x.writes(t, 0, whole, api.ErrQuota)
		x.writes(t, 0, whole[1:], api.OK)
		x.writes(t, 0, "1", api.ErrQuota)
		x.writes(t, 0, "", api.OK)
		is(t, "P904: May of none", x.may(t, 0, 0), api.OK)
		is(t, "P904: May of one", x.may(t, 0, 1), api.ErrQuota)
		is(t, "P904: May of many", x.may(t, 0, math.MaxInt), api.ErrQuota)
		x.opens(t, "a", 1, 1, api.OK)
		x.writes(t, 1, whole[2:], api.OK)
		x.writes(t, 1, "abc", api.ErrQuota)
		x.writes(t, 1, "ab", api.OK)
		x.opens(t, "a", 2, 2, api.OK)
		x.writes(t, 1, "y", api.ErrQuota)
		x.writes(t, 2, "y", api.OK)
		x.has(t, "a", "y")
	}
	x := made(t, greatest(), text("a", whole[1:]), text("b", whole))
	x.opens(t, "b", 0, 0, api.OK)
	x.reads(t, 0, most-1, whole[1:])
	x.reads(t, 0, 2, "x")
	x.opens(t, "a", 3, 1, api.OK)
	x.writes(t, 1, "zz", api.ErrQuota)
	x.writes(t, 1, "z", api.OK)
	x.writes(t, 1, "z", api.ErrQuota)
	x.opens(t, "b", 3, 2, api.OK)
	x.writes(t, 2, "z", api.ErrQuota)
}

// A file is filled byte by byte, and is read byte by byte while it is.
func TestByteByByte(t *testing.T) {
	f, e := vfs.New(nil, greatest())
	is(t, "P901", e, api.OK)
	f.Open("a", api.MWrite)
	f.Open("a", api.MRead)
	for i := range 1<<20 + 1 {
		want := api.OK
		if i == 1<<20 {
			want = api.ErrQuota
		}
		if e := f.Write(0, []byte{byte(i % 251)}); e != want {
			t.Fatalf("P904: byte %d: %v", i, e)
		}
		b, e := f.Read(1, 1+i%2)
		if want == api.OK && (len(b) != 1 || b[0] != byte(i%251)) || want != api.OK && len(b) != 0 || e != api.OK {
			t.Fatalf("P911: byte %d: %v, %v", i, b, e)
		}
	}
	for i, c := range f.Items()[0].Data {
		if c != byte(i%251) {
			t.Fatalf("P911: byte %d: %d", i, c)
		}
	}
}

// P911: what was written is read, by any handle of the file that is opened ahead of it or behind it, by whichever path.
func TestWrittenIsRead(t *testing.T) {
	x := made(t, greatest(), dir("d"))
	x.opens(t, "d/f", 1, 0, api.OK)
	x.opens(t, "d//f", 0, 1, api.OK)
	x.opens(t, "d/f/../f", 7, 2, api.OK)
	x.writes(t, 0, "abc", api.OK)
	x.writes(t, 2, "def", api.OK)
	x.opens(t, "/d/./f", 0, 3, api.OK)
	is(t, "P906", x.shut(t, 0), api.OK)
	is(t, "P906", x.shut(t, 2), api.OK)
	x.reads(t, 1, 9, "abcdef")
	x.reads(t, 3, 9, "abcdef")
	x.opens(t, "d/f", 0, 0, api.OK)
	x.reads(t, 0, 9, "abcdef")
	x.opens(t, "f", 5, 2, api.OK)
	x.writes(t, 2, "xyz", api.OK)
	x.has(t, "d/f", "abcdef")
}
