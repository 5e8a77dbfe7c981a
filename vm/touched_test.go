package vm_test

import (
	"fmt"
	"math"
	"strings"
	"testing"

	"retort/api"
)

// filing is a program with paths in its memory: d/x at 0, o at 3, new/y at 8, d at 13, d/e at 14; room from 20 to 40.
func filing(code string) api.Program {
	return whole(`memory 40 | data "d/xo12..new/ydd/e" | func f 0 1 1 |` + code)
}

// touches runs a program to its end, and looks at its calls of files.
func touches(t *testing.T, what, code string, l api.Limits, end api.Outcome, want ...api.Touch) string {
	t.Helper()
	m := ends(t, what, filing(code), l, end)
	is(t, "P1507: Touched of "+what, touchText(m.Touched()), touchText(want))
	b, _ := m.Memory(20, 20)
	return strings.TrimRight(string(b), "\x00")
}

// Each call of files, with an answer.
func TestTouches(t *testing.T) {
	x := api.Touch{Call: api.SOpen, Path: "d/x"}
	touches(t, "SOpen", "num 0 | num 3 | num 0 | sys open | ret", wide(), halt(0, 5+3), x)
	b := touches(t, "SRead", "num 0 | num 3 | num 0 | sys open | num 20 | num 9 | sys read | ret", wide(), halt(5, 8+3+5),
		x, api.Touch{Call: api.SRead, N: 9, Data: []byte("hello"), Answer: 5})
	is(t, "P1503: laid down", b, "hello")
	touches(t, "SRead twice", "num 0 | num 3 | num 0 | sys open | copy 0 | num 20 | num 3 | sys read | pop | num 23 | num 3 | sys read | ret", wide(), halt(2, 13+3+3+2),
		x, api.Touch{Call: api.SRead, N: 3, Data: []byte("hel"), Answer: 3}, api.Touch{Call: api.SRead, N: 3, Data: []byte("lo"), Answer: 2})
	touches(t, "SWrite", "num 3 | num 1 | num 3 | sys open | num 0 | num 3 | sys write | ret", wide(), halt(3, 8+1+3),
		api.Touch{Call: api.SOpen, Path: "o", N: 3}, api.Touch{Call: api.SWrite, N: 3, Data: []byte("d/x"), Answer: 3})
	touches(t, "a second handle", "num 0 | num 3 | num 0 | sys open | pop | num 8 | num 5 | num 5 | sys open | num 0 | num 2 | sys write | pop | num 1 | sys close | ret", wide(), halt(0, 16+3+5+2),
		x, api.Touch{Call: api.SOpen, Path: "new/y", N: 5, Answer: 1}, api.Touch{Call: api.SWrite, Handle: 1, N: 2, Data: []byte("d/"), Answer: 2}, api.Touch{Call: api.SClose, Handle: 1})
	b = touches(t, "SList", "num 13 | num 1 | num 20 | num 9 | sys list | ret", wide(), halt(5, 6+1+5),
		api.Touch{Call: api.SList, Path: "d", N: 9, Data: []byte("e/\x00x\x00"), Answer: 5})
	is(t, "P1503: laid down", b, "e/\x00x")
	touches(t, "SList of the root", "num 40 | num 0 | num 20 | num 5 | sys list | ret", wide(), halt(5, 6+5),
		api.Touch{Call: api.SList, N: 5, Data: []byte("d/\x00o\x00"), Answer: 5})
	touches(t, "SList of nothing", "num 14 | num 3 | num 40 | num 0 | sys list | ret", wide(), halt(0, 6+3),
		api.Touch{Call: api.SList, Path: "d/e"})
	touches(t, "SClose", "num 0 | num 3 | num 0 | sys open | sys close | ret", wide(), halt(0, 6+3),
		x, api.Touch{Call: api.SClose})
	touches(t, "no call", "num 0 | ret", wide(), halt(0, 2))
}

// Each call of files, with an error: it is done, and listed.
func TestTouchesWithErrors(t *testing.T) {
	touches(t, "SOpen", "num 8 | num 3 | num 0 | sys open | ret", wide(), halt(-91, 5+3),
		api.Touch{Call: api.SOpen, Path: "new", Answer: -91})
	touches(t, "SOpen of a mode", "num 0 | num 3 | num -4 | sys open | ret", wide(), halt(-94, 5+3),
		api.Touch{Call: api.SOpen, Path: "d/x", N: -4, Answer: -94})
	touches(t, "SOpen of bytes as they are", "num 17 | num 2 | num 1 | sys open | ret", wide(), halt(-31, 5+2),
		api.Touch{Call: api.SOpen, Path: "\x00\x00", N: 1, Answer: -31})
	touches(t, "SRead", "num -9 | num 20 | num 9 | sys read | ret", wide(), halt(-95, 5),
		api.Touch{Call: api.SRead, Handle: -9, N: 9, Answer: -95})
	touches(t, "SWrite", "num 7 | num 20 | num 9 | sys write | ret", wide(), halt(-95, 5),
		api.Touch{Call: api.SWrite, Handle: 7, N: 9, Answer: -95})
	touches(t, "SWrite of too much", "num 3 | num 1 | num 3 | sys open | num 0 | num 14 | sys write | ret", wide(), halt(-96, 8+1),
		api.Touch{Call: api.SOpen, Path: "o", N: 3}, api.Touch{Call: api.SWrite, N: 14, Answer: -96})
	touches(t, "SList", "num 3 | num 1 | num 20 | num 9 | sys list | ret", wide(), halt(-93, 6+1),
		api.Touch{Call: api.SList, Path: "o", N: 9, Answer: -93})
	b := touches(t, "SList without room", "num 13 | num 1 | num 20 | num 4 | sys list | ret", wide(), halt(-99, 6+1),
		api.Touch{Call: api.SList, Path: "d", N: 4, Answer: -99})
	is(t, "P1503: nothing is laid down", b, "")
	touches(t, "SClose", "num 9 | sys close | ret", wide(), halt(-95, 3),
		api.Touch{Call: api.SClose, Handle: 9, Answer: -95})
}

// A call of files that traps is not done: it is not listed, and nothing is changed.
func TestTrapsAreNoTouches(t *testing.T) {
	for _, code := range []string{
		"num 38 | num 3 | num 0 | sys open | ret", "num -1 | num 3 | num 0 | sys open | ret", "num 0 | num -1 | num 0 | sys open | ret",
		"num 0 | num 38 | num 3 | sys read | ret", "num 0 | num 0 | num 41 | sys write | ret",
		"num 0 | num 0 | num 41 | num 0 | sys list | ret", "num 0 | num 41 | num 0 | num 0 | sys list | ret", "num 0 | num 0 | num 0 | num -1 | sys list | ret",
	} {
		used := strings.Count(code, "|")
		touches(t, code, code, wide(), trap(api.TBounds, used))
	}
}

// Fuel within a call of files: Used stays where it is wanting, and nothing is done; with just so much it is done.
func TestFuelOfFiles(t *testing.T) {
	open := "num 0 | num 3 | num 0 | sys open | "
	for _, c := range []struct {
		what, code string
		steps      int // ahead of the call of files
		used       int // ahead of it
		moved      int
	}{
		{"SOpen", "num 0 | num 3 | num 0 | sys open | ret", 3, 3, 3},
		{"SOpen with an error", "num 8 | num 5 | num 0 | sys open | ret", 3, 3, 5},
		{"SRead", open + "num 20 | num 9 | sys read | ret", 6, 9, 5},
		{"SRead of less", open + "num 20 | num 2 | sys read | ret", 6, 9, 2},
		{"SRead with an error", "num 9 | num 20 | num 9 | sys read | ret", 3, 3, 0},
		{"SWrite", "num 3 | num 1 | num 3 | sys open | num 0 | num 7 | sys write | ret", 6, 7, 7},
		{"SList", "num 13 | num 1 | num 20 | num 9 | sys list | ret", 4, 4, 6},
		{"SList with an error", "num 0 | num 3 | num 20 | num 9 | sys list | ret", 4, 4, 3},
		{"SList without room", "num 13 | num 1 | num 20 | num 2 | sys list | ret", 4, 4, 1},
		{"SClose", open + "sys close | ret", 4, 7, 0},
	} {
		p := filing(c.code)
		for fuel := c.used; fuel <= c.used+c.moved+2; fuel++ {
			x := begun(t, p, files(), api.Limits{Fuel: fuel, Memory: 40, Stack: 9})
			x.run(t, c.steps)
			is(t, "P1505: Used ahead of "+c.what, x.m.Used(), c.used)
			was, lay := seen(x.m, 40), lying(x.f)
			goesOn := x.step(t)
			what := fmt.Sprintf("P1502: %s with fuel %d", c.what, fuel)
			if fuel < c.used+1+c.moved {
				is(t, what, text(x.m.End()), text(trap(api.TFuel, c.used)))
				is(t, what+": nothing is done", seen(x.m, 40), strings.Replace(was, fmt.Sprintf("%+v", api.Outcome{Fuel: c.used}), fmt.Sprintf("%+v", trap(api.TFuel, c.used)), 1))
				is(t, what+": files", lying(x.f), lay)
				is(t, what+": Step", goesOn, false)
			} else {
				is(t, what, text(x.m.End()), text(api.Outcome{Fuel: c.used + 1 + c.moved}))
				is(t, what+": Step", goesOn, true)
				is(t, what+": Spot", x.m.Spot(), api.Spot{At: c.steps + 1})
			}
			x.run(t, 2)
		}
	}
}

// In this order: fuel for the step, bounds, fuel for a path, the files' error, fuel for the rest.
func TestOrderOfFiles(t *testing.T) {
	for _, c := range []struct {
		what, code string
		fuel       int
		want       api.Outcome
	}{
		{"no fuel for the step, ahead of bounds", "num 0 | num 41 | num 0 | sys open | ret", 3, trap(api.TFuel, 3)},
		{"bounds, ahead of fuel for a path", "num 0 | num 41 | num 0 | sys open | ret", 4, trap(api.TBounds, 4)},
		{"bounds of the second range, ahead of fuel for a path", "num 0 | num 3 | num 41 | num 0 | sys list | ret", 5, trap(api.TBounds, 5)},
		{"fuel for a path, ahead of the files' error", "num 8 | num 5 | num 0 | sys open | ret", 8, trap(api.TFuel, 3)},
		{"fuel for a path, ahead of ErrRange", "num 13 | num 1 | num 20 | num 2 | sys list | ret", 5, trap(api.TFuel, 4)},
		{"ErrRange, ahead of fuel for the rest", "num 13 | num 1 | num 20 | num 2 | sys list | halt", 7, halt(-99, 7)},
		{"ErrHandle, ahead of fuel for the rest", "num 9 | num 20 | num 9 | sys read | halt", 5, halt(-95, 5)},
		{"ErrHandle, ahead of fuel for the rest", "num 9 | num 20 | num 9 | sys write | halt", 5, halt(-95, 5)},
		{"ErrQuota, ahead of fuel for the rest", "num 3 | num 1 | num 3 | sys open | num 0 | num 14 | sys write | halt", 9, halt(-96, 9)},
		{"fuel for the rest", "num 3 | num 1 | num 3 | sys open | num 0 | num 13 | sys write | halt", 9, trap(api.TFuel, 7)},
	} {
		ends(t, "P1503: "+c.what, filing(c.code), api.Limits{Fuel: c.fuel, Memory: 40, Stack: 9}, c.want)
	}
}

// With the most fuel there is no bound.
func TestMostFuelOfFiles(t *testing.T) {
	l := api.Limits{Fuel: math.MaxInt, Memory: math.MaxInt, Stack: math.MaxInt}
	touches(t, "the most fuel", "num 0 | num 3 | num 0 | sys open | num 20 | num 9 | sys read | ret", l, halt(5, 8+3+5),
		api.Touch{Call: api.SOpen, Path: "d/x"}, api.Touch{Call: api.SRead, N: 9, Data: []byte("hello"), Answer: 5})
}

// A path, or bytes, that are overwritten afterwards are told as they were.
func TestTouchesStay(t *testing.T) {
	m := ends(t, "bytes that are overwritten", filing(`num 13 | num 1 | num 10 | num 9 | sys list | pop
		num 3 | num 1 | num 3 | sys open | num 10 | num 2 | sys write | pop
		num 0 | num -1 | store | num 8 | num -1 | store | num 0 | ret`), wide(), halt(0, 22+1+5+1+2))
	is(t, "P1507: as they were", touchText(m.Touched()), touchText([]api.Touch{
		{Call: api.SList, Path: "d", N: 9, Data: []byte("e/\x00x\x00"), Answer: 5},
		{Call: api.SOpen, Path: "o", N: 3}, {Call: api.SWrite, N: 2, Data: []byte("e/"), Answer: 2}}))
	b, _ := m.Memory(0, 16)
	is(t, "P1502: overwritten", string(b), strings.Repeat("\xff", 16))
	m = ends(t, "a path that is overwritten", filing("num 13 | num 1 | num 13 | num 9 | sys list | pop | num 0 | ret"), wide(), halt(0, 8+1+5))
	is(t, "P1507: the path as it was", m.Touched()[0].Path, "d")
	b, _ = m.Memory(13, 6)
	is(t, "P1503: laid over the path", string(b), "e/\x00x\x00\x00")
}

// A file copied byte by byte, as far as there are any.
func TestCopyAFile(t *testing.T) {
	p := filing(`num 0 | num 3 | num 0 | sys open | pop | num 8 | num 5 | num 5 | sys open | pop
		more: num 0 | num 20 | num 2 | sys read | set 0 | get 0 | zero done
		num 1 | num 20 | get 0 | sys write | pop | jump more
		done: num 0 | sys close | num 1 | sys close | add | ret`)
	m := ends(t, "copied", p, wide(), halt(0, 10+4*7+3*6+6+3+5+5+5))
	is(t, "P1506: Files", itemText(m.Files()), itemText([]api.Item{{Path: "d", Dir: true}, {Path: "d/e", Dir: true}, {Path: "d/x", Data: []byte("hello")},
		{Path: "new", Dir: true}, {Path: "new/y", Data: []byte("hello")}, {Path: "o", Data: []byte("12")}}))
	is(t, "P1507: how many", len(m.Touched()), 2+4+3+2)
}
