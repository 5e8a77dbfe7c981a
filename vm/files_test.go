package vm_test

import (
	"bytes"
	"fmt"
	"math"
	"slices"
	"strings"
	"testing"

	"retort/api"
	"retort/op"
	"retort/vfs"
	"retort/vm"
)

// asked does one call of files to f and memory, and looks whether it is as the model has it.
func asked(t testing.TB, f *vfs.FS, memory []byte, call int, args []int, most int) (int, int, api.Trap) {
	t.Helper()
	want := filedOf(f, memory, call, args, most)
	was := slices.Clone(args)
	answer, moved, tr := vm.Call(f, memory, call, args, most)
	what := fmt.Sprintf("P1503: Call(%d, %v, %d)", call, args, most)
	if answer != want.touch.Answer || moved != want.moved || tr != want.trap {
		t.Fatalf("%s: %d, %d, %v, want %d, %d, %v", what, answer, moved, tr, want.touch.Answer, want.moved, want.trap)
	}
	if !bytes.Equal(memory, want.memory) {
		t.Fatalf("%s: memory %q, want %q", what, memory, want.memory)
	}
	if got := lying(f); got != lying(want.f) {
		t.Fatalf("%s: files %s, want %s", what, got, lying(want.f))
	}
	if !slices.Equal(args, was) {
		t.Fatalf("P2: %s: args %v", what, args)
	}
	return answer, moved, tr
}

// does asks, and looks whether that is answered.
func does(t *testing.T, what string, f *vfs.FS, memory []byte, call int, args []int, most, answer, moved int, tr api.Trap) {
	t.Helper()
	a, n, x := asked(t, f, memory, call, args, most)
	is(t, "P1503: "+what, fmt.Sprint(a, n, x.Word()), fmt.Sprint(answer, moved, tr.Word()))
}

func refusal(e api.Errno) int { return 0 - int(e) }

func list(l ...int) []int { return l }

// opened has handle 0 that reads d/x, 1 that writes behind o's end, 2 that writes d/x; one more may be open.
func opened() *vfs.FS {
	f := files()
	f.Open("d/x", api.MRead)
	f.Open("o", api.MAppend)
	f.Open("d/x", api.MWrite)
	return f
}

func TestOtherCalls(t *testing.T) {
	for call := -3; call < 9; call++ {
		s, there := op.Sys(call)
		for n := range 8 {
			if there && n == s.Takes {
				continue
			}
			for _, most := range []int{-1, 0, 99} {
				does(t, "another call, or number of args", opened(), []byte("d/x...."), call, make([]int, n), most, 0, 0, api.TOp)
			}
		}
	}
	for _, call := range []int{math.MinInt, math.MaxInt, 1 << 32, 256, -256} {
		does(t, "another call", opened(), []byte("d/x"), call, list(0, 3, 0), 99, 0, 0, api.TOp)
		does(t, "another call", opened(), []byte("d/x"), call, nil, 99, 0, 0, api.TOp)
	}
	does(t, "TOp ahead of TBounds", opened(), nil, api.SOpen, list(5, 5), 0, 0, 0, api.TOp)
	does(t, "TOp ahead of TBounds", opened(), nil, api.SList, list(-1, -1, -1), 0, 0, 0, api.TOp)
	does(t, "TOp ahead of an error", opened(), nil, api.SClose, list(9, 9), 0, 0, 0, api.TOp)
}

// edges of a memory, for an address or a number of bytes.
func edges(size int) []int {
	l := []int{math.MinInt, -1 << 32, -2, -1, 0, 1, 2, 3, size - 3, size - 2, size - 1, size, size + 1, 1 << 32, math.MaxInt - 1, math.MaxInt}
	slices.Sort(l)
	return slices.Compact(l)
}

func mosts() []int {
	return []int{math.MinInt, -1, 0, 1, 2, 3, 4, 5, 6, 7, 8, 9, 15, 16, math.MaxInt}
}

// Every at and n at the edges of memories, under every most.
func TestRanges(t *testing.T) {
	l := []string{"", "d/x", "/d/./e/", "d", "o", "d/x\x00o..d/eo12"}
	if testing.Short() {
		l = l[:3]
	}
	for _, s := range l {
		for _, at := range edges(len(s)) {
			for _, n := range edges(len(s)) {
				for _, most := range mosts() {
					asked(t, opened(), []byte(s), api.SOpen, list(at, n, 0), most)
					asked(t, opened(), []byte(s), api.SRead, list(0, at, n), most)
					asked(t, opened(), []byte(s), api.SWrite, list(1, at, n), most)
					if !lies([]byte(s), at, n) {
						for call, args := range [][]int{{at, n, 0}, {0, at, n}, {1, at, n}, {at, n, 0, 0}} {
							does(t, "TBounds", opened(), []byte(s), call, args, most, 0, 0, api.TBounds)
						}
						does(t, "TBounds of the second range", opened(), []byte(s), api.SList, list(0, 0, at, n), most, 0, 0, api.TBounds)
						does(t, "TBounds ahead of a wrong handle", opened(), []byte(s), api.SRead, list(9, at, n), most, 0, 0, api.TBounds)
						does(t, "TBounds ahead of a wrong handle", opened(), []byte(s), api.SWrite, list(9, at, n), most, 0, 0, api.TBounds)
						does(t, "TBounds ahead of a wrong mode", opened(), []byte(s), api.SOpen, list(at, n, 9), most, 0, 0, api.TBounds)
					}
				}
			}
		}
	}
}

// Both ranges of SList, at every edge.
func TestBothRanges(t *testing.T) {
	memory := []byte("d.e/d/x")
	l := []int{math.MinInt, -1, 0, 1, 3, 5, 6, 7, 8, math.MaxInt}
	f := opened()
	for _, at := range l {
		for _, n := range l {
			for _, to := range l {
				for _, room := range l {
					for _, most := range []int{-1, 1, 6, 8} {
						if lies(memory, at, n) && lies(memory, to, room) {
							asked(t, opened(), bytes.Clone(memory), api.SList, list(at, n, to, room), most)
						} else if a, b, tr := vm.Call(f, memory, api.SList, list(at, n, to, room), most); a != 0 || b != 0 || tr != api.TBounds {
							t.Fatalf("P1503: SList %d %d %d %d: %d, %d, %v", at, n, to, room, a, b, tr)
						}
					}
				}
			}
		}
	}
	is(t, "P1503: memory behind traps", string(memory), "d.e/d/x")
	is(t, "P1503: files behind traps", lying(f), lying(opened()))
	// Bounds of either range come ahead of fuel for the path.
	does(t, "the second range ahead of TFuel", opened(), memory, api.SList, list(0, 7, 7, 1), 0, 0, 0, api.TBounds)
	does(t, "the first range ahead of TFuel", opened(), memory, api.SList, list(1, 7, 0, 0), 0, 0, 0, api.TBounds)
}

func TestOpen(t *testing.T) {
	memory := []byte("d/x new d/n/m ..")
	for mode := -2; mode < 11; mode++ {
		for at := range 16 {
			for n := range 17 - at {
				asked(t, opened(), bytes.Clone(memory), api.SOpen, list(at, n, mode), 99)
			}
		}
	}
	for _, c := range []struct {
		what          string
		at, n, mode   int
		most          int
		answer, moved int
		t             api.Trap
		files         string // a path that is there behind it
	}{
		{"a file", 0, 3, api.MRead, 3, 3, 3, api.TNone, "d/x"},
		{"one byte less fuel", 0, 3, api.MRead, 2, 0, 0, api.TFuel, ""},
		{"much fuel", 0, 3, api.MRead, math.MaxInt, 3, 3, api.TNone, ""},
		{"a directory", 0, 1, api.MRead, 1, refusal(api.ErrIsDir), 1, api.TNone, ""},
		{"the root", 0, 0, api.MRead, 0, refusal(api.ErrIsDir), 0, api.TNone, ""},
		{"the root, most below 0", 0, 0, api.MRead, -7, refusal(api.ErrIsDir), 0, api.TNone, ""},
		{"the root at the memory's end", 16, 0, api.MRead, 0, refusal(api.ErrIsDir), 0, api.TNone, ""},
		{"no such file", 4, 3, api.MRead, 3, refusal(api.ErrNoEnt), 3, api.TNone, ""},
		{"no such file, TFuel first", 4, 3, api.MRead, 2, 0, 0, api.TFuel, ""},
		{"a new file", 4, 3, api.MWrite, 3, 3, 3, api.TNone, "new"},
		{"a new file, no fuel", 4, 3, api.MWrite, 2, 0, 0, api.TFuel, ""},
		{"a new file, no fuel at all", 4, 3, api.MWrite, -1, 0, 0, api.TFuel, ""},
		{"no such directory", 8, 5, api.MWrite, 9, refusal(api.ErrNoEnt), 5, api.TNone, ""},
		{"a new directory", 8, 5, api.MWrite | api.MMake, 5, 3, 5, api.TNone, "d/n/m"},
		{"below a file", 0, 4, api.MRead, 4, refusal(api.ErrNoEnt), 4, api.TNone, ""},
		{"a wrong mode", 0, 3, 4, 3, refusal(api.ErrMode), 3, api.TNone, ""},
		{"a wrong mode ahead of a wrong path", 14, 2, 8, 2, refusal(api.ErrMode), 2, api.TNone, ""},
		{"above the root", 14, 2, 0, 2, refusal(api.ErrRoot), 2, api.TNone, ""},
	} {
		f := opened()
		does(t, "SOpen of "+c.what, f, bytes.Clone(memory), api.SOpen, list(c.at, c.n, c.mode), c.most, c.answer, c.moved, c.t)
		if c.t != api.TNone || c.answer < 0 {
			is(t, "P1503: files behind SOpen of "+c.what, lying(f), lying(opened()))
		} else if p, _, e := f.Place(c.answer); e != api.OK || c.files != "" && p != c.files {
			t.Errorf("P1503: SOpen of %s: handle %d of %q, %v", c.what, c.answer, p, e)
		}
	}
	f := opened()
	f.Open("o", api.MRead)
	does(t, "SOpen of one too many", f, []byte("o"), api.SOpen, list(0, 1, 0), 1, refusal(api.ErrOpen), 1, api.TNone)
	long := []byte(strings.Repeat("/", 4097))
	does(t, "SOpen of a long path", opened(), long, api.SOpen, list(0, 4097, 0), 4097, refusal(api.ErrLong), 4097, api.TNone)
	does(t, "SOpen of a long path", opened(), long, api.SOpen, list(0, 4096, 0), 4097, refusal(api.ErrIsDir), 4096, api.TNone)
	does(t, "SOpen of a wrong name", opened(), []byte("a\x00"), api.SOpen, list(0, 2, 1), 2, refusal(api.ErrName), 2, api.TNone)
	does(t, "SOpen of a deep path", opened(), []byte(strings.Repeat("a/", 33)), api.SOpen, list(0, 66, 5), 66, refusal(api.ErrDeep), 66, api.TNone)
	does(t, "SOpen of one file too many", opened(), []byte("1/2/3/4/5"), api.SOpen, list(0, 9, 5), 9, refusal(api.ErrFiles), 9, api.TNone)
	does(t, "SOpen below a file", opened(), []byte("o/p"), api.SOpen, list(0, 3, 0), 3, refusal(api.ErrNotDir), 3, api.TNone)
}

func TestRead(t *testing.T) {
	for n := range 11 {
		for most := -1; most < 7; most++ {
			f, memory := opened(), []byte("..........")
			many := min(n, 5)
			if many > max(most, 0) {
				does(t, "SRead without fuel", f, memory, api.SRead, list(0, 0, n), most, 0, 0, api.TFuel)
				_, at, _ := f.Place(0)
				is(t, "P1503: the place behind TFuel", at, 0)
				continue
			}
			does(t, "SRead", f, memory, api.SRead, list(0, 10-n, n), most, many, many, api.TNone)
			is(t, "P1503: laid down", string(memory[10-n:]), "hello"[:many]+".........."[:n-many])
			does(t, "SRead of the rest", f, memory, api.SRead, list(0, 0, 10), 5-many, 5-many, 5-many, api.TNone)
			does(t, "SRead at the end", f, memory, api.SRead, list(0, 0, 10), most, 0, 0, api.TNone)
		}
	}
	for _, h := range []int{math.MinInt, -1, 3, 4, 64, math.MaxInt} {
		does(t, "SRead of no handle", opened(), []byte("...."), api.SRead, list(h, 0, 4), 0, refusal(api.ErrHandle), 0, api.TNone)
	}
	for _, h := range []int{1, 2} {
		does(t, "SRead of one that writes", opened(), []byte("...."), api.SRead, list(h, 0, 4), 0, refusal(api.ErrMode), 0, api.TNone)
		does(t, "SRead of one that writes", opened(), []byte("...."), api.SRead, list(h, 0, 0), math.MaxInt, refusal(api.ErrMode), 0, api.TNone)
	}
	// A handle whose place lies behind the end of a file that was cut.
	f := opened()
	f.Read(0, 4)
	f.Close(2)
	f.Open("d/x", api.MFresh)
	does(t, "SRead behind the end", f, []byte("...."), api.SRead, list(0, 0, 4), 0, 0, 0, api.TNone)
}

func TestWrite(t *testing.T) {
	for n := range 8 {
		for most := -1; most < 9; most++ {
			f, memory := opened(), []byte("abcdefghij")
			if n > max(most, 0) {
				does(t, "SWrite without fuel", f, memory, api.SWrite, list(1, 2, n), most, 0, 0, api.TFuel)
				is(t, "P1503: files behind TFuel", lying(f), lying(opened()))
				continue
			}
			does(t, "SWrite", f, memory, api.SWrite, list(1, 2, n), most, n, n, api.TNone)
			is(t, "P1503: memory behind SWrite", string(memory), "abcdefghij")
			l := f.Items()
			is(t, "P1503: the file behind SWrite", string(l[3].Data), "12"+"cdefghij"[:n])
		}
	}
	for _, most := range mosts() {
		for _, h := range []int{math.MinInt, -1, 3, 64, math.MaxInt} {
			does(t, "SWrite of no handle", opened(), []byte("...."), api.SWrite, list(h, 0, 4), most, refusal(api.ErrHandle), 0, api.TNone)
		}
		does(t, "SWrite of one that reads", opened(), []byte("...."), api.SWrite, list(0, 0, 4), most, refusal(api.ErrMode), 0, api.TNone)
		does(t, "SWrite of one that reads", opened(), []byte("...."), api.SWrite, list(0, 4, 0), most, refusal(api.ErrMode), 0, api.TNone)
		does(t, "SWrite of too much, ahead of TFuel", opened(), make([]byte, 14), api.SWrite, list(1, 0, 14), most, refusal(api.ErrQuota), 0, api.TNone)
	}
	does(t, "SWrite of just so much", opened(), make([]byte, 14), api.SWrite, list(1, 0, 13), 13, 13, 13, api.TNone)
	does(t, "SWrite of just so much, and no fuel", opened(), make([]byte, 14), api.SWrite, list(1, 0, 13), 12, 0, 0, api.TFuel)
	// A handle that writes goes on behind what it wrote.
	f := opened()
	does(t, "SWrite", f, []byte("HE"), api.SWrite, list(2, 0, 2), 9, 2, 2, api.TNone)
	does(t, "SWrite", f, []byte("L.."), api.SWrite, list(2, 0, 1), 9, 1, 1, api.TNone)
	is(t, "P1503: the file behind both", string(f.Items()[2].Data), "HELlo")
}

func TestList(t *testing.T) {
	for _, c := range []struct {
		path, names string
	}{{"", "d/\x00o\x00"}, {"d", "e/\x00x\x00"}, {"d/e", ""}, {"/d//", "e/\x00x\x00"}, {".", "d/\x00o\x00"}} {
		n, many := len(c.path), len(c.names)
		for room := range 9 {
			for most := -1; most < n+8; most++ {
				f, memory := opened(), []byte("............"+c.path)
				args := list(12, n, 3, room)
				switch {
				case n > max(most, 0):
					does(t, "SList without fuel for its path", f, memory, api.SList, args, most, 0, 0, api.TFuel)
				case many > room:
					does(t, "SList without room, ahead of TFuel", f, memory, api.SList, args, most, refusal(api.ErrRange), n, api.TNone)
				case n+many > max(most, 0):
					does(t, "SList without fuel", f, memory, api.SList, args, most, 0, 0, api.TFuel)
				default:
					does(t, "SList", f, memory, api.SList, args, most, many, n+many, api.TNone)
					is(t, "P1503: names", string(memory), "..."+c.names+"............"[:9-many]+c.path)
					continue
				}
				is(t, "P1503: no names", string(memory), "............"+c.path)
			}
		}
	}
	for path, e := range map[string]api.Errno{"o": api.ErrNotDir, "d/x": api.ErrNotDir, "o/p": api.ErrNotDir, "p": api.ErrNoEnt, "d/y/z": api.ErrNoEnt, "..": api.ErrRoot, "\x00": api.ErrName, strings.Repeat("a/", 33): api.ErrDeep, strings.Repeat("/", 4097): api.ErrLong} {
		n := len(path)
		for room := range n {
			does(t, "SList of "+brief(path), opened(), []byte(path), api.SList, list(0, n, 0, room), n, refusal(e), n, api.TNone)
			if n > 100 && room > 3 {
				break
			}
		}
		does(t, "SList of "+brief(path)+" without fuel", opened(), []byte(path), api.SList, list(0, n, 0, 0), n-1, 0, 0, api.TFuel)
	}
}

// What is laid down may lie where the path lay: the path was read ahead.
func TestOverPath(t *testing.T) {
	memory := []byte("d......")
	does(t, "SList over its path", opened(), memory, api.SList, list(0, 1, 0, 7), 9, 5, 6, api.TNone)
	is(t, "P1503: laid over the path", string(memory), "e/\x00x\x00..")
	memory = []byte("..d/e/../.")
	does(t, "SList over its path", opened(), memory, api.SList, list(2, 7, 1, 9), 99, 5, 12, api.TNone)
	is(t, "P1503: laid over the path", string(memory), ".e/\x00x\x00../.")
	// The names of many items, some shorter and some longer than their path.
	for n := range 12 {
		f := filesOf(api.Quota{Bytes: 9, Files: 99, Open: 9})
		for i := range n {
			f.Open(fmt.Sprintf("dir/%s%d", strings.Repeat("n", i), i), api.MWrite|api.MMake)
			f.Close(0)
		}
		for to := range 20 {
			memory := []byte("........dir" + strings.Repeat(".", 150))
			asked(t, f, memory, api.SList, list(8, 3, to, 140), 150)
		}
	}
}

func TestClose(t *testing.T) {
	for _, most := range mosts() {
		f := opened()
		for _, h := range []int{1, 0, 2} {
			does(t, "SClose", f, nil, api.SClose, list(h), most, 0, 0, api.TNone)
			does(t, "SClose again", f, nil, api.SClose, list(h), most, refusal(api.ErrHandle), 0, api.TNone)
		}
		for _, h := range []int{math.MinInt, -1, 3, 64, math.MaxInt} {
			does(t, "SClose of no handle", f, nil, api.SClose, list(h), most, refusal(api.ErrHandle), 0, api.TNone)
		}
		is(t, "P1503: handles behind SClose", f.Used().Open, 0)
	}
}

// Rows of calls that are drawn, over one memory and files.
func TestDrawnFileCalls(t *testing.T) {
	rounds := uint64(1500)
	if testing.Short() {
		rounds = 150
	}
	met := map[string]int{}
	for n := range rounds {
		r := seeded(n)
		f, memory := files(), []byte("d/xo12..new/ydd/e.........")
		for range 40 {
			call := r.IntN(5)
			args := make([]int, int("33341"[call]-'0'))
			for i := range args {
				args[i] = r.IntN(5)
				if r.IntN(3) == 0 {
					args[i] = r.IntN(len(memory) + 2)
				}
				if r.IntN(60) == 0 {
					args[i] = []int{math.MinInt, -1, math.MaxInt}[r.IntN(3)]
				}
			}
			if call == api.SOpen && r.IntN(2) == 0 {
				args = [][]int{{0, 3, 0}, {3, 1, 3}, {8, 5, 5}, {8, 3, 0}, {13, 1, 0}, {3, 1, 0}}[r.IntN(6)]
			}
			if call == api.SList && r.IntN(2) == 0 {
				args = [][]int{{0, 0, 18, 8}, {13, 1, 18, 8}, {14, 3, 18, 8}, {3, 1, 18, 8}}[r.IntN(4)]
			}
			most := r.IntN(12)
			if r.IntN(2) == 0 {
				most = 99
			}
			answer, _, tr := asked(t, f, memory, call, args, most)
			met[fmt.Sprint(call, " ", tr.Word(), " ", answer < 0)]++
		}
	}
	for call := range 5 {
		for _, what := range []string{"none true", "none false", "bounds false", "fuel false"} {
			if k := fmt.Sprint(call, " ", what); met[k] < 20 && !testing.Short() && (call < 4 || what[0] == 'n') {
				t.Errorf("%s: met %d times only", k, met[k])
			}
		}
	}
}
