package prog_test

import (
	"bytes"
	"fmt"
	"math"
	"slices"
	"testing"

	"retort/api"
	"retort/prog"
)

// encode holds Encode of any program against the oracle, and Decode of its bytes against it.
func encode(t *testing.T, p api.Program) ([]byte, api.Errno) {
	t.Helper()
	b, e := prog.Encode(p)
	want, we := bytesOf(p)
	if e != we || !bytes.Equal(b, want) {
		t.Fatalf("P1202: Encode of %s: %s, %v\nwant %s, %v", brief(p), brief(b), e, brief(want), we)
	}
	if e == api.OK {
		back, e := prog.Decode(b)
		is(t, "P1205: Decode of Encode", e, api.OK)
		is(t, "P1205: Decode of Encode", text(back), text(p))
	}
	return b, e
}

// decode holds Decode of any bytes against the oracle, and Encode of its program against them.
func decode(t *testing.T, b []byte) (api.Program, api.Errno) {
	t.Helper()
	p, e := prog.Decode(b)
	want, we := programOf(b)
	if e != we || text(p) != text(want) {
		t.Fatalf("P1203: Decode of %d: %s: %s, %v\nwant %s, %v", len(b), brief(b), brief(p), e, brief(want), we)
	}
	if e == api.OK {
		again, e := prog.Encode(p)
		is(t, "P1205: Encode of Decode", e, api.OK)
		is(t, "P1205: Encode of Decode", string(again), string(b))
	}
	return p, e
}

func told(t *testing.T, what string, b []byte, want api.Errno) {
	t.Helper()
	p, e := decode(t, b)
	is(t, "P1203: "+what, e, want)
	if want != api.OK {
		is(t, "P4: a program beside an error: "+what, text(p), text(api.Program{}))
	}
}

func TestBytesExamples(t *testing.T) {
	b, e := encode(t, small())
	is(t, "P1202", e, api.OK)
	is(t, "P1202: the first one", string(b), string([]byte{2, 4, 1, 7, 1, 0, 0, 1, 3, 3, 6, 18}))
	p, e := decode(t, []byte{2, 4, 1, 7, 1, 0, 0, 1, 3, 3, 6, 18})
	is(t, "P1203", e, api.OK)
	is(t, "P1203: the first one", text(p), "{4 [7] [{0 0 1 [{3 3} {18 0}]}]}")
	told(t, "no bytes", nil, api.ErrCut)
	told(t, "3", []byte{3}, api.ErrTag)
	told(t, "a byte behind", append(smallBytes(), 0), api.ErrTail)
}

// Programs with numbers of more bytes than one, written out.
func TestWideNumbers(t *testing.T) {
	data := bytes.Repeat([]byte{9}, 248)
	nops := make([]byte, 248)
	for _, c := range []struct {
		p    api.Program
		want []byte
	}{
		{api.Program{Funcs: []api.Func{plain()}}, row([]byte{2, 0, 0, 1, 0, 0, 0, 1, 18})},
		{api.Program{Memory: 247, Data: data[:247], Funcs: []api.Func{plain()}}, row([]byte{2, 247, 247}, data[:247], []byte{1, 0, 0, 0, 1, 18})},
		{api.Program{Memory: 248, Data: data, Funcs: []api.Func{plain()}}, row([]byte{2, 248, 248, 248, 248}, data, []byte{1, 0, 0, 0, 1, 18})},
		{api.Program{Memory: 65535, Funcs: []api.Func{plain()}}, row([]byte{2, 249, 255, 255, 0, 1, 0, 0, 0, 1, 18})},
		{api.Program{Memory: 65536, Data: []byte{5, 6}, Funcs: []api.Func{plain()}}, row([]byte{2, 250, 1, 0, 0, 2, 5, 6, 1, 0, 0, 0, 1, 18})},
		{api.Program{Funcs: []api.Func{{Args: 16, Locals: 64, Results: 1, Code: many(one(0, 0), 248)}}}, row([]byte{2, 0, 0, 1, 16, 64, 1, 248, 248}, nops)},
		{api.Program{Funcs: []api.Func{{Locals: 1, Code: many(one(0, 0), 247)}, {Args: 3, Locals: 5, Code: list(one(api.INum, -1))}}}, row([]byte{2, 0, 0, 2, 0, 1, 0, 247}, nops[:247], []byte{3, 5, 0, 2, 3, 1})},
	} {
		b, e := encode(t, c.p)
		is(t, "P1202: Encode", e, api.OK)
		is(t, "P1202: Encode of "+brief(c.p), string(b), string(c.want))
		told(t, "there and back", c.want, api.OK)
	}
	b, _ := encode(t, several(64))
	is(t, "P1202: 64 functions", string(b[:7]), string([]byte{2, 9, 3, 1, 2, 3, 64}))
}

// A blob is just full, and one byte more is wanted, by Data and by code.
func TestFullBlobs(t *testing.T) {
	for size, want := range map[int]api.Errno{1048575: api.OK, 1048576: api.OK, 1048577: api.ErrLong, 1050000: api.ErrLong} {
		p := full(size)
		b, e := encode(t, p)
		is(t, fmt.Sprintf("P1202: %d bytes", size), e, want)
		is(t, "P1202: how many", len(b), map[api.Errno]int{api.OK: size}[want])
		is(t, "P1201: it may be all the same", prog.Check(p), api.OK)
		told(t, fmt.Sprintf("P1203: %d bytes", size), laid(p), want)
	}
	p := full(1048570)
	p.Funcs = append(p.Funcs, plain())
	b, e := encode(t, p)
	is(t, "P1202: a function more", e, api.OK)
	is(t, "P1202: a function more", len(b), 1048575)
	p.Funcs[25].Code = list(one(api.INum, 0))
	b, e = encode(t, p)
	is(t, "P1202: a byte of code more", e, api.OK)
	is(t, "P1202: a byte of code more", len(b), 1048576)
	p.Funcs[25].Code = list(one(api.INum, 0), one(api.INop, 0))
	_, e = encode(t, p)
	is(t, "P1202: two bytes of code more", e, api.ErrLong)
}

// The greatest program that Check takes has no bytes; of one that it refuses its fault is told.
func TestGreatestProgram(t *testing.T) {
	p := api.Program{Memory: 65536, Data: make([]byte, 65536)}
	code := many(one(api.INum, math.MaxInt), 4096)
	for range 64 {
		p.Funcs = append(p.Funcs, api.Func{Args: 16, Locals: 64, Results: 1, Code: code})
	}
	is(t, "P1201: the greatest one", prog.Check(p), api.OK)
	b, e := prog.Encode(p)
	is(t, "P1202: the greatest one", e, api.ErrLong)
	is(t, "P4: bytes beside an error", len(b), 0)
	told(t, "the greatest one", laid(p), api.ErrLong)
	wrong := slices.Clone(code)
	wrong[4095] = one(api.IAdd, 1)
	p.Funcs[63].Code = wrong
	check(t, "too long, and its last operand is none", p, api.ErrCode)
	wrong[4095] = one(46, 1)
	check(t, "too long, and its last instruction has no row", p, api.ErrOp)
	p.Funcs[63].Results = 2
	check(t, "too long, and its last head may not be", p, api.ErrProg)
}

// Just MaxBlob bytes are read, one more are not, whatever is wrong with them.
func TestLongBytes(t *testing.T) {
	for what, c := range map[string]struct {
		front []byte
		want  api.Errno
	}{
		"another kind":       {[]byte{3}, api.ErrTag},
		"a form":             {[]byte{248, 2}, api.ErrForm},
		"too many functions": {[]byte{2, 0, 0, 65}, api.ErrProg},
		"an instruction":     {[]byte{2, 0, 0, 1, 0, 0, 0, 1, 46}, api.ErrOp},
		"a program":          {smallBytes(), api.ErrTail},
		"more Data":          {row(2, 0, 1<<20), api.ErrCut},
	} {
		b := make([]byte, 1<<20+1)
		copy(b, c.front)
		told(t, what+" and MaxBlob bytes", b[:1<<20], c.want)
		told(t, what+" and one more", b, api.ErrLong)
	}
	b := laid(full(1048576))
	told(t, "just full", b, api.OK)
	told(t, "just full, and a byte behind", append(b, 0), api.ErrLong)
	told(t, "full but for one, and a byte behind", append(laid(full(1048575)), 0), api.ErrTail)
}

// Of a program's bytes each front is cut, wherever it ends.
func TestFronts(t *testing.T) {
	wide := several(3)
	wide.Memory, wide.Data = 65536, make([]byte, 300)
	wide.Funcs[1].Code = many(one(api.INum, math.MinInt), 40)
	for _, p := range []api.Program{small(), several(1), several(5), wide} {
		b := laid(p)
		for i := range b {
			told(t, fmt.Sprintf("%d bytes of %d", i, len(b)), b[:i], api.ErrCut)
		}
		told(t, "all", b, api.OK)
	}
}

// part is one number of a program's bytes, by what it is.
type part struct {
	what string
	n    int
	rest []byte // what it counts
}

// parts are those of a program with two functions.
func parts() []part {
	return []part{{"the first number", 2, nil}, {"Memory", 4, nil}, {"how much Data", 1, []byte{7}}, {"how many functions", 2, nil},
		{"Args", 1, nil}, {"Locals", 5, nil}, {"Results", 1, nil}, {"how much code", 3, []byte{3, 6, 18}},
		{"the second one's Args", 0, nil}, {"the second one's Locals", 0, nil}, {"the second one's Results", 0, nil}, {"the second one's how much code", 1, []byte{18}}}
}

// with has other bytes in the place of one number's form.
func with(at int, instead []byte) []byte {
	var b []byte
	for i, p := range parts() {
		if i == at {
			b = append(b, instead...)
		} else {
			b = append(b, form(uint64(p.n))...)
		}
		b = append(b, p.rest...)
	}
	return b
}

// Each number in each form that is not its one form, and above ints.
func TestForms(t *testing.T) {
	told(t, "as it is", with(-1, nil), api.OK)
	for at, p := range parts() {
		for k := 1; k <= 8; k++ {
			wide := append(append([]byte{byte(247 + k)}, make([]byte, k-1)...), byte(p.n))
			told(t, fmt.Sprintf("%s in %d bytes", p.what, k), with(at, wide), api.ErrForm)
		}
		for _, u := range []uint64{1 << 63, 1<<63 + uint64(p.n), 1<<64 - 1} {
			told(t, p.what+" above ints", with(at, form(u)), api.ErrForm)
		}
	}
}

// Each number cut within its form, with nothing behind it.
func TestCutNumbers(t *testing.T) {
	front := 0
	for at, p := range parts() {
		for k := 1; k <= 8; k++ {
			for i := range k {
				b := append(slices.Clone(with(-1, nil)[:front]), byte(247+k))
				told(t, fmt.Sprintf("%s with %d of %d bytes", p.what, i, k), append(b, bytes.Repeat([]byte{255}, i)...), api.ErrCut)
			}
		}
		if p.rest != nil {
			b := slices.Clone(with(-1, nil)[:front])
			for _, n := range []int{200, 300, 1 << 40, math.MaxInt} {
				told(t, fmt.Sprintf("%s is %d", p.what, n), with(at, form(uint64(n))), api.ErrCut)
				told(t, fmt.Sprintf("%s is %d, nothing behind", p.what, n), row(b, n), api.ErrCut)
			}
		}
		front += 1 + len(p.rest)
	}
}

func TestOtherKinds(t *testing.T) {
	for n := range 300 {
		if n != 2 {
			told(t, fmt.Sprintf("the first number %d", n), with(0, form(uint64(n))), api.ErrTag)
			told(t, fmt.Sprintf("the first number %d alone", n), form(uint64(n)), api.ErrTag)
		}
	}
	for _, n := range []int{258, 514, 65538, 1<<32 + 2, math.MaxInt} {
		told(t, fmt.Sprintf("the first number %d", n), with(0, form(uint64(n))), api.ErrTag)
	}
	for _, behind := range [][]byte{{255}, {248, 0}, {0, 0, 65}, {0, 0, 1, 0, 0, 0, 1, 46}, smallBytes()} {
		told(t, "another kind ahead of all else", append([]byte{1}, behind...), api.ErrTag)
	}
}

// functionsOf are the bytes of a program without Data whose functions are these.
func functionsOf(n int, funcs ...[]byte) []byte {
	return append(row(2, 0, 0, n), slices.Concat(funcs...)...)
}

// plainBytes are those of a function that may be; coded those of one whose code has these bytes.
func plainBytes() []byte { return []byte{0, 0, 0, 1, 18} }

func coded(code ...byte) []byte { return append([]byte{0, 0, 0}, counted(code)...) }

func TestHowManyFunctionsInBytes(t *testing.T) {
	for _, n := range []int{1, 2, 63, 64} {
		told(t, fmt.Sprintf("%d functions", n), functionsOf(n, bytes.Repeat(plainBytes(), n)), api.OK)
		told(t, fmt.Sprintf("%d functions, one fewer", n), functionsOf(n, bytes.Repeat(plainBytes(), n-1)), api.ErrCut)
		told(t, fmt.Sprintf("%d functions, one more", n), functionsOf(n, bytes.Repeat(plainBytes(), n+1)), api.ErrTail)
	}
	told(t, "no functions", functionsOf(0), api.ErrProg)
	told(t, "no functions, and something behind", functionsOf(0, plainBytes()), api.ErrTail)
	for _, n := range []int{65, 66, 247, 248, 256, 1 << 16, 1 << 32, math.MaxInt} {
		told(t, fmt.Sprintf("%d functions", n), functionsOf(n, bytes.Repeat(plainBytes(), min(n, 300))), api.ErrProg)
		told(t, fmt.Sprintf("%d functions, nothing behind", n), functionsOf(n), api.ErrProg)
		for _, behind := range [][]byte{{255}, {248, 0}, coded(46), coded(19, 5), plainBytes()} {
			told(t, fmt.Sprintf("%d functions ahead of all else", n), functionsOf(n, behind), api.ErrProg)
		}
	}
	told(t, "64 functions, nothing behind", functionsOf(64), api.ErrCut)
}

// wrongCodes are codes that op.Decode refuses, with its error.
func wrongCodes() []struct {
	b    []byte
	want api.Errno
} {
	return []struct {
		b    []byte
		want api.Errno
	}{
		{coded(46), api.ErrOp}, {coded(0, 0, 248, 255), api.ErrOp}, {coded(19, 5), api.ErrCode}, {coded(3, 5, 5, 249, 1, 0), api.ErrCode},
		{coded(3), api.ErrCut}, {coded(0, 249, 1), api.ErrCut}, {coded(19, 248, 4), api.ErrForm}, {coded(248, 3), api.ErrForm},
		{coded(make([]byte, 4097)...), api.ErrLong}, {coded(make([]byte, 40961)...), api.ErrLong}, {coded(bytes.Repeat([]byte{46}, 40961)...), api.ErrLong}, {coded(bytes.Repeat([]byte{46}, 40960)...), api.ErrOp},
	}
}

// A function's code is refused ahead of all that stands behind it, and behind all that stands ahead of it.
func TestWrongCodes(t *testing.T) {
	for _, x := range wrongCodes() {
		told(t, "alone", functionsOf(1, x.b), x.want)
		told(t, "behind another", functionsOf(2, plainBytes(), x.b), x.want)
		told(t, "ahead of another", functionsOf(2, x.b, plainBytes()), x.want)
		told(t, "ahead of what is left", functionsOf(1, x.b, []byte{0}), x.want)
		told(t, "ahead of bytes that end", functionsOf(2, x.b), x.want)
		told(t, "ahead of bytes that end within a function", functionsOf(2, x.b, []byte{0, 0}), x.want)
		told(t, "ahead of a form", functionsOf(2, x.b, []byte{248, 0, 0, 0, 1, 18}), x.want)
		told(t, "behind a form", functionsOf(2, []byte{0, 248, 0, 0, 1, 18}, x.b), api.ErrForm)
		told(t, "behind a form of its own function", functionsOf(1, []byte{248, 0}, x.b[1:]), api.ErrForm)
		told(t, "behind too many functions", functionsOf(65, x.b), api.ErrProg)
		told(t, "behind another kind", append([]byte{1}, functionsOf(1, x.b)[1:]...), api.ErrTag)
		told(t, "its bytes end ahead of its last one", functionsOf(1, x.b[:len(x.b)-1]), api.ErrCut)
		for _, y := range wrongCodes() {
			told(t, "ahead of another that is wrong", functionsOf(2, x.b, y.b), x.want)
			told(t, "with two that may be", functionsOf(4, plainBytes(), x.b, plainBytes(), y.b), x.want)
		}
	}
}

// What Check refuses is told when all was read: behind any fault of the bytes, wherever that stands.
func TestCheckBehindReading(t *testing.T) {
	for what, b := range map[string][]byte{
		"Memory":                row(2, 65537, 0, 1, plainBytes()),
		"the greatest Memory":   row(2, math.MaxInt, 0, 1, plainBytes()),
		"Data":                  row(2, 3, 4, []byte{1, 2, 3, 4}, 1, plainBytes()),
		"Data without Memory":   row(2, 0, 1, 9, 1, plainBytes()),
		"Args":                  functionsOf(1, row(17, 17, 0, 1, 18)),
		"the greatest Args":     functionsOf(1, row(math.MaxInt, 64, 0, 1, 18)),
		"Locals below Args":     functionsOf(1, row(3, 2, 0, 1, 18)),
		"Locals":                functionsOf(1, row(0, 65, 0, 1, 18)),
		"Results":               functionsOf(1, row(0, 0, 2, 1, 18)),
		"no code":               functionsOf(1, row(0, 0, 0, 0)),
		"no code in the second": functionsOf(2, plainBytes(), row(0, 0, 0, 0)),
	} {
		told(t, what, b, api.ErrProg)
		told(t, what+", and something behind", append(slices.Clone(b), 0), api.ErrTail)
		told(t, what+", and a program behind", append(slices.Clone(b), smallBytes()...), api.ErrTail)
		told(t, what+", cut", b[:len(b)-1], api.ErrCut)
	}
	told(t, "no functions, something behind", []byte{2, 4, 1, 7, 0, 0}, api.ErrTail)
	for _, x := range wrongCodes() {
		told(t, "Memory ahead of code", row(2, 65537, 0, 1, x.b), x.want)
		told(t, "Data ahead of code", row(2, 0, 1, 9, 1, x.b), x.want)
		for _, f := range [][]byte{row(17, 17, 0, 1, 18), row(3, 2, 0, 1, 18), row(0, 65, 0, 1, 18), row(0, 0, 2, 1, 18), row(0, 0, 0, 0)} {
			told(t, "a head ahead of code", functionsOf(2, f, x.b), x.want)
			told(t, "a head behind code", functionsOf(2, x.b, f), x.want)
		}
		told(t, "its own head", functionsOf(1, row(17, 3, 2, x.b[3:])), x.want)
	}
	told(t, "Memory ahead of a form", row(2, 65537, []byte{248, 0}), api.ErrForm)
	told(t, "Args ahead of a form", functionsOf(1, row(17, []byte{248, 17})), api.ErrForm)
}

func TestTails(t *testing.T) {
	for _, p := range []api.Program{small(), several(5), several(64)} {
		for _, behind := range [][]byte{{0}, {2}, {18}, {255}, {248, 0}, plainBytes(), smallBytes(), make([]byte, 1000)} {
			told(t, "something left", append(laid(p), behind...), api.ErrTail)
		}
	}
}

func TestLargestCodeInBytes(t *testing.T) {
	for _, n := range []int{4095, 4096} {
		told(t, fmt.Sprintf("%d instructions", n), functionsOf(1, coded(make([]byte, n)...)), api.OK)
	}
	told(t, "4096 instructions of ten bytes", functionsOf(1, coded(bytes.Repeat([]byte{3, 255, 255, 255, 255, 255, 255, 255, 255, 255}, 4096)...)), api.OK)
}

func TestThereAndBack(t *testing.T) {
	r, faults := seeded(1205), map[api.Errno]int{}
	for range 1500 {
		b, e := encode(t, drawn(r))
		is(t, "P1202: Encode", e, api.OK)
		decode(t, b)
		decode(t, append(slices.Clone(b), byte(r.Uint32())))
		for range 6 {
			x := slices.Clone(b)
			x[r.IntN(min(len(x), []int{8, 60, len(x)}[r.IntN(3)]))] = []byte{byte(r.Uint32()), byte(r.IntN(20)), byte(60 + r.IntN(10)), 248}[r.IntN(4)]
			_, e := decode(t, x)
			faults[e]++
		}
		i := r.IntN(len(b))
		_, e = decode(t, slices.Delete(slices.Clone(b), i, i+1))
		faults[e]++
		_, e = decode(t, slices.Insert(slices.Clone(b), i, byte(r.Uint32())))
		faults[e]++
	}
	for _, e := range []api.Errno{api.OK, api.ErrTag, api.ErrCut, api.ErrForm, api.ErrProg, api.ErrOp, api.ErrCode, api.ErrTail} {
		if faults[e] < 20 {
			t.Errorf("only %d are told %v: too few to tell", faults[e], e)
		}
	}
}

// All short rows of a few bytes, behind a front that may be.
func TestAllShortBytes(t *testing.T) {
	if testing.Short() {
		t.Skip("it takes seconds")
	}
	few := []byte{0, 1, 2, 3, 18, 46, 64, 65, 248, 249, 255}
	for _, front := range [][]byte{nil, {2}, {2, 1, 1, 7}, {2, 0, 0, 1, 0}, {2, 0, 0, 1, 0, 0, 0}} {
		rows := [][]byte{front}
		for range 4 {
			var longer [][]byte
			for _, b := range rows {
				decode(t, b)
				for _, c := range few {
					longer = append(longer, append(slices.Clone(b), c))
				}
			}
			rows = longer
		}
		for _, b := range rows {
			decode(t, b)
		}
	}
}

// Unlike programs have unlike bytes: those that differ in one number, byte, instruction, function, and drawn ones.
func TestUnlike(t *testing.T) {
	programs := map[string]string{}
	note := func(p api.Program) {
		b, e := encode(t, p)
		if e != api.OK {
			return
		}
		if was, there := programs[string(b)]; there && was != text(p) {
			t.Fatalf("P1205: %s and %s: %v", was, text(p), b)
		}
		programs[string(b)] = text(p)
	}
	texts := map[string]int{}
	for memory := range 4 {
		for data := range min(memory, 2) + 1 {
			for head := range 12 {
				for _, code := range [][]api.Instr{list(one(0, 0)), list(one(0, 0), one(0, 0)), list(one(api.INum, 0)), list(one(api.INum, 1)), list(one(api.IRet, 0)), list(one(api.IRet, 0), one(0, 0))} {
					f := api.Func{Args: head % 2, Locals: head%2 + head/2%3, Results: head / 6, Code: code}
					for _, funcs := range [][]api.Func{{f}, {f, f}, {plain(), f}, {f, plain()}} {
						p := api.Program{Memory: memory, Data: make([]byte, data), Funcs: funcs}
						note(p)
						texts[text(p)]++
					}
				}
			}
		}
	}
	is(t, "P1205: how many bytes there are", len(programs), len(texts))
	r := seeded(12051)
	for range 2000 {
		p := drawn(r)
		note(p)
		note(broken(r, p))
	}
}

func FuzzDecode(f *testing.F) {
	for _, b := range [][]byte{nil, {3}, smallBytes(), append(smallBytes(), 0), laid(several(5)), functionsOf(65), functionsOf(1, coded(46)), functionsOf(1, row(17, 17, 0, 1, 18)), {248, 2}} {
		f.Add(b)
	}
	f.Fuzz(func(t *testing.T, b []byte) { decode(t, b) })
}

func FuzzEncode(f *testing.F) {
	f.Add(4, []byte{7}, 0, 0, 1, 3, 3, 2)
	f.Add(65536, []byte{}, 16, 64, 1, 14, 4095, 64)
	f.Add(0, []byte{}, 3, 2, 2, 46, 0, 65)
	f.Fuzz(func(t *testing.T, memory int, data []byte, args, locals, results, op, a, funcs int) {
		fn := api.Func{Args: args, Locals: locals, Results: results, Code: list(one(op, a))}
		p := api.Program{Memory: memory, Data: data, Funcs: slices.Repeat([]api.Func{fn}, funcs&127)}
		encode(t, p)
		is(t, "P1201", prog.Check(p), faultOf(p))
	})
}
