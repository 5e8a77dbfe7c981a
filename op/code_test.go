package op_test

import (
	"bytes"
	"fmt"
	"math"
	"slices"
	"testing"

	"retort/api"
	"retort/op"
)

// encode holds Encode of any code against the oracle, and Decode of its bytes against it.
func encode(t *testing.T, code []api.Instr) ([]byte, api.Errno) {
	t.Helper()
	b, e := op.Encode(code)
	want, we := bytesOf(code)
	if e != we || !bytes.Equal(b, want) {
		t.Fatalf("P1103: Encode of %s: %s, %v\nwant %s, %v", brief(code), brief(b), e, brief(want), we)
	}
	if e != api.OK {
		return b, e
	}
	back, e := op.Decode(b)
	is(t, "P1105: Decode of Encode", e, api.OK)
	same(t, "P1105: Decode of Encode", back, code)
	return b, e
}

// decode holds Decode of any bytes against the oracle, and Encode of its code against them.
func decode(t *testing.T, b []byte) ([]api.Instr, api.Errno) {
	t.Helper()
	code, e := op.Decode(b)
	want, we := codeOf(b)
	if e != we || !slices.Equal(code, want) {
		t.Fatalf("P1104: Decode of %s: %s, %v\nwant %s, %v", brief(b), brief(code), e, brief(want), we)
	}
	if e != api.OK {
		return code, e
	}
	again, e := op.Encode(code)
	is(t, "P1105: Encode of Decode", e, api.OK)
	same(t, "P1105: Encode of Decode", again, b)
	return code, e
}

func refusedCode(t *testing.T, what string, code []api.Instr, want api.Errno) {
	t.Helper()
	b, e := encode(t, code)
	is(t, "P1103: "+what, e, want)
	is(t, "P4: bytes beside an error: "+what, len(b), 0)
}

func refusedBytes(t *testing.T, what string, b []byte, want api.Errno) {
	t.Helper()
	code, e := decode(t, b)
	is(t, "P1104: "+what, e, want)
	is(t, "P4: code beside an error: "+what, len(code), 0)
}

func TestCodeExamples(t *testing.T) {
	for _, c := range []struct {
		code []api.Instr
		b    []byte
	}{
		{nil, nil},
		{list(one(api.INum, -1), one(api.INum, 3), one(api.ISub, 0), one(api.IRet, 0)), []byte{3, 1, 3, 6, 21, 18}},
		{list(one(api.IJump, 0)), []byte{14, 0}},
		{list(one(api.ICopy, 255), one(api.ISys, 4)), []byte{5, 248, 255, 19, 4}},
	} {
		b, e := op.Encode(c.code)
		is(t, "P1103: Encode", e, api.OK)
		same(t, "P1103: Encode", b, c.b)
		code, e := op.Decode(c.b)
		is(t, "P1104: Decode", e, api.OK)
		same(t, "P1104: Decode", code, c.code)
	}
	refusedCode(t, "IAdd 1", list(one(api.IAdd, 1)), api.ErrCode)
	refusedCode(t, "46", list(one(46, 0)), api.ErrOp)
	refusedCode(t, "IJump 4096", list(one(api.IJump, 4096)), api.ErrCode)
	refusedCode(t, "-1, IAdd 1", list(one(-1, 0), one(api.IAdd, 1)), api.ErrOp)
	refusedBytes(t, "46", []byte{46}, api.ErrOp)
	refusedBytes(t, "a call beyond the last", []byte{19, 5}, api.ErrCode)
	refusedBytes(t, "no operand", []byte{3}, api.ErrCut)
	refusedBytes(t, "an Op of two bytes", []byte{248, 255}, api.ErrOp)
	refusedBytes(t, "a form that is none", []byte{19, 248, 5}, api.ErrForm)
}

// Each instruction with each kind's least and greatest operand, and one beyond either.
func TestOperands(t *testing.T) {
	for n, k := range kinds {
		least, most := leastOf(k), mostOf(k)
		for _, a := range []int{least, most} {
			_, e := encode(t, list(one(n, a)))
			is(t, fmt.Sprintf("P1103: {%d, %d}", n, a), e, api.OK)
		}
		if k != op.ONum {
			refusedCode(t, fmt.Sprintf("{%d, %d}", n, least-1), list(one(n, least-1)), api.ErrCode)
			refusedCode(t, fmt.Sprintf("{%d, %d}", n, most+1), list(one(n, most+1)), api.ErrCode)
			refusedCode(t, fmt.Sprintf("{%d, least}", n), list(one(n, math.MinInt)), api.ErrCode)
			refusedCode(t, fmt.Sprintf("{%d, greatest}", n), list(one(n, math.MaxInt)), api.ErrCode)
		}
		for _, a := range edges() {
			encode(t, list(one(n, a)))
			decode(t, append([]byte{byte(n)}, form(uint64(a))...))
		}
		for a := range 5000 {
			encode(t, list(one(n, a)))
			decode(t, append([]byte{byte(n)}, form(uint64(a))...))
		}
	}
}

// Each kind's bytes, written out.
func TestOperandBytes(t *testing.T) {
	for _, c := range []struct {
		x    api.Instr
		want []byte
	}{
		{one(api.INum, math.MinInt), []byte{3, 255, 255, 255, 255, 255, 255, 255, 255, 255}},
		{one(api.INum, math.MaxInt), []byte{3, 255, 255, 255, 255, 255, 255, 255, 255, 254}},
		{one(api.INum, 0), []byte{3, 0}},
		{one(api.INum, 123), []byte{3, 246}},
		{one(api.INum, -124), []byte{3, 247}},
		{one(api.INum, 124), []byte{3, 248, 248}},
		{one(api.IGet, 63), []byte{7, 63}},
		{one(api.ISet, 63), []byte{8, 63}},
		{one(api.IJump, 4095), []byte{14, 249, 15, 255}},
		{one(api.IZero, 247), []byte{15, 247}},
		{one(api.INotZero, 248), []byte{16, 248, 248}},
		{one(api.ICall, 63), []byte{17, 63}},
		{one(api.ISys, 4), []byte{19, 4}},
		{one(api.ICopy, 247), []byte{5, 247}},
		{one(api.ICopy, 255), []byte{5, 248, 255}},
		{one(api.IToI, 0), []byte{45}},
		{one(api.INop, 0), []byte{0}},
	} {
		b, _ := encode(t, list(c.x))
		same(t, "P1103: Encode", b, c.want)
	}
}

func TestOpsWithoutRow(t *testing.T) {
	for _, n := range strangers(46) {
		for _, a := range []int{0, 1, -1, math.MinInt, math.MaxInt} {
			refusedCode(t, fmt.Sprintf("{%d, %d}", n, a), list(one(n, a)), api.ErrOp)
		}
		if n > 0 {
			refusedBytes(t, fmt.Sprintf("the Op %d", n), form(uint64(n)), api.ErrOp)
			refusedBytes(t, fmt.Sprintf("the Op %d, and more", n), append(form(uint64(n)), 255, 255), api.ErrOp)
			refusedBytes(t, fmt.Sprintf("the Op %d behind others", n), append([]byte{0, 3, 9}, form(uint64(n))...), api.ErrOp)
		}
	}
	for _, n := range []uint64{1 << 63, 1<<63 + 1, 1<<63 + 3, 1<<64 - 1} {
		refusedBytes(t, "an Op above ints", form(n), api.ErrForm)
	}
}

// The first instruction that has a fault tells it, whatever the others have.
func TestFirstFaultOfCode(t *testing.T) {
	noRow, noKind, right := one(46, 1), one(api.IAdd, 1), one(api.INum, 7)
	for _, c := range []struct {
		code []api.Instr
		want api.Errno
	}{
		{list(noRow, noKind), api.ErrOp},
		{list(noKind, noRow), api.ErrCode},
		{list(right, noRow, noKind), api.ErrOp},
		{list(right, noKind, noRow), api.ErrCode},
		{list(noKind, right, noRow), api.ErrCode},
		{list(noRow, right, noKind), api.ErrOp},
		{list(right, right, noKind), api.ErrCode},
		{list(right, right, noRow), api.ErrOp},
		{list(right, right), api.OK},
	} {
		refused := c.want != api.OK
		b, e := encode(t, c.code)
		is(t, "P1103: "+brief(c.code), e, c.want)
		is(t, "P4: bytes beside an error", len(b) == 0, refused)
	}
}

// many is one instruction so many times.
func many(x api.Instr, n int) []api.Instr { return slices.Repeat(list(x), n) }

func TestLongCode(t *testing.T) {
	for _, x := range []api.Instr{one(api.INop, 0), one(api.INum, math.MinInt), one(api.IJump, 4095)} {
		for _, n := range []int{0, 1, 4095, 4096} {
			_, e := encode(t, many(x, n))
			is(t, fmt.Sprintf("P1103: %d instructions", n), e, api.OK)
		}
		for _, n := range []int{4097, 4098, 8192, 1 << 17} {
			refusedCode(t, fmt.Sprintf("%d instructions", n), many(x, n), api.ErrLong)
		}
	}
	for _, x := range []api.Instr{one(46, 0), one(-1, 5), one(api.IAdd, 1)} {
		want := faultOf(x)
		refusedCode(t, "4096 of them have a fault", many(x, 4096), want)
		refusedCode(t, "4097 of them are too many", many(x, 4097), api.ErrLong)
		refusedCode(t, "the last one", append(many(one(0, 0), 4095), x), want)
		refusedCode(t, "one too many at the end", append(many(one(0, 0), 4096), x), api.ErrLong)
		refusedCode(t, "one too many behind it", append(list(x), many(one(0, 0), 4096)...), api.ErrLong)
	}
}

// The greatest code takes as many bytes as Decode may be handed.
func TestGreatestCode(t *testing.T) {
	b, e := encode(t, many(one(api.INum, math.MinInt), 4096))
	is(t, "P1103: the greatest code", e, api.OK)
	is(t, "P1103: its bytes", len(b), 40960)
	refusedBytes(t, "one byte more", append(b, 0), api.ErrLong)
}

func TestLongBytes(t *testing.T) {
	for n := range 3 {
		_, e := decode(t, make([]byte, 4094+n))
		is(t, "P1104: up to 4096 instructions", e, api.OK)
	}
	for _, n := range []int{4097, 4098, 40959, 40960, 40961, 40962, 1 << 17} {
		refusedBytes(t, fmt.Sprintf("%d bytes", n), make([]byte, n), api.ErrLong)
	}
	nops, wide := make([]byte, 4096), bytes.Repeat([]byte{3, 249, 1, 0}, 4096)
	for _, front := range [][]byte{nops, wide} {
		_, e := decode(t, front)
		is(t, "P1104: 4096 instructions", e, api.OK)
		for _, behind := range [][]byte{{0}, {3}, {46}, {19, 5}, {249, 1}, {248, 5}, {255}, {248, 255}} {
			refusedBytes(t, "one too many ahead of what is wrong with it", slices.Concat(front, behind), api.ErrLong)
		}
	}
	for _, c := range []struct {
		last []byte
		want api.Errno
	}{
		{[]byte{46}, api.ErrOp}, {[]byte{19, 5}, api.ErrCode}, {[]byte{3}, api.ErrCut}, {[]byte{249, 1}, api.ErrCut}, {[]byte{248, 5}, api.ErrForm}, {[]byte{19, 4}, api.OK},
	} {
		code, e := decode(t, append(make([]byte, 4095), c.last...))
		is(t, "P1104: the last one that may be", e, c.want)
		is(t, "P4: code beside an error", len(code) > 0, c.want == api.OK)
	}
}

// Of 40960 bytes the fault that stands first is told, of one more that they are too many.
func TestLongBytesWithFaults(t *testing.T) {
	for _, c := range []struct {
		front []byte
		want  api.Errno
	}{
		{[]byte{46}, api.ErrOp}, {[]byte{19, 5}, api.ErrCode}, {[]byte{19, 248, 5}, api.ErrForm}, {[]byte{248, 255}, api.ErrOp}, {[]byte{0, 3, 248, 247}, api.ErrForm},
	} {
		b := make([]byte, 40961)
		copy(b, c.front)
		refusedBytes(t, "40960 bytes", b[:40960], c.want)
		refusedBytes(t, "40961 bytes", b, api.ErrLong)
	}
	whole := bytes.Repeat([]byte{3, 255, 255, 255, 255, 255, 255, 255, 255, 255}, 4096)
	for i := 1; i < 10; i++ {
		refusedBytes(t, "cut within the last one", whole[:40960-i], api.ErrCut)
	}
	_, e := decode(t, whole[:40950])
	is(t, "P1104: without the last one", e, api.OK)
}

// At each place the fault that is met there is told, whatever stands behind it.
func TestFirstFaultOfBytes(t *testing.T) {
	for _, c := range []struct {
		what  string
		front []byte
		want  api.Errno
	}{
		{"the Op's form", []byte{248, 3}, api.ErrForm},
		{"the Op's form, of two", []byte{249, 0, 255}, api.ErrForm},
		{"the Op above ints", []byte{255, 128, 0, 0, 0, 0, 0, 0, 0}, api.ErrForm},
		{"the greatest Op", []byte{255, 127, 255, 255, 255, 255, 255, 255, 255}, api.ErrOp},
		{"the Op 46", []byte{46}, api.ErrOp},
		{"the Op 247", []byte{247}, api.ErrOp},
		{"the Op 248", []byte{248, 248}, api.ErrOp},
		{"the Op 259", []byte{249, 1, 3}, api.ErrOp},
		{"the operand's form", []byte{14, 248, 0}, api.ErrForm},
		{"the operand's form, of three", []byte{14, 250, 0, 1, 0}, api.ErrForm},
		{"an operand above ints", []byte{14, 255, 128, 0, 0, 0, 0, 0, 0, 0}, api.ErrForm},
		{"the greatest operand", []byte{14, 255, 127, 255, 255, 255, 255, 255, 255, 255}, api.ErrCode},
		{"the form of any number", []byte{3, 248, 247}, api.ErrForm},
		{"the form of any number, of eight", []byte{3, 255, 0, 255, 255, 255, 255, 255, 255, 255}, api.ErrForm},
		{"the local 64", []byte{7, 64}, api.ErrCode},
		{"the local 64 to set", []byte{8, 64}, api.ErrCode},
		{"the place 4096", []byte{14, 249, 16, 0}, api.ErrCode},
		{"the place 4096, if zero", []byte{15, 249, 16, 0}, api.ErrCode},
		{"the place 4096, if not", []byte{16, 249, 16, 0}, api.ErrCode},
		{"the function 64", []byte{17, 64}, api.ErrCode},
		{"the call 5", []byte{19, 5}, api.ErrCode},
		{"the cell 256", []byte{5, 249, 1, 0}, api.ErrCode},
	} {
		for _, ahead := range [][]byte{nil, {0}, {3, 5, 20}} {
			for _, behind := range [][]byte{nil, {0}, {46}, {19, 5}, {255}, {248, 5}} {
				refusedBytes(t, c.what, slices.Concat(ahead, c.front, behind), c.want)
			}
		}
	}
}

// Bytes that end within a number, or ahead of an operand.
func TestCut(t *testing.T) {
	for n, k := range kinds {
		if k == op.ONone {
			_, e := decode(t, []byte{byte(n)})
			is(t, "P1104: no operand is read", e, api.OK)
			continue
		}
		refusedBytes(t, "ahead of an operand", []byte{byte(n)}, api.ErrCut)
		for c := 248; c < 256; c++ {
			b := append([]byte{byte(n), byte(c)}, bytes.Repeat([]byte{255}, c-248)...)
			for i := 1; i <= len(b); i++ {
				refusedBytes(t, "within an operand", b[:i], api.ErrCut)
			}
		}
	}
	for c := 248; c < 256; c++ {
		b := append([]byte{byte(c)}, bytes.Repeat([]byte{1}, c-248)...)
		for i := 1; i <= len(b); i++ {
			refusedBytes(t, "within an Op", b[:i], api.ErrCut)
		}
	}
}

// All bytes up to two, and with one of some ahead of them or behind; instructions with each two bytes as their operand.
func TestAllShortBytes(t *testing.T) {
	if testing.Short() {
		t.Skip("it takes seconds")
	}
	for a := range 256 {
		decode(t, []byte{byte(a)})
		for b := range 256 {
			decode(t, []byte{byte(a), byte(b)})
			decode(t, []byte{0, byte(a), byte(b)})
			for _, c := range []byte{3, 5, 14, 248} {
				decode(t, []byte{byte(a), byte(b), c})
				decode(t, []byte{c, byte(a), byte(b)})
				decode(t, []byte{c, 249, byte(a), byte(b)})
			}
		}
	}
}

func TestThereAndBack(t *testing.T) {
	r := seeded(1105)
	for range 3000 {
		b, e := encode(t, drawnCode(r, r.IntN(40)))
		is(t, "P1103: Encode", e, api.OK)
		if len(b) > 0 {
			b[r.IntN(len(b))] = byte(r.Uint32())
			decode(t, b)
			decode(t, b[:r.IntN(len(b))])
		}
	}
	for _, n := range []int{4000, 4095, 4096} {
		encode(t, drawnCode(r, n))
	}
}

// Codes in which some instructions may not be.
func TestDrawnFaults(t *testing.T) {
	r, faults := seeded(1103), map[api.Errno]int{}
	all := edges()
	for range 20000 {
		code := drawnCode(r, 1+r.IntN(6))
		for range 1 + r.IntN(3) {
			x := &code[r.IntN(len(code))]
			if r.IntN(2) == 0 {
				x.Op = r.IntN(60) - 7
			} else {
				x.A = all[r.IntN(len(all))]
			}
		}
		_, e := encode(t, code)
		faults[e]++
	}
	for _, e := range []api.Errno{api.OK, api.ErrOp, api.ErrCode} {
		if faults[e] < 500 {
			t.Errorf("only %d are told %v: too few to tell", faults[e], e)
		}
	}
}

func TestDrawnBytes(t *testing.T) {
	r, faults := seeded(1104), map[api.Errno]int{}
	for range 100000 {
		b := make([]byte, 1+r.IntN(8))
		for i := range b {
			b[i] = []byte{byte(r.IntN(50)), byte(r.Uint32()), byte(248 + r.IntN(3)), byte(r.IntN(8))}[r.IntN(4)]
		}
		_, e := decode(t, b)
		faults[e]++
	}
	for _, e := range []api.Errno{api.OK, api.ErrOp, api.ErrCode, api.ErrCut, api.ErrForm} {
		if faults[e] < 500 {
			t.Errorf("only %d are told %v: too few to tell", faults[e], e)
		}
	}
}

// Unlike codes have unlike bytes: all short ones of some instructions, and drawn ones.
func TestUnlike(t *testing.T) {
	some := list(one(api.INop, 0), one(api.IAdd, 0), one(api.IToI, 0), one(api.INum, 0), one(api.INum, -1), one(api.INum, 1), one(api.INum, 3), one(api.INum, 20), one(api.INum, 124), one(api.INum, -124),
		one(api.ICopy, 0), one(api.ICopy, 3), one(api.ICopy, 248), one(api.IJump, 0), one(api.IJump, 3), one(api.IJump, 20), one(api.IJump, 256), one(api.IGet, 0), one(api.IGet, 20), one(api.ISys, 0), one(api.ICall, 3))
	codes := map[string][]api.Instr{}
	note := func(code []api.Instr) {
		b, _ := encode(t, code)
		if was, there := codes[string(b)]; there && !slices.Equal(was, code) {
			t.Fatalf("P1105: %v and %v: %v", was, code, b)
		}
		codes[string(b)] = slices.Clone(code)
	}
	note(nil)
	for _, x := range some {
		note(list(x))
		for _, y := range some {
			note(list(x, y))
			for _, z := range some {
				note(list(x, y, z))
			}
		}
	}
	n := len(some)
	is(t, "P1105: how many bytes there are", len(codes), 1+n+n*n+n*n*n)
	r := seeded(11051)
	for range 2000 {
		note(drawnCode(r, r.IntN(5)))
	}
}

// The bytes of two codes behind one another are those of the one code.
func TestBehindOneAnother(t *testing.T) {
	r := seeded(11052)
	sizes := [][2]int{{0, 0}, {0, 5}, {5, 0}, {1, 1}, {2048, 2048}, {4095, 1}, {1, 4095}, {4096, 0}, {0, 4096}}
	for range 500 {
		sizes = append(sizes, [2]int{r.IntN(12), r.IntN(12)})
	}
	for _, n := range sizes {
		x, y := drawnCode(r, n[0]), drawnCode(r, n[1])
		a, _ := encode(t, x)
		b, _ := encode(t, y)
		both, e := encode(t, slices.Concat(x, y))
		is(t, "P1105: both", e, api.OK)
		same(t, "P1105: both", both, slices.Concat(a, b))
		back, e := decode(t, slices.Concat(a, b))
		is(t, "P1105: both back", e, api.OK)
		same(t, "P1105: both back", back, slices.Concat(x, y))
	}
	x, y := drawnCode(r, 4096), drawnCode(r, 1)
	a, _ := encode(t, x)
	b, _ := encode(t, y)
	refusedCode(t, "one too many", slices.Concat(x, y), api.ErrLong)
	refusedBytes(t, "one too many", slices.Concat(a, b), api.ErrLong)
}

func FuzzDecode(f *testing.F) {
	for _, b := range [][]byte{{}, {3, 1, 3, 6, 21, 18}, {14, 0}, {5, 248, 255, 19, 4}, {46}, {19, 5}, {3}, {248, 255}, {19, 248, 5}, make([]byte, 4097)} {
		f.Add(b)
	}
	f.Fuzz(func(t *testing.T, b []byte) { decode(t, b) })
}

func FuzzEncode(f *testing.F) {
	f.Add(3, -1, 21, 0)
	f.Add(46, 0, 20, 1)
	f.Add(14, 4095, 5, 255)
	f.Fuzz(func(t *testing.T, n, a, m, b int) { encode(t, list(one(n, a), one(m, b))) })
}
