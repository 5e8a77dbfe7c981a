package prog_test

import (
	"fmt"
	"math"
	"slices"
	"testing"

	"retort/api"
	"retort/prog"
)

// check holds Check of any program against the oracle, and Encode's error against Check's.
func check(t *testing.T, what string, p api.Program, want api.Errno) {
	t.Helper()
	is(t, "P1201: the oracle: "+what, faultOf(p), want)
	is(t, "P1201: "+what, prog.Check(p), want)
	b, e := prog.Encode(p)
	is(t, "P1202: Encode: "+what, e, want)
	is(t, "P1202, P4: bytes: "+what, len(b) > 0, want == api.OK)
}

func TestCheckExamples(t *testing.T) {
	check(t, "the first one", small(), api.OK)
	check(t, "without functions", api.Program{Memory: 4, Data: []byte{7}}, api.ErrProg)
	p := small()
	p.Funcs[0].Code = list(one(99, 0))
	check(t, "the instruction {99, 0}", p, api.ErrOp)
	p = small()
	p.Memory, p.Data = 1, []byte{7, 8}
	check(t, "Data of two bytes and Memory 1", p, api.ErrProg)
	check(t, "no program at all", api.Program{}, api.ErrProg)
}

func TestMemory(t *testing.T) {
	for n, want := range map[int]api.Errno{
		math.MinInt: api.ErrProg, -65536: api.ErrProg, -1: api.ErrProg, 0: api.OK, 1: api.OK, 247: api.OK, 248: api.OK, 65535: api.OK, 65536: api.OK,
		65537: api.ErrProg, 1 << 20: api.ErrProg, 1 << 32: api.ErrProg, math.MaxInt: api.ErrProg,
	} {
		p := several(2)
		p.Memory, p.Data = n, nil
		check(t, fmt.Sprintf("Memory %d", n), p, want)
	}
}

func TestData(t *testing.T) {
	for _, n := range []int{0, 1, 2, 247, 248, 255, 256, 65535, 65536} {
		p := several(2)
		p.Memory = n
		for _, less := range []int{0, n / 2, max(0, n-1), n} {
			p.Data = make([]byte, less)
			check(t, fmt.Sprintf("Memory %d, Data %d", n, less), p, api.OK)
		}
		for _, more := range []int{n + 1, n + 2, n + 1<<17} {
			p.Data = make([]byte, more)
			check(t, fmt.Sprintf("Memory %d, Data %d", n, more), p, api.ErrProg)
		}
	}
}

func TestHowManyFunctions(t *testing.T) {
	for n, want := range map[int]api.Errno{0: api.ErrProg, 1: api.OK, 2: api.OK, 63: api.OK, 64: api.OK, 65: api.ErrProg, 66: api.ErrProg, 5000: api.ErrProg} {
		check(t, fmt.Sprintf("%d functions", n), several(n), want)
	}
	p := small()
	p.Funcs = []api.Func{}
	check(t, "an empty list of functions", p, api.ErrProg)
}

// inEach changes one function of some, the first, one between and the last, and holds Check against what is wanted.
func inEach(t *testing.T, what string, want api.Errno, turn func(f *api.Func)) {
	t.Helper()
	for _, n := range []int{1, 3, 64} {
		for _, i := range slices.Compact([]int{0, n / 2, n - 1}) {
			p := several(n)
			turn(&p.Funcs[i])
			check(t, fmt.Sprintf("%s in function %d of %d", what, i, n), p, want)
		}
	}
}

func TestArgs(t *testing.T) {
	for n, want := range map[int]api.Errno{math.MinInt: api.ErrProg, -1: api.ErrProg, 0: api.OK, 1: api.OK, 15: api.OK, 16: api.OK, 17: api.ErrProg, 64: api.ErrProg, math.MaxInt: api.ErrProg} {
		inEach(t, fmt.Sprintf("Args %d", n), want, func(f *api.Func) { f.Args, f.Locals = n, 64 })
	}
	for _, n := range []int{-1, 17, 65} {
		inEach(t, fmt.Sprintf("Args and Locals %d", n), api.ErrProg, func(f *api.Func) { f.Args, f.Locals = n, n })
	}
}

func TestLocals(t *testing.T) {
	for _, args := range []int{0, 1, 7, 16} {
		for n, want := range map[int]api.Errno{math.MinInt: api.ErrProg, -1: api.ErrProg, args - 1: api.ErrProg, args: api.OK, args + 1: api.OK, 63: api.OK, 64: api.OK, 65: api.ErrProg, math.MaxInt: api.ErrProg} {
			inEach(t, fmt.Sprintf("Args %d, Locals %d", args, n), want, func(f *api.Func) { f.Args, f.Locals = args, n })
		}
	}
}

func TestResults(t *testing.T) {
	for n, want := range map[int]api.Errno{math.MinInt: api.ErrProg, -2: api.ErrProg, -1: api.ErrProg, 0: api.OK, 1: api.OK, 2: api.ErrProg, 3: api.ErrProg, 256: api.ErrProg, math.MaxInt: api.ErrProg} {
		inEach(t, fmt.Sprintf("Results %d", n), want, func(f *api.Func) { f.Results = n })
	}
}

func TestHowManyInstructions(t *testing.T) {
	for n, want := range map[int]api.Errno{0: api.ErrProg, 1: api.OK, 2: api.OK, 4095: api.OK, 4096: api.OK, 4097: api.ErrProg, 8192: api.ErrProg} {
		inEach(t, fmt.Sprintf("%d instructions", n), want, func(f *api.Func) { f.Code = many(one(api.INop, 0), n) })
	}
}

func TestInstructions(t *testing.T) {
	right := many(one(api.INum, 5), 10)
	for _, c := range []struct {
		x    api.Instr
		want api.Errno
	}{
		{one(-1, 0), api.ErrOp}, {one(46, 0), api.ErrOp}, {one(99, 7), api.ErrOp}, {one(math.MinInt, 0), api.ErrOp}, {one(math.MaxInt, 0), api.ErrOp},
		{one(api.IAdd, 1), api.ErrCode}, {one(api.INop, -1), api.ErrCode}, {one(api.IGet, 64), api.ErrCode}, {one(api.ISet, -1), api.ErrCode}, {one(api.IJump, 4096), api.ErrCode},
		{one(api.ICall, 64), api.ErrCode}, {one(api.ISys, 5), api.ErrCode}, {one(api.ICopy, 256), api.ErrCode},
		{one(api.IGet, 63), api.OK}, {one(api.IJump, 4095), api.OK}, {one(api.ICall, 63), api.OK}, {one(api.ISys, 4), api.OK}, {one(api.ICopy, 255), api.OK}, {one(api.INum, math.MinInt), api.OK},
	} {
		for _, at := range []int{0, 5, 10} {
			inEach(t, fmt.Sprintf("%v at %d", c.x, at), c.want, func(f *api.Func) { f.Code = slices.Insert(slices.Clone(right), at, c.x) })
		}
	}
}

// Jumps, locals, calls and heights that do not fit are not looked at here.
func TestWhatCheckLeaves(t *testing.T) {
	for _, x := range []api.Instr{one(api.IJump, 900), one(api.IGet, 60), one(api.ISet, 60), one(api.ICall, 63), one(api.IAdd, 0), one(api.IPop, 0), one(api.ICopy, 200), one(api.IRet, 0), one(api.INop, 0)} {
		p := api.Program{Funcs: []api.Func{{Code: list(x)}}}
		check(t, fmt.Sprint(x), p, api.OK)
	}
	p := several(1)
	p.Funcs[0].Args, p.Funcs[0].Locals, p.Funcs[0].Results = 16, 16, 1
	check(t, "a first function with arguments", p, api.OK)
}

// Within one function its head's fault is told ahead of its code's, and of its code the first one's.
func TestFirstFaultOfAFunction(t *testing.T) {
	noRow, noKind := one(46, 0), one(api.IAdd, 1)
	for what, turn := range map[string]func(f *api.Func){
		"Args":    func(f *api.Func) { f.Args = 17 },
		"Locals":  func(f *api.Func) { f.Args, f.Locals = 2, 1 },
		"Results": func(f *api.Func) { f.Results = 2 },
		"length":  func(f *api.Func) { f.Code = append(f.Code, many(noRow, 4096)...) },
	} {
		for _, x := range list(noRow, noKind) {
			inEach(t, what+" and code", api.ErrProg, func(f *api.Func) {
				f.Code = list(x)
				turn(f)
			})
		}
	}
	inEach(t, "no row ahead of no kind", api.ErrOp, func(f *api.Func) { f.Code = list(noRow, noKind) })
	inEach(t, "no kind ahead of no row", api.ErrCode, func(f *api.Func) { f.Code = list(noKind, noRow) })
	inEach(t, "no row and no kind in one", api.ErrOp, func(f *api.Func) { f.Code = list(one(46, -1)) })
}

// Of two functions with faults the first one's is told, whatever they are.
func TestFirstFaultOfTwo(t *testing.T) {
	faults := []struct {
		f    api.Func
		want api.Errno
	}{
		{api.Func{Results: 2, Code: plain().Code}, api.ErrProg},
		{api.Func{Args: 1, Code: plain().Code}, api.ErrProg},
		{api.Func{Args: 17, Locals: 17, Code: plain().Code}, api.ErrProg},
		{api.Func{}, api.ErrProg},
		{api.Func{Code: many(one(0, 0), 4097)}, api.ErrProg},
		{api.Func{Code: list(one(46, 0))}, api.ErrOp},
		{api.Func{Code: list(one(0, 0), one(api.ISys, 5))}, api.ErrCode},
	}
	for _, x := range faults {
		for _, y := range faults {
			check(t, "two", api.Program{Funcs: []api.Func{x.f, y.f}}, x.want)
			check(t, "two of four", api.Program{Funcs: []api.Func{plain(), x.f, plain(), y.f}}, x.want)
		}
		check(t, "with one that may be", api.Program{Funcs: []api.Func{plain(), x.f}}, x.want)
		check(t, "with one that may be", api.Program{Funcs: []api.Func{x.f, plain()}}, x.want)
	}
}

// What is wrong with the whole is told ahead of what is wrong with a function.
func TestWholeAheadOfFunctions(t *testing.T) {
	for _, x := range list(one(46, 0), one(api.IAdd, 1)) {
		for what, turn := range map[string]func(p *api.Program){
			"Memory below 0":     func(p *api.Program) { p.Memory = -1 },
			"Memory":             func(p *api.Program) { p.Memory = 65537 },
			"Data":               func(p *api.Program) { p.Data = make([]byte, 10) },
			"too many functions": func(p *api.Program) { p.Funcs = append(p.Funcs, several(63).Funcs...) },
		} {
			p := several(2)
			p.Funcs[0].Code = list(x)
			turn(&p)
			check(t, what+" and code", p, api.ErrProg)
		}
	}
}

func TestDrawnPrograms(t *testing.T) {
	r, told := seeded(1201), map[api.Errno]int{}
	for range 4000 {
		p := drawn(r)
		check(t, "drawn", p, api.OK)
		for range 1 + r.IntN(3) {
			if len(p.Funcs) > 0 {
				p = broken(r, p)
			}
		}
		e := faultOf(p)
		check(t, brief(p), p, e)
		told[e]++
	}
	for _, e := range []api.Errno{api.OK, api.ErrProg, api.ErrOp, api.ErrCode} {
		if told[e] < 50 {
			t.Errorf("only %d are told %v: too few to tell", told[e], e)
		}
	}
}
