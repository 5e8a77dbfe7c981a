package check_test

import (
	"fmt"
	"math"
	"slices"
	"testing"

	"retort/api"
	"retort/check"
	"retort/prog"
)

// asked holds Next and Takes at all places of a right program against the oracle.
func asked(t *testing.T, p api.Program) {
	t.Helper()
	for i, f := range p.Funcs {
		for at, x := range f.Code {
			spot := api.Spot{Func: i, At: at}
			takes, _, gives := amounts(p, f, x)
			if n, m := check.Takes(p, spot); n != takes || m != gives {
				t.Fatalf("P1301: Takes at %v of %s: %d, %d, want %d, %d", spot, brief(p), n, m, takes, gives)
			}
			if l, want := check.Next(p, spot), inside(ways(x, at), len(f.Code)); !slices.Equal(l, want) {
				t.Fatalf("P1301: Next at %v of %s: %v, want %v", spot, brief(p), l, want)
			}
		}
	}
}

// next holds Next at a place of the first function against what is written down for it.
func next(t *testing.T, what string, p api.Program, at int, want ...int) {
	t.Helper()
	if e := prog.Check(p); e != api.OK {
		t.Fatalf("%s: no right program: %v", what, e)
	}
	is(t, "P1301: Next: "+what, text(check.Next(p, api.Spot{At: at})), text(want))
	asked(t, p)
}

func takes(t *testing.T, what string, p api.Program, at api.Spot, takes, gives int) {
	t.Helper()
	n, m := check.Takes(p, at)
	is(t, "P1301: Takes: "+what, [2]int{n, m}, [2]int{takes, gives})
}

// Each instruction at the first, the middle, the last place, and alone.
func TestEveryInstruction(t *testing.T) {
	nop := one(api.INop, 0)
	for op := range api.ICount {
		for _, args := range []int{0, 3, 16} {
			for _, results := range []int{0, 1} {
				for a := range 5 {
					x := one(op, a)
					if prog.Check(of(first(op, a))) != api.OK {
						continue
					}
					other := function(args, results, api.IRet, 0)
					for _, l := range [][]api.Instr{{x}, {x, nop}, {nop, x}, {nop, x, nop}, {nop, nop, x, nop, nop}, {x, x, x, x}} {
						asked(t, of(api.Func{Results: 1, Code: l}, other))
						asked(t, of(plain(), api.Func{Args: args, Locals: 20, Results: results, Code: l}, other))
					}
				}
			}
		}
	}
}

// How many operands each takes and gives, written out.
func TestTakes(t *testing.T) {
	zeroOne := []int{api.INum, api.ICopy, api.IGet, api.ISize}
	oneZero := []int{api.IHalt, api.IAbort, api.IPop, api.ISet, api.IZero, api.INotZero}
	oneOne := []int{api.ILoad, api.ILoad8, api.INeg, api.INot, api.IFneg, api.IFroot, api.IToF, api.IToI}
	twoOne := []int{api.IAdd, api.ISub, api.IMul, api.IDiv, api.IRem, api.IAnd, api.IOr, api.IXor, api.IShl, api.IShr, api.IUshr,
		api.IEq, api.ILt, api.IUlt, api.IFadd, api.IFsub, api.IFmul, api.IFdiv, api.IFeq, api.IFlt}
	for _, c := range []struct {
		ops          []int
		takes, gives int
	}{
		{[]int{api.INop, api.IJump}, 0, 0}, {zeroOne, 0, 1}, {oneZero, 1, 0}, {oneOne, 1, 1}, {twoOne, 2, 1},
		{[]int{api.IStore, api.IStore8}, 2, 0}, {[]int{api.ISwap}, 2, 2},
	} {
		for _, op := range c.ops {
			takes(t, fmt.Sprintf("instruction %d", op), single(op, 0), api.Spot{}, c.takes, c.gives)
			takes(t, fmt.Sprintf("instruction %d further on", op), of(number(), plain(), function(9, 0, api.INop, 0, op, 0)), api.Spot{Func: 2, At: 1}, c.takes, c.gives)
		}
	}
	for a := range 256 {
		takes(t, "ICopy, whatever it copies", single(api.ICopy, a), api.Spot{}, 0, 1)
	}
}

func TestTakesOfFiles(t *testing.T) {
	for call, n := range []int{3, 3, 3, 4, 1} {
		takes(t, fmt.Sprintf("ISys %d", call), single(api.INop, 0, api.ISys, call), api.Spot{At: 1}, n, 1)
		next(t, "ISys", single(api.INop, 0, api.ISys, call, api.INop, 0), 1, 2)
	}
}

func TestTakesOfCalls(t *testing.T) {
	for args := range 17 {
		for _, results := range []int{0, 1} {
			f := api.Func{Args: args, Locals: 30, Results: results, Code: code(api.ICall, 1, api.ICall, 0, api.ICall, 2, api.IRet, 0)}
			p := of(first(api.ICall, 0, api.ICall, 1, api.ICall, 2, api.ICall, 63, api.IRet, 0), f)
			takes(t, "the first one, by itself", p, api.Spot{}, 0, 1)
			takes(t, "one with Args and Results", p, api.Spot{At: 1}, args, results)
			takes(t, "one that is not there", p, api.Spot{At: 2}, 0, 0)
			takes(t, "one far behind", p, api.Spot{At: 3}, 0, 0)
			takes(t, "IRet of the first one", p, api.Spot{At: 4}, 1, 0)
			takes(t, "itself", p, api.Spot{Func: 1}, args, results)
			takes(t, "the first one", p, api.Spot{Func: 1, At: 1}, 0, 1)
			takes(t, "no function", p, api.Spot{Func: 1, At: 2}, 0, 0)
			takes(t, "IRet", p, api.Spot{Func: 1, At: 3}, results, 0)
			is(t, "P1301: Next of an ICall of none", text(check.Next(p, api.Spot{Func: 1, At: 2})), "[3]")
		}
	}
	p := of(first(api.IRet, 0))
	p.Funcs[0].Results = 0
	takes(t, "IRet of a first one without Results", p, api.Spot{}, 0, 0)
}

// Jumps from each place of five to each, and behind them.
func TestNextOfJumps(t *testing.T) {
	for at := range 5 {
		for to := range 8 {
			for _, op := range []int{api.IJump, api.IZero, api.INotZero} {
				l := many(one(api.INop, 0), 5)
				l[at] = one(op, to)
				var want []int
				for n := range 5 {
					if n == to || n == at+1 && op != api.IJump {
						want = append(want, n)
					}
				}
				next(t, fmt.Sprintf("%d at %d to %d", op, at, to), of(api.Func{Results: 1, Code: l}), at, want...)
			}
		}
	}
}

func TestNextEdges(t *testing.T) {
	for _, op := range []int{api.IZero, api.INotZero} {
		next(t, "to the next place", single(op, 1, api.INop, 0), 0, 1)
		next(t, "to itself", single(api.INop, 0, op, 1, api.INop, 0), 1, 1, 2)
		next(t, "to the place ahead", single(api.INop, 0, op, 0, api.INop, 0), 1, 0, 2)
		next(t, "to the last place", single(op, 2, api.INop, 0, api.INop, 0), 0, 1, 2)
		next(t, "to one behind it", single(op, 2, api.INop, 0), 0, 1)
		next(t, "alone, to itself", single(op, 0), 0, 0)
		next(t, "alone, to one behind it", single(op, 1), 0)
		next(t, "the last one, to 0", single(api.INop, 0, op, 0), 1, 0)
		next(t, "the last one, far behind", single(api.INop, 0, op, 4095), 1)
	}
	next(t, "to the next place", single(api.IJump, 1, api.INop, 0), 0, 1)
	next(t, "to itself", single(api.INop, 0, api.IJump, 1, api.INop, 0), 1, 1)
	next(t, "to 0", single(api.INop, 0, api.IJump, 0, api.INop, 0), 1, 0)
	next(t, "to the last place", single(api.IJump, 2, api.INop, 0, api.INop, 0), 0, 2)
	next(t, "to one behind it", single(api.IJump, 2, api.INop, 0), 0)
	next(t, "far behind", single(api.IJump, 4095, api.INop, 0), 0)
	for _, op := range []int{api.IHalt, api.IAbort, api.IRet} {
		next(t, "nowhere", single(op, 0, api.INop, 0), 0)
		next(t, "nowhere", single(api.INop, 0, op, 0), 1)
	}
	next(t, "the last place", single(api.INop, 0, api.INum, 0), 1)
	long := of(api.Func{Results: 1, Code: many(one(api.IZero, 4095), 4096)})
	is(t, "P1301: Next in the longest code", text(check.Next(long, api.Spot{At: 4094})), "[4095]")
	is(t, "P1301: Next in the longest code", text(check.Next(long, api.Spot{At: 4095})), "[4095]")
	is(t, "P1301: Next in the longest code", text(check.Next(long, api.Spot{At: 7})), "[8 4095]")
}

// Places and functions that are not there.
func TestNoSuchPlace(t *testing.T) {
	p := of(first(api.ISwap, 0, api.IZero, 0), function(2, 1, api.ISys, 3, api.ICall, 1, api.IRet, 0))
	numbers := []int{math.MinInt, math.MinInt + 1, -4096, -2, -1, 0, 1, 2, 3, 4, 63, 64, 4095, 4096, math.MaxInt - 1, math.MaxInt}
	for _, f := range numbers {
		for _, at := range numbers {
			if slices.Contains([]int{0, 1}, f) && at >= 0 && at < len(p.Funcs[f].Code) {
				continue
			}
			spot := api.Spot{Func: f, At: at}
			takes(t, "nothing there: "+text(spot), p, spot, 0, 0)
			is(t, "P1301: Next, nothing there: "+text(spot), len(check.Next(p, spot)), 0)
		}
	}
	asked(t, p)
}

// They look at the place alone, whatever Run says of the program.
func TestAskedOfRefused(t *testing.T) {
	r := seeded(2)
	for range 2000 {
		p := wild(r)
		asked(t, p)
		p.Funcs[0].Args, p.Funcs[0].Results = 1, 0
		asked(t, p)
	}
	for range 300 {
		asked(t, drawnProgram(r))
	}
}

// Of programs that are not right only P1 holds: each call ends.
func TestWrongPrograms(t *testing.T) {
	odd := []int{math.MinInt, -1, 0, 1, 5, 46, 64, 4096, math.MaxInt}
	for _, op := range []int{math.MinInt, -1, api.INop, api.IJump, api.IZero, api.ICall, api.ISys, api.IGet, api.ICopy, api.IRet, 46, math.MaxInt} {
		for _, a := range odd {
			for _, n := range odd {
				p := api.Program{Memory: n, Funcs: []api.Func{{Args: n, Locals: n, Results: n, Code: code(op, a, op, a)}}}
				for at := range 3 {
					check.Next(p, api.Spot{At: at})
					check.Takes(p, api.Spot{At: at})
				}
				run(t, p)
			}
		}
	}
	for _, p := range []api.Program{{}, {Funcs: make([]api.Func, 1)}, {Funcs: make([]api.Func, 65)}} {
		takes(t, "of nothing", p, api.Spot{}, 0, 0)
		is(t, "P1301: Next of nothing", len(check.Next(p, api.Spot{})), 0)
	}
}
