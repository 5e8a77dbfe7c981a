package check_test

import (
	"fmt"
	"testing"

	"retort/api"
	"retort/check"
)

func TestFaultExamples(t *testing.T) {
	refused(t, "the second one", single(api.INum, 3, api.IPop, 0, api.IRet, 0), api.ErrRet, 0, 2)
	refused(t, "the second one", single(api.IPop, 0, api.INum, 1, api.IRet, 0), api.ErrUnder, 0, 0)
	refused(t, "the second one", single(api.INum, 1, api.INum, 2, api.IRet, 0), api.ErrRet, 0, 2)
	refused(t, "the second one", single(api.INum, 1), api.ErrEnd, 0, 0)
	refused(t, "the second one", single(api.IJump, 1), api.ErrJump, 0, 0)
	refused(t, "the second one", single(api.ICopy, 0, api.IRet, 0), api.ErrUnder, 0, 0)
	refused(t, "the third one", single(api.INum, 1, api.IZero, 3, api.INum, 2, api.INum, 3, api.IRet, 0), api.ErrJoin, 0, 2)
	refused(t, "the sixth one", of(function(1, 1, api.INum, 1, api.IRet, 0)), api.ErrFirst, 0, 0)
	refused(t, "the sixth one", of(function(0, 0, api.IRet, 0)), api.ErrFirst, 0, 0)
	two := first(api.INum, 1, api.ISet, 2, api.INum, 1, api.IRet, 0)
	two.Locals = 2
	refused(t, "the sixth one", of(two), api.ErrLocal, 0, 1)
	refused(t, "the sixth one", single(api.ICall, 1, api.IRet, 0), api.ErrCall, 0, 0)
}

// What prog.Check says is told ahead of all else, at {0, 0}.
func TestNotRight(t *testing.T) {
	refused(t, "nothing", api.Program{}, api.ErrProg, 0, 0)
	wrongs := map[string]func(p *api.Program) api.Errno{
		"Memory":    func(p *api.Program) api.Errno { p.Memory = -1; return api.ErrProg },
		"Data":      func(p *api.Program) api.Errno { p.Memory = 1; return api.ErrProg },
		"functions": func(p *api.Program) api.Errno { p.Funcs = append(p.Funcs, make([]api.Func, 64)...); return api.ErrProg },
		"Locals":    func(p *api.Program) api.Errno { p.Funcs[1].Locals = 65; return api.ErrProg },
		"Results":   func(p *api.Program) api.Errno { p.Funcs[1].Results = 2; return api.ErrProg },
		"code":      func(p *api.Program) api.Errno { p.Funcs[1].Code = nil; return api.ErrProg },
		"Op":        func(p *api.Program) api.Errno { p.Funcs[1].Code[1].Op = 46; return api.ErrOp },
		"A":         func(p *api.Program) api.Errno { p.Funcs[1].Code[1].A = 1; return api.ErrCode },
		"a jump":    func(p *api.Program) api.Errno { p.Funcs[1].Code[1] = one(api.IJump, 4096); return api.ErrCode },
		"a local":   func(p *api.Program) api.Errno { p.Funcs[1].Code[1] = one(api.IGet, 64); return api.ErrCode },
		"a call":    func(p *api.Program) api.Errno { p.Funcs[1].Code[1] = one(api.ICall, 64); return api.ErrCode },
		"a copy":    func(p *api.Program) api.Errno { p.Funcs[1].Code[1] = one(api.ICopy, 256); return api.ErrCode },
	}
	firsts := map[string]api.Func{
		"none":      number(),
		"ErrFirst":  function(1, 0, api.INum, 1, api.IRet, 0),
		"ErrJump":   first(api.IJump, 9),
		"ErrLocal":  first(api.IGet, 0, api.IRet, 0),
		"ErrCall":   first(api.ICall, 9, api.IRet, 0),
		"ErrUnder":  first(api.IPop, 0, api.IPop, 0),
		"ErrEnd":    first(api.INum, 0),
		"all three": function(1, 0, api.IJump, 9, api.IGet, 9, api.ICall, 9),
	}
	for what, wrong := range wrongs {
		for ahead, f := range firsts {
			p := of(f, function(0, 0, api.INop, 0, api.INop, 0, api.IRet, 0))
			e := wrong(&p)
			refused(t, what+" ahead of "+ahead, p, e, 0, 0)
		}
	}
}

func TestFirstFunction(t *testing.T) {
	for args := 1; args < 17; args++ {
		refused(t, "Args", of(function(args, 1, api.INum, 1, api.IRet, 0)), api.ErrFirst, 0, 0)
		refused(t, "Args and Results", of(function(args, 0, api.IRet, 0), number()), api.ErrFirst, 0, 0)
	}
	refused(t, "Results", of(plain(), number()), api.ErrFirst, 0, 0)
	for _, l := range [][]api.Instr{code(api.INop, 0, api.IJump, 9), code(api.INop, 0, api.IGet, 9), code(api.INop, 0, api.ICall, 9), code(api.INop, 0, api.IPop, 0), code(api.INop, 0)} {
		refused(t, "ahead of all else", of(api.Func{Code: l}, api.Func{Code: l}), api.ErrFirst, 0, 0)
		refused(t, "ahead of all else", of(function(2, 1, l)), api.ErrFirst, 0, 0)
	}
	f := number()
	f.Locals = 64
	taken(t, "Locals without Args", of(f))
	taken(t, "another one with Args, without Results", of(number(), function(16, 0, api.IRet, 0)))
}

func TestJumpsBesideTheCode(t *testing.T) {
	for _, op := range []int{api.IJump, api.IZero, api.INotZero} {
		for n := 1; n < 6; n++ {
			l := append(many(one(api.INum, 1), n), one(op, 0), one(api.IHalt, 0))
			for to := range n + 6 {
				l[n].A = to
				p := of(api.Func{Results: 1, Code: l})
				_, x := run(t, p)
				is(t, "P1302: ErrJump", x.Err == api.ErrJump, to >= n+2)
				if to >= n+2 {
					is(t, "P1302: ErrJump", x, fault(api.ErrJump, 0, n))
				}
			}
		}
		refused(t, "the greatest", single(op, 4095), api.ErrJump, 0, 0)
	}
	taken(t, "to the last place", single(api.IJump, 2, api.INop, 0, api.IJump, 0))
	taken(t, "to the next place", single(api.IJump, 1, api.INum, 0, api.IRet, 0))
	taken(t, "to itself", single(api.IJump, 0))
	refused(t, "to one behind the last place", single(api.INum, 0, api.IHalt, 0, api.IJump, 3), api.ErrJump, 0, 2)
	other := of(number(), function(0, 0, api.IJump, 2, api.INop, 0))
	other.Funcs[0].Code = append(other.Funcs[0].Code, many(one(api.INop, 0), 9)...)
	refused(t, "a place of another function's code", other, api.ErrJump, 1, 0)
}

func TestLocalsAndFunctions(t *testing.T) {
	for locals := range 65 {
		for _, op := range []int{api.IGet, api.ISet} {
			for _, a := range []int{0, locals - 1, locals, 63} {
				if a < 0 || a > 63 {
					continue
				}
				f := first(api.INum, 1, api.INum, 2, op, a, api.IHalt, 0)
				f.Locals = locals
				_, x := run(t, of(f))
				want := api.Fault{}
				if a >= locals {
					want = fault(api.ErrLocal, 0, 2)
				}
				is(t, fmt.Sprintf("P1302: local %d of %d", a, locals), x, want)
			}
		}
	}
	for n := 1; n <= 64; n++ {
		p := of(number())
		for len(p.Funcs) < n {
			p.Funcs = append(p.Funcs, plain())
		}
		for a := range 64 {
			p.Funcs[0] = first(api.ICall, a, api.INum, 1, api.IHalt, 0)
			_, x := check.Run(p)
			want := api.Fault{}
			if a >= n {
				want = fault(api.ErrCall, 0, 0)
			}
			is(t, fmt.Sprintf("P1302: function %d of %d", a, n), x, want)
		}
	}
}

// Of two operands that stray the one further ahead is told, in one function and in two; and ahead of all heights.
func TestFirstStray(t *testing.T) {
	strays := []struct {
		x api.Instr
		e api.Errno
	}{
		{one(api.IJump, 4000), api.ErrJump}, {one(api.IZero, 4000), api.ErrJump}, {one(api.INotZero, 4000), api.ErrJump},
		{one(api.IGet, 50), api.ErrLocal}, {one(api.ISet, 50), api.ErrLocal}, {one(api.ICall, 50), api.ErrCall},
	}
	heights := [][]api.Instr{code(api.IPop, 0), code(api.IRet, 0), code(api.INum, 1, api.INum, 1), many(one(api.INum, 0), 300),
		code(api.INum, 1, api.IZero, 3, api.INum, 2, api.INop, 0, api.IHalt, 0), code(api.INop, 0)}
	for _, x := range strays {
		for _, y := range strays {
			refused(t, "in one", single(api.INop, 0, []api.Instr{x.x, y.x}), x.e, 0, 1)
			refused(t, "far in one", single(api.INum, 1, api.IRet, 0, []api.Instr{x.x}, many(one(api.INop, 0), 20), []api.Instr{y.x}), x.e, 0, 2)
			refused(t, "in two", of(number(), function(1, 0, api.INop, 0, api.INop, 0, []api.Instr{x.x}), function(0, 0, []api.Instr{y.x})), x.e, 1, 2)
		}
		for _, l := range heights {
			refused(t, "behind a height in one", single(l, []api.Instr{x.x}), x.e, 0, len(l))
			refused(t, "behind a height in two", of(first(l), plain(), function(0, 0, []api.Instr{x.x}, l)), x.e, 2, 0)
		}
		refused(t, "at a place without a height", single(api.INum, 1, api.IRet, 0, []api.Instr{x.x}), x.e, 0, 2)
		refused(t, "in one that is not live", of(number(), plain(), function(0, 0, api.IRet, 0, []api.Instr{x.x})), x.e, 2, 1)
	}
}

// deep are instructions that leave so many operands.
func deep(n int) []api.Instr { return many(one(api.INum, 1), n) }

// Each instruction at all heights about what it wants.
func TestUnder(t *testing.T) {
	for op := range api.ICount {
		for a := range 7 {
			for h := range 9 {
				f := first(deep(h), op, a, api.IJump, h+1)
				f.Locals = 7
				p := of(f, number(), function(1, 1, api.IGet, 0, api.IRet, 0), function(5, 0, api.IRet, 0), function(16, 1, api.INum, 0, api.IRet, 0), plain(), function(2, 1, api.IGet, 1, api.IRet, 0))
				_, x := run(t, p)
				if op != api.IRet && x.Err != api.ErrCode && x.Err != api.ErrJump {
					_, wants, _ := amounts(p, f, f.Code[h])
					is(t, fmt.Sprintf("P1303: ErrUnder: %d %d at %d", op, a, h), x == fault(api.ErrUnder, 0, h), wants > h)
				}
			}
		}
	}
}

func TestCopyWantsOneMore(t *testing.T) {
	for _, a := range []int{0, 1, 2, 100, 254, 255} {
		refused(t, "ICopy at its operand", single(deep(a), api.ICopy, a, api.IHalt, 0), api.ErrUnder, 0, a)
		p := single(deep(a+1), api.ICopy, a, api.IHalt, 0)
		if a == 255 {
			refused(t, "ICopy one above it, too high", p, api.ErrOver, 0, 256)
		} else {
			taken(t, "ICopy one above it", p)
		}
	}
	refused(t, "ICopy of nothing", single(api.ICopy, 0, api.IRet, 0), api.ErrUnder, 0, 0)
	refused(t, "ICopy 255 of nothing", single(api.ICopy, 255, api.IRet, 0), api.ErrUnder, 0, 0)
}

func TestReturns(t *testing.T) {
	for h := range 20 {
		for _, results := range []int{0, 1} {
			p := of(number(), function(0, results, deep(h), api.IRet, 0))
			if h == results {
				taken(t, "P1303: IRet at its Results", p)
			} else {
				refused(t, "P1303: IRet beside its Results", p, api.ErrRet, 1, h)
			}
		}
	}
	refused(t, "P1303: at 256", single(deep(256), api.IRet, 0), api.ErrRet, 0, 256)
	taken(t, "P1303: IHalt and IAbort at any height", single(deep(9), api.IZero, 11, api.IHalt, 0, api.IAbort, 0))
	refused(t, "P1303: IHalt of nothing", single(api.IHalt, 0), api.ErrUnder, 0, 0)
	refused(t, "P1303: IAbort of nothing", single(api.IAbort, 0), api.ErrUnder, 0, 0)
}

func TestOver(t *testing.T) {
	giver, both := number(), function(1, 1, api.IGet, 0, api.IRet, 0)
	for _, c := range []struct {
		what string
		x    api.Instr
		more int // than it takes
	}{
		{"INum", one(api.INum, 1), 1}, {"ICopy", one(api.ICopy, 3), 1}, {"IGet", one(api.IGet, 0), 1}, {"ISize", one(api.ISize, 0), 1}, {"ICall", one(api.ICall, 1), 1},
		{"INop", one(api.INop, 0), 0}, {"ISwap", one(api.ISwap, 0), 0}, {"ILoad", one(api.ILoad, 0), 0}, {"an ICall that takes as many", one(api.ICall, 2), 0},
		{"an ISys that takes as many", one(api.ISys, api.SClose), 0}, {"IAdd", one(api.IAdd, 0), -1}, {"IPop", one(api.IPop, 0), -1}, {"ISys", one(api.ISys, api.SList), -3},
	} {
		for _, h := range []int{254, 255, 256} {
			f := first(deep(h), []api.Instr{c.x}, api.IJump, h+1)
			f.Locals = 1
			p := of(f, giver, both)
			if h+c.more > 256 {
				refused(t, c.what, p, api.ErrOver, 0, h)
				continue
			}
			facts := taken(t, c.what, p)
			is(t, "P1304: the Top of "+c.what, facts.Tops[0], max(h, h+c.more))
			is(t, "P1304: Heights of "+c.what, facts.Heights[0][h+1], h+c.more)
		}
	}
	refused(t, "at 257", single(deep(257), api.IHalt, 0), api.ErrOver, 0, 256)
	refused(t, "far above", single(deep(4000), api.IHalt, 0), api.ErrOver, 0, 256)
	is(t, "P1303: as high as may be", taken(t, "at 256", single(deep(256), api.IHalt, 0)).Tops[0], 256)
	refused(t, "in another one", of(number(), function(0, 0, deep(257), api.IHalt, 0)), api.ErrOver, 1, 256)
}

func TestEnd(t *testing.T) {
	for op := range api.ICount {
		p := of(first(deep(9), op, 0), number())
		p.Funcs[0].Locals = 3
		_, x := run(t, p)
		switch op {
		case api.IHalt, api.IAbort:
			is(t, "P1303: it goes on nowhere", x, api.Fault{})
		case api.IRet:
			is(t, "P1303: it goes on nowhere", x, fault(api.ErrRet, 0, 9))
		case api.IJump:
			is(t, "P1303: it goes on at 0 alone", x, fault(api.ErrJoin, 0, 9))
		default:
			is(t, fmt.Sprintf("P1303: instruction %d at the last place", op), x, fault(api.ErrEnd, 0, 9))
		}
	}
	taken(t, "IJump at the last place", single(api.INop, 0, api.IJump, 0))
	refused(t, "IZero at the last place", single(api.INum, 1, api.IZero, 0), api.ErrEnd, 0, 1)
	refused(t, "INotZero at the last place", single(api.INum, 1, api.INotZero, 0), api.ErrEnd, 0, 1)
	refused(t, "the longest code", of(api.Func{Results: 1, Code: many(one(api.INop, 0), 4096)}), api.ErrEnd, 0, 4095)
	taken(t, "it has no height", single(api.INum, 1, api.IRet, 0, api.INop, 0))
}

func TestJoin(t *testing.T) {
	refused(t, "a loop that rises", single(api.INum, 1, api.IJump, 0), api.ErrJoin, 0, 1)
	refused(t, "a loop that falls", single(api.INum, 1, api.INum, 2, api.IPop, 0, api.IJump, 2), api.ErrJoin, 0, 3)
	refused(t, "to itself", single(api.INum, 1, api.INum, 1, api.IZero, 2, api.IRet, 0), api.ErrJoin, 0, 2)
	taken(t, "IJump to itself", single(api.INum, 1, api.INum, 2, api.IJump, 2))
	taken(t, "both ways to one place", single(api.INum, 1, api.IZero, 2, api.INum, 1, api.IRet, 0))
	taken(t, "two ways of one height", single(api.INum, 1, api.IZero, 4, api.INum, 2, api.IJump, 5, api.INum, 3, api.IRet, 0))
	refused(t, "two ways of two", single(api.INum, 1, api.IZero, 4, api.INum, 2, api.IJump, 5, api.INop, 0, api.INum, 3, api.IHalt, 0), api.ErrJoin, 0, 4)
	refused(t, "the place ahead has none yet, the next one another", single(api.INum, 1, api.INum, 2, api.IZero, 5, api.IZero, 1, api.INum, 1, api.IHalt, 0), api.ErrJoin, 0, 3)
	refused(t, "at the greater of two places", single(api.INum, 1, api.IZero, 4, api.INum, 9, api.IZero, 5, api.INum, 3, api.IHalt, 0), api.ErrJoin, 0, 4)
	taken(t, "another height in another function", of(first(api.INum, 1, api.ICall, 1, api.IHalt, 0), function(0, 0, api.INop, 0, api.INop, 0, api.IRet, 0)))
}

// Where two faults would fit at one place.
func TestTwoFaultsAtOnePlace(t *testing.T) {
	refused(t, "ErrUnder and ErrEnd", single(api.IPop, 0), api.ErrUnder, 0, 0)
	refused(t, "ErrUnder and ErrEnd", single(api.INum, 0, api.IAdd, 0), api.ErrUnder, 0, 1)
	refused(t, "ErrUnder and ErrJoin", single(api.INop, 0, api.IZero, 0, api.INum, 1, api.IRet, 0), api.ErrUnder, 0, 1)
	refused(t, "ErrUnder, ErrEnd and ErrJoin", single(api.INop, 0, api.IZero, 0), api.ErrUnder, 0, 1)
	refused(t, "ErrOver and ErrEnd", single(deep(257)), api.ErrOver, 0, 256)
	over := single(api.INum, 1, api.IZero, 260, api.INop, 0, deep(257), api.IHalt, 0)
	refused(t, "ErrOver and ErrJoin", over, api.ErrOver, 0, 259)
	over.Funcs[0].Code[259] = one(api.INop, 0)
	refused(t, "ErrJoin alone", over, api.ErrJoin, 0, 259)
	refused(t, "ErrEnd and ErrJoin", single(api.INum, 1, api.INum, 1, api.IZero, 0), api.ErrEnd, 0, 2)
	refused(t, "ErrJoin alone", single(api.INum, 1, api.INum, 1, api.IZero, 0, api.IHalt, 0), api.ErrJoin, 0, 2)
	refused(t, "ErrRet, not ErrUnder", single(api.IRet, 0), api.ErrRet, 0, 0)
	refused(t, "ErrRet alone at the last place", single(api.INum, 1, api.INum, 1, api.IRet, 0), api.ErrRet, 0, 2)
}

// Where two places have faults: the one that is taken first is told, and the least one that waits is taken first.
func TestTwoFaultsAtTwoPlaces(t *testing.T) {
	refused(t, "the least of two that wait", single(api.INum, 1, api.IZero, 3, api.IPop, 0, api.IRet, 0), api.ErrUnder, 0, 2)
	refused(t, "the least of two that wait", single(api.INum, 1, api.IZero, 3, api.IRet, 0, api.IPop, 0), api.ErrRet, 0, 2)
	refused(t, "one that comes to wait ahead of one that waits", single(api.IJump, 2, api.IPop, 0, api.INum, 1, api.IZero, 1, api.IPop, 0), api.ErrUnder, 0, 1)
	refused(t, "one that waits ahead of what another leads to", single(api.INum, 1, api.IZero, 4, api.IJump, 5, api.INop, 0, api.IPop, 0, api.IRet, 0), api.ErrUnder, 0, 4)
	late := single(api.IJump, 3, api.INop, 0, api.INop, 0, api.INum, 1, api.INum, 1, api.IZero, 7, api.IRet, 0, api.IJump, 2)
	refused(t, "one that has a height late", late, api.ErrJoin, 0, 2)
	late.Funcs[0].Code[6] = one(api.IPop, 0)
	refused(t, "one that has a height too late", late, api.ErrJoin, 0, 6)
	refused(t, "a join that comes later is not met", single(api.INum, 1, api.IZero, 4, api.INop, 0, api.IRet, 0, api.INum, 2, api.IJump, 0), api.ErrRet, 0, 3)
	kinds := []struct {
		e api.Errno
		f func(results int) (api.Func, int)
	}{
		{api.ErrUnder, func(n int) (api.Func, int) { return function(0, n, api.INop, 0, api.IPop, 0), 1 }},
		{api.ErrRet, func(n int) (api.Func, int) { return function(0, n, deep(2), api.IRet, 0), 2 }},
		{api.ErrOver, func(n int) (api.Func, int) { return function(0, n, deep(300)), 256 }},
		{api.ErrEnd, func(n int) (api.Func, int) { return function(0, n, deep(3)), 2 }},
		{api.ErrJoin, func(n int) (api.Func, int) { return function(0, n, deep(3), api.IJump, 0), 3 }},
	}
	for _, x := range kinds {
		for _, y := range kinds {
			f, at := x.f(1)
			g, _ := y.f(0)
			refused(t, "the first of two functions", of(f, g), x.e, 0, at)
			f, at = x.f(0)
			refused(t, "the first of two that are not live", of(number(), plain(), f, number(), g), x.e, 2, at)
			f.Code = append(code(api.IJump, len(g.Code)+1), append(g.Code, f.Code...)...)
			if x.e != api.ErrJoin {
				refused(t, "one behind what has no height", of(number(), f), x.e, 1, at+1+len(g.Code))
			}
		}
	}
}

// What has no height has no fault of heights.
func TestNoHeightNoFault(t *testing.T) {
	for _, l := range [][]api.Instr{code(api.IPop, 0), code(api.IRet, 0), deep(300), code(api.INum, 1, api.IJump, 2), code(api.INop, 0), code(api.ICopy, 255)} {
		facts := taken(t, "behind an IRet", single(api.INum, 7, api.IRet, 0, l))
		for at := range l {
			is(t, "P1304: a place without a height", facts.Heights[0][at+2], -1)
		}
		is(t, "P1304: the Top without them", facts.Tops[0], 1)
		taken(t, "that is jumped over", single(api.IJump, 1+len(l), l, api.INum, 7, api.IRet, 0))
	}
}
