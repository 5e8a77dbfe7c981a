package check_test

import (
	"fmt"
	"slices"
	"testing"

	"retort/api"
	"retort/check"
)

// found holds all facts of a program against their text.
func found(t *testing.T, what string, p api.Program, want string) {
	t.Helper()
	is(t, "P1304: "+what, text(taken(t, what, p)), want)
}

func TestFactsExamples(t *testing.T) {
	found(t, "the first one", single(api.INum, 3, api.INum, 4, api.ISub, 0, api.IRet, 0), "{[[0 1 2 1]] [2] [[]] [true] 3 4}")
	found(t, "the fourth one", single(api.INum, 0, api.IZero, 0, api.INum, 7, api.IRet, 0), "{[[0 1 0 1]] [1] [[0 1]] [true] 2 -1}")
	found(t, "the fourth one", single(api.IJump, 2, api.INop, 0, api.INum, 7, api.IRet, 0), "{[[0 -1 0 1]] [1] [[]] [true] 2 3}")
	p := of(first(api.INum, 5, api.ICall, 1, api.IRet, 0), api.Func{Args: 1, Locals: 2, Results: 1, Code: code(api.IGet, 0, api.IRet, 0)}, plain())
	found(t, "the fifth one", p, "{[[0 1 1] [0 1] [0]] [1 1 0] [[] [] []] [true true false] 5 5}")
	p.Funcs[1] = function(1, 1, api.IGet, 0, api.ICall, 1, api.IRet, 0)
	found(t, "the fifth one, changed", p, "{[[0 1 1] [0 1 1] [0]] [1 1 0] [[] [] []] [true true false] -1 -1}")
}

func TestTops(t *testing.T) {
	top := func(what string, want int, parts ...any) {
		t.Helper()
		is(t, "P1304: the Top: "+what, taken(t, what, single(parts...)).Tops[0], want)
	}
	top("none", 0, api.IJump, 0)
	top("ahead of all 0, behind the first 1", 1, api.INum, 1, api.IHalt, 0)
	top("in the middle", 3, deep(3), api.IAdd, 0, api.IAdd, 0, api.IRet, 0)
	top("behind the last but one", 5, deep(5), api.IAbort, 0)
	top("what has no height does not count", 1, api.INum, 1, api.IRet, 0, deep(9), api.IHalt, 0)
	top("on one of two ways", 4, api.INum, 1, api.IZero, 7, deep(4), api.IHalt, 0, api.INum, 1, api.IRet, 0)
	top("on the other one", 4, api.INum, 1, api.INotZero, 4, api.INum, 1, api.IRet, 0, deep(4), api.IHalt, 0)
	top("back ahead", 6, api.IJump, 4, deep(2), api.IHalt, 0, deep(4), api.IJump, 1)
	for n := range 257 {
		if n > 0 {
			top("so many", n, deep(n), api.IHalt, 0)
		}
	}
	p := of(number(), function(16, 0, api.IRet, 0), function(0, 0, deep(4), api.IHalt, 0))
	is(t, "P1304: Tops of each function, by itself", text(taken(t, "three", p).Tops), "[1 0 4]")
	calls := of(first(deep(5), api.ICall, 1, api.IHalt, 0), function(3, 1, api.INum, 1, api.IRet, 0))
	is(t, "P1304: what a call takes", text(taken(t, "a call", calls).Heights), "[[0 1 2 3 4 5 3] [0 1]]")
}

func TestHeights(t *testing.T) {
	heights := func(what, want string, parts ...any) {
		t.Helper()
		is(t, "P1304: Heights: "+what, text(taken(t, what, single(parts...)).Heights[0]), want)
	}
	heights("one place", "[0]", api.IJump, 0)
	heights("two ways", "[0 1 0 1 0 1]", api.INum, 1, api.IZero, 4, api.INum, 2, api.IJump, 5, api.INum, 3, api.IRet, 0)
	heights("behind an end", "[0 1 -1 -1]", api.INum, 1, api.IHalt, 0, api.INop, 0, api.IPop, 0)
	heights("a part that leads on, but to which nothing leads", "[0 -1 -1 0 1]", api.IJump, 3, api.INop, 0, api.IJump, 3, api.INum, 1, api.IRet, 0)
	heights("a loop to which nothing leads", "[0 1 -1 -1]", api.INum, 1, api.IRet, 0, api.INop, 0, api.IJump, 2)
	heights("ahead of where one comes from", "[0 1 2 0 1]", api.IJump, 3, api.INum, 1, api.IHalt, 0, api.INum, 1, api.IJump, 1)
}

func TestLoops(t *testing.T) {
	loops := func(what, want string, parts ...any) {
		t.Helper()
		is(t, "P1304: Loops: "+what, text(taken(t, what, single(parts...)).Loops[0]), want)
	}
	loops("one place", "[0]", api.IJump, 0)
	loops("one place behind others", "[2]", api.INum, 1, api.IPop, 0, api.IJump, 2)
	loops("one place, others behind it", "[]", api.INum, 1, api.IZero, 2, api.INum, 1, api.IRet, 0)
	loops("two", "[0 1]", api.INum, 1, api.IZero, 0, api.INum, 1, api.IRet, 0)
	loops("ahead of a loop, and behind it", "[1 2 3]", api.INop, 0, api.INop, 0, api.INum, 1, api.IZero, 1, api.INum, 1, api.IRet, 0)
	loops("a way into its middle", "[2 3 4]", api.INum, 1, api.IZero, 3, api.INop, 0, api.INop, 0, api.IJump, 2)
	loops("between two loops", "[0 1 4 5]", api.INum, 1, api.IZero, 0, api.INop, 0, api.INop, 0, api.INum, 1, api.IZero, 4, api.INum, 1, api.IRet, 0)
	loops("one in another", "[0 1 2 3]", api.INum, 1, api.IZero, 0, api.INum, 1, api.IZero, 0, api.INum, 1, api.IRet, 0)
	loops("two with a place in common", "[0 1 2 3 4]", api.INum, 1, api.IZero, 4, api.INop, 0, api.IJump, 0, api.IJump, 0)
	loops("a branch that leaves it", "[0 1 4]", api.INum, 1, api.IZero, 4, api.INum, 1, api.IRet, 0, api.IJump, 0)
	loops("one to which nothing leads", "[]", api.INum, 1, api.IRet, 0, api.INop, 0, api.IJump, 2)
	loops("one to which nothing leads, that leads to another", "[0 1]", api.INop, 0, api.IJump, 0, api.INum, 1, api.IZero, 2, api.IJump, 0)
	loops("back, but no loop", "[]", api.IJump, 3, api.INum, 1, api.IRet, 0, api.IJump, 1)
	loops("its places lie apart", "[1 4 5]", api.INop, 0, api.IJump, 4, api.INum, 1, api.IRet, 0, api.INum, 1, api.INotZero, 1, api.IJump, 2)
}

// A loop of each length, from each place to each.
func TestLoopsOfEachLength(t *testing.T) {
	for n := 1; n < 9; n++ {
		for from := range n {
			for to := range n {
				l := many(one(api.INop, 0), n+3)
				l[from] = one(api.IJump, to)
				copy(l[n:], code(api.INum, 1, api.IRet, 0, api.INop, 0))
				facts := taken(t, "a jump", of(api.Func{Results: 1, Code: l}))
				var want []int
				for at := to; at <= from; at++ {
					want = append(want, at)
				}
				is(t, fmt.Sprintf("P1304: Loops: %d to %d", from, to), text(facts.Loops[0]), text(want))
			}
		}
	}
}

// looping is a function that never ends.
func looping() api.Func { return function(0, 0, api.INop, 0, api.IJump, 0) }

func TestLoopsByFunction(t *testing.T) {
	p := of(number(), looping(), plain())
	found(t, "in one that is not live", p, "{[[0 1] [0 0] [0]] [1 0 0] [[] [0 1] []] [true false false] 2 2}")
	p.Funcs[2] = function(0, 0, api.ICall, 1, api.IRet, 0)
	found(t, "in one that one names that is not live", p, "{[[0 1] [0 0] [0 0]] [1 0 0] [[] [0 1] []] [true false false] 2 2}")
	p.Funcs[0] = first(api.INum, 7, api.IRet, 0, api.ICall, 1)
	found(t, "in one that a place without a height names", p, "{[[0 1 -1] [0 0] [0 0]] [1 0 0] [[] [0 1] []] [true false false] 2 2}")
	p.Funcs[0] = first(api.ICall, 2, api.INum, 7, api.IRet, 0)
	found(t, "in one that is live through another", p, "{[[0 0 1] [0 0] [0 0]] [1 0 0] [[] [0 1] []] [true true true] 3 -1}")
}

func TestLive(t *testing.T) {
	live := func(what, want string, l ...api.Func) {
		t.Helper()
		is(t, "P1304: Live: "+what, text(taken(t, what, of(l...)).Live), want)
	}
	calling := func(l ...int) api.Func {
		f := function(0, 0)
		for _, n := range l {
			f.Code = append(f.Code, one(api.ICall, n))
		}
		f.Code = append(f.Code, one(api.IRet, 0))
		return f
	}
	start := func(l ...int) api.Func {
		f := calling(l...)
		f.Results = 1
		f.Code = append(f.Code[:len(l):len(l)], number().Code...)
		return f
	}
	live("alone", "[true]", number())
	live("not named", "[true false false]", number(), plain(), plain())
	live("named by itself", "[true false]", number(), calling(1))
	live("a row of calls", "[true true true true false]", start(1), calling(2), calling(3), plain(), plain())
	live("a row back ahead", "[true true true true]", start(3), plain(), calling(1), calling(2))
	live("a row that ends", "[true false true false]", start(2), calling(3), plain(), calling(1))
	live("several calls", "[true true false true]", start(1, 3, 1), plain(), calling(1), plain())
	live("round and round", "[true true true false]", start(1), calling(2), calling(1), function(0, 0, api.ICall, 0, api.IPop, 0, api.ICall, 1, api.ICall, 3, api.IRet, 0))
	live("the first one again", "[true true]", start(1), function(0, 0, api.ICall, 0, api.IPop, 0, api.IRet, 0))
	live("by an ICall without a height", "[true false false]", first(api.INum, 1, api.IRet, 0, api.ICall, 1), calling(2), plain())
	live("by an ICall without a height, in the middle", "[true true false]", start(1), function(0, 0, api.IRet, 0, api.ICall, 2), plain())
	live("by an ICall that is jumped over, and by another", "[true true]", first(api.IJump, 2, api.ICall, 1, api.ICall, 1, api.INum, 1, api.IRet, 0), plain())
	live("on one of two ways", "[true true true]", first(api.INum, 1, api.IZero, 4, api.ICall, 1, api.IJump, 5, api.ICall, 2, api.INum, 1, api.IRet, 0), plain(), plain())
	var row []api.Func
	for i := range 63 {
		row = append(row, calling(i+1))
	}
	row[0] = start(1)
	row = append(row, plain())
	live("the longest row", text(slices.Repeat([]bool{true}, 64)), row...)
	row[31] = plain()
	live("the longest row, cut", text(slices.Concat(slices.Repeat([]bool{true}, 32), make([]bool, 32))), row...)
}

// bounds holds Cells and Cost against what is written down.
func bounds(t *testing.T, what string, cells, cost int, l ...api.Func) {
	t.Helper()
	facts := taken(t, what, of(l...))
	is(t, "P1304: Cells and Cost: "+what, [2]int{facts.Cells, facts.Cost}, [2]int{cells, cost})
}

func with(locals int, f api.Func) api.Func {
	f.Locals = locals
	return f
}

func TestCells(t *testing.T) {
	bounds(t, "alone", 2, 2, number())
	bounds(t, "with locals", 2+64, 2, with(64, number()))
	bounds(t, "as many as one call takes", 1+64+256, 257, with(64, first(deep(256), api.IHalt, 0)))
	bounds(t, "a call that asks less than the Top", 1+5, 8, first(api.ICall, 1, deep(5), api.IHalt, 0), plain())
	bounds(t, "a call that asks as much", 1+2, 5, first(api.ICall, 1, deep(2), api.IHalt, 0), with(1, plain()))
	bounds(t, "a call that asks more", 1+8, 5, first(api.ICall, 1, deep(2), api.IHalt, 0), with(7, plain()))
	bounds(t, "a call at a height", 1+2+1+3, 5, first(deep(2), api.ICall, 1, api.IHalt, 0), with(3, plain()))
	bounds(t, "its arguments are the caller's no more", 1+2-2+1+3, 6, first(deep(2), api.ICall, 1, api.INum, 1, api.IRet, 0), with(3, function(2, 0, api.IRet, 0)))
	bounds(t, "the greatest of several calls", 1+1+1+31, 9, first(api.ICall, 1, api.INum, 0, api.ICall, 2, api.ICall, 1, api.IHalt, 0, api.ICall, 3), with(31, plain()), with(30, function(0, 0, api.INop, 0, api.IRet, 0)), with(60, plain()))
	bounds(t, "a call without a height", 2, 2, first(api.INum, 1, api.IRet, 0, api.ICall, 1), with(60, plain()))
	row := []api.Func{first(api.INum, 0, api.ICall, 1, api.IHalt, 0)}
	want := 2
	for i := 1; i < 63; i++ {
		row = append(row, with(i%7, function(0, 0, deep(i%5), api.ICall, i+1, slices.Repeat(code(api.IPop, 0), i%5), api.IRet, 0)))
		want += 1 + i%7 + i%5
	}
	facts := taken(t, "calls behind calls", of(append(row, plain())...))
	is(t, "P1304: Cells of calls behind calls", facts.Cells, want+1)
	row = nil
	for i := range 63 {
		row = append(row, with(64, function(0, 0, deep(256), api.ICall, i+1, api.IHalt, 0)))
	}
	row[0].Results = 1
	facts = taken(t, "the most", of(append(row, with(64, function(0, 0, deep(256), api.IHalt, 0)))...))
	is(t, "P1304: Cells at the most", facts.Cells, 64*(1+64+256))
}

func TestCalledAgain(t *testing.T) {
	callFirst := code(api.ICall, 0, api.IPop, 0)
	bounds(t, "the first one by itself", -1, -1, first(api.ICall, 0, api.IRet, 0))
	bounds(t, "the first one through another", -1, -1, first(api.ICall, 1, api.INum, 1, api.IRet, 0), function(0, 0, callFirst, api.IRet, 0))
	bounds(t, "another one by itself", -1, -1, first(api.ICall, 1, api.INum, 1, api.IRet, 0), function(0, 0, api.ICall, 1, api.IRet, 0))
	bounds(t, "others through others", -1, -1, first(api.ICall, 1, api.INum, 1, api.IRet, 0), function(0, 0, api.ICall, 2, api.IRet, 0), function(0, 0, api.ICall, 3, api.IRet, 0), function(0, 0, api.ICall, 1, api.IRet, 0))
	bounds(t, "through one place of many", -1, -1, first(api.INum, 1, api.IZero, 4, api.ICall, 1, api.ICall, 2, api.INum, 1, api.IRet, 0), plain(), function(0, 0, api.ICall, 1, api.ICall, 2, api.IRet, 0))
	bounds(t, "one that is not live, by itself", 2, 2, number(), function(0, 0, api.ICall, 1, api.IRet, 0))
	bounds(t, "two that are not live", 2, 2, number(), function(0, 0, api.ICall, 2, api.IRet, 0), function(0, 0, api.ICall, 1, api.IRet, 0))
	bounds(t, "the first one, by one that is not live", 2, 2, number(), function(0, 0, callFirst, api.IRet, 0))
	bounds(t, "one that is live, by one that is not", 2, 4, first(api.ICall, 1, api.INum, 1, api.IRet, 0), plain(), function(0, 0, api.ICall, 1, api.ICall, 2, api.IRet, 0))
	bounds(t, "by an ICall without a height", 2, 2, first(api.INum, 1, api.IRet, 0, api.ICall, 0, api.IPop, 0))
	bounds(t, "twice, but not while it is under way", 2, 6, first(api.ICall, 1, api.ICall, 1, api.INum, 1, api.IRet, 0), plain())
	bounds(t, "through two others, but not while it is under way", 3, 9, first(api.ICall, 1, api.ICall, 2, api.INum, 1, api.IRet, 0), function(0, 0, api.ICall, 3, api.IRet, 0), function(0, 0, api.INop, 0, api.IRet, 0), plain())
}

func TestCost(t *testing.T) {
	bounds(t, "the longer of two ways", 2, 5, first(api.INum, 1, api.IZero, 4, api.INum, 1, api.IRet, 0, api.INop, 0, api.INum, 1, api.IRet, 0))
	bounds(t, "the longer of two ways, the other one", 2, 6, first(api.INum, 1, api.IZero, 6, api.INop, 0, api.INop, 0, api.INum, 1, api.IRet, 0, api.INop, 0, api.INum, 1, api.IRet, 0))
	bounds(t, "two ways that join", 2, 6, first(api.INum, 1, api.INotZero, 4, api.INum, 1, api.IJump, 5, api.INum, 2, api.INop, 0, api.IRet, 0))
	bounds(t, "back ahead", 2, 4, first(api.IJump, 3, api.INum, 1, api.IRet, 0, api.IJump, 1))
	bounds(t, "a call of files", 4, 5, first(deep(3), api.ISys, api.SOpen, api.IRet, 0))
	bounds(t, "a call at the longer way", 3, 12, first(api.INum, 1, api.IZero, 4, api.INum, 1, api.IRet, 0, api.ICall, 1, api.INum, 1, api.IRet, 0), function(0, 0, many(one(api.INop, 0), 5), api.INum, 1, api.IHalt, 0))
	bounds(t, "a call that makes the shorter way longer", 3, 14, first(api.INum, 1, api.IZero, 7, many(one(api.INop, 0), 3), api.INum, 1, api.IRet, 0, api.ICall, 1, api.INum, 1, api.IRet, 0), function(0, 0, many(one(api.INop, 0), 7), api.INum, 1, api.IHalt, 0))
	bounds(t, "a loop", 2, -1, first(api.INum, 1, api.IZero, 0, api.INum, 1, api.IRet, 0))
	bounds(t, "a loop in a live one", 2, -1, first(api.ICall, 1, api.INum, 1, api.IRet, 0), looping())
	bounds(t, "a loop behind a call that never returns", 3, -1, first(api.ICall, 1, api.IJump, 1), function(0, 0, api.INum, 1, api.IHalt, 0))
	bounds(t, "a loop in one that is not live", 2, 2, number(), looping())
	bounds(t, "a loop without a height", 2, 2, first(api.INum, 1, api.IRet, 0, api.IJump, 2))
	bounds(t, "the longest code", 2, 4096, api.Func{Results: 1, Code: code(many(one(api.INop, 0), 4094), api.INum, 1, api.IRet, 0)})
}

// doubling has so many functions behind the first, each of which calls the next one twice; so the first of them costs 2 to the power of (one more than they are), less 3.
func doubling(n int) []api.Func {
	var l []api.Func
	for i := range n - 1 {
		l = append(l, function(0, 0, api.ICall, i+2, api.ICall, i+2, api.IRet, 0))
	}
	return append(l, plain())
}

func TestGreatestCost(t *testing.T) {
	cost := func(what string, want int, start api.Func, l []api.Func) {
		t.Helper()
		facts := taken(t, what, of(append([]api.Func{start}, l...)...))
		is(t, "P1304: Cost: "+what, facts.Cost, want)
		is(t, "P1304: Cells have a bound: "+what, facts.Cells > 0, true)
	}
	start := func(more int) api.Func {
		return first(api.ICall, 1, many(one(api.INop, 0), more), api.INum, 1, api.IRet, 0)
	}
	cost("small", 1<<4, start(0), doubling(3))
	cost("below", 1<<39, start(0), doubling(38))
	for more, want := range []int{1<<40 - 2, 1<<40 - 1, 1 << 40, -1, -1} {
		cost("two calls", want, first(many(one(api.ICall, 1), 2), many(one(api.INop, 0), more), api.INum, 1, api.IRet, 0), doubling(38))
	}
	cost("just so", 1<<40, start(0), doubling(39))
	cost("one above", -1, start(1), doubling(39))
	cost("far above", -1, start(0), doubling(40))
	cost("as far as calls go", -1, start(0), doubling(63))
	cost("above in one that is not live", 2, number(), doubling(63))
	cost("above in one that is not live, beside others", 1<<40, start(0), append(doubling(39), function(0, 0, api.ICall, 1, api.ICall, 1, api.IRet, 0)))
}

// A cost of any number of bits never counts as a small one: 64 functions of 4094 calls each.
func TestCostNeverWraps(t *testing.T) {
	for _, calls := range []int{0, 1, 2, 3, 4, 7, 8, 15, 16, 31, 32, 64, 100, 255, 256, 1024, 2047, 2048, 4000, 4093, 4094} {
		for _, functions := range []int{2, 3, 4, 5, 6, 17, 64} {
			p := of(first(many(one(api.ICall, 1), calls), api.INum, 1, api.IRet, 0))
			for i := 1; i < functions-1; i++ {
				p.Funcs = append(p.Funcs, function(0, 0, many(one(api.ICall, i+1), calls), api.IRet, 0))
			}
			p.Funcs = append(p.Funcs, plain())
			want := 1
			for i := functions - 2; i >= 0 && want >= 0; i-- {
				want = calls*(want+1) + 1
				if i == 0 {
					want++
				}
				if want > 1<<40 {
					want = -1
				}
			}
			facts, x := check.Run(p)
			is(t, "P1304: taken", x, api.Fault{})
			is(t, fmt.Sprintf("P1304: Cost of %d calls in %d functions", calls, functions), facts.Cost, want)
		}
	}
}
