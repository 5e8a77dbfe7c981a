package vm_test

import (
	"fmt"
	"math"
	"strings"
	"testing"

	"retort/api"
)

// ahead runs both to the first step at that spot.
func ahead(t *testing.T, x *both, f, at int) {
	t.Helper()
	for x.m.Spot() != (api.Spot{Func: f, At: at}) {
		if !x.step(t) {
			t.Fatalf("ended ahead of {%d %d}: %v", f, at, x.m.End())
		}
	}
}

// view looks at what is seen of calls.
func view(t *testing.T, what string, x *both, calls, locals, stack string, taken int) {
	t.Helper()
	is(t, "P1506: Calls "+what, text(x.m.Calls()), calls)
	is(t, "P1506: Locals "+what, text(x.m.Locals()), locals)
	is(t, "P1506: Stack "+what, text(x.m.Stack()), stack)
	is(t, "P1506: Taken "+what, x.m.Taken(), taken)
}

// What was given first is local 0; the others are 0; what the caller had below stays its own.
func TestCallAndReturn(t *testing.T) {
	p := whole(`func f 0 1 1 | num 50 | set 0 | num 10 | num 1 | num 2 | num 3 | call g | add | ret
		func g 3 5 1 | get 0 | num 100 | mul | get 1 | num 10 | mul | add | get 2 | add | set 4 | get 4 | ret`)
	x := begun(t, p, files(), wide())
	ahead(t, x, 0, 6)
	view(t, "ahead of a call", x, "[]", "[50]", "[10 1 2 3]", 1+1+4)
	x.step(t)
	view(t, "behind a call", x, "[{0 6}]", "[1 2 3 0 0]", "[]", 1+1+1+1+5)
	is(t, "P1506: Spot behind a call", x.m.Spot(), api.Spot{Func: 1})
	ahead(t, x, 1, 11)
	view(t, "ahead of a return", x, "[{0 6}]", "[1 2 3 0 123]", "[123]", 1+1+1+1+5+1)
	x.step(t)
	view(t, "behind a return", x, "[]", "[50]", "[10 123]", 1+1+2)
	is(t, "P1506: Spot behind a return", x.m.Spot(), api.Spot{At: 7})
	ends(t, "a call", p, wide(), halt(133, 9+12))
}

// A function without results gives nothing; one without arguments takes nothing.
func TestNothingTakenOrGiven(t *testing.T) {
	for _, c := range []struct {
		args, locals, results int
		body, stack           string
	}{
		{0, 0, 0, "ret", "[7 8]"},
		{0, 3, 0, "ret", "[7 8]"},
		{1, 1, 0, "ret", "[7]"},
		{2, 2, 0, "nop | ret", "[]"},
		{0, 0, 1, "num 9 | ret", "[7 8 9]"},
		{1, 1, 1, "get 0 | ret", "[7 8]"},
		{1, 4, 1, "get 3 | ret", "[7 0]"},
		{2, 2, 1, "get 1 | get 0 | sub | ret", "[1]"},
		{2, 3, 1, "get 0 | ret", "[7]"},
	} {
		s := fmt.Sprintf("func f 0 0 1 | num 7 | num 8 | call g | num 0 | halt | func g %d %d %d | %s", c.args, c.locals, c.results, c.body)
		x := begun(t, whole(s), files(), wide())
		ahead(t, x, 1, 0)
		is(t, "P1506: Taken in "+s, x.m.Taken(), 1+2-c.args+1+c.locals)
		ahead(t, x, 0, 3)
		view(t, "behind "+s, x, "[]", "[]", c.stack, 1+len(x.m.Stack()))
	}
}

// The most arguments, in their order.
func TestMostArguments(t *testing.T) {
	s := "func f 0 64 1 |"
	for n := range 16 {
		s += fmt.Sprintf("num %d |", n*n+1)
	}
	s += "call g | ret | func g 16 64 1 | num 0 |"
	want := 0
	for n := range 16 {
		s += fmt.Sprintf("num 3 | mul | get %d | add |", n)
		want = 3*want + n*n + 1
	}
	p := whole(s + "ret")
	x := begun(t, p, files(), wide())
	ahead(t, x, 1, 0)
	view(t, "of the most", x, "[{0 16}]", "[1 2 5 10 17 26 37 50 65 82 101 122 145 170 197 226"+strings.Repeat(" 0", 48)+"]", "[]", 1+64+1+64)
	ends(t, "the most arguments", p, wide(), halt(want, 16+2+1+4*16+1))
}

// A local that a function has set is 0 again when it is called again, whatever lay there.
func TestLocalsBeginAtZero(t *testing.T) {
	p := whole(`func f 0 0 1 | num 5 | num 6 | num 7 | pop | pop | pop | call g | call g | call g | add | add | ret
		func g 0 4 1 | get 0 | get 1 | get 2 | get 3 | add | add | add | num 9 | set 0 | num 9 | set 1 | num 9 | set 2 | num 9 | set 3 | ret`)
	ends(t, "locals that were set", p, wide(), halt(0, 12+3*16))
}

// Calls within calls: the outermost first, each at its ICall.
func TestCallsWithinCalls(t *testing.T) {
	p := whole(`func f 0 2 1 | num 1 | call g | ret
		func g 1 1 1 | nop | get 0 | num 1 | add | call h | ret
		func h 1 3 1 | nop | nop | get 0 | call k | get 0 | ret
		func k 1 1 0 | num 3 | set 0 | ret`)
	x := begun(t, p, files(), wide())
	ahead(t, x, 3, 1)
	view(t, "in three calls", x, "[{0 1} {1 4} {2 3}]", "[2]", "[3]", (1+2)+(1+1)+(1+3)+(1+1+1))
	ahead(t, x, 2, 4)
	view(t, "back from one", x, "[{0 1} {1 4}]", "[2 0 0]", "[]", 3+2+4)
	ahead(t, x, 1, 5)
	view(t, "back from two", x, "[{0 1}]", "[1]", "[2]", 3+2+1)
	ends(t, "calls within calls", p, wide(), halt(2, 3+6+6+3))
}

// The first function may be called too: then its return is one as any other.
func TestFirstAgain(t *testing.T) {
	p := whole(`memory 8 | func f 0 1 1 | num 7 | load8 | notzero again | num 7 | num 1 | store8 | call f | num 10 | add | ret
		again: num 32 | ret`)
	x := begun(t, p, files(), wide())
	ahead(t, x, 0, 10)
	view(t, "of the first one again", x, "[{0 6}]", "[0]", "[]", 2+2)
	ends(t, "the first one again", p, wide(), halt(42, 7+5+3))
	m := ends(t, "the first one's return", p, wide(), halt(42, 15))
	is(t, "P1506: Spot of the first one's return", m.Spot(), api.Spot{At: 9})
}

// A run may end within calls; then they are under way still.
func TestEndsWithinCalls(t *testing.T) {
	for what, c := range map[string]struct {
		code string
		want api.Outcome
	}{
		"IHalt":   {"num 7 | halt", halt(7, 4)},
		"IAbort":  {"num 7 | abort", api.Outcome{End: api.ETrap, Trap: api.TAbort, Code: 7, Fuel: 4}},
		"a trap":  {"num 7 | load | ret", trap(api.TBounds, 4)},
		"no room": {"num 7 | num 7 | num 7 | num 7 | halt", trap(api.TStack, 6)},
	} {
		p := whole("func f 0 0 1 | num 3 | call g | add | ret | func g 0 2 1 |" + c.code)
		m := ends(t, what, p, api.Limits{Fuel: 99, Stack: 8}, c.want)
		is(t, "P1506: Calls behind "+what, text(m.Calls()), "[{0 1}]")
		is(t, "P1506: Locals behind "+what, text(m.Locals()), "[0 0]")
	}
	p := whole("func f 0 0 1 | num 3 | call g | add | ret | func g 0 2 1 | nop | nop | num 1 | ret")
	m := ends(t, "no fuel", p, api.Limits{Fuel: 3, Stack: 8}, trap(api.TFuel, 3))
	is(t, "P1506: where there was no fuel", text(m.Spot())+text(m.Calls()), "{1 1}[{0 1}]")
}

// Calls without end take all cells that may be.
func TestCallsWithoutEnd(t *testing.T) {
	for _, stack := range []int{1, 2, 3, 50, 1000} {
		p := whole("func f 0 0 1 | call f | ret")
		m := made(t, p, files(), api.Limits{Fuel: math.MaxInt, Stack: stack})
		is(t, "P1504: steps", m.Run(math.MaxInt), stack)
		is(t, "P1502: without end", text(m.End()), text(trap(api.TStack, stack)))
		is(t, "P1506: Taken without end", m.Taken(), stack)
		is(t, "P1506: Calls without end", len(m.Calls()), stack-1)
	}
	// Each takes 1 + 3 cells, and leaves one operand behind with its caller.
	p := whole("func f 0 0 1 | num 1 | call g | ret | func g 1 3 1 | get 0 | get 0 | call g | add | ret")
	for stack := range 60 {
		m := made(t, p, files(), api.Limits{Fuel: 9999, Stack: stack})
		m.Run(9999)
		is(t, "P1502: without end", m.End().Trap, api.TStack)
		if m.Taken() > stack || stack-m.Taken() > 3 {
			t.Errorf("P1509: Taken %d of %d", m.Taken(), stack)
		}
		if stack < 40 {
			begun(t, p, files(), api.Limits{Fuel: 9999, Stack: stack}).run(t, 999)
		}
	}
}

// A recursion that ends: so many calls one within the other, and all return.
func TestRecursion(t *testing.T) {
	p := whole(`func f 0 0 1 | num 20 | call fact | ret
		func fact 1 1 1 | get 0 | notzero more | num 1 | ret | more: get 0 | get 0 | num 1 | sub | call fact | mul | ret`)
	ends(t, "20!", p, wide(), halt(2432902008176640000, 3+20*9+4))
	p.Funcs[0].Code[0].A = 21
	ends(t, "21!, modulo 2^64", p, wide(), halt(-4249290049419214848, 3+21*9+4))
	fib := whole(`func f 0 0 1 | num 15 | call fib | ret
		func fib 1 1 1 | get 0 | num 2 | lt | zero more | get 0 | ret | more: get 0 | num 1 | sub | call fib | get 0 | num 2 | sub | call fib | add | ret`)
	m := made(t, fib, files(), api.Limits{Fuel: 1 << 20, Stack: 200})
	m.Run(1 << 20)
	is(t, "P1502: two calls each", m.End().Code, 610)
}

// Many calls, one within the other, and back.
func TestDeepCalls(t *testing.T) {
	p := whole(`func f 0 0 1 | num 300000 | call down | ret
		func down 1 1 1 | get 0 | notzero more | num 5 | ret | more: get 0 | num 1 | sub | call down | ret`)
	m := made(t, p, files(), api.Limits{Fuel: math.MaxInt, Stack: math.MaxInt})
	m.Run(300000*6 + 2)
	is(t, "P1506: Calls", len(m.Calls()), 300001)
	is(t, "P1506: Taken", m.Taken(), 1+2*300001)
	m.Run(math.MaxInt)
	is(t, "P1502: deep calls", text(m.End()), text(halt(5, 3+300000*7+4)))
}
