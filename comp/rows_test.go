package comp_test

import (
	"fmt"
	"math"
	"strings"
	"testing"

	"retort/api"
	"retort/cell"
	"retort/check"
	"retort/comp"
	"retort/op"
	"retort/prog"
)

// compiled holds what Compile and Origin tell against what they must tell.
func compiled(t testing.TB, u api.Unit, memory int) (api.Program, [][]int, api.Errno) {
	t.Helper()
	p, e := comp.Compile(u, memory)
	want, _, we := programOf(u, memory)
	if e != we || saidProgram(p) != saidProgram(want) {
		t.Errorf("P1801: Compile of %s, memory %d: %s, %v\nwant %s, %v", brief(saidUnit(u)), memory, brief(saidProgram(p)), e, brief(saidProgram(want)), we)
	}
	_, origins, owe := programOf(u, 65536)
	l, oe := comp.Origin(u)
	if oe != owe || fmt.Sprint(l) != fmt.Sprint(origins) {
		t.Errorf("P1803: Origin of %s: %s, %v\nwant %s, %v", brief(saidUnit(u)), brief(l), oe, brief(origins), owe)
	}
	if e == api.OK {
		if _, fault := check.Run(p); fault != (api.Fault{}) {
			t.Errorf("P1805: check of %s: %v", brief(saidProgram(p)), fault)
		}
		is(t, "P1805: prog.Check", prog.Check(p), api.OK)
	}
	return p, l, e
}

// codeIs looks at the code and the origins of a text's first function; its end is not said.
func codeIs(t *testing.T, text, code, origin string) {
	t.Helper()
	u := read(t, text)
	p, l, e := compiled(t, u, 64)
	if e != api.OK {
		t.Errorf("P1802: %s: %v", text, e)
		return
	}
	code = strings.TrimPrefix(code+", num 0, ret", ", ")
	origin = "[" + strings.TrimPrefix(origin+" 0 0]", " ")
	is(t, "P1802: "+text, said(p.Funcs[0].Code), code)
	is(t, "P1803: "+text, fmt.Sprint(l[0]), origin)
}

func TestExamples(t *testing.T) {
	codeIs(t, "func main() { return 1 + 2; }", "num 1, num 2, add, ret", "3 4 2 1")
	codeIs(t, "func main(; i) { while i < 3 { i = i + 1; } }", "get 0, num 3, lt, zero 9, get 0, num 1, add, set 0, jump 0", "3 4 2 1 8 9 7 6 1")
	codeIs(t, "func main() { return 2 || 0; }", "num 2, notzero 8, num 0, num 0, eq, num 0, eq, jump 9, num 1, ret", "3 2 4 2 2 2 2 2 2 1")
	u := read(t, `text p = "ab"; text q = "c"; func main() { return &q; }`)
	p, _, e := compiled(t, u, 3)
	is(t, "example 4", fmt.Sprint(string(p.Data), " ", said(p.Funcs[0].Code), e), "abc num 2, ret, num 0, retok")
	_, e = comp.Compile(u, 2)
	is(t, "example 4 with memory 2", e, api.ErrBig)
}

// Of each kind of doing, alone and with something behind it.
func TestDoings(t *testing.T) {
	codeIs(t, "func main() { }", "", "")
	codeIs(t, "func main() { { } { { } } }", "", "")
	codeIs(t, "func main() { do 1; { do 2; { } do 3; } do 4; }", "num 1, pop, num 2, pop, num 3, pop, num 4, pop", "2 1 5 4 8 7 10 9")
	codeIs(t, "func main(; a, b) { b = 5; a = b; }", "num 5, set 1, get 1, set 0", "2 1 4 3")
	codeIs(t, "func main() { word[1] = 2; byte[3] = 4; }", "num 1, num 2, store, num 3, num 4, store8", "2 3 1 5 6 4")
	codeIs(t, "func main() { return 1; return 2; }", "num 1, ret, num 2, ret", "2 1 4 3")
	codeIs(t, "func main() { do size; abort 2; }", "size, pop, num 2, abort", "2 1 4 3")
}

func TestChoices(t *testing.T) {
	codeIs(t, "func main() { if 1 { } }", "num 1, zero 2", "2 1")
	codeIs(t, "func main() { if 1 { } else { } }", "num 1, zero 3, jump 3", "2 1 1")
	codeIs(t, "func main() { if 1 { do 2; } do 3; }", "num 1, zero 4, num 2, pop, num 3, pop", "2 1 5 4 7 6")
	codeIs(t, "func main() { if 1 { do 2; } else { do 3; } do 4; }", "num 1, zero 5, num 2, pop, jump 7, num 3, pop, num 4, pop", "2 1 5 4 1 8 7 10 9")
	codeIs(t, "func main() { if 1 { } else { do 3; } }", "num 1, zero 3, jump 5, num 3, pop", "2 1 1 6 5")
	codeIs(t, "func main() { if 1 { if 2 { return 3; } } else { if 4 { return 5; } else { return 6; } } }",
		"num 1, zero 7, num 2, zero 6, num 3, ret, jump 14, num 4, zero 12, num 5, ret, jump 14, num 6, ret",
		"2 1 5 4 8 7 1 11 10 14 13 10 17 16")
}

// Breaks and continues name the loops in whose blocks they stand, one that has ended not.
func TestLoops(t *testing.T) {
	codeIs(t, "func main() { while 0 { } }", "num 0, zero 3, jump 0", "2 1 1")
	codeIs(t, "func main() { do 9; while 1 { do 2; } do 3; }", "num 9, pop, num 1, zero 7, num 2, pop, jump 2, num 3, pop", "2 1 4 3 7 6 3 9 8")
	codeIs(t, "func main() { while 1 { break; } }", "num 1, zero 4, jump 4, jump 0", "2 1 4 1")
	codeIs(t, "func main() { while 1 { continue; } }", "num 1, zero 4, jump 0, jump 0", "2 1 4 1")
	codeIs(t, "func main() { while 1 { while 2 { while 3 { break; break 1; break 2; continue; continue 1; continue 2; } } } }",
		"num 1, zero 15, num 2, zero 14, num 3, zero 13, jump 13, jump 14, jump 15, jump 4, jump 2, jump 0, jump 4, jump 2, jump 0",
		"2 1 5 4 8 7 10 11 12 13 14 15 7 4 1")
	codeIs(t, "func main() { while 1 { while 2 { break 1; } break; continue; } while 3 { break; continue; } }",
		"num 1, zero 9, num 2, zero 6, jump 9, jump 2, jump 9, jump 0, jump 0, num 3, zero 14, jump 14, jump 9, jump 9",
		"2 1 5 4 7 4 8 9 1 11 10 13 14 10")
	codeIs(t, "func main() { while 1 { if 2 { break; } else { continue; } } }", "num 1, zero 8, num 2, zero 6, jump 8, jump 7, jump 0, jump 0", "2 1 5 4 7 4 9 1")
	codeIs(t, "func main() { while 1 && 2 { break; } }", "num 1, zero 8, num 2, num 0, eq, num 0, eq, jump 9, num 0, zero 12, jump 12, jump 0", "3 2 4 2 2 2 2 2 2 1 6 1")
}

// Where loops lie one in another as deep as may be, each break leads to the end of its own.
func TestLoopsAsDeepAsMayBe(t *testing.T) {
	const n = 31 // two parts each, in the first block
	for out := range n {
		for _, kind := range []int{api.PBreak, api.PContinue} {
			u := unit(1)
			l := u.Funcs[0].Parts
			for range n {
				l = append(l, part(api.PWhile, 0, 2), num(7), part(api.PBlock, 0, 1))
			}
			u.Funcs[0].Parts = append(l, part(kind, out, 0))
			p, _, e := compiled(t, u, 0)
			if e != api.OK {
				t.Fatal(e)
			}
			inner := n - 1 - out
			want := 2 * inner
			if kind == api.PBreak {
				want = 2*n + 1 + out + 1
			}
			is(t, "P1802: the loop that is named", said(p.Funcs[0].Code[2*n:2*n+1]), fmt.Sprint("jump ", want))
		}
	}
}

func TestReckoned(t *testing.T) {
	ret := func(word, code, origin string) {
		t.Helper()
		codeIs(t, `text e = ""; text p = "ab"; text q = "c"; func main(; a, b) { return `+word+`; } func f() { } func g(x, y) { }`, code+", ret", origin+" 1")
	}
	ret("7", "num 7", "2")
	ret("0xffffffffffffffff", "num -1", "2")
	ret("a", "get 0", "2")
	ret("b", "get 1", "2")
	ret("size", "size", "2")
	ret("&e", "num 0", "2")
	ret("&p", "num 0", "2")
	ret("&q", "num 2", "2")
	ret("#e", "num 0", "2")
	ret("#p", "num 2", "2")
	ret("#q", "num 1", "2")
	ret("word[1]", "num 1, load", "3 2")
	ret("byte[1]", "num 1, load8", "3 2")
	ret("-a", "get 0, neg", "3 2")
	ret("a - b", "get 0, get 1, sub", "3 4 2")
	ret("a > b", "get 0, get 1, swap, lt", "3 4 2 2")
	ret("a ># b", "get 0, get 1, swap, ult", "3 4 2 2")
	ret("a >. b", "get 0, get 1, swap, flt", "3 4 2 2")
	ret("!a", "get 0, num 0, eq", "3 2 2")
	ret("a <= b", "get 0, get 1, swap, lt, num 0, eq", "4 5 3 3 2 2")
	ret("a && b", "get 0, zero 8, get 1, num 0, eq, num 0, eq, jump 9, num 0", "3 2 4 2 2 2 2 2 2")
	ret("a || b", "get 0, notzero 8, get 1, num 0, eq, num 0, eq, jump 9, num 1", "3 2 4 2 2 2 2 2 2")
	ret("a && (b || 3)", "get 0, zero 16, get 1, notzero 10, num 3, num 0, eq, num 0, eq, jump 11, num 1, num 0, eq, num 0, eq, jump 17, num 0", "3 2 5 4 6 4 4 4 4 4 4 2 2 2 2 2 2")
	ret("f()", "call 1", "2")
	ret("main()", "call 0", "2")
	ret("g(a, b - 1)", "get 0, get 1, num 1, sub, call 2", "3 5 6 4 2")
	ret("open(1, 2, 3)", "num 1, num 2, num 3, sys 0", "3 4 5 2")
	ret("read(1, 2, 3)", "num 1, num 2, num 3, sys 1", "3 4 5 2")
	ret("write(1, 2, 3)", "num 1, num 2, num 3, sys 2", "3 4 5 2")
	ret("list(1, 2, 3, 4)", "num 1, num 2, num 3, num 4, sys 3", "3 4 5 6 2")
	ret("close(1)", "num 1, sys 4", "3 2")
	ret("(1 - 2) * (3 - word[4])", "num 1, num 2, sub, num 3, num 4, load, sub, mul", "4 5 3 7 9 8 6 2")
}

// Every instruction that a part may be, and every number that one may have.
func TestEveryInstruction(t *testing.T) {
	one := func(x api.Part, want string) {
		t.Helper()
		l := [][]api.Part{{part(api.PDo, 0, 1), x}}
		for range x.Kids {
			l = append(l, []api.Part{num(5)})
		}
		p, _, e := compiled(t, unit(1, l...), 9)
		if e != api.OK {
			t.Fatalf("%v: %v", x, e)
		}
		want = strings.Repeat("num 5, ", x.Kids) + want + ", pop, num 0, ret"
		is(t, fmt.Sprintf("P1802: %v", x), said(p.Funcs[0].Code), want)
	}
	ones, twos := 0, 0
	for n := range api.ICount {
		s, _ := op.Of(n)
		if cell.Has1(n) {
			ones++
			one(part(api.POne, n, 1), s.Name)
		}
		if cell.Has2(n) {
			twos++
			one(part(api.PTwo, n, 2), s.Name)
		}
	}
	is(t, "instructions of one and of two", fmt.Sprint(ones, twos), "6 20")
	for _, n := range []int{api.ILt, api.IUlt, api.IFlt} {
		s, _ := op.Of(n)
		one(part(api.PTurn, n, 2), "swap, "+s.Name)
	}
	for _, n := range []int{0, 1, -1, 4096, 65536, math.MaxInt, math.MinInt} {
		one(num(n), fmt.Sprint("num ", n))
	}
}

// Functions are handed on with their heads, in their order, each with its own code and loops.
func TestFunctions(t *testing.T) {
	u := read(t, "func main(; a) { while 1 { break; } } func f(x, y; z) { while x { while y { break 1; } } } func g(x) { return x; }")
	p, l, e := compiled(t, u, 5)
	is(t, "P1801", fmt.Sprint(e, " ", saidProgram(p)), `ok memory 5, data ""
0 1 1: num 1, zero 4, jump 4, jump 0, num 0, ret
2 3 1: get 0, zero 7, get 1, zero 6, jump 7, jump 2, jump 0, num 0, ret
1 1 1: get 0, ret, num 0, ret`)
	is(t, "P1803", fmt.Sprint(l), "[[2 1 4 1 0 0] [2 1 5 4 7 4 1 0 0] [2 1 0 0]]")
}

// With the most of everything that a head may have.
func TestMostOfHeads(t *testing.T) {
	u := api.Unit{}
	for i := range 64 {
		f := api.Fn{Name: fmt.Sprint("f", i), Parts: []api.Part{part(api.PBlock, 0, 2), part(api.PSet, 63, 1), part(api.PVar, i, 0), part(api.PReturn, 0, 1), part(api.PCall, 63-i, 0)}}
		if i > 0 {
			f.Args = 16
		}
		if i < 63 {
			f.Parts[4].Kids = 16
			f.Parts = append(f.Parts, repeated(16, num(i))...)
		}
		for j := range 64 {
			f.Locals = append(f.Locals, fmt.Sprint("l", j))
		}
		u.Funcs = append(u.Funcs, f)
	}
	p, l, e := compiled(t, u, 65536)
	is(t, "P1801", fmt.Sprint(e, len(p.Funcs), len(l)), "ok 64 64")
	is(t, "P1801", fmt.Sprint(p.Funcs[63].Args, p.Funcs[63].Locals, " ", said(p.Funcs[63].Code)), "16 64 get 63, set 63, call 0, ret, num 0, ret")
}

func TestManyTexts(t *testing.T) {
	u := unit(0)
	at := 0
	for i := range 1024 {
		u.Texts = append(u.Texts, api.Text{Name: fmt.Sprint("t", i), Data: []byte(strings.Repeat("x", i%128))})
		if i%2 == 1 {
			u.Funcs[0].Parts = append(u.Funcs[0].Parts, part(api.PDo, 0, 1), part(api.PTwo, api.IAdd, 2), part(api.PAt, i, 0), part(api.PLen, i, 0))
			u.Funcs[0].Parts[0].Kids++
		}
	}
	p, _, e := compiled(t, u, 65536)
	is(t, "P1801: many texts", fmt.Sprint(e, len(p.Data)), "ok 65024")
	for i := range 1024 {
		if i%2 == 1 {
			is(t, "P1802: many texts", said(p.Funcs[0].Code[i/2*4:i/2*4+2]), fmt.Sprintf("num %d, num %d", at, i%128))
		}
		at += i % 128
	}
}
