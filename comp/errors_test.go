package comp_test

import (
	"fmt"
	"math"
	"slices"
	"strings"
	"testing"

	"retort/api"
	"retort/comp"
	"retort/tongue"
)

// refuses looks at an error of Compile, with nothing beside it.
func refuses(t *testing.T, what string, u api.Unit, memory int, want api.Errno) {
	t.Helper()
	p, e := comp.Compile(u, memory)
	is(t, "P1801: "+what, e, want)
	if p.Memory != 0 || p.Data != nil || p.Funcs != nil {
		t.Errorf("P4: %s: %s beside %v", what, brief(saidProgram(p)), e)
	}
}

func originRefuses(t *testing.T, what string, u api.Unit, want api.Errno) {
	t.Helper()
	l, e := comp.Origin(u)
	is(t, "P1803: "+what, e, want)
	if l != nil {
		t.Errorf("P4: %s: %s beside %v", what, brief(l), e)
	}
}

// wrongUnits are some that tongue.Check refuses, with their errors.
func wrongUnits() []struct {
	u api.Unit
	e api.Errno
} {
	long := unit(0)
	long.Texts = []api.Text{{Name: "p", Data: make([]byte, 65537)}}
	twice := unit(0)
	twice.Funcs = append(twice.Funcs, twice.Funcs[0])
	deep := unit(1, repeated(64, part(api.PBlock, 0, 1)), repeated(1, part(api.PBlock, 0, 0)))
	return []struct {
		u api.Unit
		e api.Errno
	}{
		{api.Unit{}, api.ErrSyntax},
		{unit(0, repeated(1, num(1))), api.ErrSyntax},
		{unit(1, repeated(1, part(api.PBreak, 0, 0))), api.ErrSyntax},
		{unit(1), api.ErrSyntax},
		{unit(-1), api.ErrSyntax},
		{unit(1, []api.Part{part(api.PSet, 0, 1), num(1)}), api.ErrUnset},
		{unit(1, []api.Part{part(api.PDo, 0, 1), part(api.PAt, 0, 0)}), api.ErrUnset},
		{unit(1, []api.Part{part(api.PDo, 0, 1), part(api.PCall, 0, 1), num(1)}), api.ErrArity},
		{long, api.ErrLong},
		{twice, api.ErrTwice},
		{deep, api.ErrNest},
	}
}

// tongue.Check's error is told ahead of all others.
func TestCheckFirst(t *testing.T) {
	for _, x := range wrongUnits() {
		is(t, "Check", tongue.Check(x.u), x.e)
		for _, memory := range []int{-1, 0, 64, 65536, 65537, math.MinInt, math.MaxInt} {
			refuses(t, fmt.Sprintf("%s, memory %d", brief(x.u), memory), x.u, memory, x.e)
		}
		originRefuses(t, brief(x.u), x.u, x.e)
	}
}

// A memory that may not be is told ahead of what does not fit in.
func TestMemories(t *testing.T) {
	texts := func(n int) api.Unit {
		u := unit(0)
		u.Texts = []api.Text{{Name: "p", Data: make([]byte, n/2)}, {Name: "q", Data: make([]byte, n-n/2)}}
		return u
	}
	tooLong := unit(2048, repeated(2048, part(api.PDo, 0, 1), num(0)))
	for _, u := range []api.Unit{unit(0), texts(3), texts(65536), tooLong} {
		for _, memory := range []int{-1, -64, math.MinInt, 65537, 1 << 20, math.MaxInt} {
			refuses(t, fmt.Sprint("memory ", memory), u, memory, api.ErrArg)
		}
	}
	for _, n := range []int{0, 1, 2, 3, 255, 65535, 65536} {
		for _, memory := range []int{0, n - 1, n, n + 1, 65535, 65536} {
			switch {
			case memory < 0 || memory > 65536:
				refuses(t, fmt.Sprint("memory ", memory), texts(n), memory, api.ErrArg)
			case memory < n:
				refuses(t, fmt.Sprintf("%d bytes, memory %d", n, memory), texts(n), memory, api.ErrBig)
			default:
				p, _, e := compiled(t, texts(n), memory)
				is(t, fmt.Sprintf("P1801: %d bytes, memory %d", n, memory), fmt.Sprint(e, p.Memory, len(p.Data)), fmt.Sprint(api.OK, memory, n))
			}
		}
		if _, e := comp.Origin(texts(n)); e != api.OK {
			t.Errorf("P1803: %d bytes: %v", n, e)
		}
	}
	refuses(t, "too much code and text", api.Unit{Texts: texts(3).Texts, Funcs: tooLong.Funcs}, 2, api.ErrBig)
}

// rightDoings are doings of all lengths, by their code's.
func rightDoings() map[string]struct {
	n     int
	parts []api.Part
} {
	type row = struct {
		n     int
		parts []api.Part
	}
	return map[string]row{
		"set":      {2, []api.Part{part(api.PSet, 0, 1), num(0)}},
		"put":      {3, []api.Part{part(api.PPut, 0, 2), num(0), num(0)}},
		"put8":     {3, []api.Part{part(api.PPut8, 0, 2), num(0), num(0)}},
		"if":       {2, []api.Part{part(api.PIf, 0, 2), num(0), part(api.PBlock, 0, 0)}},
		"else":     {3, []api.Part{part(api.PIf, 0, 3), num(0), part(api.PBlock, 0, 0), part(api.PBlock, 0, 0)}},
		"while":    {3, []api.Part{part(api.PWhile, 0, 2), num(0), part(api.PBlock, 0, 0)}},
		"break":    {4, []api.Part{part(api.PWhile, 0, 2), num(0), part(api.PBlock, 0, 1), part(api.PBreak, 0, 0)}},
		"continue": {4, []api.Part{part(api.PWhile, 0, 2), num(0), part(api.PBlock, 0, 1), part(api.PContinue, 0, 0)}},
		"return":   {2, []api.Part{part(api.PReturn, 0, 1), num(0)}},
		"abort":    {2, []api.Part{part(api.PAbort, 0, 1), num(0)}},
		"do":       {2, []api.Part{part(api.PDo, 0, 1), num(0)}},
		"var":      {2, []api.Part{part(api.PDo, 0, 1), part(api.PVar, 0, 0)}},
		"at":       {2, []api.Part{part(api.PDo, 0, 1), part(api.PAt, 0, 0)}},
		"len":      {2, []api.Part{part(api.PDo, 0, 1), part(api.PLen, 0, 0)}},
		"size":     {2, []api.Part{part(api.PDo, 0, 1), part(api.PSize, 0, 0)}},
		"load":     {3, []api.Part{part(api.PDo, 0, 1), part(api.PLoad, 0, 1), num(0)}},
		"load8":    {3, []api.Part{part(api.PDo, 0, 1), part(api.PLoad8, 0, 1), num(0)}},
		"one":      {3, []api.Part{part(api.PDo, 0, 1), part(api.POne, api.INeg, 1), num(0)}},
		"two":      {4, []api.Part{part(api.PDo, 0, 1), part(api.PTwo, api.IAdd, 2), num(0), num(0)}},
		"turn":     {5, []api.Part{part(api.PDo, 0, 1), part(api.PTurn, api.ILt, 2), num(0), num(0)}},
		"not":      {4, []api.Part{part(api.PDo, 0, 1), part(api.PNot, 0, 1), num(0)}},
		"and":      {10, []api.Part{part(api.PDo, 0, 1), part(api.PAnd, 0, 2), num(0), num(0)}},
		"or":       {10, []api.Part{part(api.PDo, 0, 1), part(api.POr, 0, 2), num(0), num(0)}},
		"call":     {2, []api.Part{part(api.PDo, 0, 1), part(api.PCall, 0, 0)}},
		"sys":      {3, []api.Part{part(api.PDo, 0, 1), part(api.PSys, api.SClose, 1), num(0)}},
	}
}

// Whatever the code is made of: 4096 instructions are taken, more are not.
func TestMostCode(t *testing.T) {
	for name, x := range rightDoings() {
		for code := 4094; code <= 4098; code++ {
			many, rest := (code-2)/x.n, (code-2)%x.n
			if rest == 1 {
				many, rest = many-1, rest+x.n
			}
			// What is left is none, or as much as a do has of a number that is turned often enough.
			filler := []api.Part{}
			if rest > 0 {
				filler = append(filler, part(api.PDo, 0, 1))
				filler = append(filler, repeated(rest-2, part(api.POne, api.INeg, 1))...)
				filler = append(filler, num(0))
			}
			doings := many
			if rest > 0 {
				doings++
			}
			u := unit(doings, repeated(many, x.parts...), filler)
			u.Texts = []api.Text{{Name: "p"}}
			u.Funcs[0].Locals = []string{"a"}
			p, l, e := compiled(t, u, 0)
			if code > 4096 {
				refuses(t, fmt.Sprint(name, " of ", code), u, 0, api.ErrBig)
				originRefuses(t, fmt.Sprint(name, " of ", code), u, api.ErrBig)
			} else if e != api.OK || len(p.Funcs[0].Code) != code || len(l[0]) != code {
				t.Errorf("P1801: %s of %d: %v, %d", name, code, e, len(p.Funcs[0].Code))
			}
		}
	}
}

// It is each function's code that counts, not that of all.
func TestMostCodeOfEach(t *testing.T) {
	most := unit(2047, repeated(2047, part(api.PDo, 0, 1), num(0))).Funcs[0]
	more := unit(2048, repeated(2048, part(api.PDo, 0, 1), num(0))).Funcs[0]
	var u api.Unit
	for i := range 64 {
		most.Name = fmt.Sprint("f", i)
		u.Funcs = append(u.Funcs, most)
	}
	p, e := comp.Compile(u, 0)
	is(t, "P1801: 64 functions as long as may be", fmt.Sprint(e, len(p.Funcs)), "ok 64")
	for _, i := range []int{0, 1, 31, 63} {
		v := api.Unit{Funcs: slices.Clone(u.Funcs)}
		v.Funcs[i].Parts = more.Parts
		refuses(t, fmt.Sprint("function ", i), v, 0, api.ErrBig)
		originRefuses(t, fmt.Sprint("function ", i), v, api.ErrBig)
	}
}

// Units of very many parts end too; those without code are taken.
func TestVeryManyParts(t *testing.T) {
	n := 1 << 20
	u := unit(n, repeated(n, part(api.PBlock, 0, 0)))
	p, e := comp.Compile(u, 0)
	l, oe := comp.Origin(u)
	is(t, "P1801: blocks alone", fmt.Sprint(e, oe, " ", said(p.Funcs[0].Code), l), "ok ok num 0, ret[[0 0]]")
	u = unit(n+1, repeated(n, part(api.PBlock, 0, 0)), []api.Part{part(api.PReturn, 0, 1), num(5)})
	l, oe = comp.Origin(u)
	is(t, "P1803: behind blocks", fmt.Sprint(l, oe), fmt.Sprint([][]int{{n + 2, n + 1, 0, 0}}, api.OK))
	u = unit(n, repeated(n, part(api.PDo, 0, 1), part(api.PAnd, 0, 2), num(0), num(0)))
	refuses(t, "very much code", u, 0, api.ErrBig)
	originRefuses(t, "very much code", u, api.ErrBig)
	u = unit(1, []api.Part{part(api.PWhile, 0, 2), num(0), part(api.PBlock, 0, n)}, repeated(n, part(api.PBreak, 0, 0)))
	refuses(t, "very many breaks", u, 0, api.ErrBig)
	u = unit(4094, repeated(4094, part(api.PBreak, 0, 0)))
	refuses(t, "breaks without a loop", u, 0, api.ErrSyntax)
}

// As many jumps as may be lead to the last place that one may lead to.
func TestFarthestJumps(t *testing.T) {
	n := 4096 - 5
	u := unit(1, []api.Part{part(api.PWhile, 0, 2), num(1), part(api.PBlock, 0, n)}, repeated(n, part(api.PBreak, 0, 0)))
	p, _, e := compiled(t, u, 0)
	is(t, "P1802", e, api.OK)
	is(t, "P1802: jumps to the end", said(p.Funcs[0].Code), "num 1, zero 4094"+strings.Repeat(", jump 4094", n)+", jump 0, num 0, ret")
}

func TestFuel(t *testing.T) {
	for _, x := range [][2]int{{3, 24}, {-1, 0}, {0, 0}, {1, 8}, {2, 16}, {1000, 8000}, {1<<20 - 1, 8<<20 - 8}, {1 << 20, 8 << 20}, {1<<20 + 1, 8 << 20}, {1 << 40, 8 << 20}, {1 << 61, 8 << 20}, {math.MaxInt, 8 << 20}, {math.MinInt, 0}, {-8, 0}, {-1 << 61, 0}} {
		is(t, fmt.Sprintf("P1804: Fuel(%d)", x[0]), comp.Fuel(x[0]), x[1])
	}
	for n := range 5000 {
		is(t, "P1804", comp.Fuel(n), 8*n)
	}
}
