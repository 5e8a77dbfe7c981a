package comp_test

import (
	"fmt"
	"math"
	"slices"
	"strings"
	"testing"

	"retort/api"
	"retort/comp"
	"retort/opt"
	"retort/tongue"
	"retort/vfs"
	"retort/vm"
)

// someFiles are those that drawn units find.
func someFiles(t testing.TB) *vfs.FS {
	t.Helper()
	f, e := vfs.New([]api.Item{{Path: "a", Data: []byte("12345")}, {Path: "d", Dir: true}, {Path: "d/x", Data: []byte{0, 255, 7}}}, api.Quota{Bytes: 60, Files: 7, Open: 3})
	if e != api.OK {
		t.Fatal(e)
	}
	return f
}

// filesText says files, and the handles that are open.
func filesText(f *vfs.FS) string {
	s := fmt.Sprint(f.Items(), f.Used())
	for h := range 4 {
		p, at, e := f.Place(h)
		s += fmt.Sprint(" ", p, at, e)
	}
	return s
}

// ran is a machine behind its run, with its files.
func ran(t testing.TB, p api.Program, fuel, memory int) (*vm.Machine, *vfs.FS) {
	t.Helper()
	f := someFiles(t)
	m, e := vm.New(p, f, api.Limits{Fuel: fuel, Memory: memory, Stack: api.MaxStack})
	if e != api.OK {
		t.Fatalf("vm.New: %v of %s", e, saidProgram(p))
	}
	m.Run(math.MaxInt)
	return m, f
}

// follows runs a unit and its programs; it tells what the unit means, if that is told.
func follows(t testing.TB, u api.Unit, memory, steps int) (api.Meant, bool) {
	t.Helper()
	p, origins, e := compiled(t, u, memory)
	f := someFiles(t)
	meant, told := tongue.Mean(u, f, memory, steps)
	if e != api.OK || !told || meant.Trap == api.TStack {
		return meant, told
	}
	best, e := opt.Run(p)
	is(t, "P1806: opt.Run", e, api.OK)
	fuel := comp.Fuel(meant.Steps) + meant.Moved
	for i, q := range []api.Program{p, p, best, best} {
		most := fuel + i%2*5000
		m, g := ran(t, q, most, memory+i%2*1000)
		o := m.End()
		if o.Fuel > fuel {
			t.Errorf("P1806: %s took %d of %d", brief(saidUnit(u)), o.Fuel, fuel)
		}
		o.Fuel = 0
		if fmt.Sprint(o) != fmt.Sprint(meant.Outcome) || filesText(g) != filesText(f) {
			t.Errorf("P1806: %s\nof %s, fuel %d: %+v, want %+v; files %s, want %s", brief(saidProgram(q)), brief(saidUnit(u)), most, o, meant, filesText(g), filesText(f))
		}
		if i < 2 {
			trapsThere(t, u, origins, m)
		}
	}
	return meant, true
}

// whereTraps are the kinds of parts that can trap so.
func whereTraps(trap api.Trap) []int {
	switch trap {
	case api.TDivide, api.TFloat:
		return []int{api.POne, api.PTwo, api.PTurn}
	case api.TBounds:
		return []int{api.PLoad, api.PLoad8, api.PPut, api.PPut8, api.PSys}
	case api.TAbort:
		return []int{api.PAbort}
	}
	return nil
}

// trapsThere looks at the part in which a run ended.
func trapsThere(t testing.TB, u api.Unit, origins [][]int, m *vm.Machine) {
	t.Helper()
	l := whereTraps(m.End().Trap)
	if l == nil {
		return
	}
	at := m.Spot()
	x := u.Funcs[at.Func].Parts[origins[at.Func][at.At]]
	if !slices.Contains(l, x.Kind) {
		t.Errorf("P1807: %s: %s at a %s", brief(saidUnit(u)), m.End().Trap.Word(), nameOf(x.Kind))
	}
}

func TestDrawnUnits(t *testing.T) {
	t.Parallel()
	r := seeded(1)
	met := map[string]int{}
	for range rounds(6000) {
		u := drawn(r)
		is(t, "Check of a drawn unit", tongue.Check(u), api.OK)
		meant, told := follows(t, u, 20+r.IntN(5), 3000)
		if !told {
			met["short"]++
			continue
		}
		met["trap "+meant.Trap.Word()]++
		if meant.Moved > 0 {
			met["moved"]++
		}
		if meant.Steps > 100 {
			met["long"]++
		}
		for _, f := range u.Funcs {
			for _, x := range f.Parts {
				met[nameOf(x.Kind)]++
			}
		}
	}
	t.Log(met)
	for _, s := range append(strings.Fields(kindNames)[1:], "short", "moved", "long", "trap none", "trap stack", "trap bounds", "trap divide", "trap float", "trap abort") {
		if met[s] == 0 && !testing.Short() {
			t.Errorf("%s was never met", s)
		}
	}
}

// Units that may not be, and memories that may not: the first error in their order.
func TestBentUnits(t *testing.T) {
	t.Parallel()
	r := seeded(2)
	met := map[api.Errno]int{}
	for range rounds(10000) {
		u := bent(r, drawn(r))
		_, _, e := compiled(t, u, []int{-1, 0, 1, 3, 5, 24, 65536, 65537}[r.IntN(8)])
		met[e]++
	}
	t.Log(met)
	for _, e := range []api.Errno{api.OK, api.ErrSyntax, api.ErrLong, api.ErrTwice, api.ErrUnset, api.ErrArity, api.ErrArg, api.ErrBig} {
		if met[e] == 0 && !testing.Short() {
			t.Errorf("%v was never met", e)
		}
	}
}

// meansSo is what a text's unit means, and what its programs do.
func meansSo(t *testing.T, text, want string) {
	t.Helper()
	m, told := follows(t, read(t, text), 64, 1<<20)
	is(t, "P1806: "+text, fmt.Sprint(told, m.End, m.Trap, m.Code), want)
}

const halts, traps = "true 1 0 ", "true 2 "

func TestMeanings(t *testing.T) {
	meansSo(t, "func main() { }", halts+"0")
	meansSo(t, "func main(; i) { while i < 3 { i = i + 1; } return i; }", halts+"3")
	meansSo(t, "func main(; i) { while i < 120000 { i = i + 1; } return i; }", halts+"120000")
	meansSo(t, "func main() { return f(0) && f(0) / 0; } func f(a) { return a; }", halts+"0")
	meansSo(t, "func main() { return f(2) || f(0) / 0; } func f(a) { return a; }", halts+"1")
	meansSo(t, "func main() { return (5 && 7) * 10 + (0 || 9); }", halts+"11")
	meansSo(t, "func main() { return (5 && 0) * 10 + (0 || 0); }", halts+"0")
	meansSo(t, "func main() { return !0 * 10 + !7; }", halts+"10")
	meansSo(t, "func main() { return 8 - 3 > 4; }", halts+"1")
	meansSo(t, "func main() { return fib(12); } func fib(n) { if n < 2 { return n; } else { return fib(n - 1) + fib(n - 2); } }", halts+"144")
	meansSo(t, "func main(; i, n) { while 1 { i = i + 1; if i > 9 { break; } if i % 2 { continue; } n = n + i; } return n; }", halts+"20")
	meansSo(t, "func main(; i, j, n) { while i < 5 { i = i + 1; j = 0; while 1 { j = j + 1; if j == 3 { continue 1; } if i == 4 { break 1; } n = n + 1; } } return n * 10 + i; }", halts+"64")
	meansSo(t, "func main() { word[8] = -2; byte[8] = 0; return byte[15] * 1000 + byte[8] + size; }", halts+"254064")
	meansSo(t, `text p = "ab"; text q = "c"; func main() { return byte[&q] * 10 + #p; }`, halts+"992")
	meansSo(t, `text p = "a"; func main(; h) { h = open(&p, #p, 0); return read(h, 8, 9) * 100 + byte[8]; }`, halts+"549")
	meansSo(t, `text p = "new/x"; func main(; h) { h = open(&p, #p, 5); do write(h, 0, 5); do close(h); return list(0, 3, 20, 9); }`, halts+"2")
	meansSo(t, `text p = "x"; func main() { return open(&p, #p, 0); }`, halts+"-91")
	meansSo(t, "func main() { abort -5; }", traps+"7 -5")
	meansSo(t, "func main() { do main(); }", traps+"2 0")
}

// Each part that can trap is the origin where it does, whatever stands around it.
func TestTraps(t *testing.T) {
	for _, x := range []struct {
		word string
		kind int
		trap api.Trap
	}{
		{"do 1 / 0;", api.PTwo, api.TDivide},
		{"do 7 % (3 - 3);", api.PTwo, api.TDivide},
		{"do int(float(1) /. 0);", api.POne, api.TFloat},
		{"do int(0 /. 0);", api.POne, api.TFloat},
		{"do word[57];", api.PLoad, api.TBounds},
		{"do word[-1];", api.PLoad, api.TBounds},
		{"do byte[64];", api.PLoad8, api.TBounds},
		{"word[57] = 0;", api.PPut, api.TBounds},
		{"byte[-1] = 0;", api.PPut8, api.TBounds},
		{"do open(60, 5, 0);", api.PSys, api.TBounds},
		{"do read(0, 0, -1);", api.PSys, api.TBounds},
		{"do write(0, 65, 0);", api.PSys, api.TBounds},
		{"do list(0, 1, 60, 5);", api.PSys, api.TBounds},
		{"abort 3;", api.PAbort, api.TAbort},
		{"abort 1 / 0;", api.PTwo, api.TDivide},
		{"word[byte[99]] = 1 / 0;", api.PLoad8, api.TBounds},
		{"word[99] = 1 / 0;", api.PTwo, api.TDivide},
		{"do !byte[99] > 1 && 2;", api.PLoad8, api.TBounds},
		{"if byte[99] { } else { abort 1; }", api.PLoad8, api.TBounds},
		{"if 0 { } else { abort 1; }", api.PAbort, api.TAbort},
		{"while word[99] { break; }", api.PLoad, api.TBounds},
	} {
		for _, text := range []string{
			"func main() { " + x.word + " }",
			"func main() { do 1; if 1 { while 1 { " + x.word + " continue; } } }",
			"func main() { return 5 + (1 && f(7, g())); } func f(a, b) { return a; } func g() { { " + x.word + " } return 1; }",
		} {
			u := read(t, text)
			meant, told := follows(t, u, 64, 1000)
			is(t, "P1706: "+text, fmt.Sprint(told, meant.Trap), fmt.Sprint(true, x.trap))
			p, _ := comp.Compile(u, 64)
			l, _ := comp.Origin(u)
			m, _ := ran(t, p, 10000, 64)
			at := m.Spot()
			is(t, "P1807: "+text, nameOf(u.Funcs[at.Func].Parts[l[at.Func][at.At]].Kind), nameOf(x.kind))
		}
	}
}

// As many calls as may be, each with as many locals and operands as may be, have room in MaxStack.
func TestMostCells(t *testing.T) {
	var locals []string
	for i := range 64 {
		locals = append(locals, fmt.Sprint("l", i))
	}
	// Each call has 17 calls one in another, of 16 arguments, under way: 256 cells are wanted by the innermost one's last argument.
	nested := func() []api.Part {
		var l []api.Part
		for range 17 {
			l = append(l, part(api.PCall, 1, 16))
			l = append(l, repeated(15, num(3))...)
		}
		return append(l, part(api.PVar, 15, 0))
	}
	count := []api.Part{part(api.PSet, 15, 1), part(api.PTwo, api.IAdd, 2), part(api.PVar, 15, 0), num(1)}
	for _, calls := range []int{100, 127, 128} {
		stop := []api.Part{part(api.PIf, 0, 2), part(api.PTwo, api.IEq, 2), part(api.PVar, 15, 0), num(calls - 1), part(api.PBlock, 0, 1), part(api.PAbort, 0, 1), part(api.PVar, 15, 0)}
		body := slices.Concat([]api.Part{part(api.PBlock, 0, 3)}, stop, count, []api.Part{part(api.PReturn, 0, 1)}, nested())
		u := api.Unit{Funcs: []api.Fn{{Name: "main", Locals: locals, Parts: body}, {Name: "f", Args: 16, Locals: locals, Parts: body}}}
		is(t, "Check", tongue.Check(u), api.OK)
		meant, told := follows(t, u, 0, 1<<20)
		is(t, "P1806: as many cells as may be", fmt.Sprint(told, meant.Trap, meant.Code), fmt.Sprint(true, api.TAbort, calls-1))
	}
}

// Parts as deep in one another as may be.
func TestDeepest(t *testing.T) {
	deep := func(kind, n int, kid ...api.Part) api.Unit {
		var l []api.Part
		for range 62 {
			l = append(append(l, part(kind, n, len(kid)+1)), kid...)
		}
		return unit(1, []api.Part{part(api.PReturn, 0, 1)}, l, []api.Part{num(3)})
	}
	for _, u := range []api.Unit{
		deep(api.POne, api.INeg), deep(api.PNot, 0), deep(api.PAnd, 0, num(2)), deep(api.POr, 0, num(0)), deep(api.PTwo, api.ISub, num(9)), deep(api.PTurn, api.ILt, num(1)),
		unit(1, repeated(63, part(api.PBlock, 0, 1)), []api.Part{part(api.PBlock, 0, 0)}),
	} {
		is(t, "Check", tongue.Check(u), api.OK)
		_, told := follows(t, u, 0, 1000)
		is(t, "P1806: as deep as may be", told, true)
	}
}

// The steps of which each takes the most fuel.
func TestDearest(t *testing.T) {
	for _, text := range []string{
		"func main() { return 1 && 1 && 1 && 1 && 1 && 1; }",
		"func main() { return 0 || 0 || 0 || 0 || 0 || 1; }",
		"func main(; i) { while i < 50 && 1 { i = i + 1; } }",
		"func main(; i) { while 0 || i < 50 { i = i + 1; continue; } }",
		"func main() { do f() && f() && f(); } func f() { return g() || g(); } func g() { }",
		"func main(; i) { while 1 && 1 { while 1 && 1 { i = i + 1; if i > 20 { return i; } continue 1; } } }",
		"func main() { return 1 > 2 != 3 <= 4; }",
	} {
		_, told := follows(t, read(t, text), 64, 1<<20)
		is(t, "it ends: "+text, told, true)
	}
}
