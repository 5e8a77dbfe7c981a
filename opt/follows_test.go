package opt_test

import (
	"fmt"
	"math"
	"math/rand/v2"
	"strings"
	"testing"

	"retort/api"
	"retort/check"
	"retort/opt"
	"retort/prog"
	"retort/vfs"
	"retort/vm"
)

// files are a few, with room for some more.
func files() *vfs.FS {
	l := []api.Item{{Path: "d", Dir: true}, {Path: "d/e", Dir: true}, {Path: "d/x", Data: []byte("hello")}, {Path: "o", Data: []byte("12")}}
	f, e := vfs.New(l, api.Quota{Bytes: 20, Files: 8, Open: 4})
	if e != api.OK {
		panic(e)
	}
	return f
}

// ran is what is seen of a run to its end.
type ran struct {
	end          api.Outcome
	files        string
	touched      []string
	steps, cells int
}

func runOf(t testing.TB, p api.Program, l api.Limits) ran {
	t.Helper()
	m, e := vm.New(p, files(), l)
	if e != api.OK {
		t.Fatalf("P1607: a machine refuses %s: %v", said(p), e)
	}
	x := ran{cells: m.Taken()}
	for m.Step() {
		x.steps++
		x.cells = max(x.cells, m.Taken())
	}
	x.end, x.files = m.End(), text(m.Files())
	for _, y := range m.Touched() {
		x.touched = append(x.touched, text(y))
	}
	return x
}

// asThat looks at P1608: p ran as one did, q, its best, as other did.
func asThat(t testing.TB, p, q api.Program, l api.Limits, one, other ran) {
	t.Helper()
	wrong := func(what string) {
		t.Fatalf("P1608: %s: %s under %v: %v %d steps, %d cells, %q; its best %s: %v %d steps, %d cells, %q",
			what, said(p), l, one.end, one.steps, one.cells, one.touched, said(q), other.end, other.steps, other.cells, other.touched)
	}
	switch {
	case one.end.End == api.ETrap && one.end.Trap == api.TFuel:
		if !strings.HasPrefix(strings.Join(other.touched, "\n")+"\n", strings.Join(append(one.touched, ""), "\n")) {
			wrong("calls of files under little fuel")
		}
	case one.end.End == api.ETrap && one.end.Trap == api.TStack:
	case other.end.End != one.end.End || other.end.Code != one.end.Code || other.end.Trap != one.end.Trap:
		wrong("the end")
	case other.files != one.files || text(other.touched) != text(one.touched):
		wrong("files")
	case other.end.Fuel > one.end.Fuel || other.steps > one.steps:
		wrong("fuel, steps")
	case other.cells > one.cells:
		wrong("cells")
	}
}

// noGreater looks at P1607 and P1609.
func noGreater(t testing.TB, p, q api.Program) {
	t.Helper()
	was, _ := check.Run(p)
	facts, fault := check.Run(q)
	if fault.Err != api.OK {
		t.Fatalf("P1607: %s is told of %s: %v", said(q), said(p), fault)
	}
	if was.Cells != -1 && (facts.Cells > was.Cells || facts.Cells == -1) || was.Cost != -1 && (facts.Cost > was.Cost || facts.Cost == -1) {
		t.Fatalf("P1609: Cells %d, Cost %d of %s; %d, %d of %s", facts.Cells, facts.Cost, said(q), was.Cells, was.Cost, said(p))
	}
	if q.Memory != p.Memory || string(q.Data) != string(p.Data) {
		t.Fatalf("P1609: Memory %d, Data %q of %s", q.Memory, q.Data, said(p))
	}
}

// follows looks at all that follows of a program that is taken; it tells how it ended.
func follows(t testing.TB, r *rand.Rand, p api.Program) string {
	t.Helper()
	q := best(t, p)
	noGreater(t, p, q)
	if again := best(t, q); !prog.Same(again, q) {
		t.Fatalf("P1607: Run of %s: %s", said(q), said(again))
	}
	once, e := opt.Once(p)
	if e != api.OK {
		t.Fatalf("P1605: Once of %s: %v", said(p), e)
	}
	noGreater(t, p, once)
	l := api.Limits{Fuel: 300, Memory: 1 << 16, Stack: 60}
	one := runOf(t, p, l)
	asThat(t, p, q, l, one, runOf(t, q, l))
	for range 3 {
		// Just so much, a little less, any.
		l = api.Limits{Fuel: one.end.Fuel - r.IntN(2)*r.IntN(one.end.Fuel+1), Memory: p.Memory + r.IntN(2), Stack: one.cells - r.IntN(2)*r.IntN(3)}
		asThat(t, p, q, l, runOf(t, p, l), runOf(t, q, l))
	}
	return fmt.Sprint(one.end.End, one.end.Trap.Word(), len(one.touched) > 1)
}

// Programs and their best, over like files, under the same limits.
func TestRunsAlike(t *testing.T) {
	t.Parallel()
	rounds := uint64(15000)
	if testing.Short() {
		rounds = 1500
	}
	met := map[string]int{}
	for n := range rounds {
		r := seeded(20000 + n)
		met[follows(t, r, drawnProgram(r))]++
	}
	t.Log(met)
	if testing.Short() {
		return
	}
	for _, what := range []string{"1none", "2abort", "2fuel", "2stack", "2bounds", "2divide"} {
		for _, touched := range []string{"false", "true"} {
			if met[what+touched] < 20 {
				t.Errorf("%s %s: %d times only", what, touched, met[what+touched])
			}
		}
	}
}

// A program whose way hangs on numbers that it has, written so that all kinds of rows are in it; under every fuel and every stack.
func TestEveryFuel(t *testing.T) {
	for _, code := range []string{
		`memory 40 | data "d/xo12..new/ydd/e" | func f 0 2 1 | nop | num 3 | set 0
			again: get 0 | num 0 | eq | notzero out | get 0 | call g | pop | get 0 | num 1 | nop | sub | num 0 | add | set 0 | jump back | back: nop | jump again
			out: num 7 | set 1 | get 1 | ret
			func g 1 3 1 | num 8 | num 5 | num 3 | sys open | set 1 | get 1 | num 3 | get 0 | num 1 | mul | sys write | copy 0 | pop | neg | neg | zero bad | num 1 | zero bad | get 1 | sys close | ret
			bad: get 1 | sys close | get 0 | swap | swap | add | ret`,
		`memory 40 | data "d/x" | func f 0 1 1 | num 0 | num 3 | num 0 | sys open | set 0 | get 0 | num 10 | num 2 | num 2 | add | sys read | pop | get 0 | num 20 | num 9 | sys read | num 1 | div | ret`,
		`memory 8 | func f 0 0 1 | num 6 | call fib | ret | func fib 1 1 1 | get 0 | num 2 | lt | num 0 | eq | zero small | get 0 | num 1 | sub | call fib | get 0 | num 2 | sub | call fib | swap | swap | add | jump end | small: get 0 | nop | end: ret`,
		`memory 8 | func f 0 1 1 | num 3 | get 0 | div | num 0 | pop | ret`,
		`memory 8 | func f 0 0 1 | a: size | pop | jump a`,
	} {
		p := whole(strings.ReplaceAll(code, "\n", "|"))
		held(t, p)
		q := best(t, p)
		noGreater(t, p, q)
		wide := runOf(t, p, api.Limits{Fuel: 2000, Memory: 100, Stack: 100})
		if wide.end.Trap == api.TStack {
			t.Fatal(code)
		}
		for fuel := range min(wide.end.Fuel, 600) + 2 {
			l := api.Limits{Fuel: fuel, Memory: 100, Stack: 100}
			asThat(t, p, q, l, runOf(t, p, l), runOf(t, q, l))
		}
		for stack := range wide.cells + 2 {
			l := api.Limits{Fuel: 2000, Memory: 100, Stack: stack}
			asThat(t, p, q, l, runOf(t, p, l), runOf(t, q, l))
		}
	}
}

// Two rows make one word what a run would make of it, whatever it is (row 8), and so do all that stand for nothing.
func TestSameWords(t *testing.T) {
	ops := "add sub mul div rem and or xor shl shr ushr eq lt ult fadd fsub fmul fdiv feq flt"
	for _, name := range strings.Fields(ops) {
		for _, x := range words() {
			for _, y := range []int{0, 1, -1, math.MinInt, 63} {
				p := single(fmt.Sprintf("num %d | set 0 | get 0 | num %d | %s | neg | neg | num 0 | add | set 1 | get 1 | ret", x, y, name))
				l := api.Limits{Fuel: 100, Memory: 8, Stack: 50}
				q := best(t, p)
				asThat(t, p, q, l, runOf(t, p, l), runOf(t, q, l))
			}
		}
	}
}
