package act_test

import (
	"fmt"
	"math"
	"slices"
	"testing"

	"retort/act"
	"retort/api"
)

// runs holds Run against the oracle, and against what is wanted of its error.
func runs(t testing.TB, what string, p api.Program, l []api.Item, lim api.Limits, keep []string, want api.Errno) api.Outcome {
	t.Helper()
	o, e := act.Run(p, l, lim, keep)
	x, we := runOf(p, l, lim, keep)
	is(t, "the oracle: "+what, we, want)
	is(t, "P1905: "+what, e, want)
	is(t, "P1905: "+what, text(o), text(x))
	return o
}

// told says an outcome in short: how it ended, and the paths.
func told(o api.Outcome) string {
	var l []string
	for _, x := range o.Keep {
		l = append(l, x.Path)
		if x.Dir {
			l[len(l)-1] += "/"
		} else {
			l[len(l)-1] += fmt.Sprintf("=%s", x.Data)
		}
	}
	return fmt.Sprintf("%d %d %s %d %s %s", o.End, o.Code, o.Trap.Word(), o.Fuel, l, o.Missing)
}

// Each set of things that are wrong: the first of them is told.
func TestRunOrderOfErrors(t *testing.T) {
	for set := range 64 {
		has := func(i int) bool { return set>>i&1 == 1 }
		p, lim, kept := seven(), wide(), keep("a")
		lim.Bytes, lim.Files = 3, 3
		l := list(dir("a"), file("a/b", 1, 2, 3), file("c"))
		want := api.OK
		for i, e := range []api.Errno{api.ErrVerify, api.ErrLimits, api.ErrKeep, api.ErrItems, api.ErrQuota, api.ErrFiles} {
			if has(i) && want == api.OK {
				want = e
			}
		}
		if has(0) {
			p.Funcs[0].Code[0].A, p.Funcs[0].Code[1].Op = 1, api.IPop
		}
		if has(1) {
			lim.Depth = 33
		}
		if has(2) {
			kept = keep("b", "a")
		}
		if has(3) {
			l = append(l, file("b"))
		}
		if has(4) {
			lim.Bytes = 2
		}
		if has(5) {
			lim.Files = 2
		}
		runs(t, fmt.Sprintf("%06b", set), p, l, lim, kept, want)
	}
}

// What prog.Check refuses, and what check.Run refuses.
func TestRunVerify(t *testing.T) {
	wrong := func(turn func(p *api.Program)) api.Program {
		p := seven()
		turn(&p)
		return p
	}
	for what, p := range map[string]api.Program{
		"no program":    {},
		"memory":        wrong(func(p *api.Program) { p.Memory = 1<<16 + 1 }),
		"below 0":       wrong(func(p *api.Program) { p.Memory = -1 }),
		"data":          wrong(func(p *api.Program) { p.Data = []byte{1} }),
		"instruction":   wrong(func(p *api.Program) { p.Funcs[0].Code[0].Op = 99 }),
		"operand":       wrong(func(p *api.Program) { p.Funcs[0].Code[1].A = 1 }),
		"args":          wrong(func(p *api.Program) { p.Funcs[0].Args, p.Funcs[0].Locals = 1, 1 }),
		"no result":     wrong(func(p *api.Program) { p.Funcs[0].Results = 0 }),
		"many funcs":    wrong(func(p *api.Program) { p.Funcs = slices.Repeat(p.Funcs, 65) }),
		"runs off":      program("func f 0 0 1 | num 7"),
		"wants more":    program("func f 0 0 1 | pop | num 7 | ret"),
		"a jump beside": program("func f 0 0 1 | num 7 | zero 9 | num 7 | ret"),
		"no such local": program("func f 0 0 1 | get 0 | ret"),
		"no such call":  program("func f 0 0 1 | call 3 | num 1 | ret"),
	} {
		o := runs(t, what, p, nil, wide(), nil, api.ErrVerify)
		is(t, "P4: beside an error: "+what, text(o), text(api.Outcome{}))
	}
}

// Each limit at its edges: those that Run has no use for too.
func TestRunLimits(t *testing.T) {
	for i := range 8 {
		least, most := leastLimits()[i], mostLimits()[i]
		for _, n := range []int{math.MinInt, least - 1, least, most, most + 1, math.MaxInt} {
			l := numbersOf(wide())
			l[i] = n
			want := api.OK
			if n < least || n > most {
				want = api.ErrLimits
			}
			runs(t, fmt.Sprintf("limit %d is %d", i, n), seven(), nil, limitsOf(l), keep("a"), want)
		}
	}
	lim := wide()
	lim.Nodes, lim.Depth = 1, 0
	o := runs(t, "Nodes and Depth are the walk's alone", seven(), list(dir("a"), dir("a/b"), file("a/b/c", 1)), lim, keep(""), api.OK)
	is(t, "P1905: all is kept", told(o), "1 7 none 2 [a/ a/b/ a/b/c=\x01] []")
}

func TestRunItems(t *testing.T) {
	crowd := list(dir("a"))
	for i := range 1025 {
		crowd = append(crowd, file(fmt.Sprintf("a/%04d", i)))
	}
	lim := wide()
	lim.Files, lim.Bytes = 4096, 1<<26
	runs(t, "as many as may be", seven(), crowd[:1025], lim, nil, api.OK)
	for what, l := range map[string][]api.Item{
		"crowd": crowd, "the root": list(dir("")), "no directory": list(file("a/b")), "below a file": list(file("a"), file("a/b")), "twice": list(file("a"), file("a")), "falling": list(file("b"), file("a")),
		"data of a directory": list(api.Item{Path: "a", Dir: true, Data: []byte{1}}), "long": list(file("a", make([]byte, 1<<20+1)...)), "not clean": list(file("a/")),
	} {
		runs(t, what, seven(), l, lim, nil, api.ErrItems)
	}
	lim.Files = 1025
	runs(t, "just as many as Files", seven(), crowd[:1025], lim, nil, api.OK)
	lim.Files = 1024
	runs(t, "one more than Files", seven(), crowd[:1025], lim, nil, api.ErrFiles)
	lim.Bytes = 5
	runs(t, "just as many as Bytes", seven(), list(file("a", 1, 2), file("b", 3, 4, 5)), lim, nil, api.OK)
	runs(t, "one more than Bytes", seven(), list(file("a", 1, 2), file("b", 3, 4, 5, 6)), lim, nil, api.ErrQuota)
	lim.Files, lim.Bytes = 0, 0
	runs(t, "nothing, and no room", seven(), nil, lim, nil, api.OK)
}

// How runs end; of one that trapped nothing is kept, whatever it wrote.
func TestRunEnds(t *testing.T) {
	write := openAs(0, 1, 2) + "num 0 | num 2 | sys write | pop |" // 3 + 2 + 2 + 3 + 1
	for _, c := range []struct{ code, want string }{
		{"num 7 | ret", "1 7 none 2 [] [a b]"},
		{"num -9 | halt", "1 -9 none 2 [] [a b]"},
		{write + "num 8 | ret", "1 8 none 13 [a=ab] [b]"},
		{write + "num 8 | halt", "1 8 none 13 [a=ab] [b]"},
		{write + "num 8 | abort", "2 8 abort 13 [] []"},
		{write + "num 0 | abort", "2 0 abort 13 [] []"},
		{write + "num 1 | num 0 | div | ret", "2 0 divide 14 [] []"},
		{write + "num 1 | num 0 | rem | ret", "2 0 divide 14 [] []"},
		{write + "num 13 | load | ret", "2 0 bounds 13 [] []"},
		{write + "num 0x7ff8000000000000 | toi | ret", "2 0 float 13 [] []"},
		{write + "again: jump again", "2 0 fuel 1000 [] []"},
		{write + "again: num 1 | call 1 | ret | func g 1 1 1 | get 0 | call 1 | ret", "2 0 stack 60 [] []"},
		{write + "num 999999999 | num 1 | num 0 | sys open | ret", "2 0 bounds 15 [] []"},
	} {
		o := runs(t, c.code, body(c.code), nil, wide(), keep("a", "b"), api.OK)
		is(t, "P1905: "+c.code, told(o), c.want)
	}
	lim := wide()
	lim.Memory = 19
	o := runs(t, "memory", body("num 7 | ret"), list(file("a")), lim, keep("a"), api.OK)
	is(t, "P1905: memory", told(o), "2 0 memory 0 [] []")
	lim.Memory, lim.Stack = 20, 1
	o = runs(t, "the first call", body("num 7 | ret"), list(file("a")), lim, keep("a"), api.OK)
	is(t, "P1905: the first call", told(o), "2 0 stack 0 [] []")
	lim.Stack = 2
	o = runs(t, "the first operand", body("num 7 | ret"), list(file("a")), lim, keep("a"), api.OK)
	is(t, "P1905: the first operand", told(o), "2 0 stack 1 [] []")
	lim.Stack = 3
	o = runs(t, "just enough", body("num 7 | ret"), list(file("a")), lim, keep("a"), api.OK)
	is(t, "P1905: just enough", told(o), "1 7 none 2 [a=] []")
}

// A run goes to its end, whatever fuel that takes, and no further.
func TestRunFuel(t *testing.T) {
	p := writing(3, [2]int{0, 1}, [2]int{2, 3})
	o := runs(t, "much fuel", p, nil, wide(), keep(""), api.OK)
	is(t, "P1905: what it came to", told(o), fmt.Sprintf("1 7 none %d [a=abc c/ c/d=abc] []", o.Fuel))
	all := o.Fuel
	for fuel := range all + 3 {
		lim := wide()
		lim.Fuel = fuel
		o := runs(t, fmt.Sprint("fuel ", fuel), p, nil, lim, keep("a"), api.OK)
		is(t, "P1905: whether it halts", o.End == api.EHalt, fuel >= all)
		if o.Fuel > fuel {
			t.Errorf("T5: %d of %d is used", o.Fuel, fuel)
		}
	}
	lim := wide()
	lim.Fuel = 1 << 20
	o = runs(t, "round and round", body("again: jump again"), nil, lim, nil, api.OK)
	is(t, "P1905: round and round", told(o), "2 0 fuel 1048576 [] []")
	count := program("func f 0 1 1 | num 116507 | set 0 | again: get 0 | zero done | get 0 | num 1 | sub | set 0 | nop | nop | jump again | done: num 5 | ret")
	o = runs(t, "nearly all of it", count, nil, lim, nil, api.OK)
	is(t, "P1905: nearly all of it", told(o), "1 5 none 1048569 [] []")
	lim.Fuel = 1048569
	is(t, "P1905: just all of it", told(runs(t, "just all of it", count, nil, lim, nil, api.OK)), "1 5 none 1048569 [] []")
	lim.Fuel--
	is(t, "P1905: one less", told(runs(t, "one less", count, nil, lim, nil, api.OK)), "2 0 fuel 1048568 [] []")
}

// What the files' limits let be, as the program is answered it.
func TestRunQuota(t *testing.T) {
	l := list(file("a", 1, 2))
	for _, c := range []struct {
		what, code         string
		bytes, files, open int
		want               int
	}{
		{"a write that fits", openAs(0, 1, 3) + "num 0 | num 3 | sys write | ret", 5, 9, 9, 3},
		{"one that does not", openAs(0, 1, 3) + "num 0 | num 4 | sys write | ret", 5, 9, 9, -int(api.ErrQuota)},
		{"a file more", openAs(1, 1, 1) + "ret", 9, 2, 9, 0},
		{"one too many", openAs(1, 1, 1) + "ret", 9, 1, 9, -int(api.ErrFiles)},
		{"with directories", openAs(2, 3, 5) + "ret", 9, 3, 9, 0},
		{"one too many of these", openAs(2, 3, 5) + "ret", 9, 2, 9, -int(api.ErrFiles)},
		{"a handle more", openAs(0, 1, 0) + "pop |" + openAs(0, 1, 0) + "ret", 9, 9, 2, 1},
		{"one too many", openAs(0, 1, 0) + "pop |" + openAs(0, 1, 0) + "ret", 9, 9, 1, -int(api.ErrOpen)},
		{"no handle", openAs(0, 1, 0) + "ret", 9, 9, 0, -int(api.ErrOpen)},
	} {
		lim := wide()
		lim.Bytes, lim.Files, lim.Open = c.bytes, c.files, c.open
		o := runs(t, c.what, body(c.code), l, lim, keep(""), api.OK)
		is(t, "P1905: "+c.what, o.Code, c.want)
	}
}

// What is kept of what the run had at its end.
func TestRunKeeps(t *testing.T) {
	l := list(file("a", '1'), dir("e"), dir("e/e"), dir("f"), file("f/g", '2'), file("f/h", '3'))
	p := writing(2, [2]int{0, 1}, [2]int{2, 3}) // a anew, c and c/d made
	for _, c := range []struct {
		keep []string
		want string
	}{
		{nil, "[] []"},
		{keep(""), "[a=ab c/ c/d=ab e/ e/e/ f/ f/g=2 f/h=3] []"},
		{keep("a"), "[a=ab] []"},
		{keep("a", "b"), "[a=ab] [b]"},
		{keep("b"), "[] [b]"},
		{keep("a/b"), "[] [a/b]"},
		{keep("b/c", "b/d", "d"), "[] [b/c b/d d]"},
		{keep("c"), "[c/ c/d=ab] []"},
		{keep("c/d"), "[c/ c/d=ab] []"},
		{keep("c/d/e"), "[] [c/d/e]"},
		{keep("e"), "[e/ e/e/] []"},
		{keep("e/e"), "[e/ e/e/] []"},
		{keep("e/e/e"), "[] [e/e/e]"},
		{keep("f/g"), "[f/ f/g=2] []"},
		{keep("f/a", "f/h", "f/z"), "[f/ f/h=3] [f/a f/z]"},
		{keep("a", "c", "e", "f"), "[a=ab c/ c/d=ab e/ e/e/ f/ f/g=2 f/h=3] []"},
	} {
		o := runs(t, brief(c.keep), p, l, wide(), c.keep, api.OK)
		is(t, "P1905: "+brief(c.keep), told(o), fmt.Sprintf("1 7 none %d %s", o.Fuel, c.want))
	}
}

// Drawn programs over drawn trees, under drawn limits.
func TestRunDrawn(t *testing.T) {
	seen := map[string]int{}
	for n := range uint64(4000) {
		r := seeded(n)
		lim := drawnLimits(r)
		if r.IntN(30) == 0 {
			lim.Open = 65
		}
		p := drawnProgram(r)
		if r.IntN(30) == 0 {
			p.Funcs[0].Code[r.IntN(len(p.Funcs[0].Code))].Op = api.IPop
		}
		l, kept := drawnTree(r, "", 2), drawnKeep(r)
		_, e := runOf(p, l, lim, kept)
		o := runs(t, fmt.Sprint("drawn ", n), p, l, lim, kept, e)
		seen[fmt.Sprint(e, " ", o.End, " ", o.Trap.Word())]++
	}
	for _, what := range []string{"ok 1 none", "ok 2 fuel", "ok 2 stack", "ok 2 memory", "ok 2 bounds", "ok 2 divide", "ok 2 float", "ok 2 abort", "verify 0 none", "limits 0 none", "keep 0 none", "quota 0 none", "files 0 none"} {
		if seen[what] < 10 {
			t.Errorf("%s was met %d times only: %v", what, seen[what], seen)
		}
	}
}
