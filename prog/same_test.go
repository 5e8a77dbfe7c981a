package prog_test

import (
	"fmt"
	"math"
	"slices"
	"testing"

	"retort/api"
	"retort/prog"
)

// compare holds Same of two programs, either way round, against their texts.
func compare(t *testing.T, what string, a, b api.Program) {
	t.Helper()
	want := text(a) == text(b)
	is(t, "P1204: Same: "+what, prog.Same(a, b), want)
	is(t, "P1204: Same the other way round: "+what, prog.Same(b, a), want)
}

// twin holds Twin of a program against it.
func twin(t *testing.T, p api.Program) {
	t.Helper()
	q := prog.Twin(p)
	is(t, "P1204: Twin", text(q), text(p))
	is(t, "P1204: Same of the Twin", prog.Same(p, q), true)
	is(t, "P1204: Check of the Twin", prog.Check(q), prog.Check(p))
}

// turns are changes of one thing of a program with three functions, Data of three bytes.
func turns() map[string]func(p *api.Program) {
	return map[string]func(p *api.Program){
		"Memory":                  func(p *api.Program) { p.Memory++ },
		"Memory below 0":          func(p *api.Program) { p.Memory = -p.Memory },
		"the first byte":          func(p *api.Program) { p.Data[0]++ },
		"the last byte":           func(p *api.Program) { p.Data[2]++ },
		"a byte fewer":            func(p *api.Program) { p.Data = p.Data[:2] },
		"a zero more":             func(p *api.Program) { p.Data = append(p.Data, 0) },
		"no Data":                 func(p *api.Program) { p.Data = nil },
		"the first Args":          func(p *api.Program) { p.Funcs[0].Args++ },
		"the last Args":           func(p *api.Program) { p.Funcs[2].Args = -1 },
		"the first Locals":        func(p *api.Program) { p.Funcs[0].Locals++ },
		"the last Locals":         func(p *api.Program) { p.Funcs[2].Locals = math.MaxInt },
		"the first Results":       func(p *api.Program) { p.Funcs[0].Results++ },
		"the last Results":        func(p *api.Program) { p.Funcs[2].Results-- },
		"Args for Locals":         func(p *api.Program) { f := &p.Funcs[1]; f.Args, f.Locals = f.Locals, f.Args },
		"the first operand":       func(p *api.Program) { p.Funcs[0].Code[0].A++ },
		"the last operand":        func(p *api.Program) { p.Funcs[2].Code[1].A = -7 },
		"the first instruction":   func(p *api.Program) { p.Funcs[0].Code[0].Op++ },
		"the last instruction":    func(p *api.Program) { p.Funcs[2].Code[1].Op = 99 },
		"an instruction fewer":    func(p *api.Program) { p.Funcs[1].Code = p.Funcs[1].Code[:1] },
		"an instruction more":     func(p *api.Program) { p.Funcs[2].Code = append(p.Funcs[2].Code, one(0, 0)) },
		"no code":                 func(p *api.Program) { p.Funcs[1].Code = nil },
		"code the other way":      func(p *api.Program) { slices.Reverse(p.Funcs[1].Code) },
		"a function more":         func(p *api.Program) { p.Funcs = append(p.Funcs, p.Funcs[2]) },
		"an empty function more":  func(p *api.Program) { p.Funcs = append(p.Funcs, api.Func{}) },
		"a function fewer":        func(p *api.Program) { p.Funcs = p.Funcs[:2] },
		"no functions":            func(p *api.Program) { p.Funcs = nil },
		"functions the other way": func(p *api.Program) { slices.Reverse(p.Funcs) },
		"code of its neighbour":   func(p *api.Program) { p.Funcs[0].Code = p.Funcs[1].Code },
	}
}

func TestSameOfOneChange(t *testing.T) {
	for what, turn := range turns() {
		p, q := several(3), several(3)
		is(t, "P1204: the same", prog.Same(p, q), true)
		turn(&p)
		is(t, "P1204: "+what, prog.Same(p, q), false)
		is(t, "P1204: "+what+", the other way round", prog.Same(q, p), false)
		turn(&q)
		is(t, "P1204: both: "+what, prog.Same(p, q), true)
		twin(t, p)
	}
}

func TestSameOfTwoChanges(t *testing.T) {
	for what, turn := range turns() {
		for other, back := range turns() {
			p, q := several(3), several(3)
			turn(&p)
			back(&q)
			compare(t, what+"; "+other, p, q)
		}
	}
}

// Programs that Check refuses have twins, and are the same or not, like all others.
func TestWrongPrograms(t *testing.T) {
	l := []api.Program{{}, small(), several(3), several(65), several(300), {Memory: -1}, {Memory: math.MinInt}, {Memory: math.MaxInt}, {Data: []byte{0}}, {Data: make([]byte, 1<<17)}, {Data: make([]byte, 1<<17+1)},
		{Funcs: make([]api.Func, 1)}, {Funcs: make([]api.Func, 65)}, {Funcs: make([]api.Func, 66)},
		{Funcs: []api.Func{{Args: -1}}}, {Funcs: []api.Func{{Locals: -1}}}, {Funcs: []api.Func{{Results: -1}}}, {Funcs: []api.Func{{Args: math.MaxInt}}},
		{Funcs: []api.Func{{Code: many(one(0, 0), 4097)}}}, {Funcs: []api.Func{{Code: many(one(0, 0), 4098)}}}, {Funcs: []api.Func{{Code: list(one(99, -5))}}}, {Funcs: []api.Func{{Code: list(one(99, 0))}}}, {Funcs: []api.Func{{Code: list(one(-1, 0))}}}}
	for i, p := range l {
		twin(t, p)
		for j, q := range l {
			is(t, fmt.Sprintf("P1204: Same of %d and %d", i, j), prog.Same(p, q), i == j)
		}
	}
}

// No list and an empty one are the same.
func TestNoneAndEmpty(t *testing.T) {
	none := api.Program{Memory: 1, Funcs: []api.Func{{}}}
	empty := api.Program{Memory: 1, Data: []byte{}, Funcs: []api.Func{{Code: []api.Instr{}}}}
	roomy := api.Program{Memory: 1, Data: make([]byte, 0, 5), Funcs: append(make([]api.Func, 0, 5), api.Func{Code: make([]api.Instr, 0, 5)})}
	for _, p := range []api.Program{none, empty, roomy} {
		for _, q := range []api.Program{none, empty, roomy} {
			is(t, "P2: Same", prog.Same(p, q), true)
		}
		is(t, "P2: Check", prog.Check(p), api.ErrProg)
		twin(t, p)
		b, e := encode(t, api.Program{Memory: 1, Data: p.Data, Funcs: []api.Func{plain()}})
		is(t, "P2: Encode", e, api.OK)
		is(t, "P2: Encode", string(b), string([]byte{2, 1, 0, 1, 0, 0, 0, 1, 18}))
	}
	is(t, "P2: Same of no programs", prog.Same(api.Program{}, api.Program{Data: []byte{}, Funcs: []api.Func{}}), true)
	for _, b := range [][]byte{nil, {}, make([]byte, 0, 9)} {
		told(t, "none", b, api.ErrCut)
	}
}

// Spare room behind a list is no part of it.
func TestSpareRoomIsNoPart(t *testing.T) {
	p, q := several(3), several(3)
	p.Data = append(p.Data, 9)[:3]
	q.Data = append(q.Data, 8)[:3]
	p.Funcs = append(p.Funcs, plain())[:3]
	p.Funcs[0].Code = append(p.Funcs[0].Code, one(99, 99))[:2]
	is(t, "P1204: Same", prog.Same(p, q), true)
	is(t, "P1201: Check", prog.Check(p), api.OK)
	twin(t, p)
}

func TestSameOfDrawn(t *testing.T) {
	r := seeded(1204)
	for range 3000 {
		p := drawn(r)
		q := prog.Twin(p)
		twin(t, p)
		compare(t, "drawn", broken(r, q), p)
		compare(t, "two drawn", p, drawn(r))
	}
}
