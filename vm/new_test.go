package vm_test

import (
	"fmt"
	"math"
	"testing"

	"retort/api"
	"retort/vm"
)

// What prog.Check or check.Run refuses no machine runs, whatever the limits are.
func TestRefused(t *testing.T) {
	right := whole("memory 8 | func f 0 0 1 | num 1 | call g | ret | func g 1 2 1 | get 0 | ret")
	made(t, right, files(), wide())
	change := map[string]func(p *api.Program){
		"no functions":     func(p *api.Program) { p.Funcs = nil },
		"Memory below 0":   func(p *api.Program) { p.Memory = -1 },
		"Memory":           func(p *api.Program) { p.Memory = 1<<16 + 1 },
		"Data":             func(p *api.Program) { p.Data = make([]byte, 9) },
		"Args":             func(p *api.Program) { p.Funcs[1].Args = 17 },
		"Locals":           func(p *api.Program) { p.Funcs[1].Locals = 65 },
		"Results":          func(p *api.Program) { p.Funcs[1].Results = 2 },
		"no code":          func(p *api.Program) { p.Funcs[1].Code = nil },
		"no instruction":   func(p *api.Program) { p.Funcs[1].Code[0].Op = api.ICount },
		"no operand":       func(p *api.Program) { p.Funcs[1].Code[1].A = 1 },
		"first: Args":      func(p *api.Program) { p.Funcs[0].Args, p.Funcs[0].Locals = 1, 1 },
		"first: Results":   func(p *api.Program) { p.Funcs[0].Results = 0 },
		"a jump":           func(p *api.Program) { p.Funcs[1].Code[0] = api.Instr{Op: api.IJump, A: 2} },
		"a local":          func(p *api.Program) { p.Funcs[1].Code[0].A = 2 },
		"a function":       func(p *api.Program) { p.Funcs[0].Code[1].A = 2 },
		"an operand wants": func(p *api.Program) { p.Funcs[0].Code[0].Op, p.Funcs[0].Code[0].A = api.INop, 0 },
		"two heights": func(p *api.Program) {
			p.Funcs[1].Code = whole("func f 0 0 1 | num 1 | zero 0 | num 1 | jump 0").Funcs[0].Code
		},
		"off the end":    func(p *api.Program) { p.Funcs[1].Code = p.Funcs[1].Code[:1] },
		"a return":       func(p *api.Program) { p.Funcs[1].Results = 0 },
		"nothing at all": func(p *api.Program) { *p = api.Program{} },
	}
	for what, wrong := range change {
		p := whole("memory 8 | func f 0 0 1 | num 1 | call g | ret | func g 1 2 1 | get 0 | ret")
		wrong(&p)
		for _, l := range []api.Limits{wide(), {}, {Fuel: -1, Memory: -1, Stack: -1}} {
			f := files()
			was := lying(f)
			if m, e := vm.New(p, f, l); m != nil || e != api.ErrVerify {
				t.Errorf("P1501: New with %s: %v, %v", what, m, e)
			}
			is(t, "P4: files behind ErrVerify", lying(f), was)
		}
	}
}

// Where a function that is never called, or a place that is never reached, is wrong, so is the program.
func TestRefusedUnreached(t *testing.T) {
	p := whole("func f 0 0 1 | num 1 | ret | func g 0 0 0 | pop | ret")
	if m, e := vm.New(p, files(), wide()); m != nil || e != api.ErrVerify {
		t.Error("P1501: a function that is not called:", e)
	}
	p = whole("func f 0 0 1 | num 1 | ret | get 3 | ret")
	if m, e := vm.New(p, files(), wide()); m != nil || e != api.ErrVerify {
		t.Error("P1501: a place that is not reached:", e)
	}
	made(t, whole("func f 0 0 1 | num 1 | ret | pop | pop"), files(), wide())
}

func TestBegins(t *testing.T) {
	m := made(t, whole(`memory 5 | data "ab" | func f 0 3 1 | num 1 | ret`), files(), wide())
	is(t, "P1501: as it begins", seen(m, 5), line(api.Outcome{}, 0, api.Spot{}, nil, nil, []int{0, 0, 0}, 4, []byte("ab\x00\x00\x00"), nil))
	is(t, "P1501: its files", itemText(m.Files()), itemText(files().Items()))
	m = made(t, whole(`func f 0 0 1 | num 1 | ret`), filesOf(api.Quota{}), api.Limits{Stack: 1})
	is(t, "P1501: the least", seen(m, 0), line(api.Outcome{}, 0, api.Spot{}, nil, nil, nil, 1, nil, nil))
	is(t, "P1501: no files", len(m.Files()), 0)
	p := whole("memory 65536 | func f 0 64 1 | num 1 | ret")
	p.Data = make([]byte, 1<<16)
	p.Data[1<<16-1] = 7
	m = made(t, p, files(), wide())
	b, _ := m.Memory(1<<16-2, 2)
	is(t, "P1501: the greatest", fmt.Sprint(b, m.Taken(), len(m.Locals()), m.End()), fmt.Sprint("[0 7] 65 64 ", api.Outcome{}))
}

// numbers are any that a limit may be.
func numbers() []int {
	return []int{math.MinInt, math.MinInt + 1, -1 << 32, -2, -1, 0, 1, 2, 3, 4, 5, 6, 7, 8, 1 << 16, 1 << 32, math.MaxInt - 1, math.MaxInt}
}

// New ends the run where Memory or the first call is more than may be; Memory first.
func TestNewEnds(t *testing.T) {
	for _, size := range []int{0, 1, 5} {
		for _, locals := range []int{0, 1, 4} {
			p := whole(fmt.Sprintf("memory %d | func f 0 %d 1 | num 1 | ret", size, locals))
			if size > 1 {
				p.Data = []byte("ab")
			}
			all := made(t, p, files(), wide())
			memory, _ := all.Memory(0, size)
			for _, m := range numbers() {
				for _, s := range numbers() {
					for _, fuel := range []int{math.MinInt, -1, 0, 1, 9, math.MaxInt} {
						x := begun(t, p, files(), api.Limits{Fuel: fuel, Memory: m, Stack: s})
						want := api.TNone
						if size > m {
							want = api.TMemory
						} else if locals+1 > s {
							want = api.TStack
						}
						is(t, "P1501: how New ended it", x.m.End().Trap, want)
						if want == api.TNone {
							x.run(t, 9)
							continue
						}
						is(t, "P1506: of a run that New ended", seen(x.m, size), line(trap(want, 0), 0, api.Spot{}, nil, nil, nil, 0, memory, nil))
						is(t, "P1506: its files", itemText(x.m.Files()), itemText(files().Items()))
						is(t, "P1502: Step of it", x.m.Step(), false)
						is(t, "P1504: Run of it", x.m.Run(5), 0)
						is(t, "P1506: of it, behind Step and Run", seen(x.m, size), line(trap(want, 0), 0, api.Spot{}, nil, nil, nil, 0, memory, nil))
						x.twin().alike(t, "P1508: its twin")
					}
				}
			}
		}
	}
}

// Just so much, and one more.
func TestJustSoMuch(t *testing.T) {
	p := whole("memory 40 | func f 0 6 1 | num 1 | ret")
	for _, c := range []struct {
		memory, stack int
		want          api.Outcome
	}{
		{40, 8, halt(1, 2)}, {41, 9, halt(1, 2)},
		{40, 7, trap(api.TStack, 1)}, {40, 6, trap(api.TStack, 0)}, {39, 7, trap(api.TMemory, 0)},
		{39, 6, trap(api.TMemory, 0)}, {-1, -1, trap(api.TMemory, 0)}, {40, -1, trap(api.TStack, 0)},
	} {
		ends(t, fmt.Sprint("P1501: limits ", c.memory, c.stack), p, api.Limits{Fuel: 9, Memory: c.memory, Stack: c.stack}, c.want)
	}
}

// The other limits count for nothing here.
func TestOtherLimits(t *testing.T) {
	p := whole(`memory 8 | data "new" | func f 0 0 1 | num 0 | num 3 | num 1 | sys open | ret`)
	for _, n := range numbers() {
		l := api.Limits{Fuel: 99, Memory: 8, Stack: 9, Bytes: n, Files: n, Open: n, Nodes: n, Depth: n}
		ends(t, "other limits", p, l, halt(0, 8))
	}
}

// P1: a machine that nobody made has ended, and has nothing.
func TestNobodysMachine(t *testing.T) {
	for _, m := range []*vm.Machine{new(vm.Machine), new(vm.Machine).Twin()} {
		is(t, "nobody's Step", m.Step(), false)
		is(t, "nobody's Run", m.Run(9), 0)
		is(t, "nobody's", seen(m, 0), line(api.Outcome{}, 0, api.Spot{}, nil, nil, nil, 0, nil, nil))
		is(t, "nobody's files", len(m.Files()), 0)
		if b, e := m.Memory(0, 1); e != api.ErrArg || len(b) > 0 {
			t.Error("nobody's Memory:", b, e)
		}
	}
}
