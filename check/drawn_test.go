package check_test

import (
	"math/rand/v2"
	"testing"

	"retort/api"
)

// drawer draws functions whose heights fit: each place has a height of its own from the beginning on, and jumps name places that have the one that they leave.
type drawer struct {
	r     *rand.Rand
	p     api.Program
	calls func(r *rand.Rand, from, functions int) int // which function an ICall names; -1: none
	back  bool                                        // jumps may name places ahead of theirs
}

// onward names only functions behind the one that calls.
func onward(r *rand.Rand, from, functions int) int {
	if from == functions-1 {
		return -1
	}
	return from + 1 + r.IntN(functions-1-from)
}

// anyone names any function, also the one that calls.
func anyone(r *rand.Rand, from, functions int) int { return r.IntN(functions) }

func drawnProgram(r *rand.Rand) api.Program {
	d := &drawer{r: r, calls: onward, back: r.IntN(2) == 0, p: api.Program{Memory: 8}}
	if r.IntN(4) == 0 {
		d.calls = anyone
	}
	for i := range 1 + r.IntN(5) {
		f := api.Func{Args: r.IntN(4), Results: r.IntN(2)}
		if i == 0 {
			f.Args, f.Results = 0, 1
		}
		f.Locals = f.Args + r.IntN(4)
		d.p.Funcs = append(d.p.Funcs, f)
	}
	for i := range d.p.Funcs {
		d.fill(i)
	}
	return d.p
}

func (d *drawer) fill(i int) {
	f := &d.p.Funcs[i]
	heights := []int{0}
	for range 1 + d.r.IntN(24) {
		h := heights[len(heights)-1]
		x, behind := d.draw(i, h)
		f.Code = append(f.Code, x)
		heights = append(heights, behind)
	}
	f.Code = append(f.Code, d.last(*f, heights[len(heights)-1])...)
	for len(heights) < len(f.Code) {
		heights = append(heights, heights[len(heights)-1]+1) // behind each of the INums ahead of the end
	}
	d.aim(f, heights)
}

// last are instructions that end a function at a height.
func (d *drawer) last(f api.Func, h int) []api.Instr {
	switch {
	case h == f.Results:
		return code(api.IRet, 0)
	case h == 0:
		return code(api.INum, 5, []int{api.IHalt, api.IAbort, api.IRet}[d.r.IntN(2+f.Results)], 0)
	}
	return code([]int{api.IHalt, api.IAbort}[d.r.IntN(2)], 0)
}

// draw tells an instruction that may stand at a height, and the one behind it; a jump is not aimed yet.
func (d *drawer) draw(i, h int) (api.Instr, int) {
	f := d.p.Funcs[i]
	for {
		x := one(d.r.IntN(api.ICount), 0)
		if d.r.IntN(3) == 0 {
			x.Op = []int{api.INum, api.IZero, api.INotZero, api.ICall, api.IJump}[d.r.IntN(5)]
		}
		switch x.Op {
		case api.INum:
			x.A = d.r.IntN(100) - 50
		case api.ICopy:
			x.A = d.r.IntN(3)
		case api.IGet, api.ISet:
			if f.Locals == 0 {
				continue
			}
			x.A = d.r.IntN(f.Locals)
		case api.ISys:
			x.A = d.r.IntN(api.SCount)
		case api.ICall:
			if x.A = d.calls(d.r, i, len(d.p.Funcs)); x.A < 0 {
				continue
			}
		case api.IRet:
			if h != f.Results {
				continue
			}
		case api.IHalt, api.IAbort:
			if d.r.IntN(3) > 0 {
				continue
			}
		}
		takes, wants, gives := amounts(d.p, f, x)
		if wants > h || h-takes+gives > 256 {
			continue
		}
		behind := h - takes + gives
		if x.Op == api.IHalt || x.Op == api.IAbort || x.Op == api.IRet || x.Op == api.IJump {
			behind = d.r.IntN(3) // of a place to which only a jump comes
		}
		return x, behind
	}
}

// aim lets each jump name a place of its height. Where there is none the run ends, or an operand is dropped.
func (d *drawer) aim(f *api.Func, heights []int) {
	for at, x := range f.Code {
		leaves := heights[at]
		switch x.Op {
		case api.IZero, api.INotZero:
			leaves--
		case api.IJump:
		default:
			continue
		}
		var l []int
		for to, h := range heights[:len(f.Code)] {
			if h == leaves && (d.back || to > at) {
				l = append(l, to)
			}
		}
		switch {
		case len(l) > 0:
			f.Code[at].A = l[d.r.IntN(len(l))]
		case x.Op != api.IJump:
			f.Code[at] = one(api.IPop, 0)
		case leaves > 0:
			f.Code[at] = one(api.IHalt, 0)
		case f.Results == 0:
			f.Code[at] = one(api.IRet, 0)
		default:
			f.Code[at] = one(api.IJump, at)
		}
	}
}

// anyInstr is one that may be, with an operand that often fits small programs.
func anyInstr(r *rand.Rand) api.Instr {
	x := one(r.IntN(api.ICount), 0)
	switch x.Op {
	case api.INum:
		x.A = r.IntN(9) - 4
	case api.ICopy, api.IGet, api.ISet, api.ISys, api.ICall:
		x.A = r.IntN(5)
	case api.IJump, api.IZero, api.INotZero:
		x.A = r.IntN(20)
	}
	return x
}

// bent has a few parts of a program changed.
func bent(r *rand.Rand, p api.Program) api.Program {
	for range 1 + r.IntN(3) {
		f := &p.Funcs[r.IntN(len(p.Funcs))]
		switch r.IntN(8) {
		case 0:
			f.Results = r.IntN(2)
		case 1:
			f.Args = r.IntN(4)
		case 2:
			f.Locals = r.IntN(6)
		case 3:
			f.Code = f.Code[:r.IntN(len(f.Code)+1)]
		default:
			if len(f.Code) > 0 {
				f.Code[r.IntN(len(f.Code))] = anyInstr(r)
			}
		}
	}
	return p
}

// wild has short codes of any instructions.
func wild(r *rand.Rand) api.Program {
	p := api.Program{Memory: 8}
	for range 1 + r.IntN(3) {
		f := api.Func{Args: r.IntN(2), Locals: 1 + r.IntN(3), Results: r.IntN(2)}
		for range 1 + r.IntN(5) {
			f.Code = append(f.Code, anyInstr(r))
		}
		p.Funcs = append(p.Funcs, f)
	}
	p.Funcs[0].Args, p.Funcs[0].Results = 0, 1
	return p
}

// Programs are drawn as the tests need them: many that are taken, of all kinds, and each fault.
func TestDrawing(t *testing.T) {
	r := seeded(1)
	seen := map[string]int{}
	for range 4000 {
		p := drawnProgram(r)
		facts, x := told(p, least)
		if x.Err != api.OK {
			t.Fatalf("drawn: %v: %v", p, x)
		}
		if facts.Cells == -1 {
			seen["called again"]++
		} else if facts.Cost == -1 {
			seen["loops"]++
		} else {
			seen["bound"]++
		}
		for i := range p.Funcs {
			if !facts.Live[i] {
				seen["not live"]++
			}
		}
		for _, q := range []api.Program{bent(r, p), wild(r)} {
			_, x = told(q, least)
			seen["changed "+text(x.Err)]++
		}
	}
	t.Log(seen)
	for _, what := range []string{"called again", "loops", "bound", "not live", "changed ok", "changed jump", "changed local", "changed call", "changed under", "changed join", "changed end", "changed ret", "changed prog", "changed first"} {
		if seen[what] < 20 {
			t.Errorf("%s: drawn %d times alone", what, seen[what])
		}
	}
}
