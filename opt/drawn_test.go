package opt_test

import (
	"fmt"
	"math/rand/v2"
	"slices"
	"strconv"
	"strings"
	"testing"

	"retort/api"
	"retort/check"
	"retort/op"
	"retort/opt"
)

// drawer draws functions whose heights fit: each place has a height of its own from the beginning on, and jumps name places that have the one that they leave.
type drawer struct {
	r *rand.Rand
	p api.Program
}

// drawnProgram has paths in its memory.
func drawnProgram(r *rand.Rand) api.Program {
	d := &drawer{r: r, p: api.Program{Memory: 40, Data: []byte("d/xo12..new/ydd/e")}}
	for i := range 1 + r.IntN(4) {
		f := api.Func{Args: r.IntN(3), Results: r.IntN(2)}
		if i == 0 {
			f.Args, f.Results = 0, 1
		}
		f.Locals = f.Args + r.IntN(4)
		d.p.Funcs = append(d.p.Funcs, f)
	}
	for i := range d.p.Funcs {
		d.fill(i)
	}
	return d.p
}

// amounts tells how many operands an instruction wants, takes and gives.
func (d *drawer) amounts(f api.Func, x api.Instr) (wants, takes, gives int) {
	s, _ := op.Of(x.Op)
	takes, gives = s.Takes, s.Gives
	switch x.Op {
	case api.ICall:
		takes, gives = d.p.Funcs[x.A].Args, d.p.Funcs[x.A].Results
	case api.IRet:
		takes = f.Results
	case api.ISys:
		s, _ = op.Sys(x.A)
		takes = s.Takes
	case api.ICopy:
		return x.A + 1, 0, 1
	}
	return takes, takes, gives
}

func (d *drawer) fill(i int) {
	f := &d.p.Funcs[i]
	heights := []int{0}
	put := func(x api.Instr) bool {
		h := heights[len(heights)-1]
		wants, takes, gives := d.amounts(*f, x)
		if wants > h || x.Op == api.IRet && h != f.Results {
			return false
		}
		h += gives - takes
		if slices.Contains([]int{api.IHalt, api.IAbort, api.IRet, api.IJump}, x.Op) {
			h = d.r.IntN(3) // of a place to which only a jump comes
		}
		f.Code = append(f.Code, x)
		heights = append(heights, h)
		return true
	}
	for range 2 + d.r.IntN(16) {
		for _, x := range d.row(i) {
			if !put(x) {
				break
			}
		}
	}
	switch h := heights[len(heights)-1]; {
	case h == f.Results:
		put(api.Instr{Op: api.IRet})
	case h == 0:
		put(api.Instr{Op: api.INum, A: 3})
		put(api.Instr{Op: api.IHalt})
	default:
		put(api.Instr{Op: []int{api.IHalt, api.IAbort}[d.r.IntN(2)]})
	}
	d.aim(f, heights)
}

// row is one of the table's, or a call of files, of a function, or any instruction.
func (d *drawer) row(i int) []api.Instr {
	r := d.r
	at := r.IntN(34)
	locals := d.p.Funcs[i].Locals
	switch r.IntN(16) {
	case 0, 1, 2, 3, 4:
		return d.ofLine(lines[r.IntN(len(lines))], locals)
	case 5:
		path := [][]int{{0, 3}, {3, 1}, {8, 5}, {8, 3}, {13, 1}}[r.IntN(5)]
		return row(api.ISys, path[0], path[1], []int{0, 0, 1, 3, 7}[r.IntN(5)], api.SOpen)
	case 6:
		return row(api.ISys, r.IntN(2), at, r.IntN(8), []int{api.SRead, api.SWrite}[r.IntN(2)])
	case 7:
		g := r.IntN(len(d.p.Funcs))
		l := []int{}
		for range d.p.Funcs[g].Args {
			l = append(l, r.IntN(4)-1)
		}
		return row(api.ICall, append(l, g)...)
	case 8:
		return row([]int{api.INop, api.IJump, api.IJump}[r.IntN(3)], 0)
	case 9, 10:
		return row([]int{api.IZero, api.INotZero, api.IZero}[r.IntN(3)], 0)
	case 11:
		return row([]int{api.ISize, api.ISize, api.INop}[r.IntN(3)], 0)
	case 12:
		return row(api.INum, d.number())
	}
	return []api.Instr{d.any(i)}
}

// row are INums of all numbers but the last, and an instruction with that one.
func row(op int, nums ...int) []api.Instr {
	var l []api.Instr
	for _, n := range nums[:len(nums)-1] {
		l = append(l, api.Instr{Op: api.INum, A: n})
	}
	return append(l, api.Instr{Op: op, A: nums[len(nums)-1]})
}

func (d *drawer) number() int {
	if d.r.IntN(6) == 0 {
		l := words()
		return l[d.r.IntN(len(l))]
	}
	return d.r.IntN(4) - 1
}

// ofLine is a line of the table, its letters any operands.
func (d *drawer) ofLine(l line, locals int) []api.Instr {
	var row []api.Instr
	a := d.r.IntN(max(1, locals))
	for _, p := range piecesOf(l.row) {
		n, there := op.Named(p.name)
		for !there {
			n = d.r.IntN(api.ICount)
			there = p.name == "ONE" && n >= api.INeg || p.name == "TWO" && n >= api.IAdd
		}
		s, _ := op.Of(n)
		x := api.Instr{Op: n}
		k, err := strconv.Atoi(p.operand)
		switch {
		case s.Operand == op.OLocal && locals == 0:
			return row
		case s.Operand == op.OLocal:
			x.A = a
		case err == nil:
			x.A = k
		case s.Operand == op.ONum:
			x.A = d.number()
		}
		row = append(row, x)
	}
	if d.r.IntN(9) == 0 {
		row = slices.Insert(row, d.r.IntN(len(row)), api.Instr{Op: api.INop})
	}
	return row
}

// any is one instruction, whose operands may be wanting.
func (d *drawer) any(i int) api.Instr {
	x := api.Instr{Op: d.r.IntN(api.ICount)}
	locals := d.p.Funcs[i].Locals
	switch x.Op {
	case api.INum:
		x.A = d.number()
	case api.ICopy:
		x.A = d.r.IntN(2)
	case api.IGet, api.ISet:
		if locals == 0 {
			return api.Instr{Op: api.ISize}
		}
		x.A = d.r.IntN(locals)
	case api.ISys:
		x.A = d.r.IntN(api.SCount)
	case api.ICall:
		x.A = d.r.IntN(len(d.p.Funcs))
	case api.IHalt, api.IAbort:
		if d.r.IntN(3) > 0 {
			return api.Instr{Op: api.ISwap}
		}
	}
	return x
}

// aim lets each jump name a place of its height; where there is none it is something else.
func (d *drawer) aim(f *api.Func, heights []int) {
	for at, x := range f.Code {
		leaves := heights[at]
		switch x.Op {
		case api.IZero, api.INotZero:
			leaves--
		case api.IJump:
		default:
			continue
		}
		var l, passing []int
		for to, h := range heights[:len(f.Code)] {
			if h != leaves || to <= at && d.r.IntN(3) > 0 {
				continue
			}
			l = append(l, to)
			if y := f.Code[to]; y.Op == api.INop || y.Op == api.IJump || y.Op == api.IRet || to == at+1 {
				passing = append(passing, to)
			}
		}
		if len(passing) > 0 && d.r.IntN(3) > 0 {
			l = passing
		}
		switch {
		case len(l) > 0:
			f.Code[at].A = l[d.r.IntN(len(l))]
		case x.Op != api.IJump:
			f.Code[at] = api.Instr{Op: api.IPop}
		case leaves > 0:
			f.Code[at] = api.Instr{Op: api.IHalt}
		default:
			f.Code[at].A = at
		}
	}
}

// Programs that are drawn are brought to their end as the chapter says, step by step.
func TestDrawnPrograms(t *testing.T) {
	t.Parallel()
	rounds := uint64(8000)
	if testing.Short() {
		rounds = 1000
	}
	met, most, fewer := map[string]int{}, 0, 0
	for n := range rounds {
		p := drawnProgram(seeded(n))
		if _, fault := check.Run(p); fault.Err != api.OK {
			t.Fatalf("drawn: %s: %v", said(p), fault)
		}
		q, row := held(t, p)
		for i, what := range row {
			met[fmt.Sprint("does ", what)]++
			if i > 0 && what == opt.LDead && row[i-1] != opt.LDead {
				met[fmt.Sprint("dead behind ", row[i-1])]++
			}
			if i > 0 && what == opt.LThread && row[i-1] > opt.LThread {
				met["thread behind a row"]++
			}
		}
		most = max(most, len(row))
		if len(q.Funcs) < len(p.Funcs) {
			fewer++
		}
		if len(row) == 0 {
			met["nothing"]++
		}
	}
	t.Log(met, most, fewer)
	if testing.Short() {
		return
	}
	for _, what := range []string{"does 1", "does 2", "does 3", "does 4", "does 5", "dead behind 3", "dead behind 4", "thread behind a row", "nothing"} {
		if met[what] < 40 {
			t.Errorf("%s: %d times only", what, met[what])
		}
	}
	if most < 20 || fewer < 100 {
		t.Errorf("at most %d steps; %d times fewer functions", most, fewer)
	}
}

// smallCodes goes through all codes of so many instructions.
func smallCodes(t testing.TB, names string, locals, n int) (taken int) {
	var l []api.Instr
	for s := range strings.SplitSeq(names, "|") {
		words := append(strings.Fields(s), "0")
		in, there := op.Named(words[0])
		a, err := strconv.Atoi(words[1])
		if !there || err != nil {
			t.Fatal(s)
		}
		l = append(l, api.Instr{Op: in, A: a})
	}
	code := make([]api.Instr, n)
	p := api.Program{Memory: 8, Funcs: []api.Func{{Locals: locals, Results: 1, Code: code}}}
	var fill func(at int)
	fill = func(at int) {
		if at < n {
			for _, x := range l {
				code[at] = x
				fill(at + 1)
			}
			return
		}
		if _, fault := check.Run(p); fault.Err == api.OK {
			held(t, p)
			taken++
		}
	}
	fill(0)
	return taken
}

// All small codes of some instructions.
func TestSmallCodes(t *testing.T) {
	ways := "nop | size | ret | zero 0 | zero 2 | zero 4 | jump 0 | jump 1 | jump 2 | jump 3"
	all := "nop | num 0 | num 1 | ret | halt | pop | zero 0 | zero 2 | zero 3 | notzero 2 | notzero 4 | jump 0 | jump 1 | jump 3 | eq | add | mul | neg | swap | copy 0 | get 0 | set 0"
	for _, x := range []struct {
		names    string
		n, least int
	}{{ways, 3, 40}, {ways, 4, 900}, {ways, 5, 10000}, {all, 1, 1}, {all, 2, 30}, {all, 3, 600}, {all, 4, 18000}, {"nop | num 0 | ret | notzero 3 | jump 2 | jump 5", 6, 900}} {
		if testing.Short() && x.n > 3 {
			continue
		}
		t.Run(fmt.Sprint(x.n, " of ", x.names), func(t *testing.T) {
			t.Parallel()
			if n := smallCodes(t, x.names, 1, x.n); n < x.least {
				t.Errorf("%d are taken", n)
			}
		})
	}
}
