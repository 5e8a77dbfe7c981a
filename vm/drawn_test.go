package vm_test

import (
	"fmt"
	"math/rand/v2"
	"slices"
	"strings"
	"testing"

	"retort/api"
	"retort/check"
	"retort/op"
	"retort/vfs"
)

// drawer draws functions whose heights fit: each place has a height of its own from the beginning on, and jumps name places that have the one that they leave.
type drawer struct {
	r *rand.Rand
	p api.Program
}

// drawnProgram has paths in its memory, as filing has.
func drawnProgram(r *rand.Rand) api.Program {
	d := &drawer{r: r, p: api.Program{Memory: 40, Data: []byte("d/xo12..new/ydd/e")}}
	if r.IntN(9) == 0 {
		d.p.Memory, d.p.Data = r.IntN(20), nil
	}
	for i := range 1 + r.IntN(4) {
		f := api.Func{Args: r.IntN(4), Results: r.IntN(2)}
		if i == 0 {
			f.Args, f.Results = 0, 1
		}
		f.Locals = f.Args + r.IntN(4)
		d.p.Funcs = append(d.p.Funcs, f)
	}
	for i := range d.p.Funcs {
		d.fill(i)
	}
	return d.p
}

// amounts tells how many operands an instruction wants, takes and gives.
func (d *drawer) amounts(f api.Func, x api.Instr) (wants, takes, gives int) {
	s, _ := op.Of(x.Op)
	takes, gives = s.Takes, s.Gives
	switch x.Op {
	case api.ICall:
		takes, gives = d.p.Funcs[x.A].Args, d.p.Funcs[x.A].Results
	case api.IRet:
		takes = f.Results
	case api.ISys:
		s, _ = op.Sys(x.A)
		takes = s.Takes
	case api.ICopy:
		return x.A + 1, 0, 1
	}
	return takes, takes, gives
}

func (d *drawer) fill(i int) {
	f := &d.p.Funcs[i]
	heights := []int{0}
	put := func(x api.Instr) bool {
		h := heights[len(heights)-1]
		wants, takes, gives := d.amounts(*f, x)
		if wants > h || x.Op == api.IRet && h != f.Results {
			return false
		}
		h += gives - takes
		if slices.Contains([]int{api.IHalt, api.IAbort, api.IRet, api.IJump}, x.Op) {
			h = d.r.IntN(3) // of a place to which only a jump comes
		}
		f.Code = append(f.Code, x)
		heights = append(heights, h)
		return true
	}
	for range 2 + d.r.IntN(20) {
		for _, x := range d.row(i) {
			if !put(x) {
				break
			}
		}
	}
	switch h := heights[len(heights)-1]; {
	case h == f.Results:
		put(api.Instr{Op: api.IRet})
	case h == 0:
		put(api.Instr{Op: api.INum, A: 3})
		put(api.Instr{Op: api.IHalt})
	default:
		put(api.Instr{Op: []int{api.IHalt, api.IAbort}[d.r.IntN(2)]})
	}
	d.aim(f, heights)
}

// row is one instruction, or one with the operands that it needs ahead of it.
func (d *drawer) row(i int) []api.Instr {
	r := d.r
	num := func(n int) api.Instr { return api.Instr{Op: api.INum, A: n} }
	do := func(op int, nums ...int) []api.Instr {
		var l []api.Instr
		for _, n := range nums[:len(nums)-1] {
			l = append(l, num(n))
		}
		return append(l, api.Instr{Op: op, A: nums[len(nums)-1]})
	}
	at := r.IntN(34)
	switch r.IntN(18) {
	case 0, 1:
		path := [][]int{{0, 3}, {3, 1}, {8, 5}, {8, 3}, {13, 1}, {at, r.IntN(5)}}[r.IntN(6)]
		return do(api.ISys, path[0], path[1], []int{0, 0, 0, 1, 2, 3, 5, 7, 9}[r.IntN(9)], api.SOpen)
	case 2:
		return do(api.ISys, r.IntN(3), at, r.IntN(8), api.SRead)
	case 3:
		return do(api.ISys, r.IntN(3), at, r.IntN(8), api.SWrite)
	case 4:
		path := [][]int{{0, 0}, {13, 1}, {14, 3}, {3, 1}}[r.IntN(4)]
		return do(api.ISys, path[0], path[1], 17+r.IntN(16), r.IntN(9), api.SList)
	case 5:
		return do(api.ISys, r.IntN(3), api.SClose)
	case 6:
		return do([]int{api.ILoad, api.ILoad8}[r.IntN(2)], at, 0)
	case 7:
		return do([]int{api.IStore, api.IStore8}[r.IntN(2)], at, r.IntN(600)-300, 0)
	case 8, 9:
		g := r.IntN(len(d.p.Funcs))
		l := []int{}
		for range d.p.Funcs[g].Args {
			l = append(l, r.IntN(9)-4)
		}
		return do(api.ICall, append(l, g)...)
	case 10:
		return do([]int{api.IZero, api.INotZero}[r.IntN(2)], r.IntN(3)-1, 0)
	case 11:
		return []api.Instr{num(r.IntN(9) - 4)}
	case 12:
		if d.p.Funcs[i].Locals > 0 {
			return do(api.IGet, r.IntN(d.p.Funcs[i].Locals))
		}
		return do(api.ISize, 0)
	case 13:
		return do(api.ICopy, r.IntN(2))
	}
	return []api.Instr{d.any(i)}
}

// any is one instruction, whose operands may be wanting.
func (d *drawer) any(i int) api.Instr {
	x := api.Instr{Op: d.r.IntN(api.ICount)}
	locals := d.p.Funcs[i].Locals
	switch x.Op {
	case api.INum:
		x.A = d.r.IntN(100) - 50
	case api.ICopy:
		x.A = d.r.IntN(3)
	case api.IGet, api.ISet:
		if locals == 0 {
			return api.Instr{Op: api.ISize}
		}
		x.A = d.r.IntN(locals)
	case api.ISys:
		x.A = d.r.IntN(api.SCount)
	case api.ICall:
		x.A = d.r.IntN(len(d.p.Funcs))
	case api.IHalt, api.IAbort:
		if d.r.IntN(3) > 0 {
			return api.Instr{Op: api.ISwap}
		}
	}
	return x
}

// aim lets each jump name a place of its height; where there is none it is something else.
func (d *drawer) aim(f *api.Func, heights []int) {
	for at, x := range f.Code {
		leaves := heights[at]
		switch x.Op {
		case api.IZero, api.INotZero:
			leaves--
		case api.IJump:
		default:
			continue
		}
		var l []int
		for to, h := range heights[:len(f.Code)] {
			if h == leaves && (to > at || d.r.IntN(4) == 0) {
				l = append(l, to)
			}
		}
		switch {
		case len(l) > 0:
			f.Code[at].A = l[d.r.IntN(len(l))]
		case x.Op != api.IJump:
			f.Code[at] = api.Instr{Op: api.IPop}
		case leaves > 0:
			f.Code[at] = api.Instr{Op: api.IHalt}
		default:
			f.Code[at].A = at
		}
	}
}

// held looks ahead of a step at what check tells of the program (P1305, P1509).
func held(t testing.TB, x *both, facts api.Facts, steps int) {
	t.Helper()
	at := x.m.Spot()
	if x.m.Taken() == 0 {
		return
	}
	if n := len(x.m.Stack()); n != facts.Heights[at.Func][at.At] {
		t.Fatalf("P1509: %d operands at %v of %s; Heights %v", n, at, brief(x.o.p), facts.Heights)
	}
	for _, c := range append(x.m.Calls(), at) {
		if !facts.Live[c.Func] {
			t.Fatalf("P1305: function %d is under way in %s", c.Func, brief(x.o.p))
		}
	}
	if facts.Cells >= 0 && x.m.Taken() > facts.Cells || x.m.Taken() > x.o.l.Stack {
		t.Fatalf("P1509: Taken %d; Cells %d, Stack %d of %s", x.m.Taken(), facts.Cells, x.o.l.Stack, brief(x.o.p))
	}
	if x.m.Used() > max(x.o.l.Fuel, 0) || facts.Cost >= 0 && steps > facts.Cost {
		t.Fatalf("P1509: Used %d of %d; %d steps, Cost %d of %s", x.m.Used(), x.o.l.Fuel, steps, facts.Cost, brief(x.o.p))
	}
}

// went runs a program to its end, some steps at most, with all looks; it tells the machine.
func went(t testing.TB, p api.Program, f *vfs.FS, l api.Limits, facts api.Facts, most int) *both {
	t.Helper()
	x := begun(t, p, f, l)
	costs := 0
	for steps := range most {
		held(t, x, facts, steps)
		used := x.m.Used()
		goesOn := x.step(t)
		if x.m.Used() > used {
			costs++
		}
		if !goesOn {
			break
		}
	}
	if costs > max(l.Fuel, 0) {
		t.Fatalf("P1509: %d steps that cost anything; Fuel %d", costs, l.Fuel)
	}
	return x
}

// wayOf says how a run ended, and by which instruction.
func wayOf(x *both) string {
	end := x.m.End()
	switch {
	case end.End == 0:
		return "goes on"
	case x.m.Taken() == 0:
		return "New: " + end.Trap.Word()
	}
	at := x.m.Spot()
	in := x.o.p.Funcs[at.Func].Code[at.At]
	s, _ := op.Of(in.Op)
	if end.Trap == api.TFuel && x.m.Used() == max(0, x.o.l.Fuel) {
		return "fuel"
	}
	return fmt.Sprint(s.Name, " ", end.Trap.Word())
}

func drawnLimits(r *rand.Rand) api.Limits {
	l := api.Limits{Fuel: 200, Memory: 40, Stack: 60}
	if r.IntN(3) == 0 {
		l.Fuel = r.IntN(60) - 1
	}
	if r.IntN(3) == 0 {
		l.Stack = r.IntN(14)
	}
	if r.IntN(40) == 0 {
		l.Memory = r.IntN(40)
	}
	return l
}

// Programs that are drawn go, step by step, as the model has it, and as check says of them.
func TestDrawnPrograms(t *testing.T) {
	rounds := uint64(6000)
	if testing.Short() {
		rounds = 600
	}
	met, touched, most := map[string]int{}, map[string]int{}, 0
	for n := range rounds {
		r := seeded(n)
		p := drawnProgram(r)
		facts, fault := check.Run(p)
		if fault.Err != api.OK {
			t.Fatalf("drawn: %v: %v", p, fault)
		}
		x := went(t, p, files(), drawnLimits(r), facts, 250)
		met[wayOf(x)]++
		for _, y := range x.m.Touched() {
			touched[fmt.Sprint(y.Call, y.Answer < 0)]++
		}
		most = max(most, len(x.m.Calls()))
	}
	t.Log(met, touched, most)
	if testing.Short() {
		return
	}
	for _, what := range []string{"New: memory", "New: stack", "halt none", "ret none", "abort abort", "fuel", "sys fuel", "sys bounds", "num stack", "call stack", "get stack", "copy stack", "size stack",
		"load bounds", "store bounds", "load8 bounds", "store8 bounds", "div divide", "rem divide", "toi float"} {
		if met[what] < 5 {
			t.Errorf("%s: drawn %d times only", what, met[what])
		}
	}
	for call := range api.SCount {
		for _, wrong := range []bool{false, true} {
			if k := fmt.Sprint(call, wrong); touched[k] < 50 {
				t.Errorf("call %s: drawn %d times only", k, touched[k])
			}
		}
	}
	if most < 5 {
		t.Errorf("at most %d calls within calls", most)
	}
}

// Twins of drawn runs, at drawn places, gone on in turn.
func TestDrawnTwins(t *testing.T) {
	for n := range uint64(300) {
		r := seeded(10000 + n)
		x := begun(t, drawnProgram(r), files(), drawnLimits(r))
		row := []*both{x}
		for range 60 {
			y := row[r.IntN(len(row))]
			y.run(t, r.IntN(6))
			if r.IntN(9) == 0 && len(row) < 5 {
				row = append(row, y.twin())
			}
			row[r.IntN(len(row))].alike(t, "P1508: twins")
		}
		for _, y := range row {
			y.run(t, 250)
		}
		for _, y := range row {
			y.alike(t, "P1508: twins at their end")
		}
	}
}

// inOrder reads a right program from any bytes: a byte of a head, or two of an instruction.
func inOrder(b []byte) api.Program {
	p := api.Program{Memory: 40, Data: []byte("d/xo12..new/ydd/e"), Funcs: []api.Func{{Results: 1}}}
	for len(b) > 1 && len(p.Funcs) < 9 {
		f := &p.Funcs[len(p.Funcs)-1]
		if b[0] >= 250 {
			p.Funcs = append(p.Funcs, api.Func{Args: int(b[1] % 3), Locals: int(b[1]%3 + b[1]/3%3), Results: int(b[1] / 9 % 2)})
		} else {
			x := api.Instr{Op: int(b[0]) % api.ICount, A: int(int8(b[1]))}
			s, _ := op.Of(x.Op)
			n := int(b[1])
			x.A = map[int]int{op.ONum: x.A, op.OLocal: n % 6, op.OJump: n, op.OFunc: n % 10, op.OSys: n % 5, op.OStack: n}[s.Operand]
			f.Code = append(f.Code, x)
		}
		b = b[2:]
	}
	for i := range p.Funcs {
		if len(p.Funcs[i].Code) == 0 {
			p.Funcs[i].Code = []api.Instr{{Op: api.IRet}}
		}
	}
	return p
}

// bytesOf is a program as inOrder reads it.
func bytesOf(p api.Program) []byte {
	var b []byte
	for i, g := range p.Funcs {
		if i > 0 {
			b = append(b, 255, byte(g.Args+3*min(2, g.Locals-g.Args)+9*g.Results))
		}
		for _, x := range g.Code {
			b = append(b, byte(x.Op), byte(x.A))
		}
	}
	return b
}

// FuzzMachine takes bytes as a program, and numbers as its limits.
func FuzzMachine(f *testing.F) {
	f.Add(bytesOf(filing("num 0 | num 3 | num 0 | sys open | num 20 | num 9 | sys read | ret")), 99, 40, 20)
	f.Add(bytesOf(whole("func f 0 0 1 | num 2 | call g | ret | func g 1 2 1 | get 0 | zero out | get 0 | num 1 | sub | call g | ret | out: num 1 | ret")), 60, 40, 20)
	for n := range uint64(30) {
		f.Add(bytesOf(drawnProgram(seeded(n))), 100, 40, 30)
	}
	f.Fuzz(func(t *testing.T, b []byte, fuel, memory, stack int) {
		if len(b) > 600 || stack > 1000 {
			return
		}
		p := inOrder(b)
		facts, fault := check.Run(p)
		if fault.Err != api.OK {
			begun(t, p, files(), wide())
			return
		}
		went(t, p, files(), api.Limits{Fuel: fuel, Memory: memory, Stack: stack}, facts, 200)
	})
}

// FuzzCall takes any args of a call of files.
func FuzzCall(f *testing.F) {
	f.Add("d/x", 0, 0, 3, 0, 0, 9)
	f.Add("d.......", 3, 0, 1, 0, 8, 9)
	f.Add("hello", 1, 0, 0, 5, 0, 5)
	f.Add("hello", 2, 1, 0, 5, 0, 5)
	f.Add("", 4, 1, 0, 0, 0, 0)
	f.Fuzz(func(t *testing.T, s string, call, a, b, c, d, most int) {
		args := []int{a, b, c, d}
		takes := []int{3, 3, 3, 4, 1}
		n := 4
		if i := slices.Index([]int{0, 1, 2, 3, 4}, call); i >= 0 {
			n = takes[i]
		}
		files := opened()
		memory := []byte(strings.Clone(s))
		asked(t, files, memory, call, args[:n], most)
		asked(t, files, memory, call, args[:n], most)
	})
}
