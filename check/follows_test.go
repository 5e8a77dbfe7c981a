package check_test

import (
	"fmt"
	"math/rand/v2"
	"slices"
	"testing"

	"retort/api"
	"retort/check"
	"retort/op"
)

// underWay is a call of a machine that knows how many operands there are, not which: a branch goes either way.
type underWay struct {
	f, at, operands int
	met             map[int]bool
}

// machine runs a program as chapter 15 says, but for words, memory and files; its branches are drawn. So each run of that chapter's machine is one that this one may have.
type machine struct {
	r     *rand.Rand
	p     api.Program
	calls []*underWay
	steps int
	most  int // cells
}

func machineOf(r *rand.Rand, p api.Program) *machine {
	m := &machine{r: r, p: p}
	m.call(0)
	return m
}

func (m *machine) call(f int) {
	m.calls = append(m.calls, &underWay{f: f, met: map[int]bool{}})
	m.count()
}

func (m *machine) now() *underWay { return m.calls[len(m.calls)-1] }

// count notes how many cells all calls take.
func (m *machine) count() {
	n := 0
	for _, c := range m.calls {
		n += 1 + m.p.Funcs[c.f].Locals + c.operands
	}
	m.most = max(m.most, n)
}

// step does one instruction, and tells whether the run goes on.
func (m *machine) step() bool {
	c := m.now()
	f := m.p.Funcs[c.f]
	x := f.Code[c.at]
	takes, _, gives := amounts(m.p, f, x)
	m.steps++
	c.met[c.at] = true
	switch x.Op {
	case api.IHalt, api.IAbort:
		return false
	case api.IRet:
		m.calls = m.calls[:len(m.calls)-1]
		if len(m.calls) == 0 {
			return false
		}
		m.now().operands += takes
	case api.ICall:
		c.operands -= takes
		c.at++
		m.call(x.A)
	default:
		c.operands += gives - takes
		c.at++
		if x.Op == api.IJump || (x.Op == api.IZero || x.Op == api.INotZero) && m.r.IntN(2) == 0 {
			c.at = x.A
		}
	}
	m.count()
	return true
}

// held looks at a machine ahead of a step.
func held(t *testing.T, m *machine, facts api.Facts) {
	t.Helper()
	c := m.now()
	f := m.p.Funcs[c.f]
	if c.operands != facts.Heights[c.f][c.at] {
		t.Fatalf("P1305: %d operands at {%d %d} of %s; Heights %v", c.operands, c.f, c.at, brief(m.p), facts.Heights)
	}
	if _, wants, _ := amounts(m.p, f, f.Code[c.at]); wants > c.operands || c.operands > facts.Tops[c.f] {
		t.Fatalf("P1305: %d operands at {%d %d} of %s: wanted %d, Tops %v", c.operands, c.f, c.at, brief(m.p), wants, facts.Tops)
	}
	for _, c := range m.calls {
		if !facts.Live[c.f] {
			t.Fatalf("P1305: %d is under way in %s; Live %v", c.f, brief(m.p), facts.Live)
		}
	}
	if c.met[c.at] && !slices.Contains(facts.Loops[c.f], c.at) {
		t.Fatalf("P1305: {%d %d} of %s comes again; Loops %v", c.f, c.at, brief(m.p), facts.Loops)
	}
}

// wentOn runs a program as far as some steps go, and tells how many cells and steps it took.
func wentOn(t *testing.T, r *rand.Rand, p api.Program, facts api.Facts) (int, int) {
	t.Helper()
	m := machineOf(r, p)
	for range 400 {
		held(t, m, facts)
		if !m.step() {
			break
		}
	}
	if facts.Cells >= 0 && m.most > facts.Cells || facts.Cost >= 0 && m.steps > facts.Cost {
		t.Fatalf("P1305: %d cells, %d steps of %s; Cells %d, Cost %d", m.most, m.steps, brief(p), facts.Cells, facts.Cost)
	}
	return m.most, m.steps
}

func TestRunsKeepToTheFacts(t *testing.T) {
	r := seeded(3)
	for range 6000 {
		p := drawnProgram(r)
		if r.IntN(4) == 0 {
			p = bent(r, p)
		}
		facts, x := check.Run(p)
		if x.Err != api.OK {
			continue
		}
		for range 5 {
			wentOn(t, r, p, facts)
		}
	}
}

// Of the chapter's and other small programs some run takes just as many cells and steps as are told.
func TestBoundsAreReached(t *testing.T) {
	r := seeded(4)
	for what, p := range map[string]api.Program{
		"the first one":      single(api.INum, 3, api.INum, 4, api.ISub, 0, api.IRet, 0),
		"a jump":             single(api.IJump, 2, api.INop, 0, api.INum, 7, api.IRet, 0),
		"a call":             of(first(api.INum, 5, api.ICall, 1, api.IRet, 0), api.Func{Args: 1, Locals: 2, Results: 1, Code: code(api.IGet, 0, api.IRet, 0)}, plain()),
		"two ways":           single(api.INum, 1, api.IZero, 4, api.INum, 1, api.IRet, 0, api.INop, 0, api.INum, 1, api.IRet, 0),
		"calls behind calls": of(first(api.ICall, 1, api.ICall, 2, api.INum, 1, api.IRet, 0), with(3, function(0, 0, deep(2), api.ICall, 3, api.IPop, 0, api.IPop, 0, api.IRet, 0)), function(0, 0, api.INop, 0, api.IRet, 0), with(2, plain())),
	} {
		facts := taken(t, what, p)
		cells, steps := 0, 0
		for range 60 {
			n, m := wentOn(t, r, p, facts)
			cells, steps = max(cells, n), max(steps, m)
		}
		is(t, "P1304: Cells and Cost: "+what, [2]int{facts.Cells, facts.Cost}, [2]int{cells, steps})
	}
}

// anyOrder takes any of the places that wait.
func anyOrder(r *rand.Rand) picker { return func(l []int) int { return r.IntN(len(l)) } }

// Whatever order the places are taken in, the same programs are taken, with the same facts.
func TestAnyOrder(t *testing.T) {
	r := seeded(5)
	for i := range 6000 {
		p := drawnProgram(r)
		switch i % 3 {
		case 1:
			p = bent(r, p)
		case 2:
			p = wild(r)
		}
		facts, x := run(t, p)
		for _, pick := range []picker{greatest, anyOrder(r), anyOrder(r)} {
			other, y := told(p, pick)
			if (x.Err == api.OK) != (y.Err == api.OK) || text(facts) != text(other) {
				t.Fatalf("P1306: Run of %s: %s, %v\nin another order %s, %v", brief(p), brief(facts), x, brief(other), y)
			}
		}
	}
}

// Where another order would meet another fault first, the least place is the one.
func TestLeastFirst(t *testing.T) {
	r := seeded(6)
	unlike := 0
	for range 6000 {
		p := bent(r, drawnProgram(r))
		_, x := run(t, p)
		if _, y := told(p, greatest); y != x {
			unlike++
		}
	}
	if unlike < 20 {
		t.Errorf("only %d programs have another fault first in another order", unlike)
	}
}

func TestDrawnPrograms(t *testing.T) {
	r := seeded(7)
	for range 4000 {
		p := drawnProgram(r)
		taken(t, "drawn", p)
		asked(t, p)
		run(t, bent(r, p))
		run(t, wild(r))
	}
}

// All codes of two instructions, and of three ahead of an end, of a few that differ in how they go on and what they take.
func TestShortCodes(t *testing.T) {
	var l []api.Instr
	for _, op := range []int{api.INop, api.INum, api.IPop, api.IHalt, api.IRet, api.ISwap} {
		l = append(l, one(op, 0))
	}
	for to := range 5 {
		l = append(l, one(api.IJump, to), one(api.IZero, to))
	}
	l = append(l, one(api.ICopy, 1), one(api.ICall, 0), one(api.ICall, 1), one(api.ICall, 2))
	other := function(2, 0, api.IRet, 0)
	for _, x := range l {
		for _, y := range l {
			run(t, of(api.Func{Results: 1, Code: []api.Instr{x, y}}, other))
			for _, z := range l {
				run(t, of(api.Func{Results: 1, Code: []api.Instr{x, y, z, one(api.IRet, 0)}}, other))
			}
		}
	}
}

// The greatest programs end soon.
func TestGreatPrograms(t *testing.T) {
	all := func(what string, want string, make func(i int) []api.Instr) {
		t.Helper()
		var p api.Program
		for i := range 64 {
			p.Funcs = append(p.Funcs, api.Func{Locals: 64, Results: 1, Code: make(i)})
		}
		facts, x := check.Run(p)
		loops := 0
		for _, l := range facts.Loops {
			loops += len(l)
		}
		is(t, "P1302: "+what, fmt.Sprint(x, loops, facts.Cells, facts.Cost), want)
	}
	end := code(api.INum, 1, api.IRet, 0)
	all("one behind the other", "{ok {0 0}} 0 66 4096", func(int) []api.Instr { return code(many(one(api.INop, 0), 4094), end) })
	all("back to 0 from everywhere", "{ok {0 0}} 262016 66 -1", func(int) []api.Instr {
		return code(slices.Repeat(code(api.INum, 1, api.IZero, 0), 2047), end)
	})
	all("one great loop", "{ok {0 0}} 262144 65 -1", func(int) []api.Instr { return code(many(one(api.INop, 0), 4095), api.IJump, 0) })
	all("a loop in each place", "{ok {0 0}} 64 65 -1", func(int) []api.Instr {
		return code(api.IJump, 4095, many(one(api.INop, 0), 4094), api.IJump, 4095)
	})
	all("places that come to wait ever further ahead", "{ok {0 0}} 0 66 2049", func(int) []api.Instr {
		l := code(api.IJump, 2048, many(one(api.INop, 0), 2047))
		for at := range 1023 {
			l[2047-2*at] = one(api.IHalt, 0)
			l[2046-2*at] = one(api.INum, 1)
			l = append(l, code(api.INum, 1, api.IZero, 2046-2*at)...)
		}
		return append(l, end...)
	})
	all("calls in a row", "{ok {0 0}} 0 4161 -1", func(i int) []api.Instr {
		if i == 63 {
			return end
		}
		return code(slices.Repeat(code(api.ICall, i+1, api.IPop, 0), 2047), end)
	})
	all("all call all", "{ok {0 0}} 0 -1 -1", func(i int) []api.Instr {
		var l []api.Instr
		for at := range 2047 {
			l = append(l, code(api.ICall, at%64, api.IPop, 0)...)
		}
		return append(l, end...)
	})
	all("a fault at the last place", "{ret {63 4095}} 0 0 0", func(i int) []api.Instr {
		if i == 63 {
			return code(many(one(api.INop, 0), 4095), api.IRet, 0)
		}
		return code(many(one(api.INop, 0), 4094), end)
	})
}

// inOrder reads a right program from any bytes: a byte of a head, or two of an instruction.
func inOrder(b []byte) api.Program {
	p := of(first())
	for len(b) > 1 && len(p.Funcs) < 9 {
		f := &p.Funcs[len(p.Funcs)-1]
		if b[0] >= 250 {
			p.Funcs = append(p.Funcs, api.Func{Args: int(b[1] % 3), Locals: int(b[1]%3 + b[1]/3%3), Results: int(b[1] / 9 % 2)})
		} else {
			x := one(int(b[0])%api.ICount, int(b[1]))
			s, _ := op.Of(x.Op)
			x.A = map[int]int{op.ONum: x.A, op.OLocal: x.A % 6, op.OJump: x.A, op.OFunc: x.A % 10, op.OSys: x.A % 5, op.OStack: x.A}[s.Operand]
			f.Code = append(f.Code, x)
		}
		b = b[2:]
	}
	for i := range p.Funcs {
		if len(p.Funcs[i].Code) == 0 {
			p.Funcs[i].Code = code(api.IRet, 0)
		}
	}
	return p
}

func FuzzRun(f *testing.F) {
	f.Add([]byte{3, 1, 15, 4, 3, 2, 18, 0, 3, 9, 18, 0})
	f.Add([]byte{3, 0, 15, 0, 3, 7, 18, 0, 255, 1, 7, 0, 17, 1, 18, 0})
	r := seeded(8)
	for range 30 {
		var b []byte
		for i, g := range drawnProgram(r).Funcs {
			if i > 0 {
				b = append(b, 255, byte(g.Args+3*min(2, g.Locals-g.Args)+9*g.Results))
			}
			for _, x := range g.Code {
				b = append(b, byte(x.Op), byte(x.A))
			}
		}
		f.Add(b)
	}
	f.Fuzz(func(t *testing.T, b []byte) {
		if len(b) > 600 {
			return
		}
		p := inOrder(b)
		facts, x := run(t, p)
		asked(t, p)
		other, y := told(p, greatest)
		if (x.Err == api.OK) != (y.Err == api.OK) || text(facts) != text(other) {
			t.Fatalf("P1306: Run of %s: %s, %v\nin another order %s, %v", brief(p), brief(facts), x, brief(other), y)
		}
		if x.Err == api.OK {
			wentOn(t, seeded(uint64(len(b))), p, facts)
		}
	})
}
