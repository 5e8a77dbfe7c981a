package vm_test

import (
	"fmt"
	"math"
	"strings"
	"testing"

	"retort/api"
	"retort/cell"
	"retort/op"
)

func TestExamples(t *testing.T) {
	sub := whole("func f 0 0 1 | num 3 | num 4 | sub | ret")
	ends(t, "the first one", sub, wide(), halt(-1, 4))
	ends(t, "the first one, Fuel 3", sub, api.Limits{Fuel: 3, Stack: 9}, trap(api.TFuel, 3))
	ends(t, "the first one, Fuel 4", sub, api.Limits{Fuel: 4, Stack: 9}, halt(-1, 4))
	m := ends(t, "the first one, Stack 2", sub, api.Limits{Fuel: 9, Stack: 2}, trap(api.TStack, 2))
	is(t, "the first one, Stack 2: at the second INum", m.Spot(), api.Spot{At: 1})
	ends(t, "the first one, Stack 3", sub, api.Limits{Fuel: 9, Stack: 3}, halt(-1, 4))
	ends(t, "the second one", whole("func f 0 0 1 | num 1 | num 0 | div | ret"), wide(), trap(api.TDivide, 3))
	open := whole(`memory 8 | data "a" | func f 0 0 1 | num 0 | num 1 | num 0 | sys open | ret`)
	ends(t, "the third one", open, wide(), halt(-91, 4+1+1))
	ends(t, "the fourth one", whole("memory 8 | func f 0 0 1 | num 1 | num 5 | store | num 0 | ret"), wide(), trap(api.TBounds, 3))
	ends(t, "the fourth one", whole("memory 8 | func f 0 0 1 | num 7 | load8 | ret"), wide(), halt(0, 3))
}

// Each row: what the stack is behind the code, the top last, and at which place.
func TestRows(t *testing.T) {
	for _, c := range []struct {
		code  string
		at    int
		stack string
	}{
		{"nop | num 1 | ret", 1, "[]"},
		{"num -5", 1, "[-5]"},
		{"num 9223372036854775807 | num -9223372036854775808", 2, "[9223372036854775807 -9223372036854775808]"},
		{"num 1 | num 2 | pop", 3, "[1]"},
		{"num 1 | num 2 | num 3 | copy 0", 4, "[1 2 3 3]"},
		{"num 1 | num 2 | num 3 | copy 1", 4, "[1 2 3 2]"},
		{"num 1 | num 2 | num 3 | copy 2", 4, "[1 2 3 1]"},
		{"num 1 | num 2 | num 3 | swap", 4, "[1 3 2]"},
		{"size", 1, "[20]"},
		{"get 1", 1, "[0]"},
		{"num 7 | num 8 | set 1 | get 1 | get 0", 5, "[7 8 0]"},
		{"num 7 | set 0 | num 8 | set 1 | get 0 | get 1", 6, "[7 8]"},
		{"jump 2 | nop", 2, "[]"},
		{"num 4 | num 0 | zero 5 | nop | nop", 5, "[4]"},
		{"num 4 | num 1 | zero 5", 3, "[4]"},
		{"num 4 | num -1 | zero 5", 3, "[4]"},
		{"num 4 | num -9223372036854775808 | zero 5", 3, "[4]"},
		{"num 4 | num 4294967296 | zero 5", 3, "[4]"},
		{"num 4 | num 0 | notzero 5", 3, "[4]"},
		{"num 4 | num 1 | notzero 5 | nop | nop", 5, "[4]"},
		{"num 4 | num -1 | notzero 5 | nop | nop", 5, "[4]"},
		{"num 4 | num 256 | notzero 5 | nop | nop", 5, "[4]"},
		{"num 0 | load8", 2, "[97]"},
		{"num 9 | num 1 | load8", 3, "[9 98]"},
		{"num 0 | load", 2, "[7017171169396654080]"},
		{"num 9 | num 1 | load", 3, "[9 7061644215716937728]"},
		{"num 9 | num 2 | num 3 | store", 4, "[9]"},
		{"num 2 | num 3 | store | num 2 | load", 5, "[3]"},
		{"num 2 | num 3 | store | num 9 | load8 | num 2 | load8", 7, "[3 0]"},
		{"num 2 | num -3 | store | num 2 | load | num 9 | load8 | num 8 | load8", 9, "[-3 253 255]"},
		{"num 3 | num 0x0102030405060708 | store | num 3 | load8 | num 10 | load8 | num 3 | load", 9, "[1 8 72623859790382856]"},
		{"num 0 | num 0xffffffffffffffff | store | num 12 | num 1 | store8 | num 12 | load | num 11 | load8", 10, "[72057594037927936 0]"},
		{"num 9 | num 4 | num 5 | store8", 4, "[9]"},
		{"num 4 | num 511 | store8 | num 4 | load8 | num 3 | load8 | num 5 | load8", 9, "[255 0 0]"},
		{"num 4 | num -2 | store8 | num 4 | load8", 5, "[254]"},
		{"num 4 | num 256 | store8 | num 4 | load8", 5, "[0]"},
		{"num 9 | num 2 | sub", 3, "[7]"},
		{"num 1 | num 9 | num 2 | div", 4, "[1 4]"},
		{"num 9 | num 2 | rem", 3, "[1]"},
		{"num 1 | num 3 | shl", 3, "[8]"},
		{"num -8 | num 1 | shr", 3, "[-4]"},
		{"num 1 | num 2 | lt | num 2 | num 1 | lt", 6, "[1 0]"},
		{"num 1 | num -1 | ult | num -1 | num 1 | ult", 6, "[1 0]"},
		{"num 5 | num 7 | neg", 3, "[5 -7]"},
		{"num 5 | not", 2, "[-6]"},
		{"num 3 | tof | num 2 | tof | fsub | toi", 6, "[1]"},
		{"num 6 | tof | num 2 | tof | fdiv | toi", 6, "[3]"},
		{"num 1 | tof | num 2 | tof | flt", 5, "[1]"},
		{"num 0 | fneg", 2, "[-9223372036854775808]"},
		{"num 9 | tof | froot | toi", 4, "[3]"},
		{"num 99 | num 0 | sys close", 3, "[99 -95]"},
	} {
		p := whole(`memory 20 | data "ab" | func f 0 2 1 |` + c.code + strings.Repeat("| num 0 | halt", 9))
		x := begun(t, p, files(), wide())
		for x.m.Spot().At != c.at {
			if !x.step(t) {
				t.Fatalf("P1502: %s ends: %v", c.code, x.m.End())
			}
		}
		is(t, "P1502: operands behind "+c.code, text(x.m.Stack()), c.stack)
		is(t, "P1502: the run goes on behind "+c.code, x.m.End().End, 0)
	}
}

// Each instruction of words is cell's, b being the left one; its trap, too.
func TestWords(t *testing.T) {
	words := []int{math.MinInt, -7, -1, 0, 1, 2, 63, 64, math.MaxInt, cell.Word(1.5), cell.Word(-2.5), cell.Word(math.Inf(1)), cell.Word(math.NaN()), 0x7ff0000000000001}
	num := func(w int) api.Instr { return api.Instr{Op: api.INum, A: w} }
	traps := map[api.Trap]int{}
	for n := range api.ICount {
		s, _ := op.Of(n)
		for _, b := range words {
			for _, a := range words {
				code, w, tr := []api.Instr{num(b), num(a), {Op: n}, {Op: api.IHalt}}, 0, api.TNone
				switch {
				case cell.Has2(n):
					w, tr = cell.Two(n, b, a)
				case cell.Has1(n):
					w, tr = cell.One(n, a)
				default:
					continue
				}
				m := made(t, api.Program{Funcs: []api.Func{{Results: 1, Code: code}}}, files(), wide())
				m.Run(9)
				want := halt(w, 4)
				if tr != api.TNone {
					want = trap(tr, 3)
					is(t, "P1506: operands where a word traps", text(m.Stack()), text([]int{b, a}))
				}
				traps[tr]++
				is(t, fmt.Sprintf("P1502: %s of %d, %d", s.Name, b, a), text(m.End()), text(want))
			}
		}
	}
	if traps[api.TDivide] == 0 || traps[api.TFloat] == 0 || len(traps) != 3 {
		t.Error("traps:", traps)
	}
}

// All that reaches the memory traps just behind its edges.
func TestBounds(t *testing.T) {
	for _, size := range []int{0, 1, 7, 8, 9, 20, 1 << 16} {
		edges := []int{math.MinInt, math.MinInt + 7, -1 << 32, -8, -7, -1, 0, 1, size - 9, size - 8, size - 7, size - 2, size - 1, size, size + 1, 1 << 16, 1 << 32, math.MaxInt - 8, math.MaxInt - 7, math.MaxInt}
		for _, at := range edges {
			reaches(t, "num 66 | num %d | load | num 5 | halt", size, at, 8, false)
			reaches(t, "num 66 | num %d | load8 | num 5 | halt", size, at, 1, false)
			reaches(t, "num %d | num -1 | store | num 5 | halt", size, at, 8, true)
			reaches(t, "num %d | num -1 | store8 | num 5 | halt", size, at, 1, true)
		}
	}
}

// reaches looks at the third instruction of a code, which reads n bytes or lays so many of 255 down.
func reaches(t *testing.T, code string, size, at, n int, lays bool) {
	t.Helper()
	code = fmt.Sprintf(code, at)
	m := made(t, whole(fmt.Sprintf("memory %d | func f 0 0 1 |", size)+code), files(), wide())
	m.Run(9)
	what := fmt.Sprintf("P1502: %s with Memory %d", code, size)
	b, _ := m.Memory(0, size)
	if fits := at >= 0 && at < size && at <= size-n; !fits {
		is(t, what, text(m.End()), text(trap(api.TBounds, 3)))
		is(t, what+": Spot", m.Spot(), api.Spot{At: 2})
		is(t, what+": nothing is laid down", strings.Count(string(b), "\x00"), size)
		return
	}
	is(t, what, text(m.End()), text(halt(5, 5)))
	if !lays {
		n = 0
	}
	is(t, what+": nothing beside", strings.Count(string(b), "\x00"), size-n)
	is(t, what+": laid down", string(b[at:at+n]), strings.Repeat("\xff", n))
}

// What ends a run: End, Code and Trap, Used, and where it stands.
func TestEnds(t *testing.T) {
	for _, c := range []struct {
		what, code string
		want       api.Outcome
		at         int
		stack      string
	}{
		{"IHalt", "num 1 | num 7 | halt", halt(7, 3), 2, "[1 7]"},
		{"IHalt of 0", "num 0 | halt", halt(0, 2), 1, "[0]"},
		{"IRet", "num -7 | ret", halt(-7, 2), 1, "[-7]"},
		{"IAbort", "num 1 | num 7 | abort", api.Outcome{End: api.ETrap, Trap: api.TAbort, Code: 7, Fuel: 3}, 2, "[1 7]"},
		{"IAbort of 0", "num 0 | abort", trap(api.TAbort, 2), 1, "[0]"},
		{"IDiv", "num 9 | num 5 | num 0 | div | halt", trap(api.TDivide, 4), 3, "[9 5 0]"},
		{"IRem", "num 9 | num 5 | num 0 | rem | halt", trap(api.TDivide, 4), 3, "[9 5 0]"},
		{"IToI", "num 9 | num 0x7ff8000000000000 | toi | halt", trap(api.TFloat, 3), 2, "[9 9221120237041090560]"},
		{"ILoad", "num 9 | num 13 | load | halt", trap(api.TBounds, 3), 2, "[9 13]"},
		{"IStore", "num 9 | num 13 | num 5 | store | halt", trap(api.TBounds, 4), 3, "[9 13 5]"},
		{"ILoad8", "num 9 | num 20 | load8 | halt", trap(api.TBounds, 3), 2, "[9 20]"},
		{"IStore8", "num 9 | num 20 | num 5 | store8 | halt", trap(api.TBounds, 4), 3, "[9 20 5]"},
		{"ISys", "num 9 | num 20 | num 1 | num 0 | sys open | halt", trap(api.TBounds, 5), 4, "[9 20 1 0]"},
	} {
		m := ends(t, c.what, body(c.code), wide(), c.want)
		is(t, "P1506: Spot behind "+c.what, m.Spot(), api.Spot{At: c.at})
		is(t, "P1506: Stack behind "+c.what, text(m.Stack()), c.stack)
		is(t, "P1506: Taken behind "+c.what, m.Taken(), 1+strings.Count(c.stack, " ")+1)
		is(t, "P1502: Step behind the end", m.Step(), false)
		is(t, "P1505: End stays", text(m.End()), text(c.want))
		b, _ := m.Memory(0, 20)
		is(t, "P1506: Memory behind "+c.what, string(b), "ab"+strings.Repeat("\x00", 18))
	}
}

// A store takes its value from the top, its address from below.
func TestAddressBelow(t *testing.T) {
	m := ends(t, "IStore", body("num 3 | num 30 | store | num 1 | ret"), wide(), halt(1, 5))
	b, _ := m.Memory(0, 12)
	is(t, "P1502: IStore", string(b), "ab\x00\x00\x00\x00\x00\x00\x00\x00\x1e\x00")
	ends(t, "IStore the other way round", body("num 30 | num 3 | store | num 1 | ret"), wide(), trap(api.TBounds, 3))
	ends(t, "IStore8 the other way round", body("num 30 | num 3 | store8 | num 1 | ret"), wide(), trap(api.TBounds, 3))
}

// Without fuel nothing else is looked at: neither the instruction's own trap nor the cells.
func TestFuelFirst(t *testing.T) {
	for _, c := range []struct {
		what, code string
		steps      int // ahead of the instruction that would end the run
		want       api.Outcome
	}{
		{"IHalt", "num 7 | halt", 1, halt(7, 2)},
		{"IRet", "num 7 | ret", 1, halt(7, 2)},
		{"IAbort", "num 7 | abort", 1, api.Outcome{End: api.ETrap, Trap: api.TAbort, Code: 7, Fuel: 2}},
		{"IDiv", "num 7 | num 0 | div | halt", 2, trap(api.TDivide, 3)},
		{"IToI", "num 0x7ff8000000000000 | toi | halt", 1, trap(api.TFloat, 2)},
		{"ILoad", "num -1 | load | halt", 1, trap(api.TBounds, 2)},
		{"ISys", "num -1 | num -1 | num 0 | sys read | halt", 3, trap(api.TBounds, 4)},
		{"INum", "num 1 | num 2 | num 3 | num 4 | num 5 | halt", 4, trap(api.TStack, 5)},
		{"ICopy", "num 1 | num 2 | num 3 | num 4 | copy 2 | halt", 4, trap(api.TStack, 5)},
		{"IGet", "num 1 | num 2 | num 3 | num 4 | get 0 | halt", 4, trap(api.TStack, 5)},
		{"ISize", "num 1 | num 2 | num 3 | num 4 | size | halt", 4, trap(api.TStack, 5)},
		{"ICall", "num 1 | num 2 | num 3 | call g | halt", 3, trap(api.TStack, 4)},
	} {
		p := whole("memory 20 | func f 0 1 1 |" + c.code + "| func g 0 1 1 | num 1 | ret")
		l := api.Limits{Fuel: 99, Memory: 20, Stack: 6}
		ends(t, c.what, p, l, c.want)
		for fuel := c.steps; fuel >= 0; fuel-- {
			l.Fuel = fuel
			m := ends(t, "P1502: TFuel ahead of "+c.what, p, l, trap(api.TFuel, fuel))
			is(t, "P1506: Spot where fuel is wanting", m.Spot(), api.Spot{At: fuel})
		}
		for _, fuel := range []int{-1, math.MinInt} {
			l.Fuel = fuel
			ends(t, "P1502: TFuel below 0", p, l, trap(api.TFuel, 0))
		}
		l.Fuel = c.want.Fuel
		ends(t, c.what+" with just so much fuel", p, l, c.want)
		l.Fuel = math.MaxInt
		ends(t, c.what+" with the most fuel", p, l, c.want)
	}
}

// What gives more than it takes traps, where just so many cells are taken; all else goes on.
func TestFullStack(t *testing.T) {
	// How many cells more: of a call those of the function, less the operands that become its locals.
	grows := map[string]int{"num 1": 1, "copy 0": 1, "copy 3": 1, "get 0": 1, "size": 1, "call g": 1, "call h": 3, "call k": 1}
	for _, x := range []string{"nop", "num 1", "pop", "copy 0", "copy 3", "swap", "get 0", "set 0", "load", "load8", "store", "store8", "size", "jump 5", "zero 7", "notzero 7", "call g", "call h", "call k", "sys open", "sys read", "sys write", "sys list", "sys close", "add", "sub", "eq", "neg", "fadd", "tof", "halt", "abort"} {
		p := whole("memory 20 | func f 0 2 1 | num 1 | num 2 | num 3 | num 4 |" + x + strings.Repeat(" | num 9 | halt", 3) +
			"| func g 0 0 0 | ret | func h 1 3 1 | num 1 | ret | func k 2 2 0 | ret")
		for stack := 6; stack <= 12; stack++ {
			b := begun(t, p, files(), api.Limits{Fuel: 99, Memory: 20, Stack: stack})
			b.run(t, 5)
			if stack < 7 {
				is(t, "P1502: ahead of "+x, text(b.m.End()), text(trap(api.TStack, 4)))
				continue
			}
			full := stack < 7+grows[x]
			is(t, fmt.Sprintf("P1502: TStack at %s, Stack %d", x, stack), b.m.End().Trap == api.TStack, full)
			if full {
				is(t, "P1502: Used behind "+x, b.m.Used(), 5)
				is(t, "P1506: Taken behind "+x, b.m.Taken(), 7)
				is(t, "P1506: Stack behind "+x, text(b.m.Stack()), "[1 2 3 4]")
				is(t, "P1506: Spot behind "+x, b.m.Spot(), api.Spot{At: 4})
			}
		}
	}
}
