package opt_test

import (
	"slices"
	"testing"

	"retort/api"
	"retort/check"
	"retort/op"
	"retort/opt"
	"retort/prog"
)

// instrs are the instructions of a text.
func instrs(s string) []api.Instr { return whole("func f 0 64 1 |" + s).Funcs[0].Code }

// filled is a code of as many instructions as may be: a piece again and again, and an end.
func filled(piece []api.Instr, end string) []api.Instr {
	last := instrs(end)
	var code []api.Instr
	for len(code)+len(piece)+len(last) <= api.MaxCode {
		at := len(code)
		for _, x := range piece {
			if isJump(x) {
				x.A += at
			}
			code = append(code, x)
		}
	}
	for len(code)+len(last) < api.MaxCode {
		code = append(code, api.Instr{Op: api.INop})
	}
	return append(code, last...)
}

// chained has as many functions as may be, of that code; each is called by the one ahead.
func chained(code []api.Instr, n int) api.Program {
	p := api.Program{Memory: 8, Data: []byte{7}}
	for i := range n {
		c := slices.Clone(code)
		if i < n-1 {
			c[len(c)-2] = api.Instr{Op: api.ICall, A: i + 1}
		}
		p.Funcs = append(p.Funcs, api.Func{Locals: 64, Results: 1, Code: c})
	}
	return p
}

// Codes and programs of the greatest size come to their best in good time.
func TestGreatest(t *testing.T) {
	t.Parallel()
	functions := api.MaxFuncs / 4
	if testing.Short() {
		functions = 4
	}
	for _, x := range []struct {
		piece string
		left  int // of each function: all pieces go, or none does
	}{
		{"nop", 2}, {"jump 1", 2}, {"num 3 | pop", 2}, {"size | size | swap | swap | pop | pop", 2}, {"get 0 | zero 2", 2}, {"get 0 | set 0 | nop", 2},
		{"get 0 | neg | neg | num 0 | add | num 1 | mul | pop", 2}, {"num 0 | zero 3 | nop", 2}, {"num 1 | zero 2", 2}, {"get 1 | num 0 | eq | zero 5 | nop", 2}, {"size | set 1", api.MaxCode},
	} {
		piece := instrs(x.piece + "| size | ret")[:len(pieces(x.piece))]
		p := chained(filled(piece, "size | ret"), functions)
		q := best(t, p)
		noGreater(t, p, q)
		for _, f := range q.Funcs {
			is(t, "P1606: how many are left of "+x.piece, len(f.Code), x.left)
		}
		is(t, "P1606: how many functions are left", len(q.Funcs), functions)
		if once, e := opt.Once(q); e != api.OK || !prog.Same(once, q) {
			t.Errorf("P1605: Once of the best of %s", x.piece)
		}
	}
}

// A jump that is led on over as many as may be, rings of as many; each place of them named.
func TestGreatestWebs(t *testing.T) {
	n := 800
	to := make([]int, n)
	for _, by := range []int{1, n - 1, 7} {
		for i := range to {
			to[i] = (i + by) % n
		}
		p := single(web(to, false))
		best(t, p)
		for i := range to {
			to[i] = min(i+by, n-1)
		}
		best(t, single(web(to, true)))
	}
	code := []api.Instr{{Op: api.IJump, A: 1}}
	for len(code) < api.MaxCode-2 {
		code = append(code, api.Instr{Op: api.INop})
	}
	p := single("size | ret")
	p.Funcs[0].Code = append(code, p.Funcs[0].Code...)
	at, what, some := opt.Left(p)
	is(t, "P1604: a long way", text([]any{at, what, some}), text([]any{spot(0, 0), opt.LThread, true}))
	q, _ := opt.Once(p)
	is(t, "P1602: a long way", q.Funcs[0].Code[0].A, api.MaxCode-2)
	is(t, "P1606: a long way", said(best(t, p)), said(single("size | ret")))
}

// Operands of jumps and calls at their ends.
func TestGreatestNumbers(t *testing.T) {
	code := slices.Repeat([]api.Instr{{Op: api.ISize}, {Op: api.ISet, A: 63}}, api.MaxCode/2)
	copy(code, instrs("get 0 | zero 4 | jump 4094 | nop | size | set 1")[:6])
	code[4094], code[4095] = api.Instr{Op: api.ISize}, api.Instr{Op: api.IRet}
	code[2] = api.Instr{Op: api.IJump, A: 4094}
	p := api.Program{Funcs: []api.Func{{Locals: 64, Results: 1, Code: code}}}
	at, what, some := opt.Left(p)
	is(t, "P1601: behind a jump", text([]any{at, what, some}), text([]any{spot(0, 3), opt.LDead, true}))
	q, _ := opt.Once(p)
	is(t, "P1601: behind a jump", text(q.Funcs[0].Code[:4]), text([]api.Instr{{Op: api.IGet}, {Op: api.IZero, A: 3}, {Op: api.IJump, A: 4093}, {Op: api.ISize}}))
	held(t, p)

	many := api.Program{Funcs: slices.Repeat([]api.Func{{Results: 1, Code: instrs("size | ret")}}, api.MaxFuncs)}
	many.Funcs[0].Code = []api.Instr{{Op: api.ICall, A: 63}, {Op: api.ICall, A: 1}, {Op: api.IAdd}, {Op: api.IRet}}
	q, _ = opt.Once(many)
	is(t, "P1601: many functions", said(q), said(whole("func f 0 0 1 | call h | call g | add | ret | func g 0 0 1 | size | ret | func h 0 0 1 | size | ret")))
	held(t, many)
}

// FuzzRun takes bytes as a program.
func FuzzRun(f *testing.F) {
	for n := range uint64(40) {
		f.Add(bytesOf(drawnProgram(seeded(n))))
	}
	f.Add(bytesOf(whole(main1 + never + twice)))
	f.Fuzz(func(t *testing.T, b []byte) {
		if len(b) > 400 {
			return
		}
		p := inOrder(b)
		held(t, p)
		if _, fault := check.Run(p); fault.Err == api.OK {
			follows(t, seeded(uint64(len(b))), p)
		}
	})
}

// inOrder reads a program from any bytes: a byte of a head, or two of an instruction.
func inOrder(b []byte) api.Program {
	p := api.Program{Memory: 40, Data: []byte("d/xo12..new/ydd/e"), Funcs: []api.Func{{Results: 1}}}
	for len(b) > 1 && len(p.Funcs) < 9 {
		f := &p.Funcs[len(p.Funcs)-1]
		if b[0] >= 250 {
			p.Funcs = append(p.Funcs, api.Func{Args: int(b[1] % 3), Locals: int(b[1]%3 + b[1]/3%3), Results: int(b[1] / 9 % 2)})
		} else {
			x := api.Instr{Op: int(b[0]) % api.ICount, A: int(int8(b[1]))}
			s, _ := op.Of(x.Op)
			n := int(b[1])
			x.A = map[int]int{op.ONum: x.A, op.OLocal: n % 6, op.OJump: n, op.OFunc: n % 10, op.OSys: n % 5, op.OStack: n}[s.Operand]
			f.Code = append(f.Code, x)
		}
		b = b[2:]
	}
	for i := range p.Funcs {
		if len(p.Funcs[i].Code) == 0 {
			p.Funcs[i].Code = []api.Instr{{Op: api.IRet}}
		}
	}
	return p
}

// bytesOf is a program as inOrder reads it.
func bytesOf(p api.Program) []byte {
	var b []byte
	for i, g := range p.Funcs {
		if i > 0 {
			b = append(b, 255, byte(g.Args+3*min(2, g.Locals-g.Args)+9*g.Results))
		}
		for _, x := range g.Code {
			b = append(b, byte(x.Op), byte(x.A))
		}
	}
	return b
}
