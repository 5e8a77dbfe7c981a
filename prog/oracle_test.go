package prog_test

import (
	"bytes"
	"fmt"
	"math"
	"math/rand/v2"
	"slices"
	"testing"

	"retort/api"
	"retort/op"
)

// The chapter said once more, in another way: programs as bytes by hand, without mint, and their text instead of lists held against each other.

func form(u uint64) []byte {
	if u < 248 {
		return []byte{byte(u)}
	}
	var b []byte
	for ; u > 0; u >>= 8 {
		b = append([]byte{byte(u)}, b...)
	}
	return append([]byte{byte(247 + len(b))}, b...)
}

// row are bytes and numbers' forms, one behind the other.
func row(parts ...any) []byte {
	var b []byte
	for _, p := range parts {
		switch x := p.(type) {
		case int:
			b = append(b, form(uint64(x))...)
		case []byte:
			b = append(b, x...)
		default:
			panic("neither a number nor bytes")
		}
	}
	return b
}

// counted are bytes with their number ahead.
func counted(b []byte) []byte { return row(len(b), b) }

func codeBytes(code []api.Instr) []byte {
	b, e := op.Encode(code)
	if e != api.OK {
		panic(e)
	}
	return b
}

// faultOf says P1201 look by look.
func faultOf(p api.Program) api.Errno {
	switch {
	case p.Memory < 0, p.Memory > 65536, len(p.Data) > p.Memory, len(p.Funcs) == 0, len(p.Funcs) > 64:
		return api.ErrProg
	}
	for _, f := range p.Funcs {
		switch {
		case f.Args < 0, f.Args > 16, f.Locals < f.Args, f.Locals > 64, f.Results != 0 && f.Results != 1, len(f.Code) == 0, len(f.Code) > 4096:
			return api.ErrProg
		}
		if _, e := op.Encode(f.Code); e != api.OK {
			return e
		}
	}
	return api.OK
}

// laid are the bytes of any program whose code may be, however many, with whatever heads from 0 on.
func laid(p api.Program) []byte {
	b := row(2, p.Memory, counted(p.Data), len(p.Funcs))
	for _, f := range p.Funcs {
		b = append(b, row(f.Args, f.Locals, f.Results, counted(codeBytes(f.Code)))...)
	}
	return b
}

func bytesOf(p api.Program) ([]byte, api.Errno) {
	if e := faultOf(p); e != api.OK {
		return nil, e
	}
	b := laid(p)
	if len(b) > 1048576 {
		return nil, api.ErrLong
	}
	return b, api.OK
}

// source is what is left to read, and the first fault that was met; behind a fault it reads zeros.
type source struct {
	b     []byte
	fault api.Errno
}

func (s *source) fail(e api.Errno) {
	if s.fault == api.OK {
		s.fault = e
	}
	s.b = nil
}

func (s *source) number() int {
	if len(s.b) == 0 {
		s.fail(api.ErrCut)
		return 0
	}
	k := max(0, int(s.b[0])-247)
	if len(s.b) < 1+k {
		s.fail(api.ErrCut)
		return 0
	}
	u := uint64(s.b[0])
	if k > 0 {
		u = 0
	}
	for _, c := range s.b[1 : 1+k] {
		u = u*256 + uint64(c)
	}
	if u > math.MaxInt || !bytes.Equal(form(u), s.b[:1+k]) {
		s.fail(api.ErrForm)
		return 0
	}
	s.b = s.b[1+k:]
	return int(u)
}

func (s *source) bytes() []byte {
	n := s.number()
	if n > len(s.b) {
		s.fail(api.ErrCut)
		return nil
	}
	b := s.b[:n]
	s.b = s.b[n:]
	return b
}

func programOf(b []byte) (api.Program, api.Errno) {
	if len(b) > 1048576 {
		return api.Program{}, api.ErrLong
	}
	s := &source{b: b}
	if tag := s.number(); s.fault == api.OK && tag != 2 {
		s.fail(api.ErrTag)
	}
	p := api.Program{Memory: s.number(), Data: s.bytes()}
	n := s.number()
	if n > 64 {
		s.fail(api.ErrProg)
	}
	for i := 0; i < n && s.fault == api.OK; i++ {
		f := api.Func{Args: s.number(), Locals: s.number(), Results: s.number()}
		code, e := op.Decode(s.bytes())
		if e != api.OK {
			s.fail(e)
		}
		f.Code = code
		p.Funcs = append(p.Funcs, f)
	}
	if len(s.b) > 0 {
		s.fail(api.ErrTail)
	}
	if s.fault == api.OK {
		s.fault = faultOf(p)
	}
	if s.fault != api.OK {
		return api.Program{}, s.fault
	}
	return p, api.OK
}

// text says all of a program; unlike ones have unlike texts (no list and an empty one have the same).
func text(p api.Program) string { return fmt.Sprint(p) }

// What the tests hand in.

func seeded(n uint64) *rand.Rand { return rand.New(rand.NewPCG(n, 12)) }

func one(op, a int) api.Instr { return api.Instr{Op: op, A: a} }

func list(l ...api.Instr) []api.Instr { return l }

func many(x api.Instr, n int) []api.Instr { return slices.Repeat(list(x), n) }

// small is the chapter's first example.
func small() api.Program {
	return api.Program{Memory: 4, Data: []byte{7}, Funcs: []api.Func{{Results: 1, Code: list(one(api.INum, 3), one(api.IRet, 0))}}}
}

func smallBytes() []byte { return []byte{2, 4, 1, 7, 1, 0, 0, 1, 3, 3, 6, 18} }

// plain is a function that may be.
func plain() api.Func { return api.Func{Code: list(one(api.IRet, 0))} }

// several has so many functions, each another one than the one ahead of it.
func several(n int) api.Program {
	p := api.Program{Memory: 9, Data: []byte{1, 2, 3}}
	for i := range n {
		p.Funcs = append(p.Funcs, api.Func{Args: i % 3, Locals: 2 + i%5, Results: i % 2, Code: list(one(api.INum, i), one(api.IRet, 0))})
	}
	return p
}

// full has as many functions of 40960 bytes of code as fit a blob, and so much Data that its bytes are so many.
func full(size int) api.Program {
	p := api.Program{Memory: 65536}
	for range 25 {
		p.Funcs = append(p.Funcs, api.Func{Code: many(one(api.INum, math.MinInt), 4096)})
	}
	p.Data = make([]byte, 24000)
	p.Data = make([]byte, 24000+size-len(laid(p)))
	return p
}

// drawnInstr is an instruction that may be.
func drawnInstr(r *rand.Rand) api.Instr {
	x := one(r.IntN(api.ICount), 0)
	s, _ := op.Of(x.Op)
	switch s.Operand {
	case op.ONone:
	case op.ONum:
		x.A = int(r.Uint64()) >> r.IntN(64)
	case op.OJump:
		x.A = r.IntN(4096)
	case op.OStack:
		x.A = r.IntN(256)
	default:
		x.A = r.IntN(5)
	}
	return x
}

func drawnCode(r *rand.Rand, n int) []api.Instr {
	var code []api.Instr
	for range n {
		code = append(code, drawnInstr(r))
	}
	return code
}

// drawn is a program that may be.
func drawn(r *rand.Rand) api.Program {
	p := api.Program{Memory: []int{0, r.IntN(300), 247 + r.IntN(3), r.IntN(65537), 65536}[r.IntN(5)]}
	p.Data = make([]byte, []int{0, r.IntN(min(p.Memory, 300) + 1), min(p.Memory, 20)}[r.IntN(3)])
	for i := range p.Data {
		p.Data[i] = byte(r.Uint32())
	}
	for range 1 + r.IntN([]int{1, 4, 64}[r.IntN(3)]) {
		args := r.IntN(17)
		p.Funcs = append(p.Funcs, api.Func{Args: args, Locals: args + r.IntN(65-args), Results: r.IntN(2), Code: drawnCode(r, 1+r.IntN(12))})
	}
	return p
}

// broken has one part of a program changed, so that it may be no more.
func broken(r *rand.Rand, p api.Program) api.Program {
	odd := []int{-1, 0, 1, 2, 15, 16, 17, 63, 64, 65, 65536, 65537, math.MinInt, math.MaxInt}[r.IntN(14)]
	f := &p.Funcs[r.IntN(len(p.Funcs))]
	switch r.IntN(9) {
	case 0:
		p.Memory = odd
	case 1:
		p.Data = make([]byte, r.IntN(400))
	case 2:
		f.Args = odd
	case 3:
		f.Locals = odd
	case 4:
		f.Results = odd
	case 5:
		f.Code = many(one(api.INop, 0), []int{0, 1, 4096, 4097}[r.IntN(4)])
	case 6:
		f.Code = append(f.Code, one(r.IntN(60)-7, 0))
	case 7:
		f.Code = append(f.Code, one(r.IntN(46), odd))
	case 8:
		p.Funcs = slices.Repeat(p.Funcs, r.IntN(4))
	}
	return p
}

// brief is a thing in few words; a text may be bytes, and is quoted.
func brief(x any) string {
	s := fmt.Sprint(x)
	if _, is := x.(string); is {
		s = fmt.Sprintf("%q", x)
	}
	if len(s) > 300 {
		return s[:300] + ".."
	}
	return s
}

func is[T comparable](t *testing.T, what string, got, want T) {
	t.Helper()
	if got != want {
		t.Errorf("%s: %v, want %v", what, brief(got), brief(want))
	}
}

func TestTheOracle(t *testing.T) {
	is(t, "laid", string(laid(small())), string(smallBytes()))
	is(t, "form", fmt.Sprint(form(247), form(248), form(4095), form(65536)), "[247] [248 248] [249 15 255] [250 1 0 0]")
	is(t, "full", len(laid(full(1048576))), 1048576)
	is(t, "full", faultOf(full(1048576)), api.OK)
	r := seeded(1)
	for range 200 {
		is(t, "drawn", faultOf(drawn(r)), api.OK)
	}
}
