package op_test

import (
	"bytes"
	"fmt"
	"math"
	"math/rand/v2"
	"slices"
	"strings"
	"testing"

	"retort/api"
	"retort/op"
)

// The chapter said once more, in another way: its tables as text, code as bytes by hand, without mint.

const (
	instructions = `
nop ONone 0 0
halt ONone 1 0
abort ONone 1 0
num ONum 0 1
pop ONone 1 0
copy OStack 0 1
swap ONone 2 2
get OLocal 0 1
set OLocal 1 0
load ONone 1 1
store ONone 2 0
load8 ONone 1 1
store8 ONone 2 0
size ONone 0 1
jump OJump 0 0
zero OJump 1 0
notzero OJump 1 0
call OFunc -1 -1
ret ONone -1 0
sys OSys -1 1
add sub mul div rem ONone 2 1
and or xor shl shr ushr ONone 2 1
eq lt ult ONone 2 1
neg not ONone 1 1
fadd fsub fmul fdiv feq flt ONone 2 1
fneg froot tof toi ONone 1 1
`
	callsOfFiles = `
open ONone 3 1
read ONone 3 1
write ONone 3 1
list ONone 4 1
close ONone 1 1
`
	operands = "ONone ONum OLocal OJump OFunc OSys OStack"
)

// rowsOf are a table's rows, in their order; a line with several names has one for each.
func rowsOf(table string) []op.Shape {
	var rows []op.Shape
	for _, line := range strings.Split(strings.TrimSpace(table), "\n") {
		words := strings.Fields(line)
		n := len(words) - 3
		var s op.Shape
		if _, err := fmt.Sscan(words[n+1]+" "+words[n+2], &s.Takes, &s.Gives); err != nil {
			panic(err)
		}
		s.Operand = slices.Index(strings.Fields(operands), words[n])
		for _, s.Name = range words[:n] {
			rows = append(rows, s)
		}
	}
	return rows
}

// mostOf tells by an operand how great it may be: the chapter's numbers, written out.
func mostOf(operand int) int { return []int{0, math.MaxInt, 63, 4095, 63, 4, 255}[operand] }

func leastOf(operand int) int {
	if operand == op.ONum {
		return math.MinInt
	}
	return 0
}

// kinds tells by an instruction what its operand is.
var kinds = func() []int {
	var l []int
	for _, s := range rowsOf(instructions) {
		l = append(l, s.Operand)
	}
	return l
}()

// faultOf tells whether an instruction may be.
func faultOf(x api.Instr) api.Errno {
	if x.Op < 0 || x.Op > 45 {
		return api.ErrOp
	}
	if k := kinds[x.Op]; x.A < leastOf(k) || x.A > mostOf(k) {
		return api.ErrCode
	}
	return api.OK
}

func form(u uint64) []byte {
	if u < 248 {
		return []byte{byte(u)}
	}
	var b []byte
	for ; u > 0; u >>= 8 {
		b = append([]byte{byte(u)}, b...)
	}
	return append([]byte{byte(247 + len(b))}, b...)
}

func fold(n int) uint64 {
	if n >= 0 {
		return 2 * uint64(n)
	}
	return 2*uint64(-(n+1)) + 1
}

func bytesOf(code []api.Instr) ([]byte, api.Errno) {
	if len(code) > 4096 {
		return nil, api.ErrLong
	}
	var b []byte
	for _, x := range code {
		if e := faultOf(x); e != api.OK {
			return nil, e
		}
		b = append(b, byte(x.Op))
		switch kinds[x.Op] {
		case 0:
		case 1:
			b = append(b, form(fold(x.A))...)
		default:
			b = append(b, form(uint64(x.A))...)
		}
	}
	return b, api.OK
}

// number reads the form at b's beginning: the number, what stands behind it, and what is wrong with it, if no number above most may stand there.
func number(b []byte, most uint64) (uint64, []byte, api.Errno) {
	if len(b) == 0 {
		return 0, nil, api.ErrCut
	}
	k := max(0, int(b[0])-247)
	if len(b) < 1+k {
		return 0, nil, api.ErrCut
	}
	u := uint64(b[0])
	if k > 0 {
		u = 0
	}
	for _, c := range b[1 : 1+k] {
		u = u*256 + uint64(c)
	}
	if u > most || !bytes.Equal(form(u), b[:1+k]) {
		return 0, nil, api.ErrForm
	}
	return u, b[1+k:], api.OK
}

func codeOf(b []byte) ([]api.Instr, api.Errno) {
	if len(b) > 40960 {
		return nil, api.ErrLong
	}
	var code []api.Instr
	for len(b) > 0 {
		if len(code) == 4096 {
			return nil, api.ErrLong
		}
		var x api.Instr
		n, rest, e := number(b, math.MaxInt)
		if e != api.OK {
			return nil, e
		}
		if n > 45 {
			return nil, api.ErrOp
		}
		x.Op = int(n)
		switch kinds[n] {
		case 0:
		case 1:
			n, rest, e = number(rest, math.MaxUint64)
			x.A = int(n >> 1)
			if n%2 == 1 {
				x.A = -x.A - 1
			}
		default:
			n, rest, e = number(rest, math.MaxInt)
			x.A = int(n)
		}
		if e != api.OK {
			return nil, e
		}
		if e = faultOf(x); e != api.OK {
			return nil, e
		}
		code, b = append(code, x), rest
	}
	return code, api.OK
}

// What the tests hand in.

func seeded(n uint64) *rand.Rand { return rand.New(rand.NewPCG(n, 11)) }

func list(l ...api.Instr) []api.Instr { return l }

func one(op, a int) api.Instr { return api.Instr{Op: op, A: a} }

// wide draws a number of any size.
func wide(r *rand.Rand) int { return int(r.Uint64()) >> r.IntN(64) }

// edges are numbers at which an operand, or a form, is another one.
func edges() []int {
	row := []int{math.MinInt, math.MinInt + 1, math.MaxInt - 1, math.MaxInt}
	for _, n := range []int{0, 4, 5, 46, 63, 64, 123, 124, 127, 128, 247, 248, 255, 256, 4095, 4096, 32767, 32768, 65535, 65536, 1 << 31, 1 << 32, 1 << 56, 1 << 62} {
		row = append(row, n-1, n, n+1, -n, -n-1, ^n-1)
	}
	slices.Sort(row)
	return slices.Compact(row)
}

// drawn is an instruction that may be.
func drawn(r *rand.Rand) api.Instr {
	x := one(r.IntN(46), 0)
	switch k := kinds[x.Op]; k {
	case 0:
	case 1:
		x.A = wide(r)
	default:
		x.A = []int{0, mostOf(k), r.IntN(mostOf(k) + 1)}[r.IntN(3)]
	}
	return x
}

// drawnCode has so many instructions that may be.
func drawnCode(r *rand.Rand, n int) []api.Instr {
	var code []api.Instr
	for range n {
		code = append(code, drawn(r))
	}
	return code
}

// brief is a list in few words.
func brief[T any](l []T) string {
	s := fmt.Sprint(l)
	if len(s) > 200 {
		s = s[:200] + ".."
	}
	return fmt.Sprintf("%d: %s", len(l), s)
}

func same[T comparable](t *testing.T, what string, got, want []T) {
	t.Helper()
	if !slices.Equal(got, want) {
		t.Fatalf("%s: %s\nwant %s", what, brief(got), brief(want))
	}
}

func is[T comparable](t *testing.T, what string, got, want T) {
	t.Helper()
	if got != want {
		t.Errorf("%s: %v, want %v", what, got, want)
	}
}

func TestTheOracle(t *testing.T) {
	is(t, "rows", len(rowsOf(instructions)), 46)
	is(t, "rows", len(rowsOf(callsOfFiles)), 5)
	for _, s := range rowsOf(instructions) {
		if s.Operand < 0 {
			t.Errorf("%s has no operand", s.Name)
		}
	}
	is(t, "form", fmt.Sprint(form(247), form(248), form(4095), form(65536)), "[247] [248 248] [249 15 255] [250 1 0 0]")
	is(t, "fold", fmt.Sprint(fold(0), fold(-1), fold(1), fold(math.MinInt), fold(math.MaxInt)), "0 1 2 18446744073709551615 18446744073709551614")
}
