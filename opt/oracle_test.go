package opt_test

import (
	"fmt"
	"math/rand/v2"
	"slices"
	"strconv"
	"strings"
	"testing"

	"retort/api"
	"retort/asm"
	"retort/cell"
	"retort/check"
	"retort/op"
	"retort/opt"
	"retort/prog"
)

// The chapter said once more, in another way: codes are written anew each time, rows are texts that are held against the code, and all begins again with check behind each thing that is done.

// edit is what stands instead of some places.
type edit struct {
	long    int
	instead []api.Instr
}

// edited is a code with some places dropped, or others put in their place.
func edited(code []api.Instr, edits map[int]edit) []api.Instr {
	var out []api.Instr
	where := map[int]int{}
	for at := 0; at < len(code); {
		x, some := edits[at]
		if !some {
			x = edit{1, code[at : at+1]}
		}
		for range x.long {
			where[at] = len(out)
			at++
		}
		out = append(out, x.instead...)
	}
	for i, x := range out {
		if isJump(x) {
			out[i].A = where[x.A]
		}
	}
	return out
}

func nameOf(x api.Instr) string {
	s, _ := op.Of(x.Op)
	return s.Name
}

func isJump(x api.Instr) bool {
	return slices.Contains([]string{"jump", "zero", "notzero"}, nameOf(x))
}

// endOf is where a jump ends that names a place.
func endOf(code []api.Instr, at int) int {
	for seen := map[int]bool{}; !seen[at]; {
		seen[at] = true
		switch nameOf(code[at]) {
		case "nop":
			at++
		case "jump":
			at = code[at].A
		default:
			return at
		}
	}
	return at
}

// line is one of the table: letters stand for any operands, w for the word that one or two make, next for the place behind the row, the name of an instruction for a place where it stands.
type line struct {
	what         int
	row, instead string
}

var lines = []line{
	{2, "nop", ""},
	{2, "jump next", ""},
	{2, "zero next", "pop"}, {2, "notzero next", "pop"},
	{3, "jump ret", "ret"}, {3, "jump halt", "halt"}, {3, "jump abort", "abort"},
	{4, "num 0; zero a", "jump a"}, {4, "num x; zero a", ""},
	{4, "num 0; notzero a", ""}, {4, "num x; notzero a", "jump a"},
	{4, "num x; ONE", "num w"},
	{4, "num x; num y; TWO", "num w"},
	{4, "num 0; eq; zero a", "notzero a"},
	{4, "num 0; eq; notzero a", "zero a"},
	{4, "num 0; add", ""}, {4, "num 0; sub", ""}, {4, "num 0; or", ""}, {4, "num 0; xor", ""}, {4, "num 0; shl", ""}, {4, "num 0; shr", ""}, {4, "num 0; ushr", ""},
	{4, "num 1; mul", ""}, {4, "num 1; div", ""},
	{5, "num x; pop", ""}, {5, "get x; pop", ""}, {5, "copy x; pop", ""}, {5, "size; pop", ""},
	{5, "swap; swap", ""},
	{5, "get a; set a", ""},
	{5, "neg; neg", ""}, {5, "not; not", ""},
	{5, "copy 0; swap", "copy 0"},
	{5, "set a; get a; ret", "ret"},
}

// piece is one instruction of a line: its name, and its operand.
type piece struct{ name, operand string }

func piecesOf(s string) []piece {
	var l []piece
	for _, x := range strings.Split(s, ";") {
		words := append(strings.Fields(x), "", "")
		if words[0] != "" {
			l = append(l, piece{words[0], words[1]})
		}
	}
	return l
}

// cut are the lines' pieces, both sides.
var cut = func() (l [][2][]piece) {
	for _, x := range lines {
		l = append(l, [2][]piece{piecesOf(x.row), piecesOf(x.instead)})
	}
	return l
}()

// bound are the operands that letters stand for.
type bound map[string]int

// fits tells whether a piece stands at a place.
func (v bound) fits(code []api.Instr, at, next int, p piece) bool {
	x := code[at]
	trap := api.TNone
	switch p.name {
	case "ONE":
		v["w"], trap = cell.One(x.Op, v["x"])
		return trap == api.TNone
	case "TWO":
		v["w"], trap = cell.Two(x.Op, v["x"], v["y"])
		return trap == api.TNone
	case nameOf(x):
	default:
		return false
	}
	n, err := strconv.Atoi(p.operand)
	switch was, some := v[p.operand]; {
	case p.operand == "":
		return true
	case err == nil:
		return x.A == n
	case p.operand == "next":
		return x.A == next
	case len(p.operand) > 1:
		return nameOf(code[x.A]) == p.operand
	case some:
		return was == x.A
	}
	v[p.operand] = x.A
	return true
}

// rowAt is the first line that fits at a place.
func rowAt(code []api.Instr, targets map[int]bool, at int) (edit, int, bool) {
lines:
	for i, l := range cut {
		v := bound{}
		for k, p := range l[0] {
			if at+k == len(code) || k > 0 && targets[at+k] || !v.fits(code, at+k, at+len(l[0]), p) {
				continue lines
			}
		}
		x := edit{long: len(l[0])}
		for _, p := range l[1] {
			in, _ := op.Named(p.name)
			n, err := strconv.Atoi(p.operand)
			if err != nil {
				n = v[p.operand]
			}
			x.instead = append(x.instead, api.Instr{Op: in, A: n})
		}
		return x, lines[i].what, true
	}
	return edit{}, 0, false
}

// whatIsLeft is P1601 to P1604: the spot, what, and the program with it done.
func whatIsLeft(p api.Program) (at api.Spot, what int, q api.Program) {
	facts, fault := check.Run(p)
	if fault.Err != api.OK {
		return at, 0, api.Program{}
	}
	if at, q, some := withoutDead(p, facts); some {
		return at, opt.LDead, q
	}
	if at, q, some := threaded(p); some {
		return at, opt.LThread, q
	}
	for f, g := range p.Funcs {
		targets := map[int]bool{}
		for _, x := range g.Code {
			if isJump(x) {
				targets[x.A] = true
			}
		}
		for i := range g.Code {
			if x, what, some := rowAt(g.Code, targets, i); some {
				q := prog.Twin(p)
				q.Funcs[f].Code = edited(g.Code, map[int]edit{i: x})
				return api.Spot{Func: f, At: i}, what, q
			}
		}
	}
	return api.Spot{}, 0, p
}

func withoutDead(p api.Program, facts api.Facts) (first api.Spot, q api.Program, some bool) {
	q = api.Program{Memory: p.Memory, Data: p.Data}
	number := map[int]int{}
	for f, g := range p.Funcs {
		edits := map[int]edit{}
		for i, h := range facts.Heights[f] {
			if h == -1 || !facts.Live[f] {
				edits[i] = edit{long: 1}
				if !some {
					first, some = api.Spot{Func: f, At: i}, true
				}
			}
		}
		if !facts.Live[f] {
			continue
		}
		number[f] = len(q.Funcs)
		g.Code = edited(g.Code, edits)
		q.Funcs = append(q.Funcs, g)
	}
	for _, g := range q.Funcs {
		for i, x := range g.Code {
			if nameOf(x) == "call" {
				g.Code[i].A = number[x.A]
			}
		}
	}
	return first, q, some
}

func threaded(p api.Program) (first api.Spot, q api.Program, some bool) {
	q = prog.Twin(p)
	for f, g := range p.Funcs {
		for i, x := range g.Code {
			if !isJump(x) || endOf(g.Code, x.A) == x.A {
				continue
			}
			q.Funcs[f].Code[i].A = endOf(g.Code, x.A)
			if !some {
				first, some = api.Spot{Func: f, At: i}, true
			}
		}
	}
	return first, q, some
}

// held looks at all that is told of a program, and of what is done to it step by step; it tells the last one, and what was done.
func held(t testing.TB, p api.Program) (api.Program, []int) {
	t.Helper()
	_, fault := check.Run(p)
	if fault.Err != api.OK {
		refused(t, p)
		return api.Program{}, nil
	}
	var row []int
	now := p
	for {
		at, what, next := whatIsLeft(now)
		s, w, some := opt.Left(now)
		if s != at || w != what || some != (what != 0) {
			t.Fatalf("P1604: Left of %s: %v %v %v; want %v %v", said(now), s, w, some, at, what)
		}
		once, e := opt.Once(now)
		if e != api.OK || !prog.Same(once, next) {
			t.Fatalf("P1605: Once of %s: %s %v; want %s (%d at %v)", said(now), said(once), e, said(next), what, at)
		}
		if what == 0 {
			break
		}
		row = append(row, what)
		if len(row)%8 == 2 {
			best(t, now)
		}
		now = next
	}
	if q := best(t, p); !prog.Same(q, now) {
		t.Fatalf("P1606: Run of %s: %s; want %s", said(p), said(q), said(now))
	}
	if q := best(t, now); !prog.Same(q, now) {
		t.Fatalf("P1607: Run of %s: %s", said(now), said(q))
	}
	return now, row
}

// best is what Run tells of a program that check takes.
func best(t testing.TB, p api.Program) api.Program {
	t.Helper()
	q, e := opt.Run(p)
	if e != api.OK {
		t.Fatalf("P1606: Run of %s: %v", said(p), e)
	}
	if at, what, some := opt.Left(q); at != (api.Spot{}) || what != 0 || some {
		t.Fatalf("P1607: Left of %s, Run of %s: %v %v %v", said(q), said(p), at, what, some)
	}
	return q
}

// refused looks at what is told of a program that check refuses.
func refused(t testing.TB, p api.Program) {
	t.Helper()
	q, e := opt.Run(p)
	if e != api.ErrVerify || !prog.Same(q, api.Program{}) {
		t.Errorf("P1606: Run of %s: %s %v", said(p), said(q), e)
	}
	q, e = opt.Once(p)
	if e != api.ErrVerify || !prog.Same(q, api.Program{}) {
		t.Errorf("P1605: Once of %s: %s %v", said(p), said(q), e)
	}
	at, what, some := opt.Left(p)
	if at != (api.Spot{}) || what != 0 || some {
		t.Errorf("P1604: Left of %s: %v %v %v", said(p), at, what, some)
	}
}

func seeded(n uint64) *rand.Rand { return rand.New(rand.NewPCG(n, 16)) }

func text(x any) string { return fmt.Sprint(x) }

func brief(s string) string {
	if len(s) > 1000 {
		return s[:1000] + ".."
	}
	return s
}

// said is a program's text in one line.
func said(p api.Program) string {
	s, e := asm.Print(p)
	if e != api.OK {
		return brief(text(p))
	}
	return brief(strings.Join(strings.Fields(strings.ReplaceAll(s, "\n", " | ")), " "))
}

func is[T comparable](t testing.TB, what string, got, want T) {
	t.Helper()
	if got != want {
		t.Errorf("%s: %v, want %v", what, brief(text(got)), brief(text(want)))
	}
}

// whole is a program from its text, in which a bar ends a line.
func whole(s string) api.Program {
	p, err := asm.Parse(strings.ReplaceAll(s, "|", "\n"))
	if err != nil {
		panic(s + ": " + err.Error())
	}
	return p
}

// single is a program of one function, with four locals.
func single(s string) api.Program {
	return whole("memory 8 | data \"\\x07\" | func f 0 4 1 |" + s)
}
