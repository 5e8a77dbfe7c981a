package opt_test

import (
	"fmt"
	"math"
	"strings"
	"testing"

	"retort/api"
	"retort/cell"
	"retort/op"
	"retort/opt"
	"retort/prog"
)

// does looks at the first thing that is left in a function's code, and at the code with it done.
func does(t testing.TB, code string, at, what int, want string) {
	t.Helper()
	p, q := single(code), single(want)
	s, w, some := opt.Left(p)
	if s != (api.Spot{At: at}) || w != what || !some {
		t.Errorf("P1604: Left of %s: %v %v %v; want %v %v", code, s, w, some, at, what)
	}
	if once, e := opt.Once(p); e != api.OK || !prog.Same(once, q) {
		t.Errorf("P1605: Once of %s: %s %v; want %s", code, said(once), e, want)
	}
	held(t, p)
}

// rests looks at a code in which nothing is left.
func rests(t testing.TB, code string) {
	t.Helper()
	p := single(code)
	s, w, some := opt.Left(p)
	if s != (api.Spot{}) || w != 0 || some {
		t.Errorf("P1604: Left of %s: %v %v %v", code, s, w, some)
	}
	q, e := opt.Once(p)
	if e != api.OK || !prog.Same(q, p) {
		t.Errorf("P1605: Once of %s: %s %v", code, said(q), e)
	}
	comes(t, code, code)
}

// comes looks at what Run tells of a code.
func comes(t testing.TB, code, want string) {
	t.Helper()
	p := single(code)
	if q, e := opt.Run(p); e != api.OK || !prog.Same(q, single(want)) {
		t.Errorf("P1606: Run of %s: %s %v; want %s", code, said(q), e, want)
	}
	held(t, p)
}

func TestExamples(t *testing.T) {
	comes(t, "num 2 | num 3 | mul | num 0 | add | ret", "num 6 | ret")
	does(t, "num 2 | num 3 | mul | num 0 | add | ret", 0, opt.LFold, "num 6 | num 0 | add | ret")
	rests(t, "num 1 | num 0 | div | ret")
	does(t, "num 5 | num 0 | eq | zero 6 | num 7 | ret | num 8 | ret", 0, opt.LFold, "num 0 | zero 4 | num 7 | ret | num 8 | ret")
	does(t, "num 0 | zero 4 | num 7 | ret | num 8 | ret", 0, opt.LFold, "jump 3 | num 7 | ret | num 8 | ret")
	does(t, "jump 3 | num 7 | ret | num 8 | ret", 1, opt.LDead, "jump 1 | num 8 | ret")
	does(t, "jump 1 | num 8 | ret", 0, opt.LNop, "num 8 | ret")
	comes(t, "num 5 | num 0 | eq | zero 6 | num 7 | ret | num 8 | ret", "num 8 | ret")
	rests(t, "jump 0")
	rests(t, "jump 2 | jump 0 | jump 1")
	does(t, "nop | jump 0", 0, opt.LNop, "jump 0")
	rests(t, "num 1 | num 2 | swap | pop | ret")
	does(t, "num 4 | set 0 | get 0 | ret", 1, opt.LDrop, "num 4 | ret")
	comes(t, "num 4 | set 0 | get 0 | ret", "num 4 | ret")
}

// sample is a row of the table, and what stands instead: U is a label behind it, T that of the next place.
type sample struct {
	what         int
	row, instead string
	height       int // how many operands it needs
}

func samples() []sample {
	l := []sample{
		{opt.LNop, "nop", "", 0},
		{opt.LNop, "jump T", "", 0},
		{opt.LNop, "zero T", "pop", 1}, {opt.LNop, "notzero T", "pop", 1},
		{opt.LFold, "num 0 | zero U", "jump U", 0}, {opt.LFold, "num 3 | zero U", "", 0},
		{opt.LFold, "num 0 | notzero U", "", 0}, {opt.LFold, "num -1 | notzero U", "jump U", 0},
		{opt.LFold, "num 7 | neg", "num -7", 0}, {opt.LFold, "num 7 | not", "num -8", 0},
		{opt.LFold, "num 7 | num 4 | sub", "num 3", 0}, {opt.LFold, "num 7 | num -2 | div", "num -3", 0},
		{opt.LFold, "num 0 | eq | zero U", "notzero U", 1}, {opt.LFold, "num 0 | eq | notzero U", "zero U", 1},
		{opt.LDrop, "num 3 | pop", "", 0}, {opt.LDrop, "get 3 | pop", "", 0}, {opt.LDrop, "copy 1 | pop", "", 2}, {opt.LDrop, "size | pop", "", 0},
		{opt.LDrop, "swap | swap", "", 2},
		{opt.LDrop, "get 3 | set 3", "", 0},
		{opt.LDrop, "neg | neg", "", 1}, {opt.LDrop, "not | not", "", 1},
		{opt.LDrop, "copy 0 | swap", "copy 0", 1},
	}
	for _, name := range strings.Fields("add sub or xor shl shr ushr") {
		l = append(l, sample{opt.LFold, "num 0 | " + name, "", 1})
	}
	for _, name := range []string{"mul", "div"} {
		l = append(l, sample{opt.LFold, "num 1 | " + name, "", 1})
	}
	return l
}

// pieces are a text's lines, without those that are empty.
func pieces(s string) []string {
	var l []string
	for x := range strings.SplitSeq(s, "|") {
		if x = strings.TrimSpace(x); x != "" {
			l = append(l, x)
		}
	}
	return l
}

func joined(l ...string) string { return strings.Join(pieces(strings.Join(l, "|")), " | ") }

// repeated is that line so often.
func repeated(s string, n int) string { return strings.Join(make([]string, n+1), s+" |") }

// behind is what stands behind a sample's row: an end to which it goes on, and another one, if it names it.
func (s sample) behind() string {
	if strings.Contains(s.row, "U") {
		return "T: size | halt | U: get 2 | halt"
	}
	return "T: size | halt"
}

// change is how many more operands lie behind the first k instructions of a row.
func change(row string, k int) int {
	h := 0
	for _, x := range pieces(row)[:k] {
		n, _ := op.Named(strings.Fields(x)[0])
		s, _ := op.Of(n)
		h += s.Gives - s.Takes
	}
	return h
}

// Each row, at the beginning, in the middle, at the end, its first place a target, from ahead of it and from behind it. (A jump to an INop or an IJump would be led on first.)
func TestEachRow(t *testing.T) {
	for _, s := range samples() {
		need := repeated("get 1", s.height)
		does(t, joined(need, s.row, s.behind()), s.height, s.what, joined(need, s.instead, s.behind()))
		front := joined("size | set 1 | get 0", need)
		does(t, joined(front, s.row, s.behind()), s.height+3, s.what, joined(front, s.instead, s.behind()))
		if s.row == "nop" || s.row == "jump T" {
			continue
		}
		front = joined("size | set 1", need, "size | zero F | size | set 2 | F:")
		does(t, joined(front, s.row, s.behind()), s.height+6, s.what, joined(front, s.instead, s.behind()))
		front = joined("size | set 1", need, "F:")
		round := strings.Replace(s.behind(), "T: size", "T: get 3 | zero Q | size", 1)
		back := joined("Q: size | set 2", adjusted(s.height+change(s.row, len(pieces(s.row))), s.height), "jump F")
		does(t, joined(front, s.row, round, back), s.height+2, s.what, joined(front, s.instead, round, back))
	}
}

// adjusted are instructions that bring so many operands to another number of them.
func adjusted(from, to int) string {
	if from > to {
		return repeated("pop", from-to)
	}
	return repeated("get 1", to-from)
}

// Each row with one of its places but the first a target: it is none.
func TestTargetWithin(t *testing.T) {
	for _, s := range append(samples(), sample{opt.LDrop, "set 3 | get 3 | ret", "ret", 1}) {
		l := pieces(s.row)
		for k := 1; k < len(l); k++ {
			there := s.height + change(s.row, k)
			front := joined(repeated("get 1", there), "size | zero M", adjusted(there, s.height))
			if adjusted(there, s.height) == "" {
				front = joined(front, "size | set 2")
			}
			behind := s.behind()
			if strings.HasSuffix(s.row, "ret") {
				behind = ""
			}
			code := joined(front, strings.Join(l[:k], "|"), "M:", strings.Join(l[k:], "|"), behind)
			rests(t, code)
		}
	}
}

// Row 4: a jump to an end that lies elsewhere.
func TestJumpToEnd(t *testing.T) {
	for _, end := range []string{"ret", "halt", "abort"} {
		front := "get 1 | get 2 | zero A | neg | jump B | A: get 3 | add | B: " + end
		does(t, front, 4, opt.LThread, "get 1 | get 2 | zero A | neg | "+end+" | A: get 3 | add | B: "+end)
		// To an end ahead of it; as the last instruction.
		does(t, "get 1 | get 2 | zero A | B: "+end+" | A: neg | jump B", 5, opt.LThread, "get 1 | get 2 | zero A | B: "+end+" | A: neg | "+end)
		// As the first one: what stands behind is dead then.
		comes(t, "num 1 | jump E | E: "+end, "num 1 | "+end)
		// Its place a target: jumps come to the end that is put there.
		does(t, "get 1 | get 2 | zero A | get 3 | notzero C | neg | jump B | C: A: get 3 | neg | add | B: "+end,
			6, opt.LThread, "get 1 | get 2 | zero A | get 3 | notzero C | neg | "+end+" | C: A: get 3 | neg | add | B: "+end)
	}
	// To the next place it is row 2; to another instruction none.
	does(t, "get 1 | jump B | B: ret", 1, opt.LNop, "get 1 | ret")
	rests(t, "get 1 | get 2 | zero A | get 3 | jump B | A: get 2 | B: add | ret")
	// A branch to an end stays.
	rests(t, "get 1 | get 2 | zero A | neg | A: ret")
}

// Row 18, also where locals are unlike, or the end is another one.
func TestSetGetRet(t *testing.T) {
	does(t, "get 1 | set 3 | get 3 | ret", 1, opt.LDrop, "get 1 | ret")
	does(t, "get 1 | get 2 | zero F | not | F: set 0 | get 0 | ret", 4, opt.LDrop, "get 1 | get 2 | zero F | not | F: ret")
	does(t, "get 1 | get 2 | zero G | neg | set 0 | get 0 | ret | G: not | set 1 | get 1 | ret", 4, opt.LDrop, "get 1 | get 2 | zero G | neg | ret | G: not | set 1 | get 1 | ret")
	rests(t, "get 1 | set 3 | get 2 | ret")
	rests(t, "get 1 | set 3 | get 3 | halt")
	rests(t, "get 1 | set 3 | get 3 | get 1 | add | ret")
}

// What is nearly a row is none.
func TestNearly(t *testing.T) {
	for _, code := range []string{
		"get 0 | num 1 | add | ret", "get 0 | num -1 | shl | ret", "get 0 | num 64 | shr | ret", "get 0 | num 0 | and | ret", "get 0 | num 0 | mul | ret",
		"get 0 | num 0 | div | ret", "get 0 | num 0 | rem | ret", "get 0 | num 1 | rem | ret", "get 0 | num -1 | mul | ret", "get 0 | num -1 | div | ret", "get 0 | num 0 | lt | ret", "get 0 | num 0 | ult | ret",
		"get 0 | num 0 | fadd | ret", "get 0 | num 0 | fsub | ret", "get 0 | num 1 | fmul | ret", "get 0 | num 1 | fdiv | ret", "get 0 | num 0 | eq | ret",
		"get 0 | num 1 | eq | zero A | get 1 | ret | A: get 2 | ret", "get 0 | num -1 | eq | notzero A | get 1 | ret | A: get 2 | ret",
		"get 0 | num 0 | lt | zero A | get 1 | ret | A: get 2 | ret", "get 0 | num 0 | eq | neg | zero A | get 1 | ret | A: get 2 | ret",
		"get 0 | get 1 | set 2 | ret", "get 2 | set 1 | size | ret", "get 0 | set 1 | get 1 | halt",
		"get 0 | neg | not | ret", "get 0 | not | neg | ret", "get 0 | fneg | fneg | ret", "get 0 | neg | fneg | neg | ret",
		"get 0 | get 1 | copy 1 | swap | halt", "get 0 | get 1 | swap | copy 0 | halt", "get 0 | get 1 | get 2 | swap | pop | halt",
		"size | neg | ret", "size | zero A | get 1 | ret | A: get 2 | ret", "size | size | add | ret", "num 3 | size | add | ret", "get 0 | num 3 | add | ret", "size | get 0 | sys close | pop | ret",
		"num 1 | ret", "num 3 | halt", "num 3 | abort", "num 3 | load | ret", "num 3 | load8 | ret", "num 3 | num 4 | store | size | ret", "num 3 | num 4 | swap | halt",
		"num 3 | set 0 | size | ret", "num 3 | sys close | ret", "num 3 | copy 0 | halt", "num 3 | num 4 | num 5 | halt",
	} {
		rests(t, code)
	}
}

// Rows 5 and 6, both ways, with numbers of all kinds.
func TestBranchesOfNumbers(t *testing.T) {
	for _, x := range []int{0, 1, -1, 2, 256, 1 << 32, math.MaxInt, math.MinInt} {
		for _, name := range []string{"zero", "notzero"} {
			instead := ""
			if (x == 0) == (name == "zero") {
				instead = "jump A"
			}
			does(t, fmt.Sprintf("get 0 | num %d | %s A | neg | A: ret", x, name), 1, opt.LFold, joined("get 0", instead, "neg | A: ret"))
		}
	}
	// To itself, back, to the next place.
	does(t, "A: num 0 | zero A | size | ret", 0, opt.LFold, "A: jump A | size | ret")
	does(t, "A: num 1 | zero A | size | ret", 0, opt.LFold, "size | ret")
	does(t, "A: size | set 0 | num 5 | notzero A | size | ret", 2, opt.LFold, "A: size | set 0 | jump A | size | ret")
	does(t, "num 5 | notzero A | A: size | ret", 0, opt.LFold, "jump A | A: size | ret")
	does(t, "num 5 | zero A | A: size | ret", 0, opt.LFold, "size | ret")
}

// words are numbers of which some make something trap.
func words() []int {
	return []int{0, 1, -1, 7, 63, 64, math.MaxInt, math.MinInt, cell.Word(1), cell.Word(-2.5), cell.Word(0.1), cell.Word(1e300), cell.Word(math.Inf(-1)), cell.Word(math.NaN()), 9218868437227405313, 4890909195324358656, -4332462841530417152}
}

// Rows 7 and 8, with every instruction; what traps stays.
func TestFolds(t *testing.T) {
	folded, stayed := 0, 0
	for n := range api.ICount {
		s, _ := op.Of(n)
		for _, x := range words() {
			if cell.Has1(n) {
				front := fmt.Sprintf("size | set 0 | num %d | %s | halt", x, s.Name)
				w, trap := cell.One(n, x)
				if trap != api.TNone {
					rests(t, front)
					stayed++
					continue
				}
				does(t, front, 2, opt.LFold, fmt.Sprintf("size | set 0 | num %d | halt", w))
				folded++
			}
			if !cell.Has2(n) {
				continue
			}
			for _, y := range words() {
				front := fmt.Sprintf("num %d | num %d | %s | halt", x, y, s.Name)
				w, trap := cell.Two(n, x, y)
				if trap != api.TNone {
					rests(t, front)
					stayed++
					continue
				}
				does(t, front, 0, opt.LFold, fmt.Sprintf("num %d | halt", w))
				folded++
			}
		}
	}
	if folded < 5000 || stayed < 30 {
		t.Errorf("%d folded, %d stayed", folded, stayed)
	}
}

// Every instruction that takes as many, but makes no word out of words, folds nothing.
func TestFoldsNothingElse(t *testing.T) {
	for _, code := range []string{
		"num 3 | num 4 | store8 | size | halt", "num 3 | num 4 | swap | halt", "num 3 | num 4 | call g | halt | func g 2 2 1 | get 0 | ret",
		"num 3 | call g | halt | func g 1 1 1 | get 0 | ret", "num 3 | sys close | halt", "num 3 | num 4 | num 5 | sys read | halt",
	} {
		rests(t, code)
	}
}

// Operands at their ends.
func TestOperandsAtEnds(t *testing.T) {
	front := "memory 8 | func f 0 64 1 |"
	for _, x := range []struct {
		code     string
		at, what int
		want     string
	}{
		{"get 63 | set 63 | size | ret", 0, opt.LDrop, "size | ret"},
		{"size | set 63 | get 63 | ret", 1, opt.LDrop, "size | ret"},
		{"get 63 | pop | size | ret", 0, opt.LDrop, "size | ret"},
		{fmt.Sprintf("num %d | pop | size | ret", math.MinInt), 0, opt.LDrop, "size | ret"},
		{fmt.Sprintf("num %d | num 1 | add | ret", math.MaxInt), 0, opt.LFold, fmt.Sprintf("num %d | ret", math.MinInt)},
		{repeated("size", 255) + "copy 254 | pop | halt", 255, opt.LDrop, repeated("size", 255) + "halt"},
		{repeated("size", 255) + "copy 0 | swap | halt", 255, opt.LDrop, repeated("size", 255) + "copy 0 | halt"},
		{repeated("size", 255) + "num 0 | add | halt", 255, opt.LFold, repeated("size", 255) + "halt"},
	} {
		p := whole(front + x.code)
		s, what, some := opt.Left(p)
		if s != (api.Spot{At: x.at}) || what != x.what || !some {
			t.Errorf("P1604: Left of %s: %v %v %v", x.code, s, what, some)
		}
		if q, e := opt.Once(p); e != api.OK || !prog.Same(q, whole(front+x.want)) {
			t.Errorf("P1605: Once of %s: %s %v", x.code, said(q), e)
		}
		held(t, p)
	}
	p := whole(front + "get 62 | set 63 | size | ret")
	if _, _, some := opt.Left(p); some {
		t.Errorf("P1603: row 15 of %s", said(p))
	}
}

// Where several rows begin at one place, or at several, that come to unlike codes.
func TestOverlapping(t *testing.T) {
	// 8 ahead of 11 and 12 at the next place, and of 13.
	does(t, "num 5 | num 0 | add | ret", 0, opt.LFold, "num 5 | ret")
	does(t, "num 5 | num 0 | mul | ret", 0, opt.LFold, "num 0 | ret")
	does(t, "get 0 | num 5 | num 1 | mul | add | ret", 1, opt.LFold, "get 0 | num 5 | add | ret")
	// 8 ahead of 9: a number held against 0.
	does(t, "num 0 | num 0 | eq | zero A | get 1 | ret | A: get 2 | ret", 0, opt.LFold, "num 1 | zero A | get 1 | ret | A: get 2 | ret")
	// 7 ahead of 16.
	does(t, "num 5 | neg | neg | ret", 0, opt.LFold, "num -5 | neg | ret")
	// 2 ahead of 4, 3 by itself.
	does(t, "get 1 | jump B | B: halt", 1, opt.LNop, "get 1 | halt")
	// 14 at each place: the first one.
	does(t, "get 0 | get 1 | swap | swap | swap | sub | ret", 2, opt.LDrop, "get 0 | get 1 | swap | sub | ret")
	does(t, "get 0 | neg | neg | neg | ret", 1, opt.LDrop, "get 0 | neg | ret")
	// 17 and then 14: the first place.
	does(t, "get 0 | copy 0 | swap | swap | sub | ret", 1, opt.LDrop, "get 0 | copy 0 | swap | sub | ret")
	// 13 behind a number that 5 would take.
	does(t, "num 3 | num 4 | pop | zero A | get 0 | ret | A: get 1 | ret", 1, opt.LDrop, "num 3 | zero A | get 0 | ret | A: get 1 | ret")
	// 15 ahead of 18: get, set, get, ret.
	does(t, "get 0 | set 0 | get 0 | ret", 0, opt.LDrop, "get 0 | ret")
	does(t, "get 1 | set 0 | get 0 | ret", 1, opt.LDrop, "get 1 | ret")
	// 18 ahead of 15: set, get, ret; but no ret there.
	does(t, "size | set 0 | get 0 | set 0 | size | ret", 2, opt.LDrop, "size | set 0 | size | ret")
	// Of 5 and 8 the first place.
	does(t, "num 1 | num 0 | zero A | num 4 | add | A: ret", 1, opt.LFold, "num 1 | jump A | num 4 | add | A: ret")
	// 3 where 5 begins one ahead.
	does(t, "num 0 | zero A | A: size | ret", 0, opt.LFold, "jump A | A: size | ret")
	// 9 where its jump goes to the next place: 9 is ahead of 3.
	does(t, "get 0 | num 0 | eq | zero A | A: size | ret", 1, opt.LFold, "get 0 | notzero A | A: size | ret")
	does(t, "get 0 | notzero A | A: size | ret", 1, opt.LNop, "get 0 | pop | size | ret")
	does(t, "get 0 | pop | size | ret", 0, opt.LDrop, "size | ret")
}

// What is done brings something about ahead of it.
func TestBroughtAboutAhead(t *testing.T) {
	comes(t, "num 1 | num 2 | num 3 | num 4 | add | add | add | ret", "num 10 | ret")
	comes(t, "get 0 | get 1 | swap | neg | neg | swap | sub | ret", "get 0 | get 1 | sub | ret")
	comes(t, "get 0 | num 0 | nop | nop | eq | nop | zero A | get 1 | ret | A: get 2 | ret", "get 0 | notzero A | get 1 | ret | A: get 2 | ret")
	// A far jump's end comes to stand where it names: row 4 ahead of what was done.
	comes(t, "get 0 | get 1 | zero A | neg | jump B | A: not | B: num 0 | add | ret", "get 0 | get 1 | zero A | neg | ret | A: not | ret")
	comes(t, "get 0 | get 1 | zero A | neg | jump B | A: not | B: set 2 | get 2 | ret", "get 0 | get 1 | zero A | neg | ret | A: not | ret")
	// A branch that is gone makes its place no target any more, ahead of it and behind it.
	comes(t, "get 0 | num 1 | A: mul | get 1 | num 3 | zero A | add | ret", "get 0 | get 1 | add | ret")
	comes(t, "get 0 | get 1 | num 0 | zero B | swap | B: swap | num 5 | add | halt", "get 0 | get 1 | swap | num 5 | add | halt")
	comes(t, "get 0 | get 1 | num 1 | zero B | swap | B: swap | num 5 | add | halt", "get 0 | get 1 | num 5 | add | halt")
	comes(t, "get 0 | get 1 | zero A | set 3 | get 3 | B: ret | A: neg | jump B", "get 0 | get 1 | zero A | ret | A: neg | ret")
	comes(t, "get 0 | get 1 | zero A | neg | num 1 | notzero M | A: not | M: neg | ret", "get 0 | get 1 | zero A | neg | jump M | A: not | M: neg | ret")
	// An end to which no jump goes any more is dead, and with it something that lay between.
	comes(t, "get 0 | get 1 | zero A | neg | jump B | A: not | jump C | B: ret | C: not | get 2 | zero C | ret", "get 0 | get 1 | zero A | neg | ret | A: not | C: not | get 2 | zero C | ret")
	// One that several name is a target as long as one does.
	comes(t, "get 1 | get 0 | zero M | neg | get 2 | zero M | M: neg | ret", "get 1 | get 0 | zero M | neg | M: neg | ret")
	comes(t, "get 1 | get 0 | zero M | neg | get 2 | pop | get 2 | notzero M | M: neg | ret", "get 1 | get 0 | zero M | neg | M: neg | ret")
	comes(t, "get 1 | get 0 | zero M | get 2 | zero M | not | M: num 0 | add | neg | ret", "get 1 | get 0 | zero M | get 2 | zero M | not | M: neg | ret")
	comes(t, "A: num 0 | zero C | C: get 0 | zero D | D: jump A", "A: get 0 | zero A | jump A")
}
