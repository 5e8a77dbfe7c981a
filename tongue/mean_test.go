package tongue_test

import (
	"fmt"
	"math"
	"strings"
	"testing"

	"retort/api"
	"retort/cell"
	"retort/tongue"
	"retort/vfs"
)

// meaning does a text over some files, with a memory of 32 bytes and steps enough.
func meaning(t *testing.T, text string) api.Meant {
	t.Helper()
	u := read(t, text)
	m, ok := means(t, u, someFiles(t), 32, 1<<20)
	if !ok {
		t.Errorf("P1705: %s: steps are wanting", text)
	}
	allSteps(t, u, m)
	return m
}

// allSteps holds Mean against what it must tell with each number of steps up to enough, and with more.
func allSteps(t *testing.T, u api.Unit, m api.Meant) {
	t.Helper()
	for steps := range min(m.Steps, 40) {
		means(t, u, someFiles(t), 32, steps)
	}
	for _, steps := range []int{m.Steps - 1, m.Steps, m.Steps + 1, 1 << 20, 1<<20 + 1, math.MaxInt} {
		got, ok := means(t, u, someFiles(t), 32, steps)
		want := m
		if steps < m.Steps {
			want = api.Meant{}
		}
		is(t, fmt.Sprint("P1708: steps ", steps), fmt.Sprintf("%+v %v", got, ok), fmt.Sprintf("%+v %v", want, steps >= m.Steps))
	}
}

// halts looks at what a text returns, and in how many steps (-1: any).
func halts(t *testing.T, text string, code, steps int) {
	t.Helper()
	m := meaning(t, text)
	is(t, "P1706: "+text, fmt.Sprintf("%+v", m.Outcome), fmt.Sprintf("%+v", api.Outcome{End: api.EHalt, Code: code}))
	if steps >= 0 {
		is(t, "P1705: steps of "+text, m.Steps, steps)
	}
}

// traps looks at a text's trap, and in how many steps it comes.
func traps(t *testing.T, text string, trap api.Trap, code, steps int) {
	t.Helper()
	m := meaning(t, text)
	is(t, "P1706: "+text, fmt.Sprintf("%+v", m.Outcome), fmt.Sprintf("%+v", api.Outcome{End: api.ETrap, Trap: trap, Code: code}))
	if steps >= 0 {
		is(t, "P1705: steps of "+text, m.Steps, steps)
	}
}

func TestMeanExamples(t *testing.T) {
	halts(t, "func main() { return 1 + 2 * 3; }", 7, 7)
	halts(t, "func main(; i) { while i < 3 { i = i + 1; } return i; }", 3, -1)
	halts(t, "func main() { return f(0) && f(0) / 0; } func f(a) { return a; }", 0, 8)
	u := read(t, "text p = \"x\"; func main() { return open(&p, #p, 0); }")
	none, _ := vfs.New(nil, api.Quota{Bytes: 9, Files: 9, Open: 9})
	m, ok := tongue.Mean(u, none, 1, 99)
	is(t, "P1705: an example", fmt.Sprintf("%+v %v", m, ok), fmt.Sprintf("%+v %v", api.Meant{Outcome: api.Outcome{End: api.EHalt, Code: -int(api.ErrNoEnt)}, Steps: 6, Moved: 1}, true))
	traps(t, "func main() { do main(); }", api.TStack, 0, 128*3)
	traps(t, "func main() { abort -5; }", api.TAbort, -5, 4)
	traps(t, "func main() { word[size - 7] = 1; }", api.TBounds, 0, 6)
	traps(t, "func main() { return word[size - 7]; }", api.TBounds, 0, 6)
}

// logged has functions a to e that write their letter at the next place of the memory, and return 0 to 4; what stands there at the end is returned.
func logged(doings string) string {
	s := "func main(; i) { " + doings + " return word[16]; }"
	for i, c := range "abcde" {
		s += fmt.Sprintf(" func %c() { byte[16 + byte[0]] = %d; byte[0] = byte[0] + 1; return %d; }", c, c, i)
	}
	return s
}

func letters(s string) int {
	w := 0
	for _, c := range []byte(s + "\x00\x00\x00\x00\x00\x00\x00\x00")[:8] {
		w = w<<8 | int(c)
	}
	return w
}

// Kids are reckoned from the left, each once, or not at all.
func TestMeanOrder(t *testing.T) {
	for doings, want := range map[string]string{
		"do a() + b();": "ab", "do b() - a() * c();": "bac", "do a() < b();": "ab", "do a() > b();": "ab", "do a() >= b();": "ab", "do a() <= b();": "ab", "do a() ># b();": "ab", "do a() >. b();": "ab", "do a() != b();": "ab",
		"do a() && b();": "a", "do b() && a();": "ba", "do b() && a() && c();": "ba", "do a() || b();": "ab", "do b() || a();": "b", "do a() || a() || c() || d();": "aac", "do (b() || c()) && d();": "bd", "do !a() && b();": "ab",
		"word[b()] = a();": "ba", "byte[c()] = a();": "ca", "do word[b() + a()];": "ba", "do f(c(), a(), b());": "cab", "do open(a(), b(), c());": "abc", "do list(a(), a(), b(), c());": "aabc", "do close(e());": "e", "do write(d(), a(), a());": "daa",
		"if a() { do b(); } else { do c(); }": "ac", "if b() { do c(); } else { do d(); }": "bc", "if a() { do b(); }": "a", "if d() { do a(); do b(); }": "dab",
		"while i < 3 && b() { i = i + 1; do c(); }": "bcbcbc", "while a() { do b(); }": "a", "{ do a(); { do b(); } do c(); }": "abc", "while b() { do c(); break; do d(); }": "bc", "while i < 2 && b() { i = i + 1; do c(); continue; do d(); }": "bcbc",
		"i = b(); do c() + i;": "bc", "do -a() + ~b() + !c();": "abc", "do root(float(a())) + int(b());": "ab",
	} {
		text := logged(doings) + " func f(x, y, z) { do d(); }"
		if strings.HasPrefix(doings, "do f(") {
			want += "d"
		}
		if strings.HasPrefix(doings, "word[") || strings.HasPrefix(doings, "byte[") { // they write over how many there are, or beside
			text = strings.ReplaceAll(text, "byte[0]", "byte[15]")
		}
		halts(t, text, letters(want), -1)
	}
	// A trap ends all at once: what stands behind it is not begun.
	for doings, want := range map[string]struct {
		trap api.Trap
		log  string
	}{
		"do a() / a() + b();": {api.TDivide, "aa"}, "do 1 % a() + b();": {api.TDivide, "a"}, "do word[d() * -1] + b();": {api.TBounds, "d"}, "byte[-1] = b(); do c();": {api.TBounds, "b"}, "do f(1 / 0, b(), c());": {api.TDivide, ""}, "do f(b(), c() / 0, d());": {api.TDivide, "bc"}, "abort b(); do c();": {api.TAbort, "b"}, "do int(float(c()) /. 0) + b();": {api.TFloat, "c"}, "if 1 / 0 { do a(); } else { do b(); } do c();": {api.TDivide, ""}, "while b() / a() { do c(); } do c();": {api.TDivide, "ba"}, "while 1 { do b(); do 1 % 0; do c(); }": {api.TDivide, "b"}, "i = 1 / 0; do b();": {api.TDivide, ""}, "return 1 / 0;": {api.TDivide, ""}, "do !(1 / 0) + b();": {api.TDivide, ""}, "do 1 / 0 && b();": {api.TDivide, ""}, "do 1 / 0 || b();": {api.TDivide, ""}, "do b() && 1 / 0;": {api.TDivide, "b"}, "do open(1, 99, b()) + c();": {api.TBounds, "b"}, "do -(1 / 0) + b();": {api.TDivide, ""}, "abort 1 / 0;": {api.TDivide, ""}, "word[1 / 0] = b();": {api.TDivide, ""}, "word[b()] = 1 / 0;": {api.TDivide, "b"}, "do byte[1 / 0];": {api.TDivide, ""},
	} {
		code := 0
		if want.trap == api.TAbort {
			code = 1
		}
		text := logged(doings) + " func f(x, y, z) { do e(); }"
		traps(t, text, want.trap, code, -1)
		// What was done till then is seen by a file that each letter is written to.
		for _, c := range "abcde" {
			text = strings.Replace(text, fmt.Sprintf("func %c() { ", c), fmt.Sprintf("func %c() { byte[30] = %d; do write(0, 30, 1); ", c, c), 1)
		}
		text = "text o = \"d/x\"; " + strings.Replace(text, "func main(; i) { ", "func main(; i) { do open(&o, #o, 2); byte[0] = 0; ", 1)
		f := someFiles(t)
		means(t, read(t, text), f, 32, 1<<20)
		is(t, "P1706: what was done ahead of the trap of "+doings, string(f.Items()[2].Data), want.log)
	}
}

func TestMeanWords(t *testing.T) {
	r := seeded(7)
	for _, s := range signs {
		for range 40 {
			a, b := drawnNumbers[r.IntN(len(drawnNumbers))], drawnNumbers[r.IntN(len(drawnNumbers))]
			x, y := a, b
			if s.kind == "turn" {
				x, y = b, a
			}
			w, trap := 0, api.TNone
			switch s.kind {
			case "and":
				w = bit(a != 0 && b != 0)
			case "or":
				w = bit(a != 0 || b != 0)
			default:
				w, trap = cell.Two(s.n, x, y)
			}
			if s.not {
				w = 1 - w
			}
			text := fmt.Sprintf("func main() { return 0x%x %s 0x%x; }", uint64(a), s.sign, uint64(b))
			if trap != api.TNone {
				traps(t, text, trap, 0, 5)
			} else {
				halts(t, text, w, -1)
			}
		}
	}
	for n, sign := range oneSigns {
		for _, a := range drawnNumbers {
			text := fmt.Sprintf("func main() { return %s(0x%x); }", sign, uint64(a))
			if w, trap := cell.One(n, a); trap != api.TNone {
				traps(t, text, trap, 0, 4)
			} else {
				halts(t, text, w, 4)
			}
		}
	}
	for _, a := range drawnNumbers {
		halts(t, fmt.Sprintf("func main() { return !0x%x; }", uint64(a)), bit(a == 0), 4)
		halts(t, fmt.Sprintf("func main() { return 0x%x; }", uint64(a)), a, 3)
		traps(t, fmt.Sprintf("func main() { abort 0x%x; }", uint64(a)), api.TAbort, a, 3)
	}
	halts(t, "text p = \"ab\"; text q = \"\"; text r = \"cde\"; func main() { return &p + 10 * &q + 100 * &r + 1000 * #p + 10000 * #q + 100000 * #r + 1000000 * size; }", 0+20+200+2000+0+300000+32000000, -1)
	halts(t, "text p = \"ab\"; text r = \"c\"; func main() { return byte[&p] + 256 * byte[&p + 1] + 65536 * byte[&r] + byte[3]; }", 'a'+256*'b'+65536*'c', -1)
	halts(t, "func main(; a, b) { a = 5; b = a; a = 6; return a * 10 + b; }", 65, -1)
	halts(t, "func main(; a) { return a; }", 0, 3)
}

func TestMeanMemory(t *testing.T) {
	halts(t, "func main() { word[1] = 0x0102030405060708; return byte[1] + 256 * byte[8] + 65536 * byte[0] + (word[2] << 32); }", 0x0607080000000000+1+256*8, -1)
	halts(t, "func main() { word[24] = -1; return word[24]; }", -1, -1)
	halts(t, "func main() { byte[31] = 511; return byte[31] + byte[30]; }", 255, -1)
	halts(t, "func main() { byte[5] = -1; return word[0]; }", 255<<16, -1)
	halts(t, "func main() { word[0] = 0x8000000000000001; return word[0]; }", math.MinInt+1, -1)
	for _, at := range []string{"-1", "25", "32", "9223372036854775807", "0x8000000000000000", "9223372036854775800", "31"} {
		traps(t, "func main() { return word["+at+"]; }", api.TBounds, 0, -1)
		traps(t, "func main() { word["+at+"] = 1; }", api.TBounds, 0, -1)
	}
	for _, at := range []string{"-1", "32", "9223372036854775807", "0x8000000000000000"} {
		traps(t, "func main() { return byte["+at+"]; }", api.TBounds, 0, -1)
		traps(t, "func main() { byte["+at+"] = 1; }", api.TBounds, 0, -1)
	}
	// Memories that hold no word, no byte.
	for memory := range 9 {
		for _, text := range []string{"func main() { return word[0]; }", "func main() { word[0] = 1; }", "func main() { return byte[7]; }", "func main() { byte[0] = 1; }", "func main() { return word[size - 8]; }", "func main() { return byte[size - 1] + size; }"} {
			means(t, read(t, text), someFiles(t), memory, 100)
		}
	}
	// As great as the texts, and less; as great as may be, and greater.
	u := read(t, "text p = \"abc\"; text q = \"de\"; func main() { return size + byte[4]; }")
	for memory, ok := range map[int]bool{math.MinInt: false, -1: false, 0: false, 4: false, 5: true, 6: true, 65535: true, 65536: true, 65537: false, math.MaxInt: false} {
		m, is := means(t, u, someFiles(t), memory, 99)
		if is != ok || ok && m.Code != memory+'e' || !ok && fmt.Sprint(m) != fmt.Sprint(api.Meant{}) {
			t.Errorf("P1705: memory %d: %+v, %v", memory, m, is)
		}
	}
	u = read(t, "func main() { return size; }")
	for memory, ok := range map[int]bool{-1: false, 0: true, 65536: true, 65537: false} {
		if m, is := means(t, u, someFiles(t), memory, 99); is != ok || ok && m.Code != memory {
			t.Errorf("P1705: memory %d: %+v, %v", memory, m, is)
		}
	}
	full := api.Unit{Texts: manyTexts(1024, 64), Funcs: u.Funcs}
	if m, ok := means(t, full, someFiles(t), 65536, 99); !ok || m.Code != 65536 {
		t.Errorf("P1705: texts of 65536 bytes: %+v, %v", m, ok)
	}
}

func TestMeanLoops(t *testing.T) {
	halts(t, "func main(; i, n) { while i < 10 { i = i + 1; if i % 2 { continue; } if i > 7 { break; } n = n + i; } return n; }", 2+4+6, -1)
	halts(t, "func main(; i, n) { while 1 { i = i + 1; while 1 { n = n + 1; if n > 5 { break 1; } continue 1; } } return i * 100 + n; }", 606, -1)
	halts(t, "func main(; i, j, k, n) { while i < 3 { i = i + 1; j = 0; while j < 3 { j = j + 1; k = 0; while k < 3 { k = k + 1; n = n + 1; if n == 2 { break; } if n == 5 { continue 1; } if n == 8 { break 1; } if n == 11 { continue 2; } if n == 14 { break 2; } } } } return i * 1000 + j * 100 + k * 10 + n; }", 3*1000+1*100+3*10+14, -1)
	halts(t, "func main() { while 1 { while 1 { while 1 { return 7; } } } }", 7, 12)
	halts(t, "func main(; i) { while 1 { { if 1 { { break; } } } i = 1; } return i; }", 0, -1)
	halts(t, "func main(; i) { while i < 2 { i = i + 1; { { continue; } } i = 9; } return i; }", 2, -1)
	halts(t, "func main() { while 0 { } return 3; }", 3, 5)
	halts(t, "func main(; i) { while !i { i = 1; } return i; }", 1, 1+1+2+1+2+2+2)
	halts(t, "func main(; i) { while f(i) { i = i + 1; } return i; } func f(i) { while 1 { if i > 3 { break; } return 1; } return 0; }", 4, -1)
	// A loop without an end.
	for _, text := range []string{"func main() { while 1 { } }", "func main() { while 1 { continue; } }", "func main() { while 1 { while 1 { continue 1; } } }", "func main() { while 1 { do f(); } } func f() { }"} {
		u := read(t, text)
		for _, steps := range []int{0, 1, 2, 3, 4, 5, 100, 1<<20 - 1, 1 << 20, 1<<20 + 1, math.MaxInt} {
			m, ok := tongue.Mean(u, someFiles(t), 0, steps)
			if ok || fmt.Sprint(m) != fmt.Sprint(api.Meant{}) {
				t.Errorf("P1705: %s: %+v", text, m)
			}
		}
	}
}

// Just as many steps as there may ever be, and one more: each time round takes as many as its parts.
func TestMeanMostSteps(t *testing.T) {
	// The block, the loop: 2. A time round: < i N = 3, the block, set + i 1 = 4: 8. The last look: 3. The return: 2.
	text := func(n, more int) string {
		return fmt.Sprintf("func main(; i) { while i < %d { i = i + 1; } %s return i; }", n, strings.Repeat("{ } ", more))
	}
	n := (1<<20 - 7) / 8
	rest := 1<<20 - 7 - 8*n
	for more, want := range map[int]bool{rest - 1: true, rest: true, rest + 1: false} {
		for _, steps := range []int{1 << 20, 1<<20 + 5, math.MaxInt} {
			m, ok := tongue.Mean(read(t, text(n, more)), someFiles(t), 0, steps)
			if ok != want || ok && (m.Steps != 1<<20-rest+more || m.Code != n) {
				t.Errorf("P1705: %d steps: %+v, %v", steps, m, ok)
			}
		}
	}
	for _, steps := range []int{-1, math.MinInt} {
		m, ok := tongue.Mean(read(t, "func main() { }"), someFiles(t), 0, steps)
		if ok || fmt.Sprint(m) != fmt.Sprint(api.Meant{}) {
			t.Errorf("P1705: steps %d: %+v", steps, m)
		}
	}
	m, ok := tongue.Mean(read(t, "func main() { }"), someFiles(t), 0, 1)
	is(t, "P1705: one step", fmt.Sprintf("%+v %v", m, ok), fmt.Sprintf("%+v %v", api.Meant{Outcome: api.Outcome{End: api.EHalt}, Steps: 1}, true))
	_, ok = tongue.Mean(read(t, "func main() { }"), someFiles(t), 0, 0)
	is(t, "P1705: no step", ok, false)
}

func TestMeanCalls(t *testing.T) {
	halts(t, "func main() { }", 0, 1)
	halts(t, "func main() { return f(); } func f() { }", 0, 4)
	halts(t, "func main() { return f(); } func f() { { return 5; } }", 5, -1)
	halts(t, "func main() { return f(1, 2, 3); } func f(a, b, c; d) { return a * 1000 + b * 100 + c * 10 + d; }", 1230, -1)
	halts(t, "func main(; a) { a = 3; do f(4); return a; } func f(a; b) { a = 9; b = 8; }", 3, -1)
	halts(t, "func main() { do f(1); return f(2); } func f(a; b) { b = b + a; return b; }", 2, -1)
	halts(t, "func main(; n) { if byte[0] { return 5; } byte[0] = 1; n = main(); return n * 10 + 1; }", 51, -1)
	halts(t, "func main() { return fib(10); } func fib(n) { if n < 2 { return n; } return fib(n - 1) + fib(n - 2); }", 55, -1)
	halts(t, "func main() { return even(21); } func even(n) { if n == 0 { return 1; } return odd(n - 1); } func odd(n) { if n == 0 { return 0; } return even(n - 1); }", 0, -1)
	halts(t, "func main() { return a(b(c(1))); } func a(x) { return x * 2; } func b(x) { return x + 3; } func c(x) { return x * 5; }", 16, -1)
	// As deep as may be, and one deeper: main is one of them.
	deep := "func main() { return f(%d); } func f(n) { if n { return f(n - 1) + 1; } return 0; }"
	halts(t, fmt.Sprintf(deep, 126), 126, -1)
	traps(t, fmt.Sprintf(deep, 127), api.TStack, 0, -1)
	halts(t, "func main() { if byte[0] < 127 { byte[0] = byte[0] + 1; return main() + 1; } return 0; }", 127, -1)
	traps(t, "func main() { if byte[0] < 128 { byte[0] = byte[0] + 1; return main() + 1; } return 0; }", api.TStack, 0, -1)
	// Calls that have ended count no more; what is handed is reckoned ahead of the trap.
	halts(t, "func main(; i) { while i < 300 { i = i + f(125); } return i; } func f(n) { if n { return f(n - 1); } return 1; }", 300, -1)
	traps(t, "func main() { return f(1); } func f(n) { byte[0] = n; return f(n + 1 + 0 / (128 - n)); }", api.TStack, 0, -1)
	traps(t, "func main() { return f(1); } func f(n) { return f(n + 1 + 0 / (127 - n)); }", api.TDivide, 0, -1)
}

func TestMeanFiles(t *testing.T) {
	m := meaning(t, "text a = \"a\"; func main(; h) { h = open(&a, #a, 0); return read(h, 8, 9) * 1000 + byte[8] + byte[12] + h; }")
	is(t, "P1706: read", fmt.Sprint(m.Code, m.Moved), fmt.Sprint(5000+'1'+'5', 1+5))
	m = meaning(t, "text o = \"new\"; func main(; h) { h = open(&o, #o, 1); return write(h, &o, #o) + 10 * close(h) + 100 * close(h); }")
	is(t, "P1706: write", fmt.Sprint(m.Code, m.Moved), fmt.Sprint(3-100*int(api.ErrHandle), 3+3))
	m = meaning(t, "func main() { return list(0, 0, 8, 20) * 65536 + byte[8] + 256 * byte[10] + byte[11] + byte[12]; }")
	is(t, "P1706: list", fmt.Sprint(m.Code, m.Moved), fmt.Sprint(5*65536+'a'+256*'d'+'/', 5))
	m = meaning(t, "text d = \"d\"; func main() { return list(&d, #d, 8, 1); }")
	is(t, "P1706: list without room", fmt.Sprint(m.Code, m.Moved), fmt.Sprint(-int(api.ErrRange), 1))
	m = meaning(t, "text x = \"nothing\"; func main() { return open(&x, #x, 0) + open(&x, 3, 9); }")
	is(t, "P1706: open with errors", fmt.Sprint(m.Code, m.Moved), fmt.Sprint(-int(api.ErrNoEnt)-int(api.ErrMode), 7+3))
	m = meaning(t, "func main() { return read(0, 0, 1) + write(1, 0, 2) + close(2); }")
	is(t, "P1706: no handle", fmt.Sprint(m.Code, m.Moved), fmt.Sprint(-3*int(api.ErrHandle), 0))
	for _, text := range []string{"open(0, 33, 0)", "open(-1, 1, 0)", "open(33, 0, 0)", "read(0, 32, 1)", "write(0, 0, -1)", "list(0, 33, 0, 0)", "list(0, 0, 30, 3)", "open(9223372036854775807, 9223372036854775807, 0)"} {
		traps(t, "func main() { return "+text+"; }", api.TBounds, 0, -1)
	}
	m = meaning(t, "text a = \"a\"; func main() { do open(&a, #a, 0); do open(&a, #a, 0); return open(&a, #a, 0) * 100 + open(&a, #a, 0); }")
	is(t, "P1706: handles", fmt.Sprint(m.Code, m.Moved), fmt.Sprint(200-int(api.ErrOpen), 4))
	m = meaning(t, "text o = \"o/p\"; func main(; h, i) { h = open(&o, #o, 5); while i < 20 { i = i + 1; if write(h, 0, 4) < 0 { break; } } return i; }")
	is(t, "P1706: no room for more", fmt.Sprint(m.Code, m.Moved), fmt.Sprint((60-8)/4+1, 3+(60-8)))
	// A trap behind calls of files: what they moved is told, what they did stays.
	f := someFiles(t)
	u := read(t, "text o = \"new\"; func main(; h) { h = open(&o, #o, 1); do write(h, 0, 3); return 1 / 0; }")
	m, _ = means(t, u, f, 32, 1000)
	is(t, "P1705: moved ahead of a trap", fmt.Sprintf("%v %v %v %s", m.Trap, m.Moved, m.Code, f.Items()[3].Data), "5 6 0 new")
	// So it does where steps are wanting, and nothing is told.
	for steps, want := range map[int]string{5: "[]", 6: "[{new }]", 7: "[{new }]", 10: "[{new }]", 11: "[{new new}]", 20: "[{new new}]"} {
		f := someFiles(t)
		got, ok := means(t, read(t, "text o = \"new\"; func main(; h) { h = open(&o, #o, 1); do write(h, 0, 3); while 1 { } }"), f, 32, steps)
		is(t, "P1705: steps are wanting", fmt.Sprintf("%+v %v", got, ok), fmt.Sprintf("%+v %v", api.Meant{}, false))
		said := "["
		for _, x := range f.Items()[3:] {
			said += "{" + x.Path + " " + string(x.Data) + "}"
		}
		is(t, fmt.Sprint("P1705: the files with steps ", steps), said+"]", want)
	}
	// Files that were open, and places in them, go on from one Mean to the next.
	f = someFiles(t)
	h, _ := f.Open("a", api.MRead)
	f.Read(h, 2)
	for i, want := range []int{'3', '4', '5', 256} {
		m, _ := means(t, read(t, "func main() { byte[0] = 256; if read(0, 0, 1) { return byte[0]; } return 256; }"), f, 32, 1000)
		is(t, fmt.Sprint("P1706: read for the time ", i), m.Code, want)
	}
}

// A great many bytes may be moved.
func TestMeanMoved(t *testing.T) {
	f, _ := vfs.New(nil, api.Quota{Bytes: 1 << 26, Files: 9, Open: 9})
	u := read(t, "text o = \"o\"; func main(; h, i) { while i < 100 { i = i + 1; h = open(&o, 1, 2); do write(h, 0, size); do write(h, 0, size); do close(h); } return h; }")
	m, ok := means(t, u, f, 1<<16, 1<<20)
	is(t, "P1705: moved", fmt.Sprint(m.Moved, m.Code, ok), fmt.Sprint(100+200<<16, 0, true))
}
