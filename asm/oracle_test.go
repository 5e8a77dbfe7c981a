package asm_test

import (
	"errors"
	"fmt"
	"math/big"
	"math/rand/v2"
	"regexp"
	"slices"
	"strconv"
	"strings"
	"testing"

	"retort/api"
	"retort/asm"
	"retort/prog"
)

// The chapter said once more, in another way: a line is held as a whole against a pattern of each kind of line, numbers are big ones, and words are put in where all lines are known.

const (
	blanks   = `[\t\r ]*`
	gap      = `[\t\r ]+`
	wordForm = `[A-Za-z_][A-Za-z0-9_]*`
	numForm  = `-?[0-9]+|0x[0-9a-f]{1,16}`
	textForm = `"(?:[ !#-\[\]-~]|\\"|\\\\|\\x[0-9a-f][0-9a-f])*"`
	end      = blanks + `(?s:;.*)?$`
)

var (
	nothingLine = regexp.MustCompile(`^` + end)
	memoryLine  = regexp.MustCompile(`^` + blanks + `memory` + gap + `(` + numForm + `)` + end)
	dataLine    = regexp.MustCompile(`^` + blanks + `data` + gap + `(` + textForm + `)` + end)
	funcLine    = regexp.MustCompile(`^` + blanks + `func` + gap + `(` + wordForm + `)` + gap + `(` + numForm + `)` + gap + `(` + numForm + `)` + gap + `(` + numForm + `)` + end)
	codeLine    = regexp.MustCompile(`^` + blanks + `((?:` + wordForm + blanks + `:` + blanks + `)*)(?:(` + wordForm + `)(?:` + gap + `(` + wordForm + `|` + numForm + `))?)?` + end)
	oneWord     = regexp.MustCompile(wordForm)
	oneByte     = regexp.MustCompile(`\\x..|\\.|.`)
)

// names are the instructions in their order; what an operand may be beside a number stands behind a `/`.
const names = "nop halt abort num/n pop copy/n swap get/n set/n load store load8 store8 size jump/j zero/j notzero/j call/f ret sys/s add sub mul div rem and or xor shl shr ushr eq lt ult neg not fadd fsub fmul fdiv feq flt fneg froot tof toi"

const callNames = "open read write list close"

// named tells an instruction's number and what its operand may be; -1: there is none of that name.
func named(text string) (int, string) {
	for i, n := range strings.Fields(names) {
		name, operand, _ := strings.Cut(n, "/")
		if name == text {
			return i, operand
		}
	}
	return -1, ""
}

// valueOf is what a number says, and whether it is one of an int.
func valueOf(text string) (int, bool) {
	var b big.Int
	if bits, is := strings.CutPrefix(text, "0x"); is {
		b.SetString(bits, 16)
		return int(b.Uint64()), true
	}
	b.SetString(text, 10)
	return int(b.Int64()), b.IsInt64()
}

func bytesOf(quoted string) []byte {
	var l []byte
	for _, s := range oneByte.FindAllString(quoted[1:len(quoted)-1], -1) {
		n, e := strconv.ParseUint(strings.TrimPrefix(s, `\x`), 16, 8)
		if len(s) < 4 || e != nil {
			n = uint64(s[len(s)-1])
		}
		l = append(l, byte(n))
	}
	return l
}

// said is a line that is not wrong.
type said struct {
	labels  []string
	kind    string // "memory", "data", "func", "code", ""
	numbers []string
	name    string // a func's word, or an operand's
	data    []byte
	op      int // -1: there is no instruction
	operand string
}

// saidBy tells what a line says, if it is not wrong; begun, sized: whether a func, a memory stands ahead.
func saidBy(line string, begun, sized bool) (said, bool) {
	if nothingLine.MatchString(line) {
		return said{}, true
	}
	if m := memoryLine.FindStringSubmatch(line); m != nil {
		return said{kind: "memory", numbers: m[1:]}, !begun && !sized
	}
	if m := dataLine.FindStringSubmatch(line); m != nil {
		return said{kind: "data", data: bytesOf(m[1])}, !begun
	}
	if m := funcLine.FindStringSubmatch(line); m != nil {
		return said{kind: "func", name: m[1], numbers: m[2:]}, true
	}
	m := codeLine.FindStringSubmatch(line)
	if m == nil || !begun {
		return said{}, false
	}
	s := said{kind: "code", labels: oneWord.FindAllString(m[1], -1), op: -1}
	if m[2] == "" {
		return s, true
	}
	s.op, s.operand = named(m[2])
	isWord := oneWord.MatchString(m[3]) && m[3][0] != '-' && (m[3][0] < '0' || m[3][0] > '9')
	switch {
	case s.op < 0, (s.operand == "") != (m[3] == ""):
		return s, false
	case s.operand == "":
		return s, true
	case !isWord:
		s.numbers = m[3:]
		return s, true
	}
	if s.operand == "s" {
		n := slices.Index(strings.Fields(callNames), m[3])
		s.numbers = []string{strconv.Itoa(n)}
		return s, n >= 0
	}
	s.name = m[3]
	return s, s.operand == "j" || s.operand == "f"
}

// told is what Parse tells: the program, or the line and the error.
type told struct {
	p     api.Program
	line  int
	e     api.Errno
	early bool // the fault is one of a line by itself, and of those ahead (of the kind 2)
}

func fault(line int, e api.Errno) told { return told{line: line, e: e} }

func early(line int, e api.Errno) told { return told{line: line, e: e, early: true} }

// programOf says P1401 fault by fault.
func programOf(text string) told {
	if len(text) > 65536 {
		return fault(0, api.ErrLong)
	}
	var all []said
	words := map[string]int{} // "f" and a func's word: its number; a func's number, " ", a label: its place
	funcs, places, sized := 0, 0, false
	for i, line := range strings.Split(text, "\n") {
		s, right := saidBy(line, funcs > 0, sized)
		if !right {
			return early(i+1, api.ErrLine)
		}
		for _, n := range s.numbers {
			if _, is := valueOf(n); !is {
				return early(i+1, api.ErrNumber)
			}
		}
		var new []string
		n := places
		if s.kind == "func" {
			new, n = []string{"f" + s.name}, funcs
			funcs, places = funcs+1, 0
		}
		for _, l := range s.labels {
			new = append(new, fmt.Sprint(funcs-1, " ", l))
		}
		for _, w := range new {
			if _, is := words[w]; is {
				return early(i+1, api.ErrLabel)
			}
			words[w] = n
		}
		if s.kind == "code" && s.op >= 0 {
			places++
		}
		sized = sized || s.kind == "memory"
		all = append(all, s)
	}
	return laidDown(all, words)
}

// laidDown is the program of lines that are all right by themselves.
func laidDown(all []said, words map[string]int) told {
	var p api.Program
	for i, s := range all {
		var n [3]int
		for j, text := range s.numbers {
			n[j], _ = valueOf(text)
		}
		switch s.kind {
		case "memory":
			p.Memory = n[0]
		case "data":
			p.Data = append(p.Data, s.data...)
		case "func":
			p.Funcs = append(p.Funcs, api.Func{Args: n[0], Locals: n[1], Results: n[2]})
		case "code":
			if s.op < 0 {
				continue
			}
			if s.name != "" {
				key := "f" + s.name
				if s.operand == "j" {
					key = fmt.Sprint(len(p.Funcs)-1, " ", s.name)
				}
				a, is := words[key]
				if !is {
					return fault(i+1, api.ErrLabel)
				}
				n[0] = a
			}
			f := &p.Funcs[len(p.Funcs)-1]
			f.Code = append(f.Code, one(s.op, n[0]))
		}
	}
	if e := prog.Check(p); e != api.OK {
		return fault(0, e)
	}
	return told{p: p}
}

// textOf says P1402.
func textOf(p api.Program) (string, api.Errno) {
	if e := prog.Check(p); e != api.OK {
		return "", e
	}
	var w strings.Builder
	fmt.Fprintf(&w, "memory %d\n", p.Memory)
	if len(p.Data) > 0 {
		fmt.Fprintf(&w, "data %s\n", quotedOf(p.Data))
	}
	for k, f := range p.Funcs {
		fmt.Fprintf(&w, "func f%d %d %d %d\n", k, f.Args, f.Locals, f.Results)
		for at := range len(f.Code) + 1 {
			if slices.ContainsFunc(f.Code, func(x api.Instr) bool {
				return (x.Op == api.IJump || x.Op == api.IZero || x.Op == api.INotZero) && x.A == at
			}) {
				fmt.Fprintf(&w, "L%d:\n", at)
			}
			if at < len(f.Code) {
				fmt.Fprintf(&w, "\t%s\n", instrText(f.Code[at], len(f.Code), len(p.Funcs)))
			}
		}
	}
	if w.Len() > 65536 {
		return "", api.ErrLong
	}
	return w.String(), api.OK
}

func instrText(x api.Instr, places, funcs int) string {
	name, operand, _ := strings.Cut(strings.Fields(names)[x.Op], "/")
	switch {
	case operand == "":
		return name
	case operand == "j" && x.A <= places:
		return fmt.Sprintf("%s L%d", name, x.A)
	case operand == "f" && x.A < funcs:
		return fmt.Sprintf("%s f%d", name, x.A)
	case operand == "s":
		return name + " " + strings.Fields(callNames)[x.A]
	}
	return fmt.Sprintf("%s %d", name, x.A)
}

func quotedOf(b []byte) string {
	var w strings.Builder
	for _, c := range b {
		switch {
		case c == '"', c == '\\':
			w.WriteString("\\" + string(rune(c)))
		case c >= 32 && c <= 126:
			w.WriteByte(c)
		default:
			fmt.Fprintf(&w, `\x%02x`, c)
		}
	}
	return `"` + w.String() + `"`
}

// What the tests hand in, and how they ask.

func seeded(n uint64) *rand.Rand { return rand.New(rand.NewPCG(n, 14)) }

func one(op, a int) api.Instr { return api.Instr{Op: op, A: a} }

func list(l ...api.Instr) []api.Instr { return l }

func many(x api.Instr, n int) []api.Instr { return slices.Repeat(list(x), n) }

// example is the chapter's first one.
func example() api.Program {
	return api.Program{Memory: 4, Data: []byte{97, 0}, Funcs: []api.Func{{Results: 1, Code: list(one(api.INum, -3), one(api.IZero, 0), one(api.INum, 7), one(api.IRet, 0))}}}
}

// plain is a program with one function of that code.
func plain(code ...api.Instr) api.Program {
	return api.Program{Funcs: []api.Func{{Code: code}}}
}

// said1 is what Parse tells; its error must be nil, or a *LineError itself, about an Errno.
func said1(t *testing.T, text string) told {
	t.Helper()
	p, err := asm.Parse(text)
	if err == nil {
		return told{p: p}
	}
	le, is := err.(*asm.LineError)
	if !is || le == nil {
		t.Fatalf("P1401: Parse of %s: %T %v", brief(text), err, err)
	}
	e, is := le.Err.(api.Errno)
	if !is || e == api.OK {
		t.Fatalf("P1401: Parse of %s: about %T %v", brief(text), le.Err, le.Err)
	}
	if !errors.Is(err, e) || errors.Is(err, e+1) {
		t.Errorf("P1403: Parse of %s: errors.Is finds another than %v", brief(text), e)
	}
	if le.Line < 0 || le.Line > 1+strings.Count(text, "\n") {
		t.Errorf("P1405: Parse of %s: line %d", brief(text), le.Line)
	}
	return told{p: p, line: le.Line, e: e}
}

// parse holds Parse of any text against the oracle, and Print of its program against the text.
func parse(t *testing.T, text string) told {
	t.Helper()
	got, want := said1(t, text), programOf(text)
	if show(got) != show(want) {
		t.Fatalf("P1401: Parse of %s: %s\nwant %s", brief(text), brief(show(got)), brief(show(want)))
	}
	if got.e == api.OK {
		is(t, "P1404: what Parse tells is right", prog.Check(got.p), api.OK)
		back(t, got.p)
	}
	return got
}

// back holds Print of any program against the oracle, and Parse of its text against the program.
func back(t *testing.T, p api.Program) (string, api.Errno) {
	t.Helper()
	text, e := asm.Print(p)
	want, we := textOf(p)
	if e != we || text != want {
		t.Fatalf("P1402: Print of %s: %s, %v\nwant %s, %v", brief(p), brief(text), e, brief(want), we)
	}
	if e == api.OK {
		got := said1(t, text)
		is(t, "P1404: Parse of Print", got.e, api.OK)
		is(t, "P1404: Parse of Print", got.line, 0)
		is(t, "P1404: Parse of Print", show(got), show(told{p: p}))
	}
	return text, e
}

// tells looks that a text has that program.
func tells(t *testing.T, text string, want api.Program) {
	t.Helper()
	is(t, "P1401: "+brief(text), show(parse(t, text)), show(told{p: want}))
}

// refused looks that a text has that fault, and nothing beside it.
func refused(t *testing.T, text string, line int, want api.Errno) {
	t.Helper()
	got := parse(t, text)
	is(t, "P1401: the line of "+brief(text), got.line, line)
	is(t, "P1401: the fault of "+brief(text), got.e, want)
	is(t, "P4: beside the fault of "+brief(text), show(told{p: got.p}), show(told{}))
}

// show says all of what is told (no list and an empty one are the same).
func show(x told) string { return fmt.Sprint(x.p, " line ", x.line, " ", x.e) }

// brief is a thing in few words; a text is quoted.
func brief(x any) string {
	s := fmt.Sprint(x)
	if _, is := x.(string); is {
		s = fmt.Sprintf("%q", x)
	}
	if len(s) > 400 {
		return s[:400] + ".."
	}
	return s
}

func is[T comparable](t *testing.T, what string, got, want T) {
	t.Helper()
	if got != want {
		t.Errorf("%s: %v, want %v", what, brief(got), brief(want))
	}
}

func TestTheOracle(t *testing.T) {
	is(t, "bytesOf", fmt.Sprint(bytesOf(`"a\x00\\\"x;\xff"`)), "[97 0 92 34 120 59 255]")
	is(t, "quotedOf", quotedOf([]byte{97, 0, 92, 34, 127, 126, 255}), `"a\x00\\\"\x7f~\xff"`)
	is(t, "names", len(strings.Fields(names)), api.ICount)
	is(t, "callNames", len(strings.Fields(callNames)), api.SCount)
	n, operand := named("ushr")
	is(t, "named", n, api.IUshr)
	is(t, "named", operand, "")
	text, e := textOf(example())
	is(t, "textOf", e, api.OK)
	is(t, "programOf", show(programOf(text)), show(told{p: example()}))
}
