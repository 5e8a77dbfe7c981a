package comp_test

import (
	"fmt"
	"math/rand/v2"
	"slices"
	"strings"
	"testing"

	"retort/api"
	"retort/op"
	"retort/tongue"
)

// The chapter said once more, in another way: its table is a text, whose rows are laid out with marks; the marks are looked up when all is laid out.

// kindNames are the kinds in their order.
const kindNames = "- block set put put8 if while break continue return do abort num var at len size load load8 one two turn not and or call sys"

// codeRows are P1802's rows as they stand there. OUT stands for the loop that a part names, OP for the instruction N, TEXTS and BYTES for what PAt and PLen tell.
const codeRows = `
block: kids
set: k, ISet N
put: k, k2, IStore
put8: k, k2, IStore8
if2: k, IZero E, k2, E:
if3: k, IZero F, k2, IJump E, F: k3, E:
while: T: k, IZero E, k2, IJump T, E:
break: IJump OUT-E
continue: IJump OUT-T
return: k, IRet
do: k, IPop
abort: k, IAbort
num: INum N
var: IGet N
size: ISize
at: INum TEXTS
len: INum BYTES
load: k, ILoad
load8: k, ILoad8
one: k, OP
two: k, k2, OP
turn: k, k2, ISwap, OP
not: k, INum 0, IEq
and: k, IZero F, k2, INum 0, IEq, INum 0, IEq, IJump E, F: INum 0, E:
or: k, INotZero F, k2, INum 0, IEq, INum 0, IEq, IJump E, F: INum 1, E:
call: kids, ICall N
sys: kids, ISys N
`

func nameOf(kind int) string { return strings.Fields(kindNames)[kind] }

// rowOf is what is laid out for a part.
func rowOf(x api.Part) []string {
	name := nameOf(x.Kind)
	if name == "if" {
		name += fmt.Sprint(x.Kids)
	}
	_, row, _ := strings.Cut(codeRows, "\n"+name+": ")
	row, _, _ = strings.Cut(row, "\n")
	return strings.Split(row, ", ")
}

// laid is an instruction whose operand may be a mark.
type laid struct {
	op, a int
	mark  string
	part  int
}

type layout struct {
	u     api.Unit
	parts []api.Part
	next  int
	loops []int // which parts are the loops around
	code  []laid
	marks map[string]int
}

// codeOf is what the code of a function must be, and the parts that its instructions stand for.
func codeOf(u api.Unit, f api.Fn) ([]api.Instr, []int) {
	l := &layout{u: u, parts: f.Parts, marks: map[string]int{}}
	l.part()
	l.instr(0, []string{"INum", "0"})
	l.instr(0, []string{"IRet"})
	var code []api.Instr
	var origin []int
	for _, x := range l.code {
		if x.mark != "" {
			x.a = l.marks[x.mark]
		}
		code = append(code, api.Instr{Op: x.op, A: x.a})
		origin = append(origin, x.part)
	}
	return code, origin
}

func (l *layout) part() {
	at := l.next
	l.next++
	x := l.parts[at]
	for _, piece := range rowOf(x) {
		words := strings.Fields(piece)
		if mark, is := strings.CutSuffix(words[0], ":"); is {
			l.marks[fmt.Sprint(mark, at)] = len(l.code)
			words = words[1:]
		}
		switch {
		case len(words) == 0:
		case words[0] == "kids":
			for range x.Kids {
				l.part()
			}
		case words[0] == "k2" && x.Kind == api.PWhile:
			l.loops = append(l.loops, at)
			l.part()
			l.loops = l.loops[:len(l.loops)-1]
		case words[0][0] == 'k':
			l.part()
		default:
			l.instr(at, words)
		}
	}
}

// instr lays one instruction down.
func (l *layout) instr(at int, words []string) {
	x := laid{part: at}
	if words[0] == "OP" {
		x.op = l.parts[at].N
	} else {
		n, there := op.Named(strings.ToLower(words[0][1:]))
		if !there {
			panic(words[0])
		}
		x.op = n
	}
	if len(words) > 1 {
		x.a, x.mark = l.operand(at, words[1])
	}
	l.code = append(l.code, x)
}

func (l *layout) operand(at int, word string) (int, string) {
	n := l.parts[at].N
	switch word {
	case "0":
		return 0, ""
	case "1":
		return 1, ""
	case "N":
		return n, ""
	case "TEXTS":
		ahead := 0
		for _, t := range l.u.Texts[:n] {
			ahead += len(t.Data)
		}
		return ahead, ""
	case "BYTES":
		return len(l.u.Texts[n].Data), ""
	}
	if mark, is := strings.CutPrefix(word, "OUT-"); is {
		return 0, fmt.Sprint(mark, l.loops[len(l.loops)-1-n])
	}
	return 0, fmt.Sprint(word, at)
}

// programOf is what Compile must tell, and Origin's lists.
func programOf(u api.Unit, memory int) (api.Program, [][]int, api.Errno) {
	if e := tongue.Check(u); e != api.OK {
		return api.Program{}, nil, e
	}
	if memory < 0 || memory > 65536 {
		return api.Program{}, nil, api.ErrArg
	}
	p := api.Program{Memory: memory}
	for _, t := range u.Texts {
		p.Data = append(p.Data, t.Data...)
	}
	if len(p.Data) > memory {
		return api.Program{}, nil, api.ErrBig
	}
	var origins [][]int
	for _, f := range u.Funcs {
		code, origin := codeOf(u, f)
		if len(code) > 4096 {
			return api.Program{}, nil, api.ErrBig
		}
		p.Funcs = append(p.Funcs, api.Func{Args: f.Args, Locals: len(f.Locals), Results: 1, Code: code})
		origins = append(origins, origin)
	}
	return p, origins, api.OK
}

// What tests say and draw with.

// said is a code as a text.
func said(code []api.Instr) string {
	var l []string
	for _, x := range code {
		s, there := op.Of(x.Op)
		switch {
		case !there:
			l = append(l, fmt.Sprint(x))
		case s.Operand == op.ONone && x.A == 0:
			l = append(l, s.Name)
		default:
			l = append(l, fmt.Sprint(s.Name, " ", x.A))
		}
	}
	return strings.Join(l, ", ")
}

func saidProgram(p api.Program) string {
	s := fmt.Sprintf("memory %d, data %q", p.Memory, p.Data)
	for _, f := range p.Funcs {
		s += fmt.Sprintf("\n%d %d %d: %s", f.Args, f.Locals, f.Results, said(f.Code))
	}
	return s
}

func saidUnit(u api.Unit) string {
	if text, e := tongue.Print(u); e == api.OK {
		return text
	}
	return fmt.Sprint(u)
}

func seeded(n uint64) *rand.Rand { return rand.New(rand.NewPCG(n, 18)) }

// rounds is how often something is drawn.
func rounds(n int) int {
	if testing.Short() {
		return n / 10
	}
	return n
}

func brief(x any) string {
	s := fmt.Sprint(x)
	if len(s) > 1500 {
		return s[:700] + " .. " + s[len(s)-700:]
	}
	return s
}

func is[T comparable](t testing.TB, what string, got, want T) {
	t.Helper()
	if got != want {
		t.Errorf("%s: %v, want %v", what, brief(got), brief(want))
	}
}

// read is the unit of a text.
func read(t testing.TB, text string) api.Unit {
	t.Helper()
	u, e, at := tongue.Parse(text)
	if e != api.OK {
		t.Fatalf("Parse of %s: %v at %d", brief(text), e, at)
	}
	return u
}

func part(kind, n, kids int) api.Part { return api.Part{Kind: kind, N: n, Kids: kids} }

func num(n int) api.Part { return part(api.PNum, n, 0) }

// repeated is a row of parts as often as said.
func repeated(n int, l ...api.Part) []api.Part { return slices.Repeat(l, n) }

// unit has one function, whose block has so many doings.
func unit(doings int, l ...[]api.Part) api.Unit {
	parts := append([]api.Part{part(api.PBlock, 0, doings)}, slices.Concat(l...)...)
	return api.Unit{Funcs: []api.Fn{{Name: "main", Parts: parts}}}
}
