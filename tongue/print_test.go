package tongue_test

import (
	"fmt"
	"math"
	"slices"
	"strings"
	"testing"

	"retort/api"
	"retort/tongue"
)

// prints looks at the text of a unit, and reads it again.
func prints(t *testing.T, u api.Unit, want string) {
	t.Helper()
	text, e := back(t, u)
	is(t, "P1704: Print", e, api.OK)
	is(t, "P1704: Print", text, want)
}

// says looks at the text of what is reckoned: of a unit whose locals are a, b, c, whose texts are p and q, whose second function is f.
func says(t *testing.T, want string, l ...api.Part) {
	t.Helper()
	u := doing(append([]api.Part{part(api.PReturn, 0, 1)}, l...)...)
	u.Funcs[0].Locals = []string{"a", "b", "c"}
	prints(t, u, "text p = \"a\";\ntext q = \"\";\nfunc main(; a, b, c) {\n\treturn "+want+";\n}\nfunc f(x, y; z) {\n}\n")
}

// does looks at the lines of what is done there.
func does(t *testing.T, lines string, kids int, l ...api.Part) {
	t.Helper()
	u := unit(body(kids, l...)...)
	prints(t, u, "text p = \"a\";\ntext q = \"\";\nfunc main(; a, b) {\n"+lines+"}\nfunc f(x, y; z) {\n}\n")
}

func TestPrintExamples(t *testing.T) {
	says(t, "1 != -2", part(api.PNot, 0, 1), two(api.IEq), num(1), part(api.POne, api.INeg, 1), num(2))
	says(t, "a - (b - c)", two(api.ISub), local(0), two(api.ISub), local(1), local(2))
	says(t, "0xffffffffffffffff", num(-1))
}

func TestPrintHeads(t *testing.T) {
	prints(t, api.Unit{Funcs: []api.Fn{empty("_")}}, "func _() {\n}\n")
	prints(t, api.Unit{Funcs: []api.Fn{empty("a", "a"), empty("b", "a", "c", "b")}}, "func a(; a) {\n}\nfunc b(; a, c, b) {\n}\n")
	for args, want := range []string{"(; x, y, z)", "(x; y, z)", "(x, y; z)", "(x, y, z)"} {
		u := api.Unit{Funcs: []api.Fn{empty("main"), {Name: "f", Args: args, Locals: []string{"x", "y", "z"}, Parts: body(0)}}}
		prints(t, u, "func main() {\n}\nfunc f"+want+" {\n}\n")
	}
	all := make([]byte, 256)
	want := ""
	for i := range all {
		all[i] = byte(i)
		switch {
		case i == '"' || i == '\\':
			want += "\\" + string(rune(i))
		case i < 32 || i > 126:
			want += fmt.Sprintf("\\x%02x", i)
		default:
			want += string(rune(i))
		}
	}
	prints(t, api.Unit{Texts: []api.Text{{Name: "a", Data: all}, {Name: "b"}}, Funcs: []api.Fn{empty("main")}}, "text a = \""+want+"\";\ntext b = \"\";\nfunc main() {\n}\n")
}

func TestPrintDoings(t *testing.T) {
	block := part(api.PBlock, 0, 0)
	does(t, "", 0)
	does(t, "\t{\n\t}\n", 1, block)
	does(t, "\t{\n\t\t{\n\t\t}\n\t\t{\n\t\t\tdo 1;\n\t\t}\n\t}\n\t{\n\t}\n", 2, part(api.PBlock, 0, 2), block, part(api.PBlock, 0, 1), part(api.PDo, 0, 1), num(1), block)
	does(t, "\ta = 1;\n\tb = a;\n", 2, part(api.PSet, 0, 1), num(1), part(api.PSet, 1, 1), local(0))
	does(t, "\tword[a + 1] = b || 1;\n", 1, part(api.PPut, 0, 2), two(api.IAdd), local(0), num(1), part(api.POr, 0, 2), local(1), num(1))
	does(t, "\tbyte[&p] = 255;\n", 1, part(api.PPut8, 0, 2), part(api.PAt, 0, 0), num(255))
	does(t, "\treturn a;\n\tabort 0;\n\tdo f(1, 2);\n", 3, part(api.PReturn, 0, 1), local(0), part(api.PAbort, 0, 1), num(0), part(api.PDo, 0, 1), part(api.PCall, 1, 2), num(1), num(2))
	does(t, "\tif a {\n\t}\n", 1, part(api.PIf, 0, 2), local(0), block)
	does(t, "\tif a {\n\t} else {\n\t}\n", 1, part(api.PIf, 0, 3), local(0), block, block)
	does(t, "\tif a || b {\n\t\tif b {\n\t\t\ta = 1;\n\t\t}\n\t} else {\n\t\tif b {\n\t\t} else {\n\t\t\tb = 2;\n\t\t\tb = 3;\n\t\t}\n\t}\n", 1,
		part(api.PIf, 0, 3), part(api.POr, 0, 2), local(0), local(1),
		part(api.PBlock, 0, 1), part(api.PIf, 0, 2), local(1), part(api.PBlock, 0, 1), part(api.PSet, 0, 1), num(1),
		part(api.PBlock, 0, 1), part(api.PIf, 0, 3), local(1), block, part(api.PBlock, 0, 2), part(api.PSet, 1, 1), num(2), part(api.PSet, 1, 1), num(3))
	does(t, "\twhile 1 {\n\t\twhile a {\n\t\t\tbreak;\n\t\t\tbreak 1;\n\t\t\tcontinue;\n\t\t\tcontinue 1;\n\t\t}\n\t}\n", 1, part(api.PWhile, 0, 2), num(1), part(api.PBlock, 0, 1), part(api.PWhile, 0, 2), local(0), part(api.PBlock, 0, 4), part(api.PBreak, 0, 0), part(api.PBreak, 1, 0), part(api.PContinue, 0, 0), part(api.PContinue, 1, 0))
	// As deep as may be.
	deep, lines := slices.Repeat([]api.Part{part(api.PWhile, 0, 2), num(1), part(api.PBlock, 0, 1)}, 31), ""
	for i := range 31 {
		lines += strings.Repeat("\t", i+1) + "while 1 {\n"
	}
	lines += strings.Repeat("\t", 32) + "break 30;\n"
	for i := range 31 {
		lines += strings.Repeat("\t", 31-i) + "}\n"
	}
	does(t, lines, 1, append(deep, part(api.PBreak, 30, 0))...)
}

func TestPrintWords(t *testing.T) {
	for n, want := range map[int]string{0: "0", 1: "1", 10: "10", math.MaxInt: "9223372036854775807", -1: "0xffffffffffffffff", -2: "0xfffffffffffffffe", math.MinInt: "0x8000000000000000", -256: "0xffffffffffffff00", 1 << 62: "4611686018427387904"} {
		says(t, want, num(n))
		says(t, "-"+want, part(api.POne, api.INeg, 1), num(n))
	}
	says(t, "b", local(1))
	says(t, "&p", part(api.PAt, 0, 0))
	says(t, "#q", part(api.PLen, 1, 0))
	says(t, "size", part(api.PSize, 0, 0))
	says(t, "word[a * (b + c)]", part(api.PLoad, 0, 1), two(api.IMul), local(0), two(api.IAdd), local(1), local(2))
	says(t, "byte[a || b]", part(api.PLoad8, 0, 1), part(api.POr, 0, 2), local(0), local(1))
	says(t, "main()", part(api.PCall, 0, 0))
	says(t, "f(a || b, f(1, 2))", part(api.PCall, 1, 2), part(api.POr, 0, 2), local(0), local(1), part(api.PCall, 1, 2), num(1), num(2))
	says(t, "open(1, 2, 3)", part(api.PSys, 0, 3), num(1), num(2), num(3))
	says(t, "read(1, 2, 3)", part(api.PSys, 1, 3), num(1), num(2), num(3))
	says(t, "write(1, 2, 3)", part(api.PSys, 2, 3), num(1), num(2), num(3))
	says(t, "list(a == b, 2, 3, !4)", part(api.PSys, 3, 4), two(api.IEq), local(0), local(1), num(2), num(3), part(api.PNot, 0, 1), num(4))
	says(t, "close(1)", part(api.PSys, 4, 1), num(1))
	says(t, "root(a + b)", part(api.POne, api.IFroot, 1), two(api.IAdd), local(0), local(1))
	says(t, "float(int(1))", part(api.POne, api.IToF, 1), part(api.POne, api.IToI, 1), num(1))
	says(t, "-~-.!-root(-1)", part(api.POne, api.INeg, 1), part(api.POne, api.INot, 1), part(api.POne, api.IFneg, 1), part(api.PNot, 0, 1), part(api.POne, api.INeg, 1), part(api.POne, api.IFroot, 1), part(api.POne, api.INeg, 1), num(1))
	says(t, "--.&p", part(api.POne, api.INeg, 1), part(api.POne, api.IFneg, 1), part(api.PAt, 0, 0))
	says(t, "!#p", part(api.PNot, 0, 1), part(api.PLen, 0, 0))
	says(t, "a & &p", two(api.IAnd), local(0), part(api.PAt, 0, 0))
	says(t, "a < #p", two(api.ILt), local(0), part(api.PLen, 0, 0))
	says(t, "a - -b", two(api.ISub), local(0), part(api.POne, api.INeg, 1), local(1))
	says(t, "a -. -.b", two(api.IFsub), local(0), part(api.POne, api.IFneg, 1), local(1))
	says(t, "!!a", part(api.PNot, 0, 1), part(api.PNot, 0, 1), local(0))
}

// A PNot has a sign of its own with three of all, else the sign of one.
func TestPrintNot(t *testing.T) {
	not := part(api.PNot, 0, 1)
	own := map[string]string{"==": "!=", "<": ">=", ">": "<="}
	for _, s := range signs {
		if s.not {
			continue
		}
		x := part(kindNamed(s.kind), s.n, 2)
		want, twice := "!(a "+s.sign+" b)", "!!(a "+s.sign+" b)"
		if o := own[s.sign]; o != "" {
			want = "a " + o + " b"
			twice = "!(a " + o + " b)"
		}
		says(t, "a "+s.sign+" b", x, local(0), local(1))
		says(t, want, not, x, local(0), local(1))
		says(t, twice, not, not, x, local(0), local(1))
		says(t, "-"+map[bool]string{true: "(" + want + ")", false: want}[own[s.sign] != ""], part(api.POne, api.INeg, 1), not, x, local(0), local(1))
	}
}

// Brackets for every two signs: the one as the left of the other, and as the right.
func TestPrintBrackets(t *testing.T) {
	parts := func(s signRow) []api.Part {
		l := []api.Part{part(kindNamed(s.kind), s.n, 2)}
		if s.not {
			l = append([]api.Part{part(api.PNot, 0, 1)}, l...)
		}
		return l
	}
	ofOne := map[string]api.Part{"-": part(api.POne, api.INeg, 1), "~": part(api.POne, api.INot, 1), "-.": part(api.POne, api.IFneg, 1)}
	for _, x := range signs {
		for _, y := range signs {
			left, right := "a "+x.sign+" b", "b "+x.sign+" c"
			if x.rule < y.rule {
				left = "(" + left + ")"
			}
			if x.rule <= y.rule {
				right = "(" + right + ")"
			}
			says(t, left+" "+y.sign+" c", slices.Concat(parts(y), parts(x), []api.Part{local(0), local(1), local(2)})...)
			says(t, "a "+y.sign+" "+right, slices.Concat(parts(y), []api.Part{local(0)}, parts(x), []api.Part{local(1), local(2)})...)
		}
		for sign, one := range ofOne {
			says(t, sign+"(a "+x.sign+" b)", slices.Concat([]api.Part{one}, parts(x), []api.Part{local(0), local(1)})...)
			says(t, sign+"a "+x.sign+" "+sign+"b", slices.Concat(parts(x), []api.Part{one, local(0), one, local(1)})...)
		}
		says(t, "!a "+x.sign+" !b", slices.Concat(parts(x), []api.Part{part(api.PNot, 0, 1), local(0), part(api.PNot, 0, 1), local(1)})...)
	}
}

// Texts of just as many bytes as may be, and of one more.
func TestPrintLong(t *testing.T) {
	row := []api.Part{part(api.PDo, 0, 1), num(1)} // a tab, "do 1;", a line's end: 7 bytes
	head := len("func main() {\n}\n")
	for _, more := range []int{0, 1, 2, 3} {
		n := (1<<16 - head) / 7
		l := slices.Repeat(row, n)
		rest := 1<<16 - head - 7*n
		for i := range rest + more { // each digit more is a byte more
			l[2*i+1].N = 10
		}
		u := api.Unit{Funcs: []api.Fn{{Name: "main", Parts: body(n, l...)}}}
		text, e := tongue.Print(u)
		if more == 0 {
			is(t, "P1704: as long as may be", e, api.OK)
			is(t, "P1704: as long as may be", len(text), 1<<16)
			is(t, "P1707: as long as may be", show(read(t, text)), show(u))
		} else {
			is(t, "P1704: longer", e, api.ErrLong)
			is(t, "P1704: longer", text, "")
		}
	}
	for n, want := range map[int]api.Errno{65506: api.OK, 65507: api.OK, 65508: api.ErrLong, 65536: api.ErrLong} {
		u := api.Unit{Texts: []api.Text{{Name: "p", Data: []byte(strings.Repeat("a", n))}}, Funcs: []api.Fn{empty("main")}}
		text, e := tongue.Print(u)
		is(t, fmt.Sprint("P1704: a text of bytes ", n), e, want)
		if e == api.OK {
			is(t, "P1704: how long", len(text), n+29)
			is(t, "P1707: a long text", show(read(t, text)), show(u))
		}
	}
	bits := api.Unit{Texts: []api.Text{{Name: "p", Data: make([]byte, 16376)}}, Funcs: []api.Fn{empty("main")}}
	text, e := tongue.Print(bits)
	is(t, "P1704: bytes that take four", fmt.Sprint(len(text), e), fmt.Sprint(4*16376+29, api.OK))
	bits.Texts[0].Data = make([]byte, 16377)
	_, e = tongue.Print(bits)
	is(t, "P1704: bytes that take four", e, api.ErrLong)
	// What Parse takes may be too long for Print, by the blanks that Print puts.
	close := "func main(){" + strings.Repeat("do 1;", 13000) + "}"
	_, e = tongue.Print(read(t, close))
	is(t, "P1707: too long for Print", e, api.ErrLong)
}

// Units that have one thing unlike have unlike texts.
func TestUnlikeTexts(t *testing.T) {
	name := func(change func(u *api.Unit)) api.Unit {
		u := doing(part(api.PDo, 0, 1), part(api.PAt, 0, 0))
		change(&u)
		return u
	}
	l := []api.Unit{
		name(func(u *api.Unit) {}), name(func(u *api.Unit) { u.Texts[0].Name = "r" }), name(func(u *api.Unit) { u.Texts[0].Data = nil }), name(func(u *api.Unit) { u.Texts = u.Texts[:1] }), name(func(u *api.Unit) { u.Funcs[0].Name = "g" }), name(func(u *api.Unit) { u.Funcs[0].Locals = nil }), name(func(u *api.Unit) { u.Funcs[0].Locals[0] = "c" }), name(func(u *api.Unit) { u.Funcs[1].Args = 3 }), name(func(u *api.Unit) { u.Funcs[1].Args = 1 }), name(func(u *api.Unit) { u.Funcs = u.Funcs[:1] }),
		name(func(u *api.Unit) { u.Funcs[0].Parts[2].N = 1 }), name(func(u *api.Unit) { u.Funcs[0].Parts[2].Kind = api.PLen }), name(func(u *api.Unit) { u.Funcs[0].Parts[1].Kind = api.PReturn }), name(func(u *api.Unit) { u.Funcs[0].Parts[1].Kind = api.PAbort }), name(func(u *api.Unit) { u.Funcs[0].Parts[2] = num(0) }), name(func(u *api.Unit) { u.Funcs[0].Parts[2] = num(-1) }),
	}
	three := []api.Part{local(0), local(1), num(2)}
	for op := range api.ICount {
		for _, kind := range []int{api.POne, api.PTwo, api.PTurn} {
			kids := map[int]int{api.POne: 1, api.PTwo: 2, api.PTurn: 2}[kind]
			u := doing(append([]api.Part{part(api.PDo, 0, 1), part(kind, op, kids)}, three[:kids]...)...)
			v := doing(append([]api.Part{part(api.PDo, 0, 1), part(api.PNot, 0, 1), part(kind, op, kids)}, three[:kids]...)...)
			w := doing(append([]api.Part{part(api.PDo, 0, 1), part(kind, op, kids)}, three[3-kids:]...)...)
			if tongue.Check(u) == api.OK {
				l = append(l, u, v, w)
			}
		}
	}
	seen := map[string]int{}
	for i, u := range l {
		text, e := back(t, u)
		is(t, "P1704: Print", e, api.OK)
		if j, is := seen[text]; is {
			t.Errorf("P1707: the units %d and %d have one text %q", i, j, text)
		}
		seen[text] = i
	}
}
