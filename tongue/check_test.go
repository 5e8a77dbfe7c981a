package tongue_test

import (
	"fmt"
	"math"
	"slices"
	"strings"
	"testing"

	"retort/api"
	"retort/tongue"
)

func part(kind, n, kids int) api.Part { return api.Part{Kind: kind, N: n, Kids: kids} }

func num(n int) api.Part { return part(api.PNum, n, 0) }

// body is a block of so many doings.
func body(kids int, l ...api.Part) []api.Part {
	return append([]api.Part{part(api.PBlock, 0, kids)}, l...)
}

// empty is a function that does nothing.
func empty(name string, locals ...string) api.Fn {
	return api.Fn{Name: name, Locals: locals, Parts: body(0)}
}

// unit has texts p and q, a function main, with the locals a and b, of those parts, and f of two arguments.
func unit(l ...api.Part) api.Unit {
	main := empty("main", "a", "b")
	main.Parts = l
	f := empty("f", "x", "y", "z")
	f.Args = 2
	return api.Unit{Texts: []api.Text{{Name: "p", Data: []byte("a")}, {Name: "q"}}, Funcs: []api.Fn{main, f}}
}

// doing is that unit with one doing.
func doing(l ...api.Part) api.Unit { return unit(body(1, l...)...) }

// checks looks what Check answers, and the oracle.
func checks(t *testing.T, what string, u api.Unit, want api.Errno) {
	t.Helper()
	is(t, "P1701: "+what, tongue.Check(u), want)
	is(t, "P1701: the oracle: "+what, checkOf(u), want)
	text, e := tongue.Print(u)
	if want != api.OK && (text != "" || e != want) {
		t.Errorf("P1704: Print of %s: %s, %v", what, brief(text), e)
	}
	if m, ok := tongue.Mean(u, someFiles(t), 1<<16, 1000); want != api.OK && (ok || fmt.Sprint(m) != fmt.Sprint(api.Meant{})) {
		t.Errorf("P1705: Mean of %s: %+v, %v", what, m, ok)
	}
}

func manyFuncs(n int) []api.Fn {
	var l []api.Fn
	for i := range n {
		l = append(l, empty(fmt.Sprint("f", i)))
	}
	return l
}

func manyTexts(n, bytes int) []api.Text {
	var l []api.Text
	for i := range n {
		l = append(l, api.Text{Name: fmt.Sprint("t", i), Data: make([]byte, bytes)})
	}
	return l
}

func manyNames(n int) []string {
	var l []string
	for i := range n {
		l = append(l, fmt.Sprint("l", i))
	}
	return l
}

func TestCheckSizes(t *testing.T) {
	main := manyFuncs(1)
	checks(t, "nothing", api.Unit{}, api.ErrSyntax)
	checks(t, "texts alone", api.Unit{Texts: manyTexts(1, 1)}, api.ErrSyntax)
	checks(t, "one function", api.Unit{Funcs: main}, api.OK)
	checks(t, "64 functions", api.Unit{Funcs: manyFuncs(64)}, api.OK)
	checks(t, "65 functions", api.Unit{Funcs: manyFuncs(65)}, api.ErrLong)
	checks(t, "1024 texts", api.Unit{Texts: manyTexts(1024, 64), Funcs: main}, api.OK)
	checks(t, "1025 texts", api.Unit{Texts: manyTexts(1025, 0), Funcs: main}, api.ErrLong)
	checks(t, "1025 texts, no function", api.Unit{Texts: manyTexts(1025, 0)}, api.ErrLong)
	checks(t, "65536 bytes", api.Unit{Texts: manyTexts(1, 65536), Funcs: main}, api.OK)
	checks(t, "65537 bytes", api.Unit{Texts: manyTexts(1, 65537), Funcs: main}, api.ErrLong)
	checks(t, "65537 bytes, no function", api.Unit{Texts: manyTexts(1, 65537)}, api.ErrLong)
	texts := append(manyTexts(2, 32768), api.Text{Name: "last"})
	checks(t, "65536 bytes in three", api.Unit{Texts: texts, Funcs: main}, api.OK)
	texts[2].Data = []byte{1}
	checks(t, "65537 bytes in three", api.Unit{Texts: texts, Funcs: main}, api.ErrLong)
	texts[0].Name = "1"
	checks(t, "65537 bytes, no word", api.Unit{Texts: texts, Funcs: main}, api.ErrLong)
	l := manyFuncs(65)
	l[0].Args = 1
	checks(t, "65 functions, the first with an argument", api.Unit{Funcs: l}, api.ErrLong)
}

func TestCheckFirst(t *testing.T) {
	for args, want := range map[int]api.Errno{0: api.OK, 1: api.ErrSyntax, 2: api.ErrSyntax, 3: api.ErrSyntax, 17: api.ErrSyntax, -1: api.ErrSyntax, math.MaxInt: api.ErrSyntax, math.MinInt: api.ErrSyntax} {
		u := unit(body(0)...)
		u.Funcs[0].Args = args
		checks(t, fmt.Sprint("Args of the first ", args), u, want)
		u.Texts[1].Name = "p"
		if want != api.OK {
			checks(t, "and two texts of one name", u, want)
		}
	}
}

func TestCheckHeads(t *testing.T) {
	long := map[int]api.Errno{-1: api.ErrSyntax, 0: api.OK, 1: api.OK, 3: api.OK, 4: api.ErrSyntax, 16: api.ErrSyntax, 17: api.ErrLong, math.MaxInt: api.ErrLong, math.MinInt: api.ErrSyntax}
	for args, want := range long {
		u := unit(body(0)...)
		u.Funcs[1].Args = args
		checks(t, fmt.Sprint("Args ", args), u, want)
	}
	for locals, want := range map[int]api.Errno{0: api.ErrSyntax, 15: api.ErrSyntax, 16: api.OK, 17: api.OK, 64: api.OK, 65: api.ErrLong, 66: api.ErrLong, 2000: api.ErrLong} {
		u := unit(body(0)...)
		u.Funcs[1].Locals, u.Funcs[1].Args = manyNames(locals), 16
		checks(t, fmt.Sprint("16 arguments, locals ", locals), u, want)
		u.Funcs[1].Args = 17
		checks(t, fmt.Sprint("17 arguments, locals ", locals), u, api.ErrLong)
		u.Funcs[1].Args = -1
		if locals < 65 {
			want = api.ErrSyntax
		}
		if locals > 15 {
			checks(t, fmt.Sprint("-1 arguments, locals ", locals), u, want)
		}
	}
	first := unit(body(0)...)
	first.Funcs[0].Locals = manyNames(64)
	checks(t, "64 locals of the first", first, api.OK)
	first.Funcs[0].Locals = manyNames(65)
	checks(t, "65 locals of the first", first, api.ErrLong)
}

// names a text, a function, a local of the unit.
func namings() map[string]func(u *api.Unit, name string) {
	return map[string]func(*api.Unit, string){
		"the first text":     func(u *api.Unit, name string) { u.Texts[0].Name = name },
		"the last text":      func(u *api.Unit, name string) { u.Texts[1].Name = name },
		"the first function": func(u *api.Unit, name string) { u.Funcs[0].Name = name },
		"the last function":  func(u *api.Unit, name string) { u.Funcs[1].Name = name },
		"a first local":      func(u *api.Unit, name string) { u.Funcs[0].Locals[0] = name },
		"an argument":        func(u *api.Unit, name string) { u.Funcs[1].Locals[1] = name },
		"a last local":       func(u *api.Unit, name string) { u.Funcs[1].Locals[2] = name },
	}
}

func TestCheckWords(t *testing.T) {
	right := []string{"_", "__", "A", "Z", "zz", "g1", "_0", "a_B_9", "Text", "FUNC", "iff", "i", "els", "sizes", "size_", "_size", "roots", "nop", "main1", "tex", "reads", strings.Repeat("a", 64), "_" + strings.Repeat("9", 63), "num", "ret"}
	wrong := append(strings.Fields(keptWords), "", " ", "1", "1a", "0x1", "a b", " a", "a ", "a.", "a-b", "a\x00", "\x00", "\xc3\xa9", "a\xff", "ä", "a\n", "(", "\"a\"", "@", "[", "`", "{", "/", ":", "a@", "a[", "a`", "a{", "a/", "a:", strings.Repeat("a", 65), strings.Repeat("a", 5000))
	for what, give := range namings() {
		for _, name := range right {
			u := unit(body(0)...)
			give(&u, name)
			checks(t, fmt.Sprintf("%s is %q", what, name), u, api.OK)
		}
		for _, name := range wrong {
			u := unit(body(0)...)
			give(&u, name)
			checks(t, fmt.Sprintf("%s is %q", what, name), u, api.ErrSyntax)
		}
		for c := range 256 {
			for _, name := range []string{string([]byte{byte(c)}), string([]byte{'k', byte(c)}), string([]byte{'k', byte(c), 'k'})} {
				u := unit(body(0)...)
				give(&u, name)
				if e := tongue.Check(u); e != checkOf(u) {
					t.Errorf("P1701: %s is %q: %v", what, name, e)
				}
			}
		}
	}
}

func TestCheckTwice(t *testing.T) {
	for what, want := range map[string]api.Errno{"p": api.OK, "q": api.OK, "main": api.OK, "f": api.OK, "a": api.OK, "b": api.OK, "x": api.OK, "y": api.OK, "z": api.OK} {
		for where, give := range namings() {
			u := unit(body(0)...)
			give(&u, what)
			e := want
			for _, l := range [][]string{{u.Texts[0].Name, u.Texts[1].Name}, {u.Funcs[0].Name, u.Funcs[1].Name}, u.Funcs[0].Locals, u.Funcs[1].Locals} {
				if len(slices.Compact(slices.Sorted(slices.Values(l)))) < len(l) {
					e = api.ErrTwice
				}
			}
			checks(t, where+" is "+what, u, e)
		}
	}
	same := api.Unit{Texts: []api.Text{{Name: "a"}}, Funcs: []api.Fn{empty("a", "a"), empty("b", "a")}}
	checks(t, "one name of each", same, api.OK)
	same.Funcs[1].Name = "a"
	checks(t, "one name of two functions", same, api.ErrTwice)
	far := api.Unit{Texts: manyTexts(1024, 0), Funcs: manyFuncs(64)}
	far.Texts[1023].Name = "t0"
	checks(t, "the first and the last text", far, api.ErrTwice)
	far.Texts[1023].Name, far.Funcs[63].Name = "t", "f0"
	checks(t, "the first and the last function", far, api.ErrTwice)
	far.Funcs[63] = empty("f", manyNames(64)...)
	far.Funcs[63].Locals[63] = "l0"
	checks(t, "the first and the last local", far, api.ErrTwice)
	far.Funcs[63].Locals[63] = "f0"
	checks(t, "no two alike", far, api.OK)
}

// Of two faults the first one is told: each row has faults in their order, and each two of them are made.
func TestCheckOrder(t *testing.T) {
	type fault struct {
		what string
		make func(u *api.Unit)
		want api.Errno
	}
	faults := []fault{
		{"texts too long", func(u *api.Unit) { u.Texts = append(u.Texts, api.Text{Name: "r", Data: make([]byte, 65536)}) }, api.ErrLong},
		{"an argument of the first", func(u *api.Unit) { u.Funcs[0].Args = 1 }, api.ErrSyntax},
		{"a first text's name", func(u *api.Unit) { u.Texts[0].Name = "0" }, api.ErrSyntax},
		{"a text twice", func(u *api.Unit) { u.Texts[1].Name = u.Texts[0].Name }, api.ErrTwice},
		{"too many locals", func(u *api.Unit) { u.Funcs[0].Locals = append(u.Funcs[0].Locals, manyNames(63)...) }, api.ErrLong},
		{"a first function's name", func(u *api.Unit) { u.Funcs[0].Name = "if" }, api.ErrSyntax},
		{"a local's name", func(u *api.Unit) { u.Funcs[0].Locals[0] = "" }, api.ErrSyntax},
		{"a local twice", func(u *api.Unit) { u.Funcs[0].Locals[1] = u.Funcs[0].Locals[0] }, api.ErrTwice},
		{"too many arguments", func(u *api.Unit) { u.Funcs[1].Args = 17 }, api.ErrLong},
		{"arguments below 0", func(u *api.Unit) { u.Funcs[1].Args = min(u.Funcs[1].Args, 16) - 20 }, api.ErrSyntax},
		{"a function twice", func(u *api.Unit) { u.Funcs[1].Name = u.Funcs[0].Name }, api.ErrTwice},
		{"a second function's local", func(u *api.Unit) { u.Funcs[1].Locals[0] = "." }, api.ErrSyntax},
		{"a local twice in the second", func(u *api.Unit) { u.Funcs[1].Locals[2] = u.Funcs[1].Locals[1] }, api.ErrTwice},
		{"a part's number", func(u *api.Unit) { u.Funcs[0].Parts[1].N = 99 }, api.ErrUnset},
		{"a part's kids", func(u *api.Unit) { u.Funcs[0].Parts[1].Kids = 2 }, api.ErrSyntax},
		{"a part left", func(u *api.Unit) { u.Funcs[0].Parts = append(u.Funcs[0].Parts, num(1)) }, api.ErrSyntax},
		{"no parts", func(u *api.Unit) { u.Funcs[1].Parts = nil }, api.ErrSyntax},
	}
	for i, a := range faults {
		for j, b := range faults {
			u := doing(part(api.PSet, 0, 1), num(1))
			a.make(&u)
			if i == j {
				checks(t, a.what, u, a.want)
				continue
			}
			b.make(&u)
			if e, want := tongue.Check(u), checkOf(u); e != want || i < j && e != a.want && a.what != "too many arguments" && a.what != "a text twice" && a.what != "a local twice" {
				t.Errorf("P1701: %s, %s: %v, want %v", a.what, b.what, e, want)
			}
		}
	}
}

// place is where a part may or may not stand: what stands ahead of it, and behind it.
type place struct{ head, tail []api.Part }

func places() map[string]place {
	block, loop := part(api.PBlock, 0, 0), []api.Part{part(api.PWhile, 0, 2), num(1), part(api.PBlock, 0, 1)}
	tail := func(l ...api.Part) []api.Part { return l }
	return map[string]place{
		"the body":                  {},
		"a block":                   {body(1), nil},
		"a block in a block":        {body(1, body(1)...), nil},
		"behind a doing":            {body(2, part(api.PDo, 0, 1), num(1)), nil},
		"ahead of a doing":          {body(2), tail(part(api.PDo, 0, 1), num(1))},
		"what is set":               {body(1, part(api.PSet, 1, 1)), nil},
		"an address":                {body(1, part(api.PPut, 0, 2)), tail(num(1))},
		"what is put":               {body(1, part(api.PPut8, 0, 2), num(1)), nil},
		"a condition":               {body(1, part(api.PIf, 0, 2)), tail(block)},
		"a condition of three":      {body(1, part(api.PIf, 0, 3)), tail(block, block)},
		"a first block":             {body(1, part(api.PIf, 0, 2), num(1)), nil},
		"a first block of two":      {body(1, part(api.PIf, 0, 3), num(1)), tail(block)},
		"a second block":            {body(1, part(api.PIf, 0, 3), num(1), block), nil},
		"a loop's condition":        {body(1, part(api.PWhile, 0, 2)), tail(block)},
		"a loop's block":            {body(1, part(api.PWhile, 0, 2), num(1)), nil},
		"in a loop":                 {body(1, loop...), nil},
		"behind a loop":             {body(2, part(api.PWhile, 0, 2), num(1), block), nil},
		"in three loops":            {body(1, slices.Repeat(loop, 3)...), nil},
		"a condition in a loop":     {body(1, append(slices.Clone(loop), part(api.PWhile, 0, 2))...), tail(block)},
		"what is returned":          {body(1, part(api.PReturn, 0, 1)), nil},
		"the left of two":           {body(1, part(api.PAbort, 0, 1), part(api.PTwo, api.IAdd, 2)), tail(num(1))},
		"the right of two":          {body(1, part(api.PDo, 0, 1), part(api.PTurn, api.ILt, 2), num(1)), nil},
		"behind a not":              {body(1, part(api.PDo, 0, 1), part(api.PNot, 0, 1)), nil},
		"the second of an and":      {body(1, part(api.PDo, 0, 1), part(api.PAnd, 0, 2), num(1)), nil},
		"a call's first":            {body(1, part(api.PDo, 0, 1), part(api.PCall, 1, 2)), tail(num(1))},
		"the last of a call's":      {body(1, part(api.PDo, 0, 1), part(api.PSys, api.SList, 4), num(1), num(1), num(1)), nil},
		"an address that is loaded": {body(1, part(api.PDo, 0, 1), part(api.PLoad8, 0, 1)), nil},
		"behind the block":          {body(0), nil},
	}
}

// kidsFor are as many kids as a part says it has, of which each may stand where it does, if the part may have it.
func kidsFor(kind, kids int) []api.Part {
	var l []api.Part
	for i := range max(0, min(kids, 6)) {
		switch {
		case kind == api.PBlock:
			l = append(l, part(api.PDo, 0, 1), num(i))
		case i > 0 && (kind == api.PIf || kind == api.PWhile):
			l = append(l, part(api.PBlock, 0, 0))
		default:
			l = append(l, num(i))
		}
	}
	return l
}

// Every kind at every place, with all numbers and kids about what may be; all of it there, a part too few, one too many.
func TestCheckParts(t *testing.T) {
	t.Parallel()
	odd := []int{math.MinInt, -1, 0, 1, 2, 3, 4, 5, math.MaxInt}
	pairs := map[[2]int]bool{}
	for _, n := range odd {
		for _, kids := range odd {
			pairs[[2]int{n, kids}] = true
		}
	}
	for n := api.IAdd - 2; n <= api.ICount+1; n++ {
		for kids := range 4 {
			pairs[[2]int{n, kids}] = true
		}
	}
	met := map[api.Errno]int{}
	for what, p := range places() {
		for kind := -1; kind <= api.PCount+1; kind++ {
			for x := range pairs {
				l := slices.Concat(p.head, []api.Part{part(kind, x[0], x[1])}, kidsFor(kind, x[1]), p.tail)
				for _, l := range [][]api.Part{l, l[:len(l)-1], append(slices.Clone(l), num(1))} {
					u := unit(l...)
					e := tongue.Check(u)
					if want := checkOf(u); e != want {
						t.Errorf("P1701: %s: %v: %v, want %v", what, l, e, want)
					}
					met[e]++
				}
			}
		}
	}
	t.Log(met)
	for _, kind := range []int{math.MinInt, math.MaxInt, 0, api.PCount} {
		checks(t, fmt.Sprint("kind ", kind), doing(part(kind, 0, 0)), api.ErrSyntax)
		checks(t, fmt.Sprint("the body's kind ", kind), unit(part(kind, 0, 0)), api.ErrSyntax)
	}
}

func TestCheckFaultsOfOnePart(t *testing.T) {
	for what, c := range map[string]struct {
		l    []api.Part
		want api.Errno
	}{
		"a call of none ahead of its kids":   {[]api.Part{part(api.PDo, 0, 1), part(api.PCall, 2, 9)}, api.ErrUnset},
		"a call of too many":                 {[]api.Part{part(api.PDo, 0, 1), part(api.PCall, 1, 3)}, api.ErrArity},
		"a call of too few":                  {[]api.Part{part(api.PDo, 0, 1), part(api.PCall, 1, 1), num(1)}, api.ErrArity},
		"a call of fewer than none":          {[]api.Part{part(api.PDo, 0, 1), part(api.PCall, 0, -1)}, api.ErrArity},
		"a call of files that there is not":  {[]api.Part{part(api.PDo, 0, 1), part(api.PSys, 5, 9)}, api.ErrSyntax},
		"one below 0":                        {[]api.Part{part(api.PDo, 0, 1), part(api.PSys, -1, 1)}, api.ErrSyntax},
		"open of two":                        {[]api.Part{part(api.PDo, 0, 1), part(api.PSys, 0, 2)}, api.ErrArity},
		"list of four":                       {[]api.Part{part(api.PDo, 0, 1), part(api.PSys, 3, 4), num(1), num(2), num(3), num(4)}, api.OK},
		"list of three":                      {[]api.Part{part(api.PDo, 0, 1), part(api.PSys, 3, 3), num(1), num(2), num(3)}, api.ErrArity},
		"a number ahead of the kids":         {[]api.Part{part(api.PReturn, 1, 0)}, api.ErrSyntax},
		"a local ahead of the kids":          {[]api.Part{part(api.PSet, 2, 0)}, api.ErrUnset},
		"a local below 0":                    {[]api.Part{part(api.PSet, -1, 1), num(1)}, api.ErrUnset},
		"the kids ahead of the next one":     {[]api.Part{part(api.PSet, 0, 2), part(99, 0, 0)}, api.ErrSyntax},
		"the first part ahead of the second": {[]api.Part{part(api.PPut, 0, 2), part(api.PVar, 2, 0), part(99, 0, 0)}, api.ErrUnset},
		"a text":                             {[]api.Part{part(api.PDo, 0, 1), part(api.PAt, 2, 0)}, api.ErrUnset},
		"a text's length":                    {[]api.Part{part(api.PDo, 0, 1), part(api.PLen, -1, 0)}, api.ErrUnset},
		"turned eq":                          {[]api.Part{part(api.PDo, 0, 1), part(api.PTurn, api.IEq, 2), num(1), num(2)}, api.ErrSyntax},
		"turned flt":                         {[]api.Part{part(api.PDo, 0, 1), part(api.PTurn, api.IFlt, 2), num(1), num(2)}, api.OK},
		"one that takes two":                 {[]api.Part{part(api.PDo, 0, 1), part(api.POne, api.IAdd, 1), num(1)}, api.ErrSyntax},
		"two that takes one":                 {[]api.Part{part(api.PDo, 0, 1), part(api.PTwo, api.INeg, 2), num(1), num(1)}, api.ErrSyntax},
		"an if of one":                       {[]api.Part{part(api.PIf, 0, 1), num(1)}, api.ErrSyntax},
		"an if of four":                      {[]api.Part{part(api.PIf, 0, 4), num(1), part(api.PBlock, 0, 0), part(api.PBlock, 0, 0), part(api.PBlock, 0, 0)}, api.ErrSyntax},
		"an if of doings":                    {[]api.Part{part(api.PIf, 0, 2), num(1), part(api.PDo, 0, 1), num(1)}, api.ErrSyntax},
		"a block that is wanting":            {[]api.Part{part(api.PIf, 0, 3), num(1), part(api.PBlock, 0, 0)}, api.ErrSyntax},
	} {
		checks(t, what, doing(c.l...), c.want)
	}
	checks(t, "a block of as many as an int may be", unit(part(api.PBlock, 0, math.MaxInt), part(api.PDo, 0, 1), num(1)), api.ErrSyntax)
	two := unit(body(0)...)
	two.Funcs[1].Parts = body(1, part(api.PSet, 3, 1), num(1))
	checks(t, "a local of another function", two, api.ErrUnset)
	two.Funcs[1].Parts = body(1, part(api.PSet, 2, 1), num(1))
	checks(t, "a function's own local", two, api.OK)
	two.Funcs[0].Parts = body(1, part(api.PReturn, 0, 1))
	two.Funcs[1].Parts = body(1, part(api.PSet, 3, 1), num(1))
	checks(t, "the first function's fault", two, api.ErrSyntax)
}

func TestCheckLoops(t *testing.T) {
	while := []api.Part{part(api.PWhile, 0, 2), num(1), part(api.PBlock, 0, 1)}
	for _, kind := range []int{api.PBreak, api.PContinue} {
		for loops := range 6 {
			for n := -2; n < 8; n++ {
				l := append(slices.Repeat(while, loops), part(kind, n, 0))
				want := api.ErrSyntax
				if 0 <= n && n < loops {
					want = api.OK
				}
				checks(t, fmt.Sprintf("%d of %d loops", n, loops), doing(l...), want)
			}
			for _, n := range []int{math.MinInt, math.MaxInt} {
				checks(t, "far out", doing(append(slices.Repeat(while, loops), part(kind, n, 0))...), api.ErrSyntax)
			}
		}
		checks(t, "with a kid", doing(append(slices.Clone(while), part(kind, 0, 1), num(1))...), api.ErrSyntax)
		checks(t, "behind a loop", unit(body(2, part(api.PWhile, 0, 2), num(1), part(api.PBlock, 0, 0), part(kind, 0, 0))...), api.ErrSyntax)
		checks(t, "in an if in a loop", doing(append(slices.Clone(while), part(api.PIf, 0, 3), num(1), part(api.PBlock, 0, 0), part(api.PBlock, 0, 1), part(kind, 0, 0))...), api.OK)
		checks(t, "in a loop's condition", doing(append(slices.Clone(while), part(api.PWhile, 0, 2), part(kind, 0, 0), part(api.PBlock, 0, 0))...), api.ErrSyntax)
		two := doing(append(slices.Clone(while), part(kind, 0, 0))...)
		two.Funcs[1].Parts = body(1, part(kind, 0, 0))
		checks(t, "in another function", two, api.ErrSyntax)
	}
}

// nests are parts of which the last kid stands one deeper, with what stands ahead of it; the flag says whether that is a doing.
func nests() map[string][]api.Part {
	return map[string][]api.Part{
		"block":  {part(api.PBlock, 0, 1)},
		"load":   {part(api.PLoad, 0, 1)},
		"load8":  {part(api.PLoad8, 0, 1)},
		"neg":    {part(api.POne, api.INeg, 1)},
		"root":   {part(api.POne, api.IFroot, 1)},
		"not":    {part(api.PNot, 0, 1)},
		"add":    {part(api.PTwo, api.IAdd, 2), num(1)},
		"turned": {part(api.PTurn, api.ILt, 2), num(1)},
		"and":    {part(api.PAnd, 0, 2), num(1)},
		"or":     {part(api.POr, 0, 2), num(1)},
		"call":   {part(api.PCall, 1, 2), num(1)},
		"list":   {part(api.PSys, api.SList, 4), num(1), num(1), num(1)},
		"close":  {part(api.PSys, api.SClose, 1)},
	}
}

func TestCheckNest(t *testing.T) {
	for what, l := range nests() {
		for deep, want := range map[int]api.Errno{62: api.OK, 63: api.ErrNest, 64: api.ErrNest, 65: api.ErrNest, 3000: api.ErrNest} {
			row := slices.Repeat(l, deep)
			if what == "block" {
				checks(t, fmt.Sprintf("%d of %s", deep, what), doing(append(row, part(api.PDo, 0, 1), num(1))...), want)
				continue
			}
			checks(t, fmt.Sprintf("%d of %s", deep, what), doing(slices.Concat([]api.Part{part(api.PDo, 0, 1)}, row, []api.Part{num(1)})...), want)
		}
	}
	left := slices.Repeat([]api.Part{part(api.PTwo, api.IMul, 2)}, 62)
	checks(t, "62 to the left", doing(slices.Concat([]api.Part{part(api.PDo, 0, 1)}, left, slices.Repeat([]api.Part{num(1)}, 63))...), api.OK)
	left = append(left, part(api.PTwo, api.IMul, 2))
	checks(t, "63 to the left", doing(slices.Concat([]api.Part{part(api.PDo, 0, 1)}, left, slices.Repeat([]api.Part{num(1)}, 64))...), api.ErrNest)
	loops := slices.Repeat([]api.Part{part(api.PWhile, 0, 2), num(1), part(api.PBlock, 0, 1)}, 31)
	checks(t, "31 loops", doing(append(loops, part(api.PDo, 0, 1), num(1))...), api.OK)
	checks(t, "31 loops, left by all", doing(append(loops, part(api.PBreak, 30, 0))...), api.OK)
	checks(t, "31 loops and one deeper", doing(append(loops, part(api.PDo, 0, 1), part(api.PNot, 0, 1), num(1))...), api.ErrNest)
	checks(t, "a fault ahead of the depth", doing(append(loops, part(api.PDo, 0, 1), part(api.PNot, 0, 1), part(api.PNum, 0, 1))...), api.ErrSyntax)
	checks(t, "a name ahead of the depth", doing(append(loops, part(api.PDo, 0, 1), part(api.PNot, 0, 1), part(api.PVar, 9, 0))...), api.ErrUnset)
	checks(t, "a call ahead of the depth", doing(append(loops, part(api.PDo, 0, 1), part(api.PNot, 0, 1), part(api.PCall, 1, 0))...), api.ErrArity)
	checks(t, "the depth ahead of what is behind", doing(append(loops, part(api.PDo, 0, 1), part(api.PNot, 0, 1), num(1), num(1))...), api.ErrNest)
	// What stands in many parts one behind the other is not deep.
	checks(t, "a long block", unit(body(40000, slices.Repeat([]api.Part{part(api.PDo, 0, 1), num(1)}, 40000)...)...), api.OK)
}

// wide is a unit whose function g has 16 arguments.
func wide(l ...api.Part) api.Unit {
	u := unit(l...)
	g := empty("g", manyNames(16)...)
	g.Args = 16
	u.Funcs = append(u.Funcs, g)
	return u
}

// wanting is what is reckoned and wants so many cells at once: calls in the last argument of calls.
func wanting(n int) []api.Part {
	var l []api.Part
	for n > 16 {
		l = append(append(l, part(api.PCall, 2, 16)), slices.Repeat([]api.Part{num(1)}, 15)...)
		n -= 15
	}
	for n > 1 {
		l = append(l, part(api.PTwo, api.IAdd, 2), num(1))
		n--
	}
	return append(l, num(1))
}

func TestCheckWants(t *testing.T) {
	block := part(api.PBlock, 0, 0)
	for _, n := range []int{1, 2, 16, 17, 100, 255, 256, 257, 258, 300} {
		w := wanting(n)
		want := func(more int) api.Errno {
			if n+more > 256 {
				return api.ErrNest
			}
			return api.OK
		}
		for what, c := range map[string]widened{
			"set":                wider(0, part(api.PSet, 0, 1), w),
			"return":             wider(0, part(api.PReturn, 0, 1), w),
			"do":                 wider(0, part(api.PDo, 0, 1), w),
			"abort":              wider(0, part(api.PAbort, 0, 1), w),
			"if":                 wider(0, part(api.PIf, 0, 2), w, []api.Part{block}),
			"while":              wider(0, part(api.PWhile, 0, 2), w, []api.Part{block}),
			"put first":          wider(0, part(api.PPut, 0, 2), w, wanting(1)),
			"put second":         wider(1, part(api.PPut, 0, 2), wanting(1), w),
			"put8 first":         wider(0, part(api.PPut8, 0, 2), w, wanting(1)),
			"put8 second":        wider(1, part(api.PPut8, 0, 2), wanting(1), w),
			"load":               wider(0, part(api.PDo, 0, 1), []api.Part{part(api.PLoad, 0, 1)}, w),
			"load8":              wider(0, part(api.PDo, 0, 1), []api.Part{part(api.PLoad8, 0, 1)}, w),
			"one":                wider(0, part(api.PDo, 0, 1), []api.Part{part(api.POne, api.INot, 1)}, w),
			"not":                wider(0, part(api.PDo, 0, 1), []api.Part{part(api.PNot, 0, 1)}, w),
			"two first":          wider(0, part(api.PDo, 0, 1), []api.Part{part(api.PTwo, api.IFlt, 2)}, w, wanting(1)),
			"two second":         wider(1, part(api.PDo, 0, 1), []api.Part{part(api.PTwo, api.IFlt, 2)}, wanting(1), w),
			"turn first":         wider(0, part(api.PDo, 0, 1), []api.Part{part(api.PTurn, api.IFlt, 2)}, w, wanting(1)),
			"turn second":        wider(1, part(api.PDo, 0, 1), []api.Part{part(api.PTurn, api.IFlt, 2)}, wanting(1), w),
			"and first":          wider(0, part(api.PDo, 0, 1), []api.Part{part(api.PAnd, 0, 2)}, w, wanting(1)),
			"and second":         wider(0, part(api.PDo, 0, 1), []api.Part{part(api.PAnd, 0, 2)}, wanting(1), w),
			"or second":          wider(0, part(api.PDo, 0, 1), []api.Part{part(api.POr, 0, 2)}, wanting(1), w),
			"call first":         wider(0, part(api.PDo, 0, 1), []api.Part{part(api.PCall, 1, 2)}, w, wanting(1)),
			"call second":        wider(1, part(api.PDo, 0, 1), []api.Part{part(api.PCall, 1, 2)}, wanting(1), w),
			"list fourth":        wider(3, part(api.PDo, 0, 1), []api.Part{part(api.PSys, api.SList, 4)}, wanting(1), wanting(1), wanting(1), w),
			"close":              wider(0, part(api.PDo, 0, 1), []api.Part{part(api.PSys, api.SClose, 1)}, w),
			"in a block":         wider(0, part(api.PBlock, 0, 1), []api.Part{part(api.PDo, 0, 1)}, w),
			"in an if's block":   wider(0, part(api.PIf, 0, 2), wanting(1), body(1, part(api.PDo, 0, 1)), w),
			"second of two of 2": wider(1, part(api.PDo, 0, 1), []api.Part{part(api.PTwo, api.IAdd, 2)}, wanting(2), w),
		} {
			checks(t, fmt.Sprint(what, " ", n), wide(body(1, c.l...)...), want(c.more))
		}
	}
	// What stands innermost: all that wants one, and what wants two at least.
	for what, c := range map[string]struct {
		l     []api.Part
		wants int
	}{
		"a number": {[]api.Part{num(1)}, 1}, "a local": {[]api.Part{local(0)}, 1}, "a text's place": {[]api.Part{part(api.PAt, 0, 0)}, 1}, "a text's length": {[]api.Part{part(api.PLen, 0, 0)}, 1}, "the size": {[]api.Part{part(api.PSize, 0, 0)}, 1}, "a call of none": {[]api.Part{part(api.PCall, 0, 0)}, 1}, "close": {[]api.Part{part(api.PSys, api.SClose, 1), num(1)}, 1},
		"not": {[]api.Part{part(api.PNot, 0, 1), num(1)}, 2}, "and": {[]api.Part{part(api.PAnd, 0, 2), num(1), num(1)}, 2}, "or": {[]api.Part{part(api.POr, 0, 2), num(1), num(1)}, 2}, "add": {[]api.Part{two(api.IAdd), num(1), num(1)}, 2}, "turned": {[]api.Part{part(api.PTurn, api.ILt, 2), num(1), num(1)}, 2},
		"neg": {[]api.Part{part(api.POne, api.INeg, 1), num(1)}, 1}, "load": {[]api.Part{part(api.PLoad, 0, 1), num(1)}, 1}, "open": {[]api.Part{part(api.PSys, api.SOpen, 3), num(1), num(1), num(1)}, 3}, "list": {[]api.Part{part(api.PSys, api.SList, 4), num(1), num(1), num(1), num(1)}, 4}, "a call of two": {[]api.Part{part(api.PCall, 1, 2), num(1), num(1)}, 2},
		"not of add": {[]api.Part{part(api.PNot, 0, 1), two(api.IAdd), num(1), two(api.IAdd), num(1), num(1)}, 3}, "and of not": {[]api.Part{part(api.PAnd, 0, 2), part(api.PNot, 0, 1), num(1), num(1)}, 2},
	} {
		for _, all := range []int{256, 257} {
			l := wanting(all - c.wants + 1)
			l = append(l[:len(l)-1], c.l...)
			want := map[int]api.Errno{256: api.OK, 257: api.ErrNest}[all]
			checks(t, fmt.Sprint(what, " innermost, ", all), wide(body(1, append([]api.Part{part(api.PDo, 0, 1)}, l...)...)...), want)
		}
	}
	// The depth is told ahead of what is wanted, and what is left too; the first function ahead of the second.
	checks(t, "left, and wanted", wide(append(body(1, append([]api.Part{part(api.PDo, 0, 1)}, wanting(257)...)...), num(1))...), api.ErrSyntax)
	u := wide(body(1, append([]api.Part{part(api.PDo, 0, 1)}, wanting(257)...)...)...)
	u.Funcs[1].Parts = body(1, part(99, 0, 0))
	checks(t, "wanted, and the next function's", u, api.ErrNest)
	u.Funcs[0].Parts = body(0)
	checks(t, "the next function's", u, api.ErrSyntax)
	// Not as much as the sum of a block's parts, nor of both sides.
	checks(t, "two wide ones", wide(body(2, slices.Concat([]api.Part{part(api.PDo, 0, 1)}, wanting(256), []api.Part{part(api.PDo, 0, 1)}, wanting(256))...)...), api.OK)
	checks(t, "an and of wide ones", wide(body(1, slices.Concat([]api.Part{part(api.PDo, 0, 1), part(api.PAnd, 0, 2)}, wanting(256), wanting(256))...)...), api.OK)
}

// widened is a doing's parts, and how many cells more it wants than the wide one in it.
type widened struct {
	l    []api.Part
	more int
}

func wider(more int, head api.Part, l ...[]api.Part) widened {
	return widened{append([]api.Part{head}, slices.Concat(l...)...), more}
}

// Great units are answered in good time.
func TestCheckGreat(t *testing.T) {
	many := slices.Repeat([]api.Part{part(api.PDo, 0, 1), part(api.PTwo, api.IAdd, 2), num(1), part(api.PVar, 1, 0)}, 300000)
	u := unit(body(300000, many...)...)
	is(t, "P1701: a great unit", tongue.Check(u), api.OK)
	text, e := tongue.Print(u)
	is(t, "P1704: a great unit", text, "")
	is(t, "P1704: a great unit", e, api.ErrLong)
	m, ok := tongue.Mean(u, someFiles(t), 1, 1<<30)
	is(t, "P1705: a great unit", fmt.Sprintf("%+v %v", m, ok), fmt.Sprintf("%+v %v", api.Meant{}, false))
	u.Funcs[0].Parts = body(300001, many...)
	is(t, "P1701: a great unit with a part too few", tongue.Check(u), api.ErrSyntax)
	u.Funcs[0].Parts = body(299999, many...)
	is(t, "P1701: a great unit with parts left", tongue.Check(u), api.ErrSyntax)
}
