package tongue_test

import (
	"fmt"
	"math/rand/v2"
	"slices"
	"strings"
	"testing"

	"retort/api"
	"retort/op"
)

// The chapter said once more, in another way: the tables are texts, a unit's parts are made into trees, a fault is thrown, and each tree is asked anew for all that is to be known of it.

// kindRows are the kinds in their order: what N is, and the kids: r is reckoned, b a block, d any number of doings.
const kindRows = `block 0 d, set local r, put 0 rr, put8 0 rr, if 0 rb|rbb, while 0 rb, break loop -, continue loop -, return 0 r, do 0 r, abort 0 r,
num any -, var local -, at text -, len text -, size 0 -, load 0 r, load8 0 r, one one r, two two rr, turn turn rr, not 0 r, and 0 rr, or 0 rr, call func args, sys sys args`

type kindRow struct {
	name, n string
	kids    []string
}

var kinds = func() []kindRow {
	l := []kindRow{{}}
	for _, s := range strings.Split(strings.ReplaceAll(kindRows, "\n", " "), ", ") {
		f := strings.Fields(s)
		l = append(l, kindRow{f[0], f[1], strings.Split(strings.TrimPrefix(f[2], "-"), "|")})
	}
	return l
}()

const (
	doneNames = " block set put put8 if while break continue return do abort "
	keptWords = "text func if else while break continue return abort do word byte size root float int open read write list close"
	onesNamed = "neg not fneg froot tof toi"
	twosNamed = "add sub mul div rem and or xor shl shr ushr eq lt ult fadd fsub fmul fdiv feq flt"
	callNames = "open read write list close"
	callTakes = "3 3 3 4 1"
)

func kindNamed(name string) int {
	return slices.IndexFunc(kinds, func(k kindRow) bool { return k.name == name })
}

// opNamed is the instruction of a name.
func opNamed(name string) int {
	n, there := op.Named(name)
	if !there {
		panic(name)
	}
	return n
}

// among tells whether a number is an instruction of those names.
func among(n int, names string) bool {
	s, there := op.Of(n)
	return there && slices.Contains(strings.Fields(names), s.Name)
}

func lettersOf(s string) string {
	return strings.Map(func(r rune) rune {
		switch {
		case r >= 'a' && r <= 'z' || r >= 'A' && r <= 'Z' || r == '_':
			return 'a'
		case r >= '0' && r <= '9':
			return '0'
		}
		return '.'
	}, s)
}

func wordOK(s string) bool {
	form := lettersOf(s)
	return s != "" && len(s) < 65 && form[0] == 'a' && !strings.Contains(form, ".") && !slices.Contains(strings.Fields(keptWords), s)
}

// caught tells what a function throws; OK: nothing.
func caught(f func()) (e api.Errno) {
	defer func() {
		switch x := recover().(type) {
		case nil:
		case api.Errno:
			e = x
		default:
			panic(x)
		}
	}()
	f()
	return api.OK
}

func throwIf(is bool, e api.Errno) {
	if is {
		panic(e)
	}
}

// checkOf is what Check must tell.
func checkOf(u api.Unit) api.Errno {
	return caught(func() {
		all := 0
		for _, t := range u.Texts {
			all += len(t.Data)
		}
		throwIf(len(u.Funcs) > 64, api.ErrLong)
		throwIf(len(u.Texts) > 1024, api.ErrLong)
		throwIf(all > 65536, api.ErrLong)
		throwIf(len(u.Funcs) == 0, api.ErrSyntax)
		throwIf(u.Funcs[0].Args != 0, api.ErrSyntax)
		for i, t := range u.Texts {
			throwIf(!wordOK(t.Name), api.ErrSyntax)
			for _, o := range u.Texts[:i] {
				throwIf(o.Name == t.Name, api.ErrTwice)
			}
		}
		for i, f := range u.Funcs {
			headOf(f, u.Funcs[:i])
		}
		for _, f := range u.Funcs {
			partsOf(u, f)
		}
	})
}

func headOf(f api.Fn, ahead []api.Fn) {
	throwIf(len(f.Locals) > 64 || f.Args > 16, api.ErrLong)
	throwIf(f.Args < 0 || f.Args > len(f.Locals), api.ErrSyntax)
	throwIf(!wordOK(f.Name), api.ErrSyntax)
	for _, g := range ahead {
		throwIf(g.Name == f.Name, api.ErrTwice)
	}
	for i, l := range f.Locals {
		throwIf(!wordOK(l), api.ErrSyntax)
		throwIf(slices.Contains(f.Locals[:i], l), api.ErrTwice)
	}
}

// above is a part in which another stands, as which kid, and that kid's letter.
type above struct {
	kind string
	kid  int
}

func partsOf(u api.Unit, f api.Fn) {
	at := 0
	var walk func(letter string, path []above)
	walk = func(letter string, path []above) {
		throwIf(at >= len(f.Parts), api.ErrSyntax)
		x := f.Parts[at]
		throwIf(x.Kind <= 0 || x.Kind >= len(kinds), api.ErrSyntax)
		row := kinds[x.Kind]
		done := strings.Contains(doneNames, " "+row.name+" ")
		throwIf(letter == "b" && row.name != "block" || letter == "d" && !done || letter == "r" && done, api.ErrSyntax)
		numberOf(u, f, x, row, path)
		kids := kidsOf(u, x, row)
		throwIf(len(path) > 64, api.ErrNest)
		at++
		for i := range x.Kids {
			k := "d"
			if kids != "d" {
				k = kids[i : i+1]
			}
			walk(k, append(slices.Clone(path), above{row.name, i}))
		}
	}
	walk("b", nil)
	throwIf(at < len(f.Parts), api.ErrSyntax)
	for _, p := range treeOf(f).all() {
		throwIf(p.wants() > 256, api.ErrNest)
	}
}

func numberOf(u api.Unit, f api.Fn, x api.Part, row kindRow, path []above) {
	loops := 0
	for _, a := range path {
		if a == (above{"while", 1}) {
			loops++
		}
	}
	least := map[string]int{"local": len(f.Locals), "text": len(u.Texts), "func": len(u.Funcs)}
	switch row.n {
	case "0":
		throwIf(x.N != 0, api.ErrSyntax)
	case "loop":
		throwIf(x.N < 0 || x.N >= loops, api.ErrSyntax)
	case "one":
		throwIf(!among(x.N, onesNamed), api.ErrSyntax)
	case "two":
		throwIf(!among(x.N, twosNamed), api.ErrSyntax)
	case "turn":
		throwIf(!among(x.N, "lt ult flt"), api.ErrSyntax)
	case "sys":
		throwIf(x.N < 0 || x.N >= len(strings.Fields(callNames)), api.ErrSyntax)
	case "local", "text", "func":
		throwIf(x.N < 0 || x.N >= least[row.n], api.ErrUnset)
	}
}

// kidsOf are the letters of a part's kids.
func kidsOf(u api.Unit, x api.Part, row kindRow) string {
	takes := -1
	switch row.name {
	case "call":
		takes = u.Funcs[x.N].Args
	case "sys":
		fmt.Sscan(strings.Fields(callTakes)[x.N], &takes)
	case "block":
		throwIf(x.Kids < 0, api.ErrSyntax)
		return "d"
	}
	if takes >= 0 {
		throwIf(x.Kids != takes, api.ErrArity)
		return strings.Repeat("r", takes)
	}
	for _, k := range row.kids {
		if len(k) == x.Kids {
			return k
		}
	}
	panic(api.ErrSyntax)
}

// tree is a part with its kids.
type tree struct {
	name string
	n    int
	kids []tree
}

// treeOf is the tree of a function whose parts fit.
func treeOf(f api.Fn) tree {
	l := f.Parts
	var grow func() tree
	grow = func() tree {
		t := tree{name: kinds[l[0].Kind].name, n: l[0].N}
		kids := l[0].Kids
		l = l[1:]
		for range kids {
			t.kids = append(t.kids, grow())
		}
		return t
	}
	return grow()
}

func (t tree) parts() []api.Part {
	l := []api.Part{{Kind: kindNamed(t.name), N: t.n, Kids: len(t.kids)}}
	for _, k := range t.kids {
		l = append(l, k.parts()...)
	}
	return l
}

func (t tree) all() []tree {
	l := []tree{t}
	for _, k := range t.kids {
		l = append(l, k.all()...)
	}
	return l
}

func (t tree) wants() int {
	switch t.name {
	case "num", "var", "at", "len", "size":
		return 1
	case "load", "load8", "one", "set", "return", "do", "abort", "if", "while":
		return t.kids[0].wants()
	case "two", "turn", "put", "put8":
		return max(t.kids[0].wants(), 1+t.kids[1].wants())
	case "not":
		return max(2, t.kids[0].wants())
	case "and", "or":
		return max(2, t.kids[0].wants(), t.kids[1].wants())
	case "call", "sys":
		most := 1
		for i, k := range t.kids {
			most = max(most, i+k.wants())
		}
		return most
	}
	return 0
}

// signRows: each rule's signs with what they say.
const signRows = `or: || or 0
and: && and 0
compare: == two eq, != not two eq, < two lt, >= not two lt, > turn lt, <= not turn lt, <# two ult, ># turn ult, ==. two feq, <. two flt, >. turn flt
sum: + two add, - two sub, | two or, ^ two xor, +. two fadd, -. two fsub
term: * two mul, / two div, % two rem, << two shl, >> two shr, >>> two ushr, & two and, *. two fmul, /. two fdiv`

// signRow is a sign of two.
type signRow struct {
	sign string
	rule int
	not  bool
	kind string
	n    int
}

const bareRule = 5

var signs = func() (l []signRow) {
	for rule, s := range strings.Split(signRows, "\n") {
		_, s, _ = strings.Cut(s, ": ")
		for _, x := range strings.Split(s, ", ") {
			f := strings.Fields(x)
			row := signRow{sign: f[0], rule: rule, not: f[1] == "not", kind: f[len(f)-2]}
			if f[len(f)-1] != "0" {
				row.n = opNamed(f[len(f)-1])
			}
			l = append(l, row)
		}
	}
	return l
}()

// oneSigns are those of one, and the words.
var oneSigns = map[int]string{opNamed("neg"): "-", opNamed("not"): "~", opNamed("fneg"): "-.", opNamed("froot"): "root", opNamed("tof"): "float", opNamed("toi"): "int"}

// signOf is the sign of two by which a tree is told, and its two.
func signOf(t tree) (signRow, []tree, bool) {
	not := t.name == "not"
	if not {
		t = t.kids[0]
	}
	for _, s := range signs {
		if s.not == not && s.kind == t.name && s.n == t.n {
			return s, t.kids, true
		}
	}
	return signRow{}, nil, false
}

// saying says a unit's parts: the names are the unit's.
type saying struct {
	u api.Unit
	f api.Fn
}

// word says what is reckoned, and its rule.
func (s saying) word(t tree) (string, int) {
	if row, kids, is := signOf(t); is {
		left, l := s.word(kids[0])
		if l < row.rule {
			left = "(" + left + ")"
		}
		right, r := s.word(kids[1])
		if r <= row.rule {
			right = "(" + right + ")"
		}
		return left + " " + row.sign + " " + right, row.rule
	}
	return s.bare(t), bareRule
}

func (s saying) bare(t tree) string {
	var l []string
	for _, k := range t.kids {
		x, _ := s.word(k)
		l = append(l, x)
	}
	list := strings.Join(l, ", ")
	switch t.name {
	case "num":
		if t.n < 0 {
			return fmt.Sprintf("0x%016x", uint64(t.n))
		}
		return fmt.Sprint(t.n)
	case "var":
		return s.f.Locals[t.n]
	case "at":
		return "&" + s.u.Texts[t.n].Name
	case "len":
		return "#" + s.u.Texts[t.n].Name
	case "size":
		return "size"
	case "load":
		return "word[" + list + "]"
	case "load8":
		return "byte[" + list + "]"
	case "call":
		return s.u.Funcs[t.n].Name + "(" + list + ")"
	case "sys":
		return strings.Fields(callNames)[t.n] + "(" + list + ")"
	}
	sign := "!"
	if t.name == "one" {
		sign = oneSigns[t.n]
	}
	_, rule := s.word(t.kids[0])
	if len(sign) > 2 || rule < bareRule {
		list = "(" + list + ")"
	}
	return sign + list
}

// doing says what is done, line by line.
func (s saying) doing(t tree) []string {
	word := func(i int) string {
		x, _ := s.word(t.kids[i])
		return x
	}
	number := ""
	if t.n != 0 {
		number = fmt.Sprint(" ", t.n)
	}
	switch t.name {
	case "block":
		return s.block("{", t)
	case "set":
		return []string{s.f.Locals[t.n] + " = " + word(0) + ";"}
	case "put":
		return []string{"word[" + word(0) + "] = " + word(1) + ";"}
	case "put8":
		return []string{"byte[" + word(0) + "] = " + word(1) + ";"}
	case "break", "continue":
		return []string{t.name + number + ";"}
	case "if":
		l := s.block("if "+word(0)+" {", t.kids[1])
		if len(t.kids) > 2 {
			l = append(l[:len(l)-1], s.block("} else {", t.kids[2])...)
		}
		return l
	case "while":
		return s.block("while "+word(0)+" {", t.kids[1])
	}
	return []string{t.name + " " + word(0) + ";"}
}

func (s saying) block(head string, t tree) []string {
	l := []string{head}
	for _, k := range t.kids {
		for _, line := range s.doing(k) {
			l = append(l, "\t"+line)
		}
	}
	return append(l, "}")
}

func quotedOf(b []byte) string {
	s := ""
	for _, c := range b {
		switch {
		case c == '"' || c == '\\':
			s += "\\" + string(rune(c))
		case c < 32 || c > 126:
			s += fmt.Sprintf("\\x%02x", c)
		default:
			s += string(rune(c))
		}
	}
	return `"` + s + `"`
}

// textOf is what Print must tell.
func textOf(u api.Unit) (string, api.Errno) {
	if e := checkOf(u); e != api.OK {
		return "", e
	}
	var l []string
	for _, t := range u.Texts {
		l = append(l, "text "+t.Name+" = "+quotedOf(t.Data)+";")
	}
	for _, f := range u.Funcs {
		head := strings.Join(f.Locals[:f.Args], ", ")
		if f.Args < len(f.Locals) {
			head += "; " + strings.Join(f.Locals[f.Args:], ", ")
		}
		l = append(l, saying{u, f}.block("func "+f.Name+"("+head+") {", treeOf(f))...)
	}
	text := strings.Join(l, "\n") + "\n"
	if len(text) > 65536 {
		return "", api.ErrLong
	}
	return text, api.OK
}

func seeded(n uint64) *rand.Rand { return rand.New(rand.NewPCG(n, 17)) }

// rounds is how often something is drawn.
func rounds(n int) int {
	if testing.Short() {
		return n / 10
	}
	return n
}

func brief(x any) string {
	s := fmt.Sprint(x)
	if len(s) > 1500 {
		return s[:700] + " .. " + s[len(s)-700:]
	}
	return s
}

func is[T comparable](t testing.TB, what string, got, want T) {
	t.Helper()
	if got != want {
		t.Errorf("%s: %v, want %v", what, brief(got), brief(want))
	}
}

func TestTheOracle(t *testing.T) {
	is(t, "kinds", len(kinds), api.PCount)
	for name, kind := range map[string]int{"block": api.PBlock, "abort": api.PAbort, "num": api.PNum, "load8": api.PLoad8, "turn": api.PTurn, "sys": api.PSys} {
		is(t, "kindNamed "+name, kindNamed(name), kind)
	}
	is(t, "signs", len(signs), 28)
	is(t, "keptWords", len(strings.Fields(keptWords)), 21)
	is(t, "quotedOf", quotedOf([]byte("a\x00\"\\~\x7f\xff")), `"a\x00\"\\~\x7f\xff"`)
}

func opName(n int) string {
	s, _ := op.Of(n)
	return s.Name
}
