package tongue_test

import (
	"fmt"
	"math"
	"slices"
	"strings"
	"testing"

	"retort/api"
	"retort/tongue"
)

// refused looks at a text's fault.
func refused(t *testing.T, text string, e api.Errno, at int) {
	t.Helper()
	got := answer{}
	got.u, got.e, got.at = tongue.Parse(text)
	is(t, fmt.Sprintf("P1703: Parse of %s", brief(fmt.Sprintf("%q", text))), got.String(), answer{e: e, at: at}.String())
	if len(text) < 3000 {
		is(t, fmt.Sprintf("P1703: the oracle of %q", text), parsed(text).String(), answer{e: e, at: at}.String())
	}
}

// refusedAt has the fault's place marked in the text by a `¦`.
func refusedAt(t *testing.T, text string, e api.Errno) {
	t.Helper()
	ahead, behind, is := strings.Cut(text, "¦")
	if !is {
		t.Fatalf("no mark in %q", text)
	}
	refused(t, ahead+behind, e, len(ahead))
}

// tells looks at what Parse tells of a text.
func tells(t *testing.T, text string, want api.Unit) {
	t.Helper()
	got := answer{}
	got.u, got.e, got.at = tongue.Parse(text)
	is(t, fmt.Sprintf("P1703: Parse of %s", brief(fmt.Sprintf("%q", text))), got.String(), answer{u: want}.String())
	if len(text) < 3000 {
		is(t, fmt.Sprintf("P1703: the oracle of %q", text), parsed(text).String(), answer{u: want}.String())
	}
}

// read is the unit of a text that is right.
func read(t testing.TB, text string) api.Unit {
	t.Helper()
	u, e, at := tongue.Parse(text)
	if e != api.OK {
		t.Fatalf("Parse of %q: %v at %d", text, e, at)
	}
	return u
}

// word looks at the parts of what is reckoned; the locals a, b, c, the texts p and q, the function f of two arguments are there.
const (
	wordHead = "text p = \"x\"; text q = \"yy\"; func main(; a, b, c) { return "
	wordTail = "; } func f(a, b) { }"
)

func word(t *testing.T, text string, l ...api.Part) {
	t.Helper()
	u := read(t, wordHead+text+wordTail)
	is(t, "P1702: "+text, fmt.Sprint(u.Funcs[0].Parts[2:]), fmt.Sprint(l))
	parse(t, wordHead+text+wordTail)
}

// done looks at the parts of what is done there.
func done(t *testing.T, text string, kids int, l ...api.Part) {
	t.Helper()
	u := read(t, "func main(; a, b) { "+text+" }")
	is(t, "P1702: "+text, fmt.Sprint(u.Funcs[0].Parts), fmt.Sprint(body(kids, l...)))
	parse(t, "func main(; a, b) { "+text+" }")
}

func local(n int) api.Part { return part(api.PVar, n, 0) }

func two(op int) api.Part { return part(api.PTwo, op, 2) }

func TestParseExamples(t *testing.T) {
	tells(t, "func main() { return 1 + 2 * 3; }", api.Unit{Funcs: []api.Fn{{Name: "main", Parts: body(1, part(api.PReturn, 0, 1), two(api.IAdd), num(1), two(api.IMul), num(2), num(3))}}})
	refusedAt(t, "func main() { ¦x = 1; }", api.ErrUnset)
	refusedAt(t, "func main() { return ¦f(); }", api.ErrUnset)
	refusedAt(t, "func main() { return 1 ¦}", api.ErrSyntax)
	refusedAt(t, "¦func main() { break; }", api.ErrSyntax)
	refusedAt(t, "func main() { ¦x + 1; }", api.ErrUnset)
	refusedAt(t, "func main() { ¦f(1); } func f(a) { }", api.ErrUnset)
	refusedAt(t, "func main(; x) { x ¦+ 1; }", api.ErrSyntax)
	refusedAt(t, "func main(; f) { f¦(1); } func f(a) { }", api.ErrSyntax)
	refused(t, "", api.ErrSyntax, 0)
}

func TestParseHeads(t *testing.T) {
	tells(t, "func a(){}", api.Unit{Funcs: []api.Fn{empty("a")}})
	tells(t, "text a=\"\";text b=\"\\x00\\\"\\\\//\";func a(;a){}func b(a,b;c,d){}func c(x){}", api.Unit{
		Texts: []api.Text{{Name: "a"}, {Name: "b", Data: []byte("\x00\"\\//")}},
		Funcs: []api.Fn{empty("a", "a"), {Name: "b", Args: 2, Locals: []string{"a", "b", "c", "d"}, Parts: body(0)}, {Name: "c", Args: 1, Locals: []string{"x"}, Parts: body(0)}},
	})
	for _, s := range []string{"text¦;", "text p¦;", "text p ¦\"\";", "text p =¦;", "text p = ¦a;", "text p = \"\"¦", "text p = \"\" ¦\"\";", "text ¦text = \"\";", "text ¦1 = \"\";", "text p = \"\";¦;", "text p = \"\"; ¦p",
		"¦a", "¦main() { }", "func¦(", "func ¦if() { }", "func f¦{ }", "func f(¦", "func f(¦,a) { }", "func f(a ¦b) { }", "func f(a,¦) { }", "func f(a,¦; b) { }", "func f(;¦) { }", "func f(a;¦) { }", "func f(;a,¦) { }", "func f(;a¦;b) { }", "func f(a;b¦;c) { }", "func f(;¦;a) { }", "func f(¦1) { }", "func f(¦do) { }", "func f() ¦;", "func f() ¦return 1;", "func f(a ¦= 1) { }",
		"func f() { }¦}", "func f() { } ¦text p = \"\";", "func f() { } ¦; func g() { }", "func f() { ¦func g() { } }", "func f() { ¦text p = \"\"; }", "¦\"", "¦1", "¦(", "¦{ }"} {
		refusedAt(t, s, api.ErrSyntax)
	}
	refusedAt(t, "text p = \"\"; text q = \"\"; text ¦p = \"\"; func f() { }", api.ErrTwice)
	refusedAt(t, "func f() { } func g() { } func ¦f( }", api.ErrTwice)
	refusedAt(t, "func f(a, b, ¦a) { }", api.ErrTwice)
	refusedAt(t, "func f(a, b; ¦a) { }", api.ErrTwice)
	refusedAt(t, "func f(; a, b, ¦b) { }", api.ErrTwice)
	refusedAt(t, "text f = \"\"; func f(; f) { } func g(f; ¦f) { }", api.ErrTwice)
	refusedAt(t, "text p = \"\"; text ¦p", api.ErrTwice)
	refusedAt(t, "func f() { } func ¦f", api.ErrTwice)
	refusedAt(t, "func f(a, ¦a", api.ErrTwice)
}

func TestParseDoings(t *testing.T) {
	block := part(api.PBlock, 0, 0)
	done(t, "", 0)
	done(t, "{}", 1, block)
	done(t, "{}{}{{}}", 3, block, block, part(api.PBlock, 0, 1), block)
	done(t, "a=1;b=a;", 2, part(api.PSet, 0, 1), num(1), part(api.PSet, 1, 1), local(0))
	done(t, "word[a]=b;", 1, part(api.PPut, 0, 2), local(0), local(1))
	done(t, "byte[1]=2;", 1, part(api.PPut8, 0, 2), num(1), num(2))
	done(t, "word[word[1]]=word[2];", 1, part(api.PPut, 0, 2), part(api.PLoad, 0, 1), num(1), part(api.PLoad, 0, 1), num(2))
	done(t, "if a {}", 1, part(api.PIf, 0, 2), local(0), block)
	done(t, "if(a){}else{}", 1, part(api.PIf, 0, 3), local(0), block, block)
	done(t, "if 1 { if 2 { } else { } }", 1, part(api.PIf, 0, 2), num(1), part(api.PBlock, 0, 1), part(api.PIf, 0, 3), num(2), block, block)
	done(t, "if 1 { } else { if 2 { } }", 1, part(api.PIf, 0, 3), num(1), block, part(api.PBlock, 0, 1), part(api.PIf, 0, 2), num(2), block)
	done(t, "if 1 { } if 2 { } else { }", 2, part(api.PIf, 0, 2), num(1), block, part(api.PIf, 0, 3), num(2), block, block)
	done(t, "while a { break; continue; }", 1, part(api.PWhile, 0, 2), local(0), part(api.PBlock, 0, 2), part(api.PBreak, 0, 0), part(api.PContinue, 0, 0))
	done(t, "while 1 { while 2 { break 1; continue 0x1; break 00; continue 0x0000000000000000; } }", 1, part(api.PWhile, 0, 2), num(1), part(api.PBlock, 0, 1), part(api.PWhile, 0, 2), num(2), part(api.PBlock, 0, 4), part(api.PBreak, 1, 0), part(api.PContinue, 1, 0), part(api.PBreak, 0, 0), part(api.PContinue, 0, 0))
	done(t, "return 1;abort 2;do 3;", 3, part(api.PReturn, 0, 1), num(1), part(api.PAbort, 0, 1), num(2), part(api.PDo, 0, 1), num(3))
	for _, s := range []string{"a¦;", "a¦== 1;", "a = ¦;", "a = 1¦,", "a = 1 ¦= 2;", "¦1 = a;", "¦(a) = 1;", "word¦;", "word[¦] = 1;", "word[1]¦;", "word[1] = ¦;", "word[1¦; ", "byte¦(1) = 1;", "byte[1¦) = 1;", "if ¦{ }", "if 1¦;", "if 1 ¦a = 1;", "if 1 { } else ¦if 2 { }", "if 1 { } else ¦;", "¦else { }", "if 1 { } else { } ¦else { }", "while ¦{ }", "while 1¦;", "while 1 { } ¦else { }",
		"break ¦a;", "break ¦-1;", "break 1 ¦2;", "break ¦(1);", "continue ¦}", "break 1¦}", "return¦;", "return 1¦}", "return 1 ¦2;", "abort¦;", "do¦;", "do ¦do 1;", "¦;", "¦size;", "¦open(1);", "¦root(1);", "¦&p;", "¦\"a\";", "¦) }", "¦] }", "¦#"} {
		refusedAt(t, "func main(; a) { "+s+" }", api.ErrSyntax)
	}
	for _, s := range []string{"break", "continue"} {
		refusedAt(t, "func main() { while 1 { "+s+" ¦9223372036854775808; } }", api.ErrNumber)
		refusedAt(t, "¦func main() { while 1 { "+s+" 9223372036854775807; } }", api.ErrSyntax)
		refusedAt(t, "¦func main() { while 1 { "+s+" 0xffffffffffffffff; } }", api.ErrSyntax)
		refusedAt(t, "¦func main() { while 1 { } "+s+"; }", api.ErrSyntax)
	}
}

func TestParseSigns(t *testing.T) {
	for _, s := range signs {
		l := []api.Part{part(kindNamed(s.kind), s.n, 2), local(0), local(1)}
		if s.not {
			l = append([]api.Part{part(api.PNot, 0, 1)}, l...)
		}
		word(t, "a"+s.sign+" b", l...)
		word(t, "a "+s.sign+" b", l...)
	}
	word(t, "-a", part(api.POne, api.INeg, 1), local(0))
	word(t, "~a", part(api.POne, api.INot, 1), local(0))
	word(t, "-.a", part(api.POne, api.IFneg, 1), local(0))
	word(t, "!a", part(api.PNot, 0, 1), local(0))
	word(t, "root(a)", part(api.POne, api.IFroot, 1), local(0))
	word(t, "float(a)", part(api.POne, api.IToF, 1), local(0))
	word(t, "int(a)", part(api.POne, api.IToI, 1), local(0))
	word(t, "size", part(api.PSize, 0, 0))
	word(t, "&p + #q + &q + #p", two(api.IAdd), two(api.IAdd), two(api.IAdd), part(api.PAt, 0, 0), part(api.PLen, 1, 0), part(api.PAt, 1, 0), part(api.PLen, 0, 0))
	word(t, "word[a]", part(api.PLoad, 0, 1), local(0))
	word(t, "byte[byte[a]]", part(api.PLoad8, 0, 1), part(api.PLoad8, 0, 1), local(0))
	word(t, "f(a, 1 + 2)", part(api.PCall, 1, 2), local(0), two(api.IAdd), num(1), num(2))
	word(t, "main()", part(api.PCall, 0, 0))
	word(t, "f(f(1, 2), main())", part(api.PCall, 1, 2), part(api.PCall, 1, 2), num(1), num(2), part(api.PCall, 0, 0))
	word(t, "open(1, 2, 3)", part(api.PSys, api.SOpen, 3), num(1), num(2), num(3))
	word(t, "read(1, 2, 3)", part(api.PSys, api.SRead, 3), num(1), num(2), num(3))
	word(t, "write(1, 2, 3)", part(api.PSys, api.SWrite, 3), num(1), num(2), num(3))
	word(t, "list(1, 2, 3, 4)", part(api.PSys, api.SList, 4), num(1), num(2), num(3), num(4))
	word(t, "close(1)", part(api.PSys, api.SClose, 1), num(1))
	word(t, "((((a))))", local(0))
	word(t, "f((1), (2))", part(api.PCall, 1, 2), num(1), num(2))
}

// Rules hold tighter the lower they stand, and together from the left.
func TestParseRules(t *testing.T) {
	three := []api.Part{local(0), local(1), local(2)}
	head := func(s signRow) []api.Part {
		l := []api.Part{part(kindNamed(s.kind), s.n, 2)}
		if s.not {
			l = append([]api.Part{part(api.PNot, 0, 1)}, l...)
		}
		return l
	}
	for _, x := range signs {
		for _, y := range signs {
			left := slices.Concat(head(y), head(x), three)
			right := slices.Concat(head(x), three[:1], head(y), three[1:])
			plain := left
			if x.rule < y.rule {
				plain = right
			}
			word(t, "a "+x.sign+" b "+y.sign+" c", plain...)
			word(t, "(a "+x.sign+" b) "+y.sign+" c", left...)
			word(t, "a "+x.sign+" (b "+y.sign+" c)", right...)
		}
		word(t, "-a "+x.sign+" ~b", append(head(x), part(api.POne, api.INeg, 1), local(0), part(api.POne, api.INot, 1), local(1))...)
		word(t, "!a "+x.sign+" -.b", append(head(x), part(api.PNot, 0, 1), local(0), part(api.POne, api.IFneg, 1), local(1))...)
		word(t, "-(a "+x.sign+" b)", slices.Concat([]api.Part{part(api.POne, api.INeg, 1)}, head(x), three[:2])...)
		word(t, "!(a "+x.sign+" b)", slices.Concat([]api.Part{part(api.PNot, 0, 1)}, head(x), three[:2])...)
	}
	word(t, "- -. ~ ! - a", part(api.POne, api.INeg, 1), part(api.POne, api.IFneg, 1), part(api.POne, api.INot, 1), part(api.PNot, 0, 1), part(api.POne, api.INeg, 1), local(0))
	word(t, "--.~!-a", part(api.POne, api.INeg, 1), part(api.POne, api.IFneg, 1), part(api.POne, api.INot, 1), part(api.PNot, 0, 1), part(api.POne, api.INeg, 1), local(0))
	word(t, "a - - b", two(api.ISub), local(0), part(api.POne, api.INeg, 1), local(1))
	word(t, "a--b", two(api.ISub), local(0), part(api.POne, api.INeg, 1), local(1))
	word(t, "a-.-b", two(api.IFsub), local(0), part(api.POne, api.INeg, 1), local(1))
	word(t, "a--.b", two(api.ISub), local(0), part(api.POne, api.IFneg, 1), local(1))
	word(t, "a & &p", two(api.IAnd), local(0), part(api.PAt, 0, 0))
	word(t, "a&#p", two(api.IAnd), local(0), part(api.PLen, 0, 0))
	word(t, "a && b", part(api.PAnd, 0, 2), local(0), local(1))
	word(t, "&p & &q", two(api.IAnd), part(api.PAt, 0, 0), part(api.PAt, 1, 0))
	word(t, "a < #p", two(api.ILt), local(0), part(api.PLen, 0, 0))
	word(t, "a<# #p", two(api.IUlt), local(0), part(api.PLen, 0, 0))
	word(t, "a-1", two(api.ISub), local(0), num(1))
	word(t, "a-.1", two(api.IFsub), local(0), num(1))
	for _, s := range []string{"a ¦b", "a + ¦;", "a + ¦* b", "¦* a", "a ¦! b", "a ¦~ b", "a ¦!b", "(a¦;", "(¦)", "a¦)", "a¦]", "word¦(1)", "word[1¦)", "byte[¦]", "root ¦1", "root(¦)", "root(1¦, 2)", "float¦[1]", "int(1¦;", "size¦(1)", "size ¦size", "&¦1", "&¦size", "& ¦& p", "#¦(p)", "f(1 ¦2)", "f(¦, 1)", "f(1, ¦)", "f(1¦;", "f(1, 2)¦(1)", "open¦;", "open ¦1", "open(¦, 1)", "open(1, ¦)", "¦if", "¦return 1", "¦=", "a ¦= b", "a == ¦= b", "a < ¦< b", "a & ¦;", "a | ¦| b", "¦{", "a¦{", "1¦(2)", "1 ¦1", "a ¦\"a\"", "¦,", "a¦, b"} {
		refusedAt(t, wordHead+s+wordTail, api.ErrSyntax)
	}
	for _, s := range []string{"¦x", "¦x + 1", "1 + ¦x", "¦p", "¦f", "¦main", "&¦a", "#¦f", "&¦x", "#¦x", "f(¦x, 1)", "f(1, ¦y)", "word[¦x]", "(¦x)", "-¦x", "¦x y", "¦x @", "¦x \"", "¦x)", "¦x 1", "¦x[1]", "&¦p1"} {
		refusedAt(t, wordHead+s+wordTail, api.ErrUnset)
	}
	refusedAt(t, wordHead+"¦x", api.ErrUnset)
	refusedAt(t, wordHead+"&¦x", api.ErrUnset)
	refusedAt(t, wordHead+"a¦", api.ErrSyntax)
	refusedAt(t, wordHead+"x(¦", api.ErrSyntax)
}

// The first fault counts, whatever its kind; a fault of the text stands ahead of a call's, a call's ahead of Check's.
func TestParseOrder(t *testing.T) {
	for text, e := range map[string]api.Errno{
		"func main() { ¦x = 9223372036854775808; }":                              api.ErrUnset,
		"func main(; x) { x = ¦9223372036854775808 + y; }":                       api.ErrNumber,
		"func main(; x) { x = ¦y + 9223372036854775808; }":                       api.ErrUnset,
		"func main(; x, ¦x) { y = @; }":                                          api.ErrTwice,
		"func main(; x) { x = ¦@ y; }":                                           api.ErrSyntax,
		"func main() { return f() + ¦g; }":                                       api.ErrUnset,
		"func main() { return f() + 1 ¦}":                                        api.ErrSyntax,
		"func main() { return f(); } func ¦main() { }":                           api.ErrTwice,
		"func main() { return f(1, 2, ¦x); }":                                    api.ErrUnset,
		"func main() { break; return ¦f(); }":                                    api.ErrUnset,
		"func main() { break; return ¦main(1); }":                                api.ErrArity,
		"func main() { break; return ¦open(1); }":                                api.ErrArity,
		"func main(a) { return ¦main(); }":                                       api.ErrArity,
		"¦func main(a) { return main(1); }":                                      api.ErrSyntax,
		"func main() { return ¦f(g(1)); } func f() { }":                          api.ErrArity,
		"func main() { return f(¦g(1)); } func f(a) { }":                         api.ErrUnset,
		"func main() { return ¦g(f()); } func f(a) { }":                          api.ErrUnset,
		"func main() { return f(¦close()); } func f(a) { }":                      api.ErrArity,
		"func main() { return f(1) + ¦f(); } func f(a) { return g(); }":          api.ErrArity,
		"func main() { } func f() { return list(1, 2, 3, ¦g()); } func ga() { }": api.ErrUnset,
		"func main() { return 1 + ¦open() + nothing(); }":                        api.ErrArity,
		"func main() { return ¦nothing() + open(); }":                            api.ErrUnset,
		"func main() { return ¦f(1, 2, 3); } func f(a, b; c) { }":                api.ErrArity,
		"func main() { return ¦f(1); } func f(a, b; c) { }":                      api.ErrArity,
		"text f = \"\"; func main(; f) { return ¦f(); }":                         api.ErrUnset,
		"func main() { return ¦close(1, 2); }":                                   api.ErrArity,
		"func main() { return ¦open(1, 2); }":                                    api.ErrArity,
		"func main() { return ¦read(1, 2, 3, 4); }":                              api.ErrArity,
		"func main() { return ¦write(); }":                                       api.ErrArity,
		"func main() { return ¦list(1, 2, 3); }":                                 api.ErrArity,
		"func main() { return ¦list(1, 2, 3, 4, 5); }":                           api.ErrArity,
	} {
		refusedAt(t, text, e)
	}
	// Functions are called ahead of where they stand, by themselves and by each other.
	u := read(t, "func main() { return g(f(1), main()); } func f(a) { return g(a, f(a)); } func g(a, b) { return f(a) + g(a, b) + main(); }")
	is(t, "P1703: calls", fmt.Sprint(u.Funcs[0].Parts), fmt.Sprint(body(1, part(api.PReturn, 0, 1), part(api.PCall, 2, 2), part(api.PCall, 1, 1), num(1), part(api.PCall, 0, 0))))
	is(t, "P1703: calls", fmt.Sprint(u.Funcs[1].Parts), fmt.Sprint(body(1, part(api.PReturn, 0, 1), part(api.PCall, 2, 2), local(0), part(api.PCall, 1, 1), local(0))))
	// A local, a text and a function of one name.
	u = read(t, "text a = \"1\"; func main(; b) { return a(b) + &a; } func a(a) { return a + #a + a(a); }")
	is(t, "P1703: one name", fmt.Sprint(u.Funcs[1].Parts), fmt.Sprint(body(1, part(api.PReturn, 0, 1), two(api.IAdd), two(api.IAdd), local(0), part(api.PLen, 0, 0), part(api.PCall, 1, 1), local(0))))
}

func TestParseNumbers(t *testing.T) {
	for text, n := range map[string]int{
		"0": 0, "00": 0, "7": 7, "007": 7, "9223372036854775807": math.MaxInt, "0009223372036854775807": math.MaxInt, strings.Repeat("0", 1000) + "5": 5,
		"0x0": 0, "0xf": 15, "0x7fffffffffffffff": math.MaxInt, "0x8000000000000000": math.MinInt, "0xffffffffffffffff": -1, "0x0000000000000001": 1, "0x0123456789abcdef": 0x0123456789abcdef, "0xa": 10, "0x10": 16,
	} {
		word(t, text, num(n))
		word(t, "-"+text, part(api.POne, api.INeg, 1), num(n))
	}
	for _, s := range []string{"9223372036854775808", "9999999999999999999", "18446744073709551616", "00009223372036854775808", strings.Repeat("9", 1000)} {
		refusedAt(t, wordHead+"¦"+s+wordTail, api.ErrNumber)
		refusedAt(t, wordHead+"¦"+s, api.ErrNumber)
		refusedAt(t, wordHead+"¦"+s+" @", api.ErrNumber)
		refusedAt(t, "func ¦"+s+"() { }", api.ErrSyntax)
		refusedAt(t, wordHead+"1 ¦"+s+wordTail, api.ErrSyntax)
	}
	for _, s := range []string{"0x", "0X1", "0xF", "0xA", "0xg", "0x1g", "0x10000000000000000", "0x00000000000000000", "0x_1", "1_000", "1a", "1_", "0a", "00x1", "1x1", "0b1", "1e5", "0xx1", "9223372036854775808a", "0x1_", "1" + strings.Repeat("_", 100)} {
		refusedAt(t, wordHead+"¦"+s+wordTail, api.ErrSyntax)
		refusedAt(t, wordHead+"1 + ¦"+s, api.ErrSyntax)
	}
	refusedAt(t, wordHead+"1¦.5"+wordTail, api.ErrSyntax)
	refusedAt(t, wordHead+"¦.5"+wordTail, api.ErrSyntax)
	word(t, "1+.5", two(api.IFadd), num(1), num(5))
}

func TestParseStrings(t *testing.T) {
	text := func(s string) string { return "text p = " + s + "; func main() { }" }
	tellsData := func(s, want string) {
		t.Helper()
		tells(t, text(s), api.Unit{Texts: []api.Text{{Name: "p", Data: []byte(want)}}, Funcs: []api.Fn{empty("main")}})
	}
	for s, want := range map[string]string{`""`: "", `" "`: " ", `"a//b"`: "a//b", `"\\"`: `\`, `"\""`: `"`, `"\x00\xff\x0a"`: "\x00\xff\n", `"\\\""`: `\"`, `"\\x00"`: `\x00`, `"';{}()"`: "';{}()", `"\x41B"`: "AB", `"\x411"`: "A1"} {
		tellsData(s, want)
	}
	for c := range 256 {
		plain := `"` + string([]byte{byte(c)}) + `"`
		if c >= 32 && c < 127 && c != '"' && c != '\\' {
			tellsData(plain, plain[1:2])
		} else {
			refused(t, text(plain), api.ErrSyntax, map[bool]int{true: 11, false: 9}[c == '"'])
		}
		tellsData(fmt.Sprintf(`"\x%02x"`, c), string([]byte{byte(c)}))
		escaped := `"\` + string([]byte{byte(c)}) + `"`
		if c == '"' || c == '\\' {
			tellsData(escaped, string([]byte{byte(c)}))
		} else {
			refused(t, text(escaped), api.ErrSyntax, 9)
		}
	}
	for _, s := range []string{`"`, `"a`, `"\"`, `"\`, `"\x`, `"\x"`, `"\x1"`, `"\x1`, `"\xA0"`, `"\xg0"`, `"\x0G"`, `"\X00"`, `"\n"`, "\"\n\"", "\"\t\"", `"\ "`} {
		refused(t, "text p = "+s, api.ErrSyntax, 9)
		refused(t, text(s), api.ErrSyntax, 9)
		refusedAt(t, "func main() { return ¦"+s+"; }", api.ErrSyntax)
	}
	refusedAt(t, "text p = ¦'a'; func main() { }", api.ErrSyntax)
}

// Blanks of each kind between all pieces, none where none must be, remarks.
func TestParseBlanks(t *testing.T) {
	pieces := strings.Fields(`text p = "a//b" ; func main ( ; a , b ) { a = b / 2 /. - 3 ; if a == 1 { } else { do f ( a , & p ) ; } while a { break 0 ; } } func f ( x , y ) { return # p ; }`)
	want := show(read(t, strings.Join(pieces, " ")))
	for _, blank := range []string{"\t", "\n", "\r", " ", "\r\n", " \t\n\r ", "\n//\n", " //\n", " // x // y\n", "\t//\x00\xff\"\r\n", " ///\n", " //}\n//{\n"} {
		text := blank + strings.Join(pieces, blank) + blank
		is(t, fmt.Sprintf("P1702: blanks %q", blank), show(read(t, text)), want)
		parse(t, text)
	}
	for _, end := range []string{"//", "// x", "//\n", "\n// }", " ", "\n\n"} {
		is(t, fmt.Sprintf("P1702: the end %q", end), show(read(t, strings.Join(pieces, " ")+end)), want)
	}
	for c := range 256 {
		s := string([]byte{byte(c)})
		parse(t, "func main(; a) { a =a"+s+"a; }")
		parse(t, "func main(; a) { a = a"+s+"; }")
		parse(t, "func main(; a) { a ="+s+"a; }")
		parse(t, "func main(; a) {"+s+"}")
		parse(t, s+"func main() { }")
		parse(t, "func main() { }"+s)
		parse(t, "func main(; a) { return b"+s)
	}
	refusedAt(t, wordHead+"a / ¦/ b"+wordTail, api.ErrSyntax)
	refusedAt(t, wordHead+"a // b"+wordTail+"¦", api.ErrSyntax)
	refusedAt(t, wordHead+"a /// b"+wordTail+"¦", api.ErrSyntax)
	word(t, "a /// c\n/ b", two(api.IDiv), local(0), local(1))
	word(t, "a /.// c\n b", two(api.IFdiv), local(0), local(1))
	word(t, "a // c\n * b", two(api.IMul), local(0), local(1))
	word(t, "f// (\n(1,// )\n2)", part(api.PCall, 1, 2), num(1), num(2))
	refusedAt(t, wordHead+"a /.¦/ b"+wordTail, api.ErrSyntax)
	refusedAt(t, "// \n// func main() { }¦", api.ErrSyntax)
	refusedAt(t, "func main() { } ¦/ x", api.ErrSyntax)
	refusedAt(t, "func ma ¦in() { }", api.ErrSyntax)
	refusedAt(t, "¦funcmain() { }", api.ErrSyntax)
	refusedAt(t, "func main() { ¦return1; }", api.ErrUnset)
}

// The longest sign is taken, whatever stands behind it.
func TestParseLongest(t *testing.T) {
	t.Parallel()
	const bytes = "=!<>#.+-*/%&|^~"
	var rows []string
	for _, a := range bytes {
		rows = append(rows, string(a))
		for _, b := range bytes {
			rows = append(rows, string(a)+string(b))
			for _, c := range bytes {
				rows = append(rows, string(a)+string(b)+string(c))
			}
		}
	}
	r := seeded(6)
	for range rounds(3000) {
		s := ""
		for range 4 + r.IntN(3) {
			s += string(bytes[r.IntN(len(bytes))])
		}
		rows = append(rows, s)
	}
	right := 0
	for _, s := range rows {
		if parse(t, "text b = \"\"; func main(; a, b) { return a"+s+"b; }").e == api.OK {
			right++
		}
		parse(t, "func main(; a) { return "+s+"a; }")
	}
	if right < 50 {
		t.Errorf("%d rows of signs are right", right)
	}
}

const longText = `text p = "a\x00\"";
text q = "//";
func main(; a, b) { // first
	a = f(1, -b) + word[a + 0x1f] * (2 - size);
	word[&p] = #q;
	byte[a] = !b && ~a || 1 <= 2 == 3;
	if a != b { do open(&p, #p, 0); } else { abort list(1, 2, 3, 4); }
	while a >>> 2 { while 1 { break 1; continue; } { } }
	return root(float(a)) /. -.b;
}
func f(x, y; z) { return int(byte[x]) <# close(y); }
`

// The text's end at every place, and each byte left out, or another one.
func TestParseEnds(t *testing.T) {
	t.Parallel()
	tells(t, longText, parsed(longText).u)
	for i := range longText {
		parse(t, longText[:i])
		parse(t, longText[:i]+longText[i+1:])
		parse(t, longText[:i]+"@"+longText[i+1:])
		parse(t, longText[:i]+" "+longText[i:])
		parse(t, longText[:i]+"("+longText[i:])
	}
}

func TestParseOpen(t *testing.T) {
	deep := func(n int, open, in, shut string) string {
		return strings.Repeat(open, n) + in + strings.Repeat(shut, n)
	}
	// Brackets alone mean nothing, so that as many as may be open are right.
	text := "func main() { return " + deep(255, "(", "1", ")") + "; }"
	is(t, "P1703: 256 open", show(read(t, text)), show(read(t, "func main() { return 1; }")))
	refused(t, "func main() { return "+deep(256, "(", "1", ")")+"; }", api.ErrNest, 21+255)
	refused(t, "func main() { return "+deep(255, "(", "", ")")+"; }", api.ErrSyntax, 21+255)
	refused(t, "func main() { return "+deep(256, "(", "", ")")+"; }", api.ErrNest, 21+255)
	refused(t, "func main() { return "+deep(255, "(", "f()", ")")+"; } func f() { }", api.ErrNest, 21+256)
	refused(t, "func main() { return "+deep(255, "(", "word[1]", ")")+"; }", api.ErrNest, 21+259)
	refused(t, "func main() { return "+deep(255, "(", "1 {", ")")+"; }", api.ErrSyntax, 21+257)
	refused(t, "func main() { return "+deep(254, "(", "f()", ")")+"; } func f() { } }", api.ErrSyntax, 21+254+3+254+17)
	is(t, "P1703: 256 open with a call", show(read(t, "func main() { return "+deep(254, "(", "f()", ")")+"; } func f() { }")), show(read(t, "func main() { return f(); } func f() { }")))
	is(t, "P1703: shut ones count no more", show(read(t, "func main() { return "+deep(255, "(", "1", ")")+" + "+deep(255, "(", "2", ")")+"; }")), show(read(t, "func main() { return 1 + 2; }")))
	for _, s := range []string{"{ } ", "do word[1]; ", "byte[1] = byte[1]; ", "do f(); ", "do (1); ", "if 1 { } else { } ", "while 1 { } ", "do root(1) + close(1); "} {
		text := "func main() { " + strings.Repeat(s, 300) + "do " + deep(255, "(", "1", ")") + "; } func f() { }"
		is(t, "P1703: shut ones count no more: "+s, len(read(t, text).Funcs), 2)
	}
	// Blocks, of which as many as may be open stand in one another too deep for Check.
	refused(t, "func main() "+deep(256, "{", "", "}"), api.ErrNest, 0)
	refused(t, "func main() "+deep(257, "{", "", "}"), api.ErrNest, 12+256)
	refused(t, "func main() "+deep(257, "{", "@", "}"), api.ErrNest, 12+256)
	refused(t, "func main() "+deep(256, "{", "@", "}"), api.ErrSyntax, 12+256)
	is(t, "P1703: 65 blocks", read(t, "func main() "+deep(65, "{", "", "}")).Funcs[0].Parts[64], part(api.PBlock, 0, 0))
	refused(t, "func main() "+deep(66, "{", "", "}"), api.ErrNest, 0)
	refused(t, "func main() { return "+deep(255, "word[", "1", "]")+"; }", api.ErrNest, 0)
	refused(t, "func main() { return "+deep(256, "word[", "1", "]")+"; }", api.ErrNest, 21+5*255+4)
	refused(t, "func main() { word"+deep(256, "[word", "[1]", "]"), api.ErrNest, 18+5*255)
	refused(t, "func main() { return "+strings.Repeat("f(", 256), api.ErrNest, 21+2*255+1)
	refused(t, "func main() { return "+strings.Repeat("root(", 256), api.ErrNest, 21+5*255+4)
	refused(t, "func main() { return "+strings.Repeat("close(", 300), api.ErrNest, 21+6*255+5)
}

// Long texts, right and wrong ones, are answered in good time.
func TestParseLong(t *testing.T) {
	fill := func(head, piece, tail string) string {
		n := (1<<16 - len(head) - len(tail)) / len(piece)
		text := head + strings.Repeat(piece, n) + tail
		return text + strings.Repeat(" ", 1<<16-len(text))
	}
	right := fill("func main() { }", " ", "")
	is(t, "P1703: 65536 bytes", show(read(t, right)), show(read(t, "func main() { }")))
	refused(t, right+" ", api.ErrLong, 0)
	refused(t, right+"@", api.ErrLong, 0)
	refused(t, strings.Repeat("@", 65536), api.ErrSyntax, 0)
	refused(t, strings.Repeat("@", 65537), api.ErrLong, 0)
	refused(t, strings.Repeat(" ", 65536), api.ErrSyntax, 65536)
	refused(t, strings.Repeat("/", 65536), api.ErrSyntax, 65536)
	refused(t, strings.Repeat("a", 65536), api.ErrSyntax, 0)
	refused(t, strings.Repeat("9", 65536), api.ErrSyntax, 0)
	refused(t, strings.Repeat("\"", 65536), api.ErrSyntax, 0)
	refused(t, "text p = \""+strings.Repeat("a", 60000), api.ErrSyntax, 9)
	refused(t, strings.Repeat("(", 65536), api.ErrSyntax, 0)
	refused(t, fill("func main() { return ", "-", "1; }"), api.ErrNest, 0)
	refused(t, fill("func main() { return ", "!", "1; }"), api.ErrNest, 0)
	refused(t, fill("func main() { return 1", " + 1", "; }"), api.ErrNest, 0)
	refused(t, fill("func main() { return 1", " || -1", "; }"), api.ErrNest, 0)
	refused(t, fill("func main() { return ", "1 - (", ""), api.ErrNest, 21+5*255+4)
	refused(t, fill("func main() { return f(1", ", 1", "); } func f() { }"), api.ErrArity, 21)
	refused(t, fill("func main(; a", ", a", ") { }"), api.ErrTwice, 15)
	is(t, "P1703: many doings", len(read(t, fill("func main() { ", "do 1; ", "}")).Funcs[0].Parts), 1+2*((1<<16-15)/6))
	var names, texts, funcs strings.Builder
	for i := range 3000 {
		fmt.Fprintf(&names, ", a%d", i)
		if i < 1025 {
			fmt.Fprintf(&texts, "text a%d = \"\"; ", i)
		}
		if i < 65 {
			fmt.Fprintf(&funcs, "func a%d() { } ", i)
		}
	}
	refused(t, "func main(; a"+names.String()+") { return a2999; }", api.ErrLong, 0)
	refused(t, "func main(; a"+names.String()+") { return a3000; }", api.ErrUnset, 13+names.Len()+len(") { return "))
	refused(t, texts.String()+"func main() { return #a1024; }", api.ErrLong, 0)
	refused(t, funcs.String(), api.ErrLong, 0)
	l := []string{}
	for i := range 17 {
		l = append(l, fmt.Sprint("a", i))
	}
	refused(t, "func main() { } func f("+strings.Join(l, ", ")+") { }", api.ErrLong, 0)
	is(t, "P1703: 16 arguments", read(t, "func main() { } func f("+strings.Join(l[:16], ", ")+"; b) { }").Funcs[1].Args, 16)
}

func TestParseNames(t *testing.T) {
	for _, name := range []string{"_", "A", "z9", "texts", "If", "nop", "main", strings.Repeat("x", 64)} {
		tells(t, "func "+name+"() { }", api.Unit{Funcs: []api.Fn{empty(name)}})
	}
	for _, name := range append(strings.Fields(keptWords), strings.Repeat("x", 65), strings.Repeat("x", 2000), "9a", "é") {
		refusedAt(t, "func ¦"+name+"() { }", api.ErrSyntax)
		refusedAt(t, "text ¦"+name+" = \"\"; func main() { }", api.ErrSyntax)
		refusedAt(t, "func main(; ¦"+name+") { }", api.ErrSyntax)
		refusedAt(t, "func main(; a, ¦"+name+") { }", api.ErrSyntax)
		refusedAt(t, "text p = \"\"; func main() { return &¦"+name+"; }", api.ErrSyntax)
		refusedAt(t, "text p = \"\"; func main() { return #¦"+name+"; }", api.ErrSyntax)
	}
	for _, name := range []string{strings.Repeat("x", 65), strings.Repeat("_", 1000)} {
		refusedAt(t, "func main() { ¦"+name+" = 1; }", api.ErrSyntax)
		refusedAt(t, "func main() { return ¦"+name+"; }", api.ErrSyntax)
		refusedAt(t, "func main() { return ¦"+name+"(1); }", api.ErrSyntax)
	}
}
