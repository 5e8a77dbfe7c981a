package tongue_test

import (
	"fmt"
	"math/big"
	"regexp"
	"slices"
	"strconv"
	"strings"
	"testing"

	"retort/api"
	"retort/tongue"
)

// The rules of texts said once more, in another way: pieces are cut by patterns, the rules are written out and followed all ways at once, and a text that fits is parted at its last sign, from the uppermost rule on.

const ruleRows = `
<unit> <texts> <func> <funcs>
<texts>
<texts> <texts> text NAME = STRING ;
<funcs>
<funcs> <funcs> <func>
<func> func NAME ( <head> ) <block>
<head>
<head> <names>
<head> ; <names>
<head> <names> ; <names>
<names> NAME
<names> <names> , NAME
<block> { <doings> }
<doings>
<doings> <doings> <doing>
<doing> <block>
<doing> NAME = <or> ;
<doing> word [ <or> ] = <or> ;
<doing> byte [ <or> ] = <or> ;
<doing> if <or> <block>
<doing> if <or> <block> else <block>
<doing> while <or> <block>
<doing> break ;
<doing> break NUMBER ;
<doing> continue ;
<doing> continue NUMBER ;
<doing> return <or> ;
<doing> abort <or> ;
<doing> do <or> ;
<or> <and>
<or> <or> || <and>
<and> <compare>
<and> <and> && <compare>
<compare> <sum>
<compare> <compare> COMPARE <sum>
<sum> <term>
<sum> <sum> SUM <term>
<term> <bare>
<term> <term> TERM <bare>
<bare> ONE <bare>
<bare> <first>
<first> NUMBER
<first> NAME
<first> NAME ( <handed> )
<first> CALL ( <handed> )
<first> word [ <or> ]
<first> byte [ <or> ]
<first> root ( <or> )
<first> float ( <or> )
<first> int ( <or> )
<first> size
<first> & NAME
<first> # NAME
<first> ( <or> )
<handed>
<handed> <list>
<list> <or>
<list> <list> , <or>`

// oneOf are the words that stand in the rules for one of several pieces.
var oneOf = map[string][]string{
	"COMPARE": strings.Fields("== != < <= > >= <# ># ==. <. >."),
	"SUM":     strings.Fields("+ - | ^ +. -."),
	"TERM":    strings.Fields("* / % << >> >>> & *. /."),
	"ONE":     strings.Fields("- ~ ! -."),
	"CALL":    strings.Fields("open read write list close"),
}

const allSigns = "( ) { } [ ] , ; = == != < <= > >= <# ># ==. <. >. + - * / % +. -. *. /. & | ^ << >> >>> && || ! ~ #"

type ruleRow struct {
	of    string
	means []string
}

var (
	rules    []ruleRow
	rulesOf  = map[string][]int{}
	nullable = map[string]bool{}
)

func init() {
	for i, s := range strings.Split(strings.TrimSpace(ruleRows), "\n") {
		f := strings.Fields(s)
		rules = append(rules, ruleRow{f[0], f[1:]})
		rulesOf[f[0]] = append(rulesOf[f[0]], i)
		nullable[f[0]] = nullable[f[0]] || len(f) == 1
	}
}

// tok is a piece of a text: "" is one that is none. What it is in the rules, its class says.
type tok struct {
	text, class string
	at          int
}

// fixed are the pieces that stand for themselves.
var fixed = func() map[string]bool {
	l := map[string]bool{}
	for _, s := range strings.Fields(keptWords + " " + allSigns) {
		l[s] = true
	}
	return l
}()

var (
	blankForm = regexp.MustCompile(`\A(?:[\t\n\r ]|//[^\n]*)+`)
	pieceForm = func() *regexp.Regexp {
		signs := strings.Fields(allSigns)
		slices.SortFunc(signs, func(a, b string) int { return len(b) - len(a) })
		for i, s := range signs {
			signs[i] = regexp.QuoteMeta(s)
		}
		return regexp.MustCompile(`\A(?:[A-Za-z0-9_]+|"(?:[ !#-\[\]-~]|\\["\\]|\\x[0-9a-f]{2})*"|` + strings.Join(signs, "|") + `)`)
	}()
	wordForm   = regexp.MustCompile(`\A[A-Za-z_]\w{0,63}\z`)
	numberForm = regexp.MustCompile(`\A(?:[0-9]+|0x[0-9a-f]{1,16})\z`)
)

// toks are the pieces of a text, up to the first that is none; no text has so many that patterns are too slow for them.
func toks(text string) []tok {
	var l []tok
	for at := 0; ; {
		at += len(blankForm.FindString(text[at:]))
		if at == len(text) {
			return l
		}
		p := tok{text: pieceForm.FindString(text[at:]), at: at}
		p.class = classOf(p.text)
		if p.class == "" {
			p.text = ""
		}
		l = append(l, p)
		if p.text == "" {
			return l
		}
		at += len(p.text)
	}
}

func classOf(text string) string {
	switch {
	case fixed[text]:
		return text
	case strings.HasPrefix(text, `"`):
		return "STRING"
	case wordForm.MatchString(text):
		return "NAME"
	case numberForm.MatchString(text):
		return "NUMBER"
	}
	return ""
}

func (p tok) number() (int, bool) {
	var b big.Int
	if bits, is := strings.CutPrefix(p.text, "0x"); is {
		b.SetString(bits, 16)
		return int(b.Uint64()), true
	}
	b.SetString(p.text, 10)
	return int(b.Int64()), b.IsInt64()
}

// going is a rule that may be under way: how far, and from which piece on.
type going struct{ rule, dot, from int }

// chart follows the rules all ways at once.
type chart struct {
	sets [][]going
}

func newChart() *chart {
	c := &chart{}
	c.close([]going{{0, 0, 0}})
	return c
}

// close lays down all that may be under way where those are.
func (c *chart) close(l []going) {
	seen := map[going]bool{}
	var set []going
	add := func(g going) {
		if !seen[g] {
			seen[g] = true
			set = append(set, g)
		}
	}
	for _, g := range l {
		add(g)
	}
	now := len(c.sets)
	for i := 0; i < len(set); i++ {
		g := set[i]
		row := rules[g.rule]
		if g.dot == len(row.means) {
			from := set
			if g.from < now {
				from = c.sets[g.from]
			}
			for _, h := range from {
				if m := rules[h.rule].means; h.dot < len(m) && m[h.dot] == row.of {
					add(going{h.rule, h.dot + 1, h.from})
				}
			}
			continue
		}
		for _, r := range rulesOf[row.means[g.dot]] {
			add(going{r, 0, now})
		}
		if nullable[row.means[g.dot]] {
			add(going{g.rule, g.dot + 1, g.from})
		}
	}
	c.sets = append(c.sets, set)
}

// take tells whether a text may begin so, with that piece behind those ahead.
func (c *chart) take(p tok) bool {
	var l []going
	for _, g := range c.sets[len(c.sets)-1] {
		m := rules[g.rule].means
		if p.class != "" && g.dot < len(m) && (m[g.dot] == p.class || slices.Contains(oneOf[m[g.dot]], p.class)) {
			l = append(l, going{g.rule, g.dot + 1, g.from})
		}
	}
	c.close(l)
	return len(l) > 0
}

// whole tells whether a text may end here.
func (c *chart) whole() bool {
	return slices.Contains(c.sets[len(c.sets)-1], going{0, len(rules[0].means), 0})
}

// answer is what Parse tells.
type answer struct {
	u  api.Unit
	e  api.Errno
	at int
}

func (a answer) String() string { return fmt.Sprintf("%s; %v at %d", show(a.u), a.e, a.at) }

// show says a unit, whatever of it is nil.
func show(u api.Unit) string {
	s := ""
	for _, t := range u.Texts {
		s += fmt.Sprintf("%s=%q ", t.Name, t.Data)
	}
	for _, f := range u.Funcs {
		s += fmt.Sprint(f.Name, f.Args, f.Locals, f.Parts, " ")
	}
	return s
}

// parsed is what Parse must tell of a text that is not too long.
func parsed(text string) answer {
	l := toks(text)
	if a := firstFault(text, l); a.e != api.OK {
		return a
	}
	u, calls := builtOf(l)
	for _, c := range calls {
		if c.takes != c.handed {
			return answer{e: c.e, at: c.at}
		}
	}
	if e := checkOf(u); e != api.OK {
		return answer{e: e}
	}
	return answer{u: u}
}

func at(l []tok, i int) string {
	if i < 0 || i >= len(l) {
		return ""
	}
	return l[i].class
}

// endsWord tells whether what is reckoned may end with that piece: a sign behind it is one of two.
func endsWord(class string) bool {
	return slices.Contains([]string{"NAME", "NUMBER", ")", "]", "size"}, class)
}

// firstFault is that of the second kind.
func firstFault(text string, l []tok) answer {
	c := newChart()
	open, inHead := 0, false
	texts, funcs, locals := map[string]bool{}, map[string]bool{}, map[string]bool{}
	for i, p := range l {
		fault := func(e api.Errno) answer { return answer{e: e, at: p.at} }
		class := p.class
		if !c.take(p) {
			return fault(api.ErrSyntax)
		}
		switch class {
		case "(", "[", "{":
			open++
			if open > 256 {
				return fault(api.ErrNest)
			}
		case ")", "]", "}":
			open--
			inHead = inHead && class != ")"
		case "func":
			inHead = true
			locals = map[string]bool{}
		case "NUMBER":
			if _, fits := p.number(); !fits {
				return fault(api.ErrNumber)
			}
		}
		if class != "NAME" {
			continue
		}
		before := at(l, i-1)
		given := map[string]bool(nil)
		switch {
		case before == "text":
			given = texts
		case before == "func":
			given = funcs
		case inHead:
			given = locals
		}
		behindText := (before == "&" || before == "#") && !endsWord(at(l, i-2))
		doing := before == "{" || before == "}" || before == ";"
		switch {
		case given != nil && given[p.text]:
			return fault(api.ErrTwice)
		case given != nil:
			given[p.text] = true
		case behindText && !texts[p.text]:
			return fault(api.ErrUnset)
		case behindText:
		case (doing || at(l, i+1) != "(") && !locals[p.text]:
			return fault(api.ErrUnset)
		}
	}
	if !c.whole() {
		return answer{e: api.ErrSyntax, at: len(text)}
	}
	return answer{}
}

// called is a call that stands in a text.
type called struct {
	at, takes, handed int
	e                 api.Errno // if these are unlike
}

// builder makes a unit out of the pieces of a text that fits.
type builder struct {
	u     api.Unit
	f     *api.Fn
	calls []called
}

// shut is the place of the bracket that shuts the one at a place.
func shut(l []tok, from int) int {
	open := 0
	for i := from; i < len(l); i++ {
		switch l[i].text {
		case "(", "[", "{":
			open++
		case ")", "]", "}":
			open--
		}
		if open == 0 {
			return i
		}
	}
	panic("open")
}

// bare is the first place from one on at which such a piece stands in no brackets.
func bare(l []tok, from int, text string) int {
	for i := from; i < len(l); i++ {
		if l[i].text == text {
			return i
		}
		if strings.Contains("([{", l[i].text) {
			i = shut(l, i)
		}
	}
	panic("no " + text)
}

func builtOf(l []tok) (api.Unit, []called) {
	b := &builder{}
	var bodies [][]tok
	for len(l) > 0 {
		if l[0].text == "text" {
			b.u.Texts = append(b.u.Texts, api.Text{Name: l[1].text, Data: unquoted(l[3].text)})
			l = l[5:]
			continue
		}
		f := api.Fn{Name: l[1].text}
		l = l[3:]
		args := true
		for ; l[0].text != ")"; l = l[1:] {
			args = args && l[0].text != ";"
			if l[0].class == "NAME" {
				f.Locals = append(f.Locals, l[0].text)
			}
			if args {
				f.Args = len(f.Locals)
			}
		}
		end := shut(l, 1)
		bodies = append(bodies, l[1:end+1])
		b.u.Funcs = append(b.u.Funcs, f)
		l = l[end+1:]
	}
	for i, body := range bodies {
		b.f = &b.u.Funcs[i]
		b.f.Parts = b.block(body).parts()
	}
	slices.SortFunc(b.calls, func(a, b called) int { return a.at - b.at })
	return b.u, b.calls
}

var byteForm = regexp.MustCompile(`\\x..|\\.|.`)

func unquoted(s string) []byte {
	var l []byte
	for _, s := range byteForm.FindAllString(s[1:len(s)-1], -1) {
		if bits, is := strings.CutPrefix(s, `\x`); is {
			n, _ := strconv.ParseUint(bits, 16, 8)
			l = append(l, byte(n))
		} else {
			l = append(l, s[len(s)-1])
		}
	}
	return l
}

// block is the tree of pieces from { to }.
func (b *builder) block(l []tok) tree {
	t := tree{name: "block"}
	l = l[1 : len(l)-1]
	for len(l) > 0 {
		end := b.doingEnd(l)
		t.kids = append(t.kids, b.doing(l[:end]))
		l = l[end:]
	}
	return t
}

// doingEnd is the place behind the first doing.
func (b *builder) doingEnd(l []tok) int {
	switch l[0].text {
	case "{":
		return shut(l, 0) + 1
	case "if", "while":
		end := shut(l, bare(l, 1, "{")) + 1
		if l[0].text == "if" && end < len(l) && l[end].text == "else" {
			end = shut(l, end+1) + 1
		}
		return end
	}
	return bare(l, 0, ";") + 1
}

func (b *builder) local(name string) int { return slices.Index(b.f.Locals, name) }

func (b *builder) doing(l []tok) tree {
	last := len(l) - 1
	switch word := l[0].text; word {
	case "{":
		return b.block(l)
	case "if", "while":
		from := bare(l, 1, "{")
		end := shut(l, from)
		t := tree{name: word, kids: []tree{b.word(l[1:from]), b.block(l[from : end+1])}}
		if end < last {
			t.kids = append(t.kids, b.block(l[end+2:]))
		}
		return t
	case "word", "byte":
		end := shut(l, 1)
		name := map[string]string{"word": "put", "byte": "put8"}[word]
		return tree{name: name, kids: []tree{b.word(l[2:end]), b.word(l[end+2 : last])}}
	case "break", "continue":
		t := tree{name: word}
		if last > 1 {
			t.n, _ = l[1].number()
		}
		return t
	case "return", "abort", "do":
		return tree{name: word, kids: []tree{b.word(l[1:last])}}
	}
	return tree{name: "set", n: b.local(l[0].text), kids: []tree{b.word(l[2:last])}}
}

// word is the tree of what is reckoned.
func (b *builder) word(l []tok) tree {
	for rule := range bareRule {
		for i := len(l) - 1; i > 0; i-- {
			depth := 0
			for _, p := range l[:i] {
				depth += strings.Count("([", p.text) - strings.Count(")]", p.text)
			}
			k := slices.IndexFunc(signs, func(s signRow) bool { return s.rule == rule && s.sign == l[i].text })
			if k < 0 || depth > 0 || !endsWord(l[i-1].class) {
				continue
			}
			t := tree{name: signs[k].kind, n: signs[k].n, kids: []tree{b.word(l[:i]), b.word(l[i+1:])}}
			if signs[k].not {
				t = tree{name: "not", kids: []tree{t}}
			}
			return t
		}
	}
	if l[0].text == "!" {
		return tree{name: "not", kids: []tree{b.word(l[1:])}}
	}
	for n, s := range oneSigns {
		if s == l[0].text {
			return tree{name: "one", n: n, kids: []tree{b.word(l[1:])}}
		}
	}
	return b.first(l)
}

func (b *builder) first(l []tok) tree {
	textNamed := func(name string) int {
		return slices.IndexFunc(b.u.Texts, func(t api.Text) bool { return t.Name == name })
	}
	switch l[0].class {
	case "NUMBER":
		n, _ := l[0].number()
		return tree{name: "num", n: n}
	case "size":
		return tree{name: "size"}
	case "&":
		return tree{name: "at", n: textNamed(l[1].text)}
	case "#":
		return tree{name: "len", n: textNamed(l[1].text)}
	case "(":
		return b.word(l[1 : len(l)-1])
	case "word":
		return tree{name: "load", kids: []tree{b.word(l[2 : len(l)-1])}}
	case "byte":
		return tree{name: "load8", kids: []tree{b.word(l[2 : len(l)-1])}}
	}
	if len(l) == 1 {
		return tree{name: "var", n: b.local(l[0].text)}
	}
	return b.call(l)
}

func (b *builder) call(l []tok) tree {
	t := tree{name: "call", n: slices.IndexFunc(b.u.Funcs, func(f api.Fn) bool { return f.Name == l[0].text })}
	c := called{at: l[0].at, e: api.ErrArity}
	switch {
	case l[0].class != "NAME":
		t = tree{name: "sys", n: slices.Index(strings.Fields(callNames), l[0].text)}
		c.takes, _ = strconv.Atoi(strings.Fields(callTakes)[t.n])
	case t.n < 0:
		c.takes, c.e = -1, api.ErrUnset
	default:
		c.takes = b.u.Funcs[t.n].Args
	}
	for l = l[2:]; l[0].text != ")"; {
		end := len(l) - 1
		for i, depth := 0, 0; i < len(l); i++ {
			if l[i].text == "," && depth == 0 {
				end = i
				break
			}
			depth += strings.Count("([", l[i].text) - strings.Count(")]", l[i].text)
		}
		t.kids = append(t.kids, b.word(l[:end]))
		l = l[min(end+1, len(l)-1):]
	}
	c.handed = len(t.kids)
	b.calls = append(b.calls, c)
	return t
}

// parse holds Parse of a text against what it must tell.
func parse(t testing.TB, text string) answer {
	t.Helper()
	u, e, at := tongue.Parse(text)
	got := answer{u, e, at}
	if want := parsed(text); got.String() != want.String() {
		t.Errorf("P1703: Parse of %s: %s\nwant %s", brief(strconv.Quote(text)), brief(got), brief(want))
	}
	return got
}

func TestTheGrammar(t *testing.T) {
	for s, want := range map[string]string{"a<<=b": "a << = b", ">>>>": ">>> >", "==.=": "==. =", "a//b\n/c": "a / c", "/./ /": "/. / /", "x\"//\\\"\"y": "x \"//\\\"\" y", "0x1g": "", "1.": "1 ", "&&&": "&& &", "-.-": "-. -", "<#>#": "<# >#", "!==": "!= =", "\"a": "", "a\x0bb": "a "} {
		var l []string
		for _, p := range toks(s) {
			l = append(l, p.text)
		}
		is(t, "toks "+s, strings.Join(l, " "), want)
	}
	want := "main0 [] [{1 0 1} {9 0 1} {20 20 2} {12 1 0} {20 22 2} {12 2 0} {12 3 0}] ; ok at 0"
	is(t, "parsed", parsed("func main() { return 1 + 2 * 3; }").String(), want)
}
