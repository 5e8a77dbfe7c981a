package tongue_test

import (
	"fmt"
	"math"
	"math/rand/v2"
	"slices"
	"strings"

	"retort/api"
)

// drawer draws a right unit: the names, how many arguments and locals its functions have, then their parts.
type drawer struct {
	*rand.Rand
	u     api.Unit
	f     *api.Fn
	room  int // how many parts there may be more
	loops int
}

// drawnNames are alike in several kinds of things, near to kept words, and of all forms.
var drawnNames = []string{"a", "b", "x", "f", "main", "p", "_", "A1", "texts", "i", "Int", "func_", "wordy", "siz", strings.Repeat("n", 64), "_9"}

var drawnData = []string{"", "a", "d/x", "new", "d", "\x00\xff", "\"\\", "//", "o1\n"}

func (d *drawer) names(n int) []string {
	var l []string
	for _, i := range d.Perm(len(drawnNames))[:n] {
		l = append(l, drawnNames[i])
	}
	return l
}

// drawn is a unit that Check takes.
func drawn(r *rand.Rand) api.Unit {
	d := &drawer{Rand: r}
	for _, name := range d.names(r.IntN(4)) {
		d.u.Texts = append(d.u.Texts, api.Text{Name: name, Data: []byte(drawnData[r.IntN(len(drawnData))])})
	}
	for i, name := range d.names(1 + r.IntN(4)) {
		f := api.Fn{Name: name, Locals: d.names(r.IntN(5))}
		if i > 0 {
			f.Args = r.IntN(len(f.Locals) + 1)
		}
		d.u.Funcs = append(d.u.Funcs, f)
	}
	for i := range d.u.Funcs {
		d.f = &d.u.Funcs[i]
		d.room, d.loops = 2+r.IntN(60), 0
		d.f.Parts = d.block().parts()
	}
	return d.u
}

func (d *drawer) block() tree {
	t := tree{name: "block"}
	for d.room > 0 && d.IntN(6) > 0 {
		t.kids = append(t.kids, d.doing())
	}
	return t
}

func (d *drawer) doing() tree {
	d.room--
	for {
		t := tree{name: strings.Fields(doneNames)[d.IntN(11)]}
		switch t.name {
		case "block":
			return d.block()
		case "set":
			if len(d.f.Locals) == 0 {
				continue
			}
			t.n = d.IntN(len(d.f.Locals))
			t.kids = []tree{d.word()}
		case "put", "put8":
			t.kids = []tree{d.address(), d.word()}
		case "if":
			t.kids = []tree{d.word(), d.block()}
			if d.IntN(2) == 0 {
				t.kids = append(t.kids, d.block())
			}
		case "while":
			t.kids = []tree{d.word()}
			d.loops++
			t.kids = append(t.kids, d.block())
			d.loops--
		case "break", "continue":
			if d.loops == 0 {
				continue
			}
			t.n = d.IntN(d.loops)
		default:
			if d.IntN(3) > 0 { // what ends all shall be rare
				t.name = "do"
			}
			t.kids = []tree{d.word()}
		}
		return t
	}
}

// address is often one that there is.
func (d *drawer) address() tree {
	if d.IntN(2) == 0 {
		return tree{name: "num", n: d.IntN(34)}
	}
	return d.word()
}

var drawnNumbers = []int{0, 1, 2, 3, 7, 8, 63, 64, 255, 256, -1, -2, math.MaxInt, math.MinInt, math.MaxInt - 1, 1 << 62, 4607182418800017408, 9221120237041090560, -5}

func (d *drawer) number() tree {
	if d.IntN(3) == 0 {
		return tree{name: "num", n: drawnNumbers[d.IntN(len(drawnNumbers))]}
	}
	return tree{name: "num", n: d.IntN(4)}
}

func (d *drawer) words(n int) []tree {
	var l []tree
	for range n {
		l = append(l, d.word())
	}
	return l
}

func (d *drawer) word() tree {
	d.room--
	name := kinds[kindNamed("num")+d.IntN(15)].name
	if d.room < 0 {
		name = kinds[kindNamed("num")+d.IntN(5)].name
	}
	t := tree{name: name}
	switch name {
	case "var":
		if len(d.f.Locals) == 0 {
			return d.number()
		}
		t.n = d.IntN(len(d.f.Locals))
	case "at", "len":
		if len(d.u.Texts) == 0 {
			return d.number()
		}
		t.n = d.IntN(len(d.u.Texts))
	case "size":
	case "one":
		t.n = d.opOf(onesNamed)
		t.kids = d.words(1)
	case "load", "load8":
		t.kids = []tree{d.address()}
	case "not":
		t.kids = d.words(1)
		if d.IntN(2) == 0 {
			kind := []string{"two", "turn"}[d.IntN(2)]
			n := opNamed("lt")
			if kind == "two" && d.IntN(2) == 0 {
				n = opNamed("eq")
			}
			t.kids = []tree{{name: kind, n: n, kids: d.words(2)}}
		}
	case "two":
		t.n = d.opOf(twosNamed)
		t.kids = d.words(2)
	case "turn":
		t.n = d.opOf("lt ult flt")
		t.kids = d.words(2)
	case "and", "or":
		t.kids = d.words(2)
	case "call":
		t.n = d.IntN(len(d.u.Funcs))
		t.kids = d.words(d.u.Funcs[t.n].Args)
	case "sys":
		return d.files()
	default:
		return d.number()
	}
	return t
}

func (d *drawer) opOf(names string) int {
	l := strings.Fields(names)
	return opNamed(l[d.IntN(len(l))])
}

// files is a call of files, often with a path that there is.
func (d *drawer) files() tree {
	t := tree{name: "sys", n: d.IntN(5)}
	num := func(n int) tree { return tree{name: "num", n: n} }
	if d.IntN(5) == 0 || len(d.u.Texts) == 0 {
		t.kids = d.words([]int{3, 3, 3, 4, 1}[t.n])
		return t
	}
	i := d.IntN(len(d.u.Texts))
	path := []tree{{name: "at", n: i}, {name: "len", n: i}}
	switch t.n {
	case 0:
		t.kids = append(path, num([]int{0, 1, 2, 3, 5, 6, 7}[d.IntN(7)]))
	case 1, 2:
		t.kids = []tree{num(d.IntN(3)), num(d.IntN(30)), num(d.IntN(6))}
	case 3:
		t.kids = append(path, num(d.IntN(20)), num(d.IntN(14)))
	case 4:
		t.kids = []tree{num(d.IntN(3))}
	}
	return t
}

// otherwise writes a unit in one of the many ways that are not Print's.
func otherwise(r *rand.Rand, u api.Unit) string {
	o := other{Rand: r}
	for _, t := range u.Texts {
		o.put("text", t.Name, "=", o.quoted(t.Data), ";")
	}
	for _, f := range u.Funcs {
		o.say = saying{u, f}
		o.put("func", f.Name, "(")
		for i, l := range f.Locals {
			switch {
			case i == f.Args:
				o.put(";")
			case i > 0:
				o.put(",")
			}
			o.put(l)
		}
		o.put(")")
		o.doing(treeOf(f))
	}
	return o.joined()
}

type other struct {
	*rand.Rand
	say saying
	l   []string
}

func (o *other) put(l ...string) { o.l = append(o.l, l...) }

// joined puts blanks between pieces, where they must stand and where they may.
func (o *other) joined() string {
	some := []string{" ", "\t", "\n", "\r", "\r\n", "  ", "//\n", "// \"'}\n", " ///./\n//\xff\x00(\n\t"}
	blank := func() string { return some[o.IntN(len(some))] }
	dense := o.IntN(3)
	var s strings.Builder
	if o.IntN(2) == 0 {
		s.WriteString(blank())
	}
	for i, p := range o.l {
		if i > 0 {
			l := toks(o.l[i-1] + p)
			apart := len(l) == 2 && l[1].text == p
			if !apart || dense > 0 && o.IntN(2*dense) > 0 {
				if o.l[i-1] == "/" {
					s.WriteString(" ") // else a remark would begin with it
				}
				s.WriteString(blank())
			}
		}
		s.WriteString(p)
	}
	if o.IntN(2) == 0 {
		s.WriteString([]string{" ", "\n", "// end", "//"}[o.IntN(4)])
	}
	return s.String()
}

func (o *other) quoted(b []byte) string {
	s := `"`
	for _, c := range b {
		q := quotedOf([]byte{c})
		if o.IntN(3) == 0 {
			q = fmt.Sprintf(`"\x%02x"`, c)
		}
		s += q[1 : len(q)-1]
	}
	return s + `"`
}

func (o *other) number(n int) string {
	switch {
	case n < 0 || o.IntN(4) == 0:
		return fmt.Sprintf("0x%0*x", 1+o.IntN(16), uint64(n))
	case o.IntN(4) == 0:
		return strings.Repeat("0", o.IntN(30)) + fmt.Sprint(n)
	}
	return fmt.Sprint(n)
}

func (o *other) doing(t tree) {
	switch t.name {
	case "block":
		o.put("{")
		for _, k := range t.kids {
			o.doing(k)
		}
		o.put("}")
		return
	case "if", "while":
		o.put(t.name)
		o.word(t.kids[0], 0)
		o.doing(t.kids[1])
		if len(t.kids) > 2 {
			o.put("else")
			o.doing(t.kids[2])
		}
		return
	case "set":
		o.put(o.say.f.Locals[t.n], "=")
		o.word(t.kids[0], 0)
	case "put", "put8":
		o.put(map[string]string{"put": "word", "put8": "byte"}[t.name], "[")
		o.word(t.kids[0], 0)
		o.put("]", "=")
		o.word(t.kids[1], 0)
	case "break", "continue":
		o.put(t.name)
		if t.n != 0 || o.IntN(2) == 0 {
			o.put(o.number(t.n))
		}
	default:
		o.put(t.name)
		o.word(t.kids[0], 0)
	}
	o.put(";")
}

// word writes what is reckoned where signs of the rules from one on need no brackets.
func (o *other) word(t tree, from int) {
	row, kids, pair := signOf(t)
	if row.not && o.IntN(2) == 0 {
		pair = false
	}
	if o.IntN(5) == 0 || pair && row.rule < from {
		o.put("(")
		defer o.put(")")
	}
	if pair {
		o.word(kids[0], row.rule)
		o.put(row.sign)
		o.word(kids[1], row.rule+1)
		return
	}
	switch t.name {
	case "num":
		o.put(o.number(t.n))
	case "not":
		o.put("!")
		o.word(t.kids[0], bareRule)
	case "one":
		o.put(oneSigns[t.n])
		if len(oneSigns[t.n]) > 2 {
			o.args(t)
		} else {
			o.word(t.kids[0], bareRule)
		}
	case "load", "load8":
		o.put(map[string]string{"load": "word", "load8": "byte"}[t.name], "[")
		o.word(t.kids[0], 0)
		o.put("]")
	case "at", "len":
		o.put(map[string]string{"at": "&", "len": "#"}[t.name], o.say.u.Texts[t.n].Name)
	case "call":
		o.put(o.say.u.Funcs[t.n].Name)
		o.args(t)
	case "sys":
		o.put(strings.Fields(callNames)[t.n])
		o.args(t)
	default:
		o.put(o.say.bare(t))
	}
}

func (o *other) args(t tree) {
	o.put("(")
	for i, k := range t.kids {
		if i > 0 {
			o.put(",")
		}
		o.word(k, 0)
	}
	o.put(")")
}

// bentPieces are what is put into texts where it may not fit.
var bentPieces = append(strings.Fields(keptWords+" "+allSigns), "a", "x", "main", "p", "zz", "0", "1", "9223372036854775807", "9223372036854775808", "0xffffffffffffffff", "0x10000000000000000", "0x", "0X1", "1a", "\"s\"", "\"", "\"\\\"", "\"\\x0g\"", "\"\t\"", "@", "$", "'", ".", "\\", "\x00", "\x0b", "\x7f", "\xc3\xa9", "//", strings.Repeat("n", 64), strings.Repeat("n", 65))

// bent is a text with a piece more, less, or another one, once or more often.
func bent(r *rand.Rand, text string) string {
	for range 1 + r.IntN(2) {
		l := toks(text)
		if len(l) == 0 {
			return text + bentPieces[r.IntN(len(bentPieces))]
		}
		p := l[r.IntN(len(l))]
		q := l[r.IntN(len(l))]
		piece := bentPieces[r.IntN(len(bentPieces))]
		switch r.IntN(12) {
		default: // one that fits, if there is any
			var l []string
			for _, s := range slices.Concat(bentPieces, drawnNames) {
				if alike(classOf(s), p.class) {
					l = append(l, s)
				}
			}
			if len(l) > 0 {
				text = text[:p.at] + " " + l[r.IntN(len(l))] + " " + text[p.at+len(p.text):]
			}
		case 0:
			text = text[:p.at] + text[p.at+len(p.text):]
		case 1:
			text = text[:p.at] + " " + piece + " " + text[p.at:]
		case 2:
			text = text[:p.at] + piece + text[p.at+len(p.text):]
		case 3:
			text = text[:p.at] + q.text + text[p.at+len(p.text):]
		case 4:
			text = text[:p.at]
		case 5:
			text = text[:p.at] + text[q.at:]
		}
	}
	return text
}

// alike tells whether pieces of two classes may stand at the same places, most of all.
func alike(a, b string) bool {
	pair := func(s string) bool {
		return slices.ContainsFunc(signs, func(row signRow) bool { return row.sign == s })
	}
	return a == b && a != "" || pair(a) && pair(b)
}

// bentUnit is a unit with some numbers, names, parts of it another way.
func bentUnit(r *rand.Rand, u api.Unit) api.Unit {
	u = twin(u)
	odd := []int{-1, 0, 1, 2, 3, 4, 5, 16, 17, 63, 64, 65, math.MinInt, math.MaxInt, len(u.Funcs), len(u.Texts)}
	number := func() int { return odd[r.IntN(len(odd))] }
	name := func() string {
		l := append(slices.Clone(drawnNames), "", "1a", "a b", "if", "close", "a.", strings.Repeat("n", 65), "\xc3\xa9")
		return l[r.IntN(len(l))]
	}
	for range 1 + r.IntN(2) {
		f := &u.Funcs[r.IntN(len(u.Funcs))]
		i := r.IntN(len(f.Parts) + 1)
		switch r.IntN(12) {
		case 0:
			f.Args = number()
		case 1:
			f.Name = name()
		case 2:
			f.Locals = append(f.Locals, name())
		case 3:
			u.Texts = append(u.Texts, api.Text{Name: name()})
		case 4:
			f.Parts = f.Parts[:i]
		case 5:
			f.Parts = slices.Insert(f.Parts, i, api.Part{Kind: r.IntN(28) - 1, N: number(), Kids: r.IntN(3)})
		default:
			if i == len(f.Parts) {
				continue
			}
			switch r.IntN(4) {
			case 0:
				f.Parts[i].Kind = r.IntN(30) - 1
			case 1:
				f.Parts[i].N = number()
			case 2:
				f.Parts[i].Kids = number()
			case 3:
				f.Parts = slices.Delete(f.Parts, i, i+1)
			}
		}
	}
	return u
}

// twin is a unit apart.
func twin(u api.Unit) api.Unit {
	u.Texts, u.Funcs = slices.Clone(u.Texts), slices.Clone(u.Funcs)
	for i, t := range u.Texts {
		u.Texts[i].Data = slices.Clone(t.Data)
	}
	for i, f := range u.Funcs {
		u.Funcs[i].Locals = slices.Clone(f.Locals)
		u.Funcs[i].Parts = slices.Clone(f.Parts)
	}
	return u
}
