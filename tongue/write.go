package tongue

import (
	"strconv"
	"strings"

	"retort/api"
	"retort/op"
)

// writer writes the text of a right unit.
type writer struct {
	b    []byte
	u    api.Unit
	f    api.Fn // the present function
	deep int    // blocks
}

// written is the text of a unit; of one that is too long its front, which is too long too.
func written(u api.Unit) []byte {
	w := &writer{u: u}
	for _, t := range u.Texts {
		w.put("text ", t.Name, " = ")
		w.quote(t.Data)
		w.put(";\n")
	}
	for _, f := range u.Funcs {
		w.function(f)
	}
	return w.b
}

// put lays down texts. What is too long already grows no more: a unit may have far more parts than a text holds.
func (w *writer) put(l ...string) {
	for _, s := range l {
		if len(w.b) <= api.MaxSource {
			w.b = append(w.b, s...)
		}
	}
}

func (w *writer) quote(data []byte) {
	b := []byte{'"'}
	for _, c := range data {
		switch {
		case c == '"' || c == '\\':
			b = append(b, '\\', c)
		case c < ' ' || c > '~':
			b = append(b, '\\', 'x', hexDigits[c>>4], hexDigits[c&15])
		default:
			b = append(b, c)
		}
	}
	w.put(string(append(b, '"')))
}

func (w *writer) function(f api.Fn) {
	w.f = f
	w.put("func ", f.Name, "(", strings.Join(f.Locals[:f.Args], ", "))
	if len(f.Locals) > f.Args {
		w.put("; ", strings.Join(f.Locals[f.Args:], ", "))
	}
	w.put(") ")
	w.block(grown(f))
	w.put("\n")
}

// begin puts the front of a line.
func (w *writer) begin() { w.put(strings.Repeat("\t", w.deep)) }

// block begins within a line, and ends within one.
func (w *writer) block(b *block) {
	w.put("{\n")
	w.deep++
	for _, d := range b.doings {
		w.begin()
		w.doing(d)
		w.put("\n")
	}
	w.deep--
	w.begin()
	w.put("}")
}

func (w *writer) doing(d doing) {
	switch d := d.(type) {
	case *block:
		w.block(d)
	case choice:
		w.head("if ", d.is, d.blocks[0])
		if len(d.blocks) > 1 {
			w.put(" else ")
			w.block(d.blocks[1])
		}
	case loop:
		w.head("while ", d.is, d.body)
	case set:
		w.row(w.f.Locals[d.local]+" = ", d.value)
	case put:
		w.cell(d.bytes, d.at)
		w.row(" = ", d.value)
	case leave:
		w.leave(d)
	case giveBack:
		w.row("return ", d.value)
	case drop:
		w.row("do ", d.value)
	case abort:
		w.row("abort ", d.code)
	}
}

// head puts a doing that has a block.
func (w *writer) head(front string, is reckoned, b *block) {
	w.put(front)
	w.reckoned(is)
	w.put(" ")
	w.block(b)
}

// row puts the end of one that has none.
func (w *writer) row(front string, value reckoned) {
	w.put(front)
	w.reckoned(value)
	w.put(";")
}

func (w *writer) leave(l leave) {
	if l.again {
		w.put("continue")
	} else {
		w.put("break")
	}
	if l.loops != 0 {
		w.put(" ", strconv.Itoa(l.loops))
	}
	w.put(";")
}

// cell puts the word or the byte at an address.
func (w *writer) cell(bytes int, at reckoned) {
	if bytes == wordBytes {
		w.put("word")
	} else {
		w.put("byte")
	}
	w.within("[", "]", at)
}

func (w *writer) within(open, shut string, l ...reckoned) {
	w.put(open)
	for i, p := range l {
		if i > 0 {
			w.put(", ")
		}
		w.reckoned(p)
	}
	w.put(shut)
}

func (w *writer) reckoned(p reckoned) {
	if t := tellTwo(p); t.sign != "" {
		w.side(t.left, t.rule)
		w.put(" ", t.sign, " ")
		w.side(t.right, t.rule+1)
		return
	}
	switch p := p.(type) {
	case num:
		w.put(numberText(p.n))
	case local:
		w.put(w.f.Locals[p.n])
	case textAt:
		w.put("&", w.u.Texts[p.n].Name)
	case textLong:
		w.put("#", w.u.Texts[p.n].Name)
	case size:
		w.put("size")
	case load:
		w.cell(p.bytes, p.at)
	case one:
		w.one(p)
	case not:
		w.put("!")
		w.side(p.of, ruleBare)
	case call:
		w.put(w.u.Funcs[p.f].Name)
		w.within("(", ")", p.args...)
	case sys:
		s, _ := op.Sys(p.call)
		w.put(s.Name)
		w.within("(", ")", p.args...)
	}
}

func numberText(n int) string {
	if n < 0 {
		return "0x" + strconv.FormatUint(uint64(n), 16)
	}
	return strconv.Itoa(n)
}

func (w *writer) one(p one) {
	for _, s := range singles {
		switch {
		case s.n != p.op:
		case s.word:
			w.put(s.sign)
			w.within("(", ")", p.of)
		default:
			w.put(s.sign)
			w.side(p.of, ruleBare)
		}
	}
}

// side puts what stands where a rule goes on with another: brackets stand around a sign of a rule above that.
func (w *writer) side(p reckoned, rule int) {
	if t := tellTwo(p); t.sign != "" && t.rule < rule {
		w.within("(", ")", p)
		return
	}
	w.reckoned(p)
}

// told is what is told with a sign of two.
type told struct {
	pair
	left, right reckoned
}

// tellTwo tells the sign of two of a part; none: it has none.
func tellTwo(p reckoned) told {
	n, is := p.(not)
	if is {
		p = n.of
	}
	t := told{}
	switch p := p.(type) {
	case two:
		t = told{pair{kind: api.PTwo, n: p.op}, p.left, p.right}
	case turn:
		t = told{pair{kind: api.PTurn, n: p.op}, p.left, p.right}
	case and:
		t = told{pair{kind: api.PAnd}, p.left, p.right}
	case or:
		t = told{pair{kind: api.POr}, p.left, p.right}
	}
	for _, s := range pairs {
		if s.kind == t.kind && s.n == t.n && s.not == is {
			return told{s, t.left, t.right}
		}
	}
	return told{}
}
