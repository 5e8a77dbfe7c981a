package tongue

import (
	"strings"

	"retort/api"
	"retort/op"
)

// asked is a call that stands in a text: whose function may stand behind it.
type asked struct {
	at   int
	name string // "": it is a call of files
	link *link
}

// reader reads a text from the left. From its first fault on no piece fits, so that all that is under way comes to its end.
type reader struct {
	text   string
	now    piece // the next one
	open   int   // brackets
	fault  api.Errno
	at     int // the fault's place
	texts  names
	funcs  names
	locals names // of the present function
	u      api.Unit
	bodies []row
	calls  []asked // by their places
}

// read tells the unit of a text, which Check has not looked at, or its first fault and the place of that.
func read(text string) (api.Unit, api.Errno, int) {
	r := &reader{text: text, now: pieceAt(text, 0), texts: names{}, funcs: names{}}
	r.unit()
	r.settle()
	if r.fault != api.OK {
		return api.Unit{}, r.fault, r.at
	}
	for i, b := range r.bodies {
		r.u.Funcs[i].Parts = b.list()
	}
	return r.u, api.OK, 0
}

// fail tells a fault, if none was met yet.
func (r *reader) fail(e api.Errno, at int) {
	if r.fault == api.OK {
		r.fault, r.at = e, at
	}
	r.now = piece{}
}

// wrong tells that the next piece may not stand where it does.
func (r *reader) wrong() { r.fail(api.ErrSyntax, r.now.at) }

// is tells whether the next piece is that kept word or sign.
func (r *reader) is(text string) bool {
	return r.now.kind == fixedPiece && r.now.text == text
}

// take goes on behind a piece that may stand where it does.
func (r *reader) take() piece {
	p := r.now
	switch {
	case r.is("(") || r.is("[") || r.is("{"):
		r.open++
	case r.is(")") || r.is("]") || r.is("}"):
		r.open--
	}
	switch {
	case r.fault != api.OK:
	case r.open > api.MaxHeight:
		r.fail(api.ErrNest, p.at)
	case p.far:
		r.fail(api.ErrNumber, p.at)
	default:
		r.now = pieceAt(r.text, p.end)
	}
	return p
}

// must takes a kept word or a sign that must stand next.
func (r *reader) must(text string) {
	if !r.is(text) {
		r.wrong()
		return
	}
	r.take()
}

// may takes one that may stand next, and tells whether it does.
func (r *reader) may(text string) bool {
	is := r.is(text)
	if is {
		r.take()
	}
	return is
}

// mustBe takes a piece of a kind that must stand next.
func (r *reader) mustBe(kind int) piece {
	if r.now.kind != kind {
		r.wrong()
		return piece{}
	}
	return r.take()
}

func (r *reader) unit() {
	for r.is("text") {
		r.bytes()
	}
	r.function()
	for r.is("func") {
		r.function()
	}
	r.mustBe(endPiece)
}

func (r *reader) bytes() {
	r.must("text")
	t := api.Text{Name: r.newName(r.texts)}
	r.must("=")
	t.Data = []byte(r.mustBe(stringPiece).text)
	r.must(";")
	r.u.Texts = append(r.u.Texts, t)
}

// newName reads a name that is given to something.
func (r *reader) newName(given names) string {
	p := r.mustBe(namePiece)
	if e := given.give(p.text); e != api.OK {
		r.fail(e, p.at)
	}
	return strings.Clone(p.text)
}

func (r *reader) function() {
	r.must("func")
	f := api.Fn{Name: r.newName(r.funcs)}
	r.locals = names{}
	r.must("(")
	if r.now.kind == namePiece {
		f.Locals = r.newNames(f.Locals)
	}
	f.Args = len(f.Locals)
	if r.may(";") {
		f.Locals = r.newNames(f.Locals)
	}
	r.must(")")
	r.u.Funcs = append(r.u.Funcs, f)
	body := r.block()
	r.bodies = append(r.bodies, body)
}

// newNames reads the names of arguments, or of other locals, behind those of a list.
func (r *reader) newNames(l []string) []string {
	l = append(l, r.newName(r.locals))
	for r.may(",") {
		l = append(l, r.newName(r.locals))
	}
	return l
}

// settle fills in the functions of all calls, now that they are known.
func (r *reader) settle() {
	for _, c := range r.calls {
		if r.fault != api.OK {
			return
		}
		x := &c.link.part
		if c.name == "" {
			s, _ := op.Sys(x.N)
			r.handed(c, s.Takes)
			continue
		}
		n, is := r.funcs[c.name]
		if !is {
			r.fail(api.ErrUnset, c.at)
			return
		}
		x.N = n
		r.handed(c, r.u.Funcs[n].Args)
	}
}

// handed looks whether a call is handed as many as it takes.
func (r *reader) handed(c asked, takes int) {
	if c.link.part.Kids != takes {
		r.fail(api.ErrArity, c.at)
	}
}
