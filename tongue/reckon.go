package tongue

import (
	"slices"

	"retort/api"
	"retort/op"
)

// reckoned reads what stands for a word.
func (r *reader) reckoned() row { return r.rule(ruleOr) }

// rule reads by one of the rules whose signs hold together from the left.
func (r *reader) rule(n int) row {
	if n == ruleBare {
		return r.bare()
	}
	left := r.rule(n + 1)
	for {
		p, is := r.pair(n)
		if !is {
			return left
		}
		r.take()
		left = rowOf(p.kind, p.n, left, r.rule(n+1))
		if p.not {
			left = rowOf(api.PNot, 0, left)
		}
	}
}

// pair tells what the next piece is as a sign of a rule.
func (r *reader) pair(rule int) (pair, bool) {
	for _, p := range pairs {
		if p.rule == rule && r.is(p.sign) {
			return p, true
		}
	}
	return pair{}, false
}

// single tells what the next piece is as a sign or a word of one.
func (r *reader) single() (single, bool) {
	for _, s := range singles {
		if r.is(s.sign) {
			return s, true
		}
	}
	return single{}, false
}

// bare takes all signs at once: there may be as many as the text has bytes.
func (r *reader) bare() row {
	var signs []api.Part
	for {
		s, is := r.single()
		switch {
		case is && !s.word:
			signs = append(signs, api.Part{Kind: api.POne, N: s.n})
		case r.is("!"):
			signs = append(signs, api.Part{Kind: api.PNot})
		default:
			return under(signs, r.first())
		}
		r.take()
	}
}

// under is a row with parts of one kid ahead of it.
func under(signs []api.Part, b row) row {
	for _, x := range slices.Backward(signs) {
		b = rowOf(x.Kind, x.N, b)
	}
	return b
}

func (r *reader) first() row {
	switch r.now.kind {
	case numberPiece:
		return rowOf(api.PNum, r.take().n)
	case namePiece:
		return r.named()
	case fixedPiece:
		return r.fixed()
	}
	return r.nothing()
}

// nothing stands where something must.
func (r *reader) nothing() row {
	r.wrong()
	return rowOf(api.PNum, 0)
}

// named reads a call, or a local.
func (r *reader) named() row {
	p := r.take()
	if r.is("(") {
		return r.call(asked{at: p.at, name: p.text}, api.PCall, 0)
	}
	return rowOf(api.PVar, r.local(p))
}

// call reads what a call is handed. It is laid down ahead of those that stand in it.
func (r *reader) call(c asked, kind, n int) row {
	at := len(r.calls)
	r.calls = append(r.calls, c)
	r.must("(")
	var kids []row
	if !r.is(")") {
		kids = append(kids, r.reckoned())
		for r.may(",") {
			kids = append(kids, r.reckoned())
		}
	}
	r.must(")")
	b := rowOf(kind, n, kids...)
	r.calls[at].link = b.first
	return b
}

// fixed reads what begins with a kept word or a sign.
func (r *reader) fixed() row {
	if n, is := op.SysNamed(r.now.text); is {
		return r.call(asked{at: r.take().at}, api.PSys, n)
	}
	if s, is := r.single(); is && s.word {
		r.take()
		return rowOf(api.POne, s.n, r.within("(", ")"))
	}
	switch r.now.text {
	case "word":
		r.take()
		return rowOf(api.PLoad, 0, r.within("[", "]"))
	case "byte":
		r.take()
		return rowOf(api.PLoad8, 0, r.within("[", "]"))
	case "size":
		r.take()
		return rowOf(api.PSize, 0)
	case "&":
		r.take()
		return rowOf(api.PAt, r.given(r.texts, r.mustBe(namePiece)))
	case "#":
		r.take()
		return rowOf(api.PLen, r.given(r.texts, r.mustBe(namePiece)))
	case "(":
		return r.within("(", ")")
	}
	return r.nothing()
}

// within reads what stands between brackets.
func (r *reader) within(open, shut string) row {
	r.must(open)
	b := r.reckoned()
	r.must(shut)
	return b
}
