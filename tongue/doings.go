package tongue

import "retort/api"

func (r *reader) block() row {
	var kids []row
	r.must("{")
	for r.doingNext() {
		kids = append(kids, r.doing())
	}
	r.must("}")
	return rowOf(api.PBlock, 0, kids...)
}

// doingNext tells whether a doing begins with the next piece.
func (r *reader) doingNext() bool {
	if r.now.kind != fixedPiece {
		return r.now.kind == namePiece
	}
	switch r.now.text {
	case "{", "word", "byte", "if", "while", "break", "continue", "return", "abort", "do":
		return true
	}
	return false
}

func (r *reader) doing() row {
	if r.now.kind == namePiece {
		return r.set()
	}
	switch r.now.text {
	case "word":
		return r.put(api.PPut)
	case "byte":
		return r.put(api.PPut8)
	case "if":
		return r.choice()
	case "while":
		r.take()
		return rowOf(api.PWhile, 0, r.reckoned(), r.block())
	case "break":
		return r.leave(api.PBreak)
	case "continue":
		return r.leave(api.PContinue)
	case "return":
		return r.valued(api.PReturn)
	case "abort":
		return r.valued(api.PAbort)
	case "do":
		return r.valued(api.PDo)
	}
	return r.block()
}

func (r *reader) set() row {
	n := r.local(r.take())
	r.must("=")
	return r.ended(api.PSet, n, r.reckoned())
}

// ended is a doing behind which a `;` must stand.
func (r *reader) ended(kind, n int, kids ...row) row {
	r.must(";")
	return rowOf(kind, n, kids...)
}

// local tells the number of a local that was named.
func (r *reader) local(p piece) int { return r.given(r.locals, p) }

// given tells what has a name.
func (r *reader) given(to names, p piece) int {
	n, is := to[p.text]
	if !is {
		r.fail(api.ErrUnset, p.at)
	}
	return n
}

func (r *reader) put(kind int) row {
	r.take()
	at := r.within("[", "]")
	r.must("=")
	return r.ended(kind, 0, at, r.reckoned())
}

func (r *reader) choice() row {
	r.take()
	kids := []row{r.reckoned(), r.block()}
	if r.may("else") {
		kids = append(kids, r.block())
	}
	return rowOf(api.PIf, 0, kids...)
}

func (r *reader) leave(kind int) row {
	r.take()
	n := 0
	if r.now.kind == numberPiece {
		n = r.take().n
	}
	return r.ended(kind, n)
}

// valued reads a kept word with what is reckoned behind it.
func (r *reader) valued(kind int) row {
	r.take()
	return r.ended(kind, 0, r.reckoned())
}
