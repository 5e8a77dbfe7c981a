package asm

import (
	"slices"
	"strings"

	"retort/api"
	"retort/op"
	"retort/prog"
)

// wait is a word of an instruction that stands for a place or a function, which may come later.
type wait struct {
	line int
	at   api.Spot
	name string
	from map[string]int // what has such words
}

// reader is what has been read of a text.
type reader struct {
	p      api.Program
	sized  bool             // a line has said how much memory there is
	funcs  map[string]int   // each function's number, by its word
	labels []map[string]int // of each function: each label's place
	waits  []wait
}

// read tells the program of a text, or its first fault and the line of that (0: it is the whole text's).
func read(text string) (api.Program, int, api.Errno) {
	if len(text) > api.MaxSource {
		return api.Program{}, 0, api.ErrLong
	}
	r := &reader{funcs: map[string]int{}}
	for i, line := range strings.Split(text, "\n") {
		if e := r.line(i+1, line); e != api.OK {
			return api.Program{}, i + 1, e
		}
	}
	if line, e := r.settle(); e != api.OK {
		return api.Program{}, line, e
	}
	e := prog.Check(r.p)
	return r.p, 0, e
}

// line takes the next line of the text.
func (r *reader) line(n int, text string) api.Errno {
	l, right := cut(text)
	if !right {
		return api.ErrLine
	}
	labels, l := labelled(l)
	switch {
	case len(labels) == 0 && len(l) == 0:
		return api.OK
	case len(labels) > 0:
		return r.code(n, labels, l)
	case l[0].kind != word:
		return api.ErrLine
	}
	switch l[0].text {
	case "memory":
		return r.memory(l[1:])
	case "data":
		return r.data(l[1:])
	case "func":
		return r.function(l[1:])
	}
	return r.code(n, nil, l)
}

// labelled parts a line's labels from what stands behind them.
func labelled(l []piece) ([]string, []piece) {
	var labels []string
	for len(l) > 1 && fits(l[:2], word, colon) {
		labels = append(labels, l[0].text)
		l = l[2:]
	}
	return labels, l
}

// fits tells whether pieces are just of those kinds.
func fits(l []piece, kinds ...int) bool {
	return slices.EqualFunc(l, kinds, func(p piece, kind int) bool { return p.kind == kind })
}

// tooFar tells whether one of the pieces is a number that is none of an int.
func tooFar(l []piece) bool {
	return slices.ContainsFunc(l, func(p piece) bool { return p.far })
}

// begun tells whether a function has begun.
func (r *reader) begun() bool { return len(r.p.Funcs) > 0 }

func (r *reader) memory(l []piece) api.Errno {
	switch {
	case r.sized || r.begun() || !fits(l, number):
		return api.ErrLine
	case tooFar(l):
		return api.ErrNumber
	}
	r.sized = true
	r.p.Memory = l[0].n
	return api.OK
}

func (r *reader) data(l []piece) api.Errno {
	if r.begun() || !fits(l, quoted) {
		return api.ErrLine
	}
	r.p.Data = append(r.p.Data, l[0].text...)
	return api.OK
}

func (r *reader) function(l []piece) api.Errno {
	switch {
	case !fits(l, word, number, number, number):
		return api.ErrLine
	case tooFar(l):
		return api.ErrNumber
	case !name(r.funcs, l[0].text, len(r.p.Funcs)):
		return api.ErrLabel
	}
	r.p.Funcs = append(r.p.Funcs, api.Func{Args: l[1].n, Locals: l[2].n, Results: l[3].n})
	r.labels = append(r.labels, map[string]int{})
	return api.OK
}

// name says what a word stands for, and tells whether it stood for nothing yet.
func name(words map[string]int, text string, n int) bool {
	if _, is := words[text]; is {
		return false
	}
	words[text] = n
	return true
}

// code takes a line of labels, of an instruction, or of both.
func (r *reader) code(n int, labels []string, l []piece) api.Errno {
	if !r.begun() {
		return api.ErrLine
	}
	x, later, right := instruction(l)
	switch {
	case len(l) > 0 && !right:
		return api.ErrLine
	case tooFar(l):
		return api.ErrNumber
	case !r.label(labels):
		return api.ErrLabel
	case len(l) > 0:
		r.add(n, x, later)
	}
	return api.OK
}

// last is the number of the function that is read now.
func (r *reader) last() int { return len(r.p.Funcs) - 1 }

// label lays labels ahead of the function's next instruction, and tells whether none of them stood there ahead.
func (r *reader) label(labels []string) bool {
	for _, text := range labels {
		if !name(r.labels[r.last()], text, len(r.p.Funcs[r.last()].Code)) {
			return false
		}
	}
	return true
}

// add lays an instruction behind the others of its function; later is a word that its operand hangs on.
func (r *reader) add(line int, x api.Instr, later string) {
	f := &r.p.Funcs[r.last()]
	if later != "" {
		from := r.labels[r.last()]
		if x.Op == api.ICall {
			from = r.funcs
		}
		r.waits = append(r.waits, wait{line, api.Spot{Func: r.last(), At: len(f.Code)}, later, from})
	}
	f.Code = append(f.Code, x)
}

// instruction reads one, and the word of its operand, if that is a label's or a function's; whether it is one in form.
func instruction(l []piece) (x api.Instr, later string, right bool) {
	if len(l) == 0 || l[0].kind != word {
		return x, "", false
	}
	if x.Op, right = op.Named(l[0].text); !right {
		return x, "", false
	}
	shape, _ := op.Of(x.Op)
	operand := l[1:]
	switch {
	case shape.Operand == op.ONone:
		return x, "", len(operand) == 0
	case fits(operand, number):
		x.A = operand[0].n
		return x, "", true
	case !fits(operand, word):
		return x, "", false
	}
	switch shape.Operand {
	case op.OJump, op.OFunc:
		return x, operand[0].text, true
	case op.OSys:
		x.A, right = op.SysNamed(operand[0].text)
		return x, "", right
	}
	return x, "", false
}

// settle fills in what was waited for, now that all words are known, or tells the first line whose word is nothing's.
func (r *reader) settle() (int, api.Errno) {
	for _, w := range r.waits {
		n, is := w.from[w.name]
		if !is {
			return w.line, api.ErrLabel
		}
		r.p.Funcs[w.at.Func].Code[w.at.At].A = n
	}
	return 0, api.OK
}
