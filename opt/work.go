package opt

import (
	"retort/api"
	"retort/check"
	"retort/prog"
)

// work is a program while it is worked on.
type work struct {
	p      api.Program
	bodies []*body
}

// begun is the work on a program; false: check refuses it.
func begun(p api.Program) (work, bool) {
	facts, fault := check.Run(p)
	if fault.Err != api.OK {
		return work{}, false
	}
	w := work{p: prog.Twin(p)}
	begins := kindsByBeginning()
	for i, f := range w.p.Funcs {
		w.bodies = append(w.bodies, bodyOf(f.Code, facts.Live[i], begins))
	}
	return w, true
}

// first tells the first spot at which a look at the functions, one behind the other, finds something, and what.
func (w work) first(look func(b *body) (int, int, bool)) (api.Spot, int, bool) {
	for i, b := range w.bodies {
		if at, what, some := look(b); some {
			return api.Spot{Func: i, At: at}, what, true
		}
	}
	return api.Spot{}, 0, false
}

// each does something to all functions, and tells whether it did anything to one.
func (w work) each(do func(b *body) bool) bool {
	done := false
	for _, b := range w.bodies {
		done = do(b) || done
	}
	return done
}

// doRow does the first row of the first function that has one.
func (w work) doRow() {
	for _, b := range w.bodies {
		if at, r, some := b.rowFrom(b.first()); some {
			b.put(at, r)
			return
		}
	}
}

// program is what the work has come to: a function of which no place is left is gone.
func (w work) program() api.Program {
	gone := make([]bool, len(w.bodies))
	for i, b := range w.bodies {
		gone[i] = b.first() == b.behind()
		w.p.Funcs[i].Code = b.list()
	}
	number := numbers(gone)
	w.p.Funcs = without(w.p.Funcs, gone)
	for _, f := range w.p.Funcs {
		for at, x := range f.Code {
			if x.Op == api.ICall {
				f.Code[at].A = number[x.A]
			}
		}
	}
	return w.p
}

// without is a list without what is gone of it.
func without[T any](l []T, gone []bool) []T {
	var left []T
	for i, x := range l {
		if !gone[i] {
			left = append(left, x)
		}
	}
	return left
}

// numbers tells of each element of a list the number that it has without what is gone; of one that is gone, that of the next one that is left.
func numbers(gone []bool) []int {
	l, n := make([]int, len(gone)), 0
	for i, is := range gone {
		l[i] = n
		if !is {
			n++
		}
	}
	return l
}
