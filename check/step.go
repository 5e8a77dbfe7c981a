package check

import (
	"slices"

	"retort/api"
	"retort/op"
)

// goesOn tells the places at which an instruction goes on, rising, each once, whether they are in the code or not.
func goesOn(x api.Instr, at int) []int {
	next := at + 1
	switch x.Op {
	case api.IHalt, api.IAbort, api.IRet:
		return nil
	case api.IJump:
		return []int{x.A}
	case api.IZero, api.INotZero:
		return slices.Compact([]int{min(x.A, next), max(x.A, next)})
	}
	return []int{next}
}

func takesAndGives(p api.Program, f api.Func, x api.Instr) (int, int) {
	switch x.Op {
	case api.ICall:
		if !among(x.A, len(p.Funcs)) {
			return 0, 0
		}
		g := p.Funcs[x.A]
		return g.Args, g.Results
	case api.IRet:
		return f.Results, 0
	case api.ISys:
		s, _ := op.Sys(x.A)
		return s.Takes, s.Gives
	}
	s, _ := op.Of(x.Op)
	return s.Takes, s.Gives
}

// step is an instruction of a code whose operands do not stray, as far as heights hang on it.
type step struct {
	api.Instr
	takes, gives int
	next         []int
}

func stepsOf(p api.Program, f api.Func) []step {
	steps := make([]step, len(f.Code))
	for at, x := range f.Code {
		takes, gives := takesAndGives(p, f, x)
		steps[at] = step{x, takes, gives, goesOn(x, at)}
	}
	return steps
}

// wants is how many operands must lie there.
func (s step) wants() int {
	if s.Op == api.ICopy {
		return s.A + 1
	}
	return s.takes
}

// behind is the height that the step leaves of one.
func (s step) behind(h int) int { return h - s.takes + s.gives }

// fault tells what is wrong with a step at a height, but for the heights of others.
func (s step) fault(h, places int) api.Errno {
	switch {
	case s.Op == api.IRet && h != s.takes:
		return api.ErrRet
	case s.wants() > h:
		return api.ErrUnder
	case s.behind(h) > api.MaxHeight:
		return api.ErrOver
	case slices.Contains(s.next, places):
		return api.ErrEnd
	}
	return api.OK
}
