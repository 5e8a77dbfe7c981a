package tongue

import (
	"retort/api"
	"retort/cell"
	"retort/op"
)

// textBytes is how many bytes texts have together.
func textBytes(l []api.Text) int {
	n := 0
	for _, t := range l {
		n += len(t.Data)
	}
	return n
}

func checkSize(u api.Unit) api.Errno {
	switch {
	case len(u.Funcs) > api.MaxFuncs || len(u.Texts) > api.MaxFan || textBytes(u.Texts) > api.MaxMemory:
		return api.ErrLong
	case len(u.Funcs) == 0 || u.Funcs[0].Args != 0:
		return api.ErrSyntax
	}
	return api.OK
}

// names are those that were given to things of one kind, with their numbers.
type names map[string]int

// give names the next thing.
func (n names) give(text string) api.Errno {
	if !isWord(text) {
		return api.ErrSyntax
	}
	if _, is := n[text]; is {
		return api.ErrTwice
	}
	n[text] = len(n)
	return api.OK
}

func checkNames(u api.Unit) api.Errno {
	texts, funcs := names{}, names{}
	for _, t := range u.Texts {
		if e := texts.give(t.Name); e != api.OK {
			return e
		}
	}
	for _, f := range u.Funcs {
		if e := checkHead(f, funcs); e != api.OK {
			return e
		}
	}
	return api.OK
}

func checkHead(f api.Fn, funcs names) api.Errno {
	switch {
	case len(f.Locals) > api.MaxLocals || f.Args > api.MaxArgs:
		return api.ErrLong
	case f.Args < 0 || f.Args > len(f.Locals):
		return api.ErrSyntax
	}
	if e := funcs.give(f.Name); e != api.OK {
		return e
	}
	locals := names{}
	for _, l := range f.Locals {
		if e := locals.give(l); e != api.OK {
			return e
		}
	}
	return api.OK
}

// checkParts looks at a function's parts; all heads have been looked at.
func checkParts(u api.Unit, f api.Fn) api.Errno {
	c := &checker{u: u, locals: len(f.Locals), left: f.Parts}
	_, e := c.part(aBlock, 0, 0)
	switch {
	case e != api.OK:
		return e
	case len(c.left) > 0:
		return api.ErrSyntax
	case c.most > api.MaxHeight:
		return api.ErrNest
	}
	return api.OK
}

// checker goes over the parts of a function from the left.
type checker struct {
	u      api.Unit
	locals int
	left   []api.Part
	most   int // the greatest that a part wants
}

// What may stand at a place.
const (
	aBlock = iota
	aDoing
	aReckoned
)

// stands tells whether a part of that kind may stand at such a place.
func stands(kind, place int) bool {
	switch place {
	case aBlock:
		return kind == api.PBlock
	case aDoing:
		return api.PBlock <= kind && kind <= api.PAbort
	}
	return api.PNum <= kind && kind < api.PCount
}

// part looks at the next part and all of its own: at such a place, in so many parts, in the blocks of so many loops. It tells what it wants.
func (c *checker) part(place, deep, loops int) (int, api.Errno) {
	if len(c.left) == 0 || !stands(c.left[0].Kind, place) {
		return 0, api.ErrSyntax
	}
	x := c.left[0]
	c.left = c.left[1:]
	if e := c.number(x, loops); e != api.OK {
		return 0, e
	}
	if e := c.kids(x); e != api.OK {
		return 0, e
	}
	if deep > api.MaxNest {
		return 0, api.ErrNest
	}
	most := leastWanted(x.Kind)
	for i := range x.Kids {
		inner := loops
		if x.Kind == api.PWhile {
			inner += i // its first one is not in its block
		}
		n, e := c.part(placeOf(x.Kind, i), deep+1, inner)
		if e != api.OK {
			return 0, e
		}
		most = max(most, wanted(x.Kind, i, n))
	}
	c.most = max(c.most, most)
	return most, api.OK
}

func fails(is bool, e api.Errno) api.Errno {
	if is {
		return e
	}
	return api.OK
}

// within tells whether there is one of that number among so many.
func within(n, many int) bool { return 0 <= n && n < many }

// number looks at a part's N.
func (c *checker) number(x api.Part, loops int) api.Errno {
	switch x.Kind {
	case api.PNum:
		return api.OK
	case api.PSet, api.PVar:
		return fails(!within(x.N, c.locals), api.ErrUnset)
	case api.PAt, api.PLen:
		return fails(!within(x.N, len(c.u.Texts)), api.ErrUnset)
	case api.PCall:
		return fails(!within(x.N, len(c.u.Funcs)), api.ErrUnset)
	case api.PBreak, api.PContinue:
		return fails(!within(x.N, loops), api.ErrSyntax)
	case api.POne:
		return fails(!cell.Has1(x.N), api.ErrSyntax)
	case api.PTwo:
		return fails(!cell.Has2(x.N), api.ErrSyntax)
	case api.PTurn:
		return fails(x.N != api.ILt && x.N != api.IUlt && x.N != api.IFlt, api.ErrSyntax)
	case api.PSys:
		_, there := op.Sys(x.N)
		return fails(!there, api.ErrSyntax)
	}
	return fails(x.N != 0, api.ErrSyntax)
}

// kids looks at how many kids a part has, whose N may be.
func (c *checker) kids(x api.Part) api.Errno {
	switch x.Kind {
	case api.PCall:
		return fails(x.Kids != c.u.Funcs[x.N].Args, api.ErrArity)
	case api.PSys:
		s, _ := op.Sys(x.N)
		return fails(x.Kids != s.Takes, api.ErrArity)
	case api.PBlock:
		return fails(x.Kids < 0, api.ErrSyntax)
	case api.PIf:
		return fails(x.Kids != 2 && x.Kids != 3, api.ErrSyntax)
	case api.PBreak, api.PContinue, api.PNum, api.PVar, api.PAt, api.PLen, api.PSize:
		return fails(x.Kids != 0, api.ErrSyntax)
	case api.PPut, api.PPut8, api.PWhile, api.PTwo, api.PTurn, api.PAnd, api.POr:
		return fails(x.Kids != 2, api.ErrSyntax)
	}
	return fails(x.Kids != 1, api.ErrSyntax)
}

// placeOf tells what a part's kid i may be.
func placeOf(kind, i int) int {
	switch {
	case kind == api.PBlock:
		return aDoing
	case i > 0 && (kind == api.PIf || kind == api.PWhile):
		return aBlock
	}
	return aReckoned
}

// leastWanted is what a part wants, whatever its kids do.
func leastWanted(kind int) int {
	switch kind {
	case api.PNum, api.PVar, api.PAt, api.PLen, api.PSize, api.PCall, api.PSys:
		return 1
	case api.PNot, api.PAnd, api.POr:
		return 2
	}
	return 0
}

// wanted is what a part wants while its kid i is reckoned, which wants n.
func wanted(kind, i, n int) int {
	switch kind {
	case api.PBlock:
		return 0
	case api.PTwo, api.PTurn, api.PPut, api.PPut8, api.PCall, api.PSys:
		return i + n
	}
	return n
}
