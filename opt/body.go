package opt

import "retort/api"

// body is a function's code while it is worked on. Till the end each instruction keeps its place, and those that are left are linked: so nothing that is dropped makes a jump wrong, but where it named just that.
type body struct {
	code   []api.Instr
	live   bool
	begins [][]kind
	gone   []bool
	next   []int // of each place the next one that is left; the place behind the code is linked with both of its ends
	prev   []int
	named  []int // how many jumps that are left name a place
}

// bodyOf is the work on a code, which is its own from here on.
func bodyOf(code []api.Instr, live bool, begins [][]kind) *body {
	n := len(code)
	b := &body{
		code:   code,
		live:   live,
		begins: begins,
		gone:   make([]bool, n),
		next:   make([]int, n+1),
		prev:   make([]int, n+1),
		named:  make([]int, n),
	}
	for at := range n + 1 {
		b.next[at] = (at + 1) % (n + 1)
		b.prev[at] = (at + n) % (n + 1)
	}
	for _, x := range code {
		b.name(x, 1)
	}
	return b
}

// behind is the place behind the last one.
func (b *body) behind() int { return len(b.code) }

// first is the first place that is left.
func (b *body) first() int { return b.next[b.behind()] }

// jumps tells whether an instruction names a place.
func jumps(x api.Instr) bool {
	return x.Op == api.IJump || x.Op == api.IZero || x.Op == api.INotZero
}

// ends tells whether an instruction goes on nowhere.
func ends(x api.Instr) bool {
	return x.Op == api.IRet || x.Op == api.IHalt || x.Op == api.IAbort
}

// name counts an instruction's jump more often, or less.
func (b *body) name(x api.Instr, more int) {
	if jumps(x) {
		b.named[x.A] += more
	}
}

// set lets another instruction stand at a place.
func (b *body) set(at int, x api.Instr) {
	b.name(b.code[at], -1)
	b.name(x, 1)
	b.code[at] = x
}

// drop takes a place out; jumps that name it are to be turned ahead of it.
func (b *body) drop(at int) {
	b.name(b.code[at], -1)
	b.gone[at] = true
	b.next[b.prev[at]] = b.next[at]
	b.prev[b.next[at]] = b.prev[at]
}

// turn lets all jumps that name a place name another one.
func (b *body) turn(from, to int) {
	for at := b.first(); at != b.behind() && b.named[from] > 0; at = b.next[at] {
		if x := b.code[at]; jumps(x) && x.A == from {
			b.set(at, api.Instr{Op: x.Op, A: to})
		}
	}
}

// list is the code that is left.
func (b *body) list() []api.Instr {
	number := numbers(b.gone)
	l := without(b.code, b.gone)
	for at, x := range l {
		if jumps(x) {
			l[at].A = number[x.A]
		}
	}
	return l
}
