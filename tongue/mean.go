package tongue

import (
	"math"

	"retort/api"
	"retort/cell"
	"retort/vfs"
	"retort/vm"
)

// function is one that may be called.
type function struct {
	locals int
	body   *block
}

// run is a unit that is done.
type run struct {
	starts []int // of each text its address
	longs  []int // and how many bytes it has
	funcs  []function
	files  *vfs.FS
	memory []byte
	most   int // steps
	steps  int
	moved  int
	calls  int   // under way
	locals []int // of the present call
	end    api.Outcome
}

func runOf(u api.Unit, f *vfs.FS, memory, most int) *run {
	r := &run{files: f, memory: make([]byte, memory), most: most}
	at := 0
	for _, t := range u.Texts {
		copy(r.memory[at:], t.Data)
		r.starts = append(r.starts, at)
		r.longs = append(r.longs, len(t.Data))
		at += len(t.Data)
	}
	for _, f := range u.Funcs {
		r.funcs = append(r.funcs, function{len(f.Locals), grown(f)})
	}
	return r
}

// way is how a doing leaves off.
type way struct {
	kind, n int
}

const (
	goOn        = iota
	leaveLoop   // the one that stands n further out
	nextRound   // likewise
	endCall     // n is returned
	nothingMore // the run is over
)

// over is the way of a doing in whose midst the run has ended.
func over() way { return way{kind: nothingMore} }

// begins tells whether a part may begin: a step is done by it.
func (r *run) begins() bool {
	if r.steps >= r.most {
		return false
	}
	r.steps++
	return true
}

// do and reckon are how parts begin others.
func (r *run) do(d doing) way {
	if !r.begins() {
		return over()
	}
	return d.do(r)
}

func (r *run) reckon(p reckoned) (int, bool) {
	if !r.begins() {
		return 0, false
	}
	return p.reckon(r)
}

// both reckons two, the left one first.
func (r *run) both(left, right reckoned) (a, b int, on bool) {
	if a, on = r.reckon(left); on {
		b, on = r.reckon(right)
	}
	return a, b, on
}

func (r *run) all(l []reckoned) ([]int, bool) {
	words := make([]int, len(l))
	for i, p := range l {
		w, on := r.reckon(p)
		if !on {
			return nil, false
		}
		words[i] = w
	}
	return words, true
}

// word is the end of a part that is reckoned: a trap ends the run.
func (r *run) word(w int, t api.Trap) (int, bool) {
	if t != api.TNone {
		r.end = api.Outcome{End: api.ETrap, Trap: t}
		return 0, false
	}
	return w, true
}

// call does a function.
func (r *run) call(f int, args []int) (int, bool) {
	if r.calls == api.MaxDeep {
		return r.word(0, api.TStack)
	}
	outer := r.locals
	r.locals = make([]int, r.funcs[f].locals)
	copy(r.locals, args)
	r.calls++
	w := r.do(r.funcs[f].body)
	r.calls--
	r.locals = outer
	return w.n, w.kind != nothingMore // of a block that comes to its end n is 0
}

// holds tells whether there are n bytes from an address on. (The address may be any: nothing is added to it.)
func (r *run) holds(at, n int) bool { return at >= 0 && at <= len(r.memory)-n }

func (b *block) do(r *run) way {
	for _, d := range b.doings {
		if w := r.do(d); w.kind != goOn {
			return w
		}
	}
	return way{}
}

func (s set) do(r *run) way {
	w, on := r.reckon(s.value)
	if !on {
		return over()
	}
	r.locals[s.local] = w
	return way{}
}

func (p put) do(r *run) way {
	at, w, on := r.both(p.at, p.value)
	if !on {
		return over()
	}
	if !r.holds(at, p.bytes) {
		r.word(0, api.TBounds)
		return over()
	}
	for i := range p.bytes {
		r.memory[at+p.bytes-1-i] = byte(w >> (8 * i))
	}
	return way{}
}

func (c choice) do(r *run) way {
	w, on := r.reckon(c.is)
	switch {
	case !on:
		return over()
	case w != 0:
		return r.do(c.blocks[0])
	case len(c.blocks) > 1:
		return r.do(c.blocks[1])
	}
	return way{}
}

func (l loop) do(r *run) way {
	for {
		is, on := r.reckon(l.is)
		switch {
		case !on:
			return over()
		case is == 0:
			return way{}
		}
		w := r.do(l.body)
		switch {
		case w.kind == endCall || w.kind == nothingMore:
			return w
		case w.kind != goOn && w.n > 0:
			return way{w.kind, w.n - 1}
		case w.kind == leaveLoop:
			return way{}
		}
	}
}

func (l leave) do(r *run) way {
	if l.again {
		return way{nextRound, l.loops}
	}
	return way{leaveLoop, l.loops}
}

func (g giveBack) do(r *run) way {
	w, on := r.reckon(g.value)
	if !on {
		return over()
	}
	return way{endCall, w}
}

func (d drop) do(r *run) way {
	if _, on := r.reckon(d.value); !on {
		return over()
	}
	return way{}
}

func (a abort) do(r *run) way {
	if w, on := r.reckon(a.code); on {
		r.end = api.Outcome{End: api.ETrap, Trap: api.TAbort, Code: w}
	}
	return over()
}

func (n num) reckon(r *run) (int, bool) { return n.n, true }

func (l local) reckon(r *run) (int, bool) { return r.locals[l.n], true }

func (t textAt) reckon(r *run) (int, bool) { return r.starts[t.n], true }

func (t textLong) reckon(r *run) (int, bool) { return r.longs[t.n], true }

func (size) reckon(r *run) (int, bool) { return len(r.memory), true }

func (l load) reckon(r *run) (int, bool) {
	at, on := r.reckon(l.at)
	if !on {
		return 0, false
	}
	if !r.holds(at, l.bytes) {
		return r.word(0, api.TBounds)
	}
	w := 0
	for _, b := range r.memory[at : at+l.bytes] {
		w = w<<8 | int(b)
	}
	return w, true
}

func (o one) reckon(r *run) (int, bool) {
	w, on := r.reckon(o.of)
	if !on {
		return 0, false
	}
	return r.word(cell.One(o.op, w))
}

func (t two) reckon(r *run) (int, bool) {
	a, b, on := r.both(t.left, t.right)
	if !on {
		return 0, false
	}
	return r.word(cell.Two(t.op, a, b))
}

func (t turn) reckon(r *run) (int, bool) {
	a, b, on := r.both(t.left, t.right)
	if !on {
		return 0, false
	}
	return r.word(cell.Two(t.op, b, a))
}

func oneIf(is bool) int {
	if is {
		return 1
	}
	return 0
}

func (n not) reckon(r *run) (int, bool) {
	w, on := r.reckon(n.of)
	return oneIf(on && w == 0), on
}

func (a and) reckon(r *run) (int, bool) {
	w, on := r.reckon(a.left)
	if on && w != 0 {
		w, on = r.reckon(a.right)
	}
	return oneIf(on && w != 0), on
}

func (o or) reckon(r *run) (int, bool) {
	w, on := r.reckon(o.left)
	if on && w == 0 {
		w, on = r.reckon(o.right)
	}
	return oneIf(on && w != 0), on
}

func (c call) reckon(r *run) (int, bool) {
	args, on := r.all(c.args)
	if !on {
		return 0, false
	}
	return r.call(c.f, args)
}

func (s sys) reckon(r *run) (int, bool) {
	args, on := r.all(s.args)
	if !on {
		return 0, false
	}
	answer, moved, t := vm.Call(r.files, r.memory, s.call, args, math.MaxInt)
	r.moved += moved
	return r.word(answer, t)
}
