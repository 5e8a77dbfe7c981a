package comp_test

import (
	"fmt"
	"math"
	"math/rand/v2"
	"slices"
	"strings"

	"retort/api"
	"retort/cell"
	"retort/op"
)

// drawer draws a right unit.
type drawer struct {
	*rand.Rand
	u     api.Unit
	f     int // which function
	parts []api.Part
	room  int // how many parts there may be more
	loops int
	tame  bool // functions call those behind them alone
}

var drawnData = []string{"", "a", "d/x", "new", "d", "\x00\xff", "q/r", "zz"}

// drawn is a unit that Check takes.
func drawn(r *rand.Rand) api.Unit {
	d := &drawer{Rand: r, tame: r.IntN(5) > 0}
	for i := range r.IntN(4) {
		d.u.Texts = append(d.u.Texts, api.Text{Name: fmt.Sprint("t", i), Data: []byte(drawnData[r.IntN(len(drawnData))])})
	}
	for i := range 1 + r.IntN(4) {
		f := api.Fn{Name: fmt.Sprint("f", i)}
		for j := range r.IntN(5) {
			f.Locals = append(f.Locals, fmt.Sprint("l", j))
		}
		if i > 0 {
			f.Args = r.IntN(len(f.Locals) + 1)
		}
		d.u.Funcs = append(d.u.Funcs, f)
	}
	for i := range d.u.Funcs {
		d.f, d.parts, d.room, d.loops = i, nil, 2+r.IntN(70), 0
		d.block()
		d.u.Funcs[i].Parts = d.parts
	}
	return d.u
}

func (d *drawer) locals() int { return len(d.u.Funcs[d.f].Locals) }

// put lays a part down, and lets its kids be drawn behind it.
func (d *drawer) put(kind, n int, kids ...func()) {
	d.parts = append(d.parts, part(kind, n, len(kids)))
	for _, kid := range kids {
		kid()
	}
}

func (d *drawer) fixed(n int) func() { return func() { d.put(api.PNum, n) } }

func (d *drawer) block() {
	at := len(d.parts)
	d.put(api.PBlock, 0)
	for d.room > 0 && d.IntN(7) > 0 {
		d.doing()
		d.parts[at].Kids++
	}
}

func (d *drawer) looped() {
	d.loops++
	d.block()
	d.loops--
}

func (d *drawer) doing() {
	d.room--
	switch kind := []int{api.PBlock, api.PSet, api.PSet, api.PPut, api.PPut8, api.PIf, api.PIf, api.PWhile, api.PWhile, api.PBreak, api.PContinue, api.PReturn, api.PDo, api.PDo, api.PAbort}[d.IntN(15)]; kind {
	case api.PBlock:
		d.block()
	case api.PSet:
		d.set()
	case api.PPut, api.PPut8:
		d.put(kind, 0, d.address, d.word)
	case api.PIf:
		d.choice()
	case api.PWhile:
		d.while()
	case api.PBreak, api.PContinue:
		if d.loops == 0 {
			d.set()
			return
		}
		d.put(kind, d.IntN(d.loops))
	default:
		if d.IntN(5) > 0 { // what ends all shall be rare
			kind = api.PDo
		}
		d.put(kind, 0, d.word)
	}
}

func (d *drawer) set() {
	if d.locals() == 0 {
		d.put(api.PDo, 0, d.word)
		return
	}
	d.put(api.PSet, d.IntN(d.locals()), d.word)
}

func (d *drawer) choice() {
	if d.IntN(2) == 0 {
		d.put(api.PIf, 0, d.word, d.block)
		return
	}
	d.put(api.PIf, 0, d.word, d.block, d.block)
}

// while is often one that counts: the local goes up in the condition's stead at its block's beginning.
func (d *drawer) while() {
	if d.locals() == 0 || d.IntN(5) == 0 {
		d.put(api.PWhile, 0, d.word, d.looped)
		return
	}
	i := d.IntN(d.locals())
	count := func() { d.put(api.PVar, i) }
	less := func() { d.put(api.PTwo, api.ILt, count, d.fixed(d.IntN(6))) }
	up := func() {
		d.put(api.PSet, i, func() { d.put(api.PTwo, api.IAdd, count, d.fixed(1)) })
	}
	d.put(api.PWhile, 0, less, func() { d.put(api.PBlock, 0, up, d.looped) })
}

// address is often one that there is.
func (d *drawer) address() {
	if d.IntN(12) > 0 {
		d.put(api.PNum, d.IntN(14))
		return
	}
	d.word()
}

var drawnNumbers = []int{0, 1, 2, 3, 7, 8, 63, 64, 255, 256, -1, -2, math.MaxInt, math.MinInt, 1 << 62, 4607182418800017408, 9221120237041090560, -5}

func (d *drawer) number() {
	if d.IntN(4) == 0 {
		d.put(api.PNum, drawnNumbers[d.IntN(len(drawnNumbers))])
		return
	}
	d.put(api.PNum, d.IntN(4))
}

// words are as many as are wanted.
func (d *drawer) words(n int) []func() { return slices.Repeat([]func(){d.word}, n) }

func (d *drawer) word() {
	d.room--
	kind := api.PNum + d.IntN(api.PCount-api.PNum)
	if d.room < 0 {
		kind = api.PNum + d.IntN(api.PSize-api.PNum+1)
	}
	switch kind {
	case api.PVar:
		if d.locals() == 0 {
			d.number()
			return
		}
		d.put(kind, d.IntN(d.locals()))
	case api.PAt, api.PLen:
		if len(d.u.Texts) == 0 {
			d.number()
			return
		}
		d.put(kind, d.IntN(len(d.u.Texts)))
	case api.PSize:
		d.put(kind, 0)
	case api.PLoad, api.PLoad8:
		d.put(kind, 0, d.address)
	case api.POne:
		d.put(kind, d.opOf(cell.Has1), d.word)
	case api.PTwo:
		d.two()
	case api.PTurn:
		d.put(kind, []int{api.ILt, api.IUlt, api.IFlt}[d.IntN(3)], d.words(2)...)
	case api.PNot:
		d.put(kind, 0, d.word)
	case api.PAnd, api.POr:
		d.put(kind, 0, d.words(2)...)
	case api.PCall:
		d.call()
	case api.PSys:
		d.files()
	default:
		d.number()
	}
}

func (d *drawer) opOf(has func(int) bool) int {
	for {
		if n := d.IntN(api.ICount); has(n) {
			return n
		}
	}
}

// two seldom traps.
func (d *drawer) two() {
	n := d.opOf(cell.Has2)
	if (n == api.IDiv || n == api.IRem) && d.IntN(3) > 0 {
		d.put(api.PTwo, n, d.word, d.fixed(1+d.IntN(5)))
		return
	}
	d.put(api.PTwo, n, d.words(2)...)
}

func (d *drawer) call() {
	n := d.IntN(len(d.u.Funcs))
	if d.tame {
		n = d.f + 1 + d.IntN(3)
	}
	if n >= len(d.u.Funcs) {
		d.number()
		return
	}
	d.put(api.PCall, n, d.words(d.u.Funcs[n].Args)...)
}

// files is a call of files, often with a path that there is.
func (d *drawer) files() {
	n := d.IntN(api.SCount)
	if len(d.u.Texts) == 0 {
		n = api.SClose
	}
	s, _ := op.Sys(n)
	if d.IntN(15) == 0 || len(d.u.Texts) == 0 {
		d.put(api.PSys, n, d.words(s.Takes)...)
		return
	}
	i := d.IntN(len(d.u.Texts))
	at := func() { d.put(api.PAt, i) }
	long := func() { d.put(api.PLen, i) }
	handle := d.fixed(d.IntN(3))
	switch n {
	case api.SOpen:
		d.put(api.PSys, n, at, long, d.fixed([]int{0, 1, 2, 3, 5, 6, 7}[d.IntN(7)]))
	case api.SRead, api.SWrite:
		d.put(api.PSys, n, handle, d.fixed(d.IntN(18)), d.fixed(d.IntN(6)))
	case api.SList:
		d.put(api.PSys, n, at, long, d.fixed(d.IntN(12)), d.fixed(d.IntN(12)))
	default:
		d.put(api.PSys, n, handle)
	}
}

// bent is a unit with some numbers, names, parts of it another way.
func bent(r *rand.Rand, u api.Unit) api.Unit {
	u = twin(u)
	odd := []int{-1, 0, 1, 2, 3, 4, 5, 16, 17, 64, math.MinInt, math.MaxInt, len(u.Funcs), len(u.Texts)}
	number := func() int { return odd[r.IntN(len(odd))] }
	f := &u.Funcs[r.IntN(len(u.Funcs))]
	i := r.IntN(len(f.Parts))
	switch r.IntN(9) {
	case 0:
		f.Args = number()
	case 1:
		f.Name = []string{"", "f0", "if", "1a", strings.Repeat("n", 65)}[r.IntN(5)]
	case 2:
		u.Texts = append(u.Texts, api.Text{Name: []string{"t0", "t9", "+"}[r.IntN(3)], Data: []byte("x")})
	case 3:
		f.Parts = f.Parts[:i]
	case 4:
		f.Parts = slices.Insert(f.Parts, i, part(r.IntN(29)-1, number(), r.IntN(3)))
	case 5:
		f.Parts[i].Kind = r.IntN(30) - 1
	case 6:
		f.Parts[i].N = number()
	case 7:
		f.Parts[i].Kids = number()
	case 8:
		f.Parts = slices.Delete(f.Parts, i, i+1)
	}
	return u
}

// twin is a unit apart.
func twin(u api.Unit) api.Unit {
	u.Texts, u.Funcs = slices.Clone(u.Texts), slices.Clone(u.Funcs)
	for i, t := range u.Texts {
		u.Texts[i].Data = slices.Clone(t.Data)
	}
	for i, f := range u.Funcs {
		u.Funcs[i].Locals = slices.Clone(f.Locals)
		u.Funcs[i].Parts = slices.Clone(f.Parts)
	}
	return u
}
