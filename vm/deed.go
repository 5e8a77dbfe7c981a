package vm

import (
	"retort/api"
	"retort/cell"
	"retort/op"
)

// deed does one instruction of a machine that has fuel for it. It tells how the run ends by it, and has done nothing then.
type deed func(m *Machine, x api.Instr) ending

// deeds are what the instructions do, by their numbers.
func deeds() []deed {
	l := []deed{
		api.INop:     doNop,
		api.IHalt:    doHalt,
		api.IAbort:   doAbort,
		api.INum:     doNum,
		api.IPop:     doPop,
		api.ICopy:    doCopy,
		api.ISwap:    doSwap,
		api.IGet:     doGet,
		api.ISet:     doSet,
		api.ILoad:    doLoad,
		api.IStore:   doStore,
		api.ILoad8:   doLoad8,
		api.IStore8:  doStore8,
		api.ISize:    doSize,
		api.IJump:    doJump,
		api.IZero:    doZero,
		api.INotZero: doNotZero,
		api.ICall:    doCall,
		api.IRet:     doRet,
		api.ISys:     doSys,
	}
	for n := len(l); n < api.ICount; n++ {
		if cell.Has1(n) {
			l = append(l, doOne)
		} else {
			l = append(l, doTwo)
		}
	}
	return l
}

// top is the operand that lies so many below the one that was given last.
func (m *Machine) top(below int) int { return m.cells[len(m.cells)-1-below] }

// take is the end of an instruction that takes n operands, and gives none.
func (m *Machine) take(n int) ending { return m.jump(n, m.now().at+1) }

// jump is the end of one that takes n operands, and goes on at a place.
func (m *Machine) jump(n, to int) ending {
	m.cells = m.cells[:len(m.cells)-n]
	m.now().at = to
	return ending{}
}

// give is the end of one that takes n operands, and gives one.
func (m *Machine) give(n, w int) ending {
	if m.tooMany(1 - n) {
		return trapped(api.TStack)
	}
	m.cells = append(m.cells[:len(m.cells)-n], w)
	m.now().at++
	return ending{}
}

// tooMany tells whether so many cells more would be more than may be taken.
func (m *Machine) tooMany(more int) bool { return more > m.stack-m.Taken() }

// enter calls a function: the operands that were given last are its arguments.
func (m *Machine) enter(f int) ending {
	args, locals := m.funcs[f].Args, m.funcs[f].Locals
	if m.tooMany(1 + locals - args) {
		return trapped(api.TStack)
	}
	m.calls = append(m.calls, call{f: f, base: len(m.cells) - args})
	m.cells = append(m.cells, make([]int, locals-args)...)
	return ending{}
}

func doNop(m *Machine, x api.Instr) ending { return m.take(0) }

func doHalt(m *Machine, x api.Instr) ending { return halted(m.top(0)) }

func doAbort(m *Machine, x api.Instr) ending { return aborted(m.top(0)) }

func doNum(m *Machine, x api.Instr) ending { return m.give(0, x.A) }

func doPop(m *Machine, x api.Instr) ending { return m.take(1) }

func doCopy(m *Machine, x api.Instr) ending { return m.give(0, m.top(x.A)) }

func doSwap(m *Machine, x api.Instr) ending {
	_, l := m.present()
	a, b := len(l)-1, len(l)-2
	l[a], l[b] = l[b], l[a]
	return m.take(0)
}

func doGet(m *Machine, x api.Instr) ending {
	l, _ := m.present()
	return m.give(0, l[x.A])
}

func doSet(m *Machine, x api.Instr) ending {
	l, _ := m.present()
	l[x.A] = m.top(0)
	return m.take(1)
}

// wordBytes is how many bytes a word has.
const wordBytes = 8

func doLoad(m *Machine, x api.Instr) ending {
	at := m.top(0)
	if !holds(m.memory, at, wordBytes) {
		return trapped(api.TBounds)
	}
	w := 0
	for _, b := range m.memory[at : at+wordBytes] {
		w = w<<8 | int(b)
	}
	return m.give(1, w)
}

func doStore(m *Machine, x api.Instr) ending {
	w, at := m.top(0), m.top(1)
	if !holds(m.memory, at, wordBytes) {
		return trapped(api.TBounds)
	}
	for i := range wordBytes {
		m.memory[at+wordBytes-1-i] = byte(w >> (8 * i))
	}
	return m.take(2)
}

func doLoad8(m *Machine, x api.Instr) ending {
	at := m.top(0)
	if !holds(m.memory, at, 1) {
		return trapped(api.TBounds)
	}
	return m.give(1, int(m.memory[at]))
}

func doStore8(m *Machine, x api.Instr) ending {
	w, at := m.top(0), m.top(1)
	if !holds(m.memory, at, 1) {
		return trapped(api.TBounds)
	}
	m.memory[at] = byte(w)
	return m.take(2)
}

func doSize(m *Machine, x api.Instr) ending { return m.give(0, len(m.memory)) }

func doJump(m *Machine, x api.Instr) ending { return m.jump(0, x.A) }

func doZero(m *Machine, x api.Instr) ending { return m.branch(m.top(0) == 0, x.A) }

func doNotZero(m *Machine, x api.Instr) ending { return m.branch(m.top(0) != 0, x.A) }

// branch is the end of an instruction that takes one operand, and goes on at a place, or at the next one.
func (m *Machine) branch(is bool, to int) ending {
	if is {
		return m.jump(1, to)
	}
	return m.take(1)
}

// doCall leaves the caller at its place, which is told while it waits.
func doCall(m *Machine, x api.Instr) ending { return m.enter(x.A) }

func doRet(m *Machine, x api.Instr) ending {
	if len(m.calls) == 1 {
		return halted(m.top(0))
	}
	_, results := m.present() // check lets no others lie there
	m.cells = append(m.cells[:m.now().base], results...)
	m.calls = m.calls[:len(m.calls)-1]
	return m.take(0)
}

func doSys(m *Machine, x api.Instr) ending {
	s, _ := op.Sys(x.A)
	args := m.cells[len(m.cells)-s.Takes:]
	d := desk{files: m.files, memory: m.memory, most: m.fuel - m.used - 1}
	touch, moved, t := d.ask(x.A, args)
	if t != api.TNone {
		return trapped(t)
	}
	m.touched = append(m.touched, touch)
	m.used += moved
	return m.give(s.Takes, touch.Answer) // never one cell more than it took, so it is done
}

func doOne(m *Machine, x api.Instr) ending {
	w, t := cell.One(x.Op, m.top(0))
	if t != api.TNone {
		return trapped(t)
	}
	return m.give(1, w)
}

func doTwo(m *Machine, x api.Instr) ending {
	w, t := cell.Two(x.Op, m.top(1), m.top(0))
	if t != api.TNone {
		return trapped(t)
	}
	return m.give(2, w)
}
