package comp

import "retort/api"

// loop is one in whose block the writer is.
type loop struct {
	begin int
	ends  []func() // of the jumps behind it
}

// writer goes over a right function's parts from the left.
type writer struct {
	parts []api.Part
	next  int
	ends  []int   // of the texts
	loops []*loop // the innermost last
	out   sheet
}

// write writes the code of a right function.
func write(parts []api.Part, ends []int, out sheet) {
	w := &writer{parts: parts, ends: ends, out: out}
	w.part()
	w.put(0, api.INum, 0)
	w.put(0, api.IRet, 0)
}

func (w *writer) put(part, op, a int) { w.out.put(part, api.Instr{Op: op, A: a}) }

// part writes the next part with all of its own.
func (w *writer) part() {
	at := w.next
	w.next++
	x := w.parts[at]
	switch x.Kind {
	case api.PIf:
		w.choice(at, x.Kids)
	case api.PWhile:
		w.while(at)
	case api.PBreak:
		l := w.loopOut(x.N)
		l.ends = append(l.ends, w.out.leap(at, api.IJump))
	case api.PContinue:
		w.put(at, api.IJump, w.loopOut(x.N).begin)
	case api.PAnd:
		w.short(at, api.IZero, 0)
	case api.POr:
		w.short(at, api.INotZero, 1)
	default:
		for range x.Kids {
			w.part()
		}
		w.behind(at, x)
	}
}

func (w *writer) choice(at, kids int) {
	w.part()
	end := w.out.leap(at, api.IZero)
	w.part()
	if kids == 3 {
		other := end
		end = w.out.leap(at, api.IJump)
		other()
		w.part()
	}
	end()
}

func (w *writer) while(at int) {
	l := &loop{begin: w.out.place()}
	w.part()
	l.ends = append(l.ends, w.out.leap(at, api.IZero))
	w.loops = append(w.loops, l)
	w.part()
	w.loops = w.loops[:len(w.loops)-1]
	w.put(at, api.IJump, l.begin)
	for _, end := range l.ends {
		end()
	}
}

// loopOut is the loop that stands n further out than the innermost one.
func (w *writer) loopOut(n int) *loop { return w.loops[len(w.loops)-1-n] }

// short writes two of which the second one is left out, if the first one says all: that is then the word.
func (w *writer) short(at, jump, word int) {
	w.part()
	known := w.out.leap(at, jump)
	w.part()
	w.isZero(at)
	w.isZero(at)
	end := w.out.leap(at, api.IJump)
	known()
	w.put(at, api.INum, word)
	end()
}

func (w *writer) isZero(at int) {
	w.put(at, api.INum, 0)
	w.put(at, api.IEq, 0)
}

// behind writes what stands behind the code of a part's kids.
func (w *writer) behind(at int, x api.Part) {
	switch x.Kind {
	case api.PBlock:
	case api.PNot:
		w.isZero(at)
	case api.PTurn:
		w.put(at, api.ISwap, 0)
		w.put(at, x.N, 0)
	case api.POne, api.PTwo:
		w.put(at, x.N, 0)
	case api.PAt:
		w.put(at, api.INum, w.ends[x.N])
	case api.PLen:
		w.put(at, api.INum, w.ends[x.N+1]-w.ends[x.N])
	default:
		w.put(at, opOf(x.Kind), x.N)
	}
}

// opOf tells the one instruction of a part, whose operand is the part's number.
func opOf(kind int) int {
	switch kind {
	case api.PSet:
		return api.ISet
	case api.PPut:
		return api.IStore
	case api.PPut8:
		return api.IStore8
	case api.PReturn:
		return api.IRet
	case api.PDo:
		return api.IPop
	case api.PAbort:
		return api.IAbort
	case api.PNum:
		return api.INum
	case api.PVar:
		return api.IGet
	case api.PSize:
		return api.ISize
	case api.PLoad:
		return api.ILoad
	case api.PLoad8:
		return api.ILoad8
	case api.PCall:
		return api.ICall
	}
	return api.ISys
}
