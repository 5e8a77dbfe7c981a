package opt

import (
	"slices"

	"retort/api"
	"retort/cell"
)

// kind is a row of the table.
type kind struct {
	what    int
	ops     [][]int // which instructions may stand at each of its places
	turns   bool    // where it is done, something may be dead, or no target any more, that lies far away
	instead func(s sight) ([]api.Instr, bool)
}

// sight is a row of instructions as a kind sees it.
type sight struct {
	in   []api.Instr
	next int // the place behind it
	code []api.Instr
}

// nothing stands instead of what fits.
func nothing(fits bool) ([]api.Instr, bool) { return nil, fits }

// one stands instead of what fits.
func one(fits bool, op, a int) ([]api.Instr, bool) {
	if !fits {
		return nil, false
	}
	return []api.Instr{{Op: op, A: a}}, true
}

// word stands instead of what makes it without a trap.
func word(w int, t api.Trap) ([]api.Instr, bool) { return one(t == api.TNone, api.INum, w) }

// jump stands instead of a branch that is taken always; of one that is never taken nothing does.
func jump(taken bool, to int) ([]api.Instr, bool) {
	if taken {
		return one(true, api.IJump, to)
	}
	return nothing(true)
}

// always fits, whatever the operands are.
func always(s sight) ([]api.Instr, bool) { return nothing(true) }

// alike fits if the first two instructions have the same operand.
func (s sight) alike() bool { return s.in[0].A == s.in[1].A }

// kinds is the table, its rows in their order.
func kinds() []kind { return slices.Concat(waysOn(), folds(), drops()) }

// waysOn are the rows 1 to 6.
func waysOn() []kind {
	return []kind{
		{what: LNop, ops: [][]int{{api.INop}}, instead: always},
		{what: LNop, ops: [][]int{{api.IJump}}, instead: func(s sight) ([]api.Instr, bool) {
			return nothing(s.in[0].A == s.next)
		}},
		{what: LNop, ops: [][]int{{api.IZero, api.INotZero}}, instead: func(s sight) ([]api.Instr, bool) {
			return one(s.in[0].A == s.next, api.IPop, 0)
		}},
		{what: LThread, turns: true, ops: [][]int{{api.IJump}}, instead: func(s sight) ([]api.Instr, bool) {
			last := s.code[s.in[0].A]
			return one(ends(last), last.Op, last.A)
		}},
		{what: LFold, turns: true, ops: [][]int{{api.INum}, {api.IZero}}, instead: func(s sight) ([]api.Instr, bool) {
			return jump(s.in[0].A == 0, s.in[1].A)
		}},
		{what: LFold, turns: true, ops: [][]int{{api.INum}, {api.INotZero}}, instead: func(s sight) ([]api.Instr, bool) {
			return jump(s.in[0].A != 0, s.in[1].A)
		}},
	}
}

// having are the instructions of which something is so.
func having(is func(op int) bool) []int {
	var l []int
	for op := range api.ICount {
		if is(op) {
			l = append(l, op)
		}
	}
	return l
}

// folds are the rows 7 to 12.
func folds() []kind {
	ones, twos := having(cell.Has1), having(cell.Has2)
	return []kind{
		{what: LFold, ops: [][]int{{api.INum}, ones}, instead: func(s sight) ([]api.Instr, bool) {
			return word(cell.One(s.in[1].Op, s.in[0].A))
		}},
		{what: LFold, ops: [][]int{{api.INum}, {api.INum}, twos}, instead: func(s sight) ([]api.Instr, bool) {
			return word(cell.Two(s.in[2].Op, s.in[0].A, s.in[1].A))
		}},
		{what: LFold, ops: [][]int{{api.INum}, {api.IEq}, {api.IZero}}, instead: func(s sight) ([]api.Instr, bool) {
			return one(s.in[0].A == 0, api.INotZero, s.in[2].A)
		}},
		{what: LFold, ops: [][]int{{api.INum}, {api.IEq}, {api.INotZero}}, instead: func(s sight) ([]api.Instr, bool) {
			return one(s.in[0].A == 0, api.IZero, s.in[2].A)
		}},
		{what: LFold, ops: [][]int{{api.INum}, {api.IAdd, api.ISub, api.IOr, api.IXor, api.IShl, api.IShr, api.IUshr}}, instead: func(s sight) ([]api.Instr, bool) {
			return nothing(s.in[0].A == 0)
		}},
		{what: LFold, ops: [][]int{{api.INum}, {api.IMul, api.IDiv}}, instead: func(s sight) ([]api.Instr, bool) {
			return nothing(s.in[0].A == 1)
		}},
	}
}

// drops are the rows 13 to 18.
func drops() []kind {
	same := func(s sight) ([]api.Instr, bool) { return nothing(s.alike()) }
	return []kind{
		{what: LDrop, ops: [][]int{{api.INum, api.IGet, api.ICopy, api.ISize}, {api.IPop}}, instead: always},
		{what: LDrop, ops: [][]int{{api.ISwap}, {api.ISwap}}, instead: always},
		{what: LDrop, ops: [][]int{{api.IGet}, {api.ISet}}, instead: same},
		{what: LDrop, ops: [][]int{{api.INeg}, {api.INeg}}, instead: always},
		{what: LDrop, ops: [][]int{{api.INot}, {api.INot}}, instead: always},
		{what: LDrop, ops: [][]int{{api.ICopy}, {api.ISwap}}, instead: func(s sight) ([]api.Instr, bool) {
			return one(s.in[0].A == 0, api.ICopy, 0)
		}},
		{what: LDrop, ops: [][]int{{api.ISet}, {api.IGet}, {api.IRet}}, instead: func(s sight) ([]api.Instr, bool) {
			return one(s.alike(), api.IRet, 0)
		}},
	}
}

// kindsByBeginning tells of each instruction the kinds that may begin with it, so that at a place few are to be looked at.
func kindsByBeginning() [][]kind {
	l := make([][]kind, api.ICount)
	for _, k := range kinds() {
		for _, op := range k.ops[0] {
			l[op] = append(l[op], k)
		}
	}
	return l
}
