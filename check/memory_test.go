package check_test

import (
	"slices"
	"testing"

	"retort/api"
	"retort/check"
)

// roomy has that list with spare room behind it, in which something lies too.
func roomy[T any](l []T, spare T) []T {
	more := append(make([]T, 0, len(l)+3), l...)
	for i := len(l); i < cap(more); i++ {
		more[:cap(more)][i] = spare
	}
	return more
}

// roomyProgram has spare room behind each list.
func roomyProgram(p api.Program) api.Program {
	p.Data = roomy(p.Data, 77)
	p.Funcs = roomy(p.Funcs, api.Func{Args: 5, Code: code(api.IJump, 2)})
	for i, f := range p.Funcs {
		p.Funcs[i].Code = roomy(f.Code, one(api.ICall, 1))
	}
	return p
}

func whole[T any](l []T) []T { return l[:cap(l)] }

// wholeText says a program with all that lies in its lists' spare room.
func wholeText(p api.Program) string {
	p.Data = whole(p.Data)
	p.Funcs = slices.Clone(whole(p.Funcs))
	for i, f := range p.Funcs {
		p.Funcs[i].Code = whole(f.Code)
	}
	return text(p)
}

func spoil[T any](l []T, x T) {
	l = whole(l)
	for i := range l {
		l[i] = x
	}
}

// spoilProgram writes all of a program's lists, their spare room too.
func spoilProgram(p api.Program) {
	for _, f := range whole(p.Funcs) {
		spoil(f.Code, one(-8, -8))
	}
	spoil(p.Funcs, api.Func{Args: -9})
	spoil(p.Data, 200)
}

// listsOf are all lists of numbers that facts have, in their spare room too.
func listsOf(facts api.Facts) [][]int {
	l := [][]int{facts.Tops}
	l = append(l, whole(facts.Heights)...)
	return append(l, whole(facts.Loops)...)
}

// listsApart writes into each list of numbers, its spare room too, which one it is, and looks whether all of it stays.
func listsApart(t *testing.T, facts api.Facts) {
	t.Helper()
	for i, l := range listsOf(facts) {
		spoil(l, 1000+i)
	}
	for i, l := range listsOf(facts) {
		for _, n := range whole(l) {
			is(t, "P2: two lists of what Run tells", n, 1000+i)
		}
	}
	heights, loops := whole(facts.Heights), whole(facts.Loops)
	spoil(heights, []int{1})
	spoil(loops, []int{2})
	for _, l := range heights {
		is(t, "P2: the lists of Heights and Loops", text(l), "[1]")
	}
}

func spoilFacts(facts api.Facts) {
	for _, l := range listsOf(facts) {
		spoil(l, -77)
	}
	spoil(facts.Live, true)
	spoil(facts.Heights, []int{-5})
	spoil(facts.Loops, []int{-6})
}

// programs are right and wrong ones, some with one memory for several functions' codes.
func programs() []api.Program {
	r := seeded(9)
	l := code(api.INum, 1, api.IZero, 0, api.INum, 1, api.IRet, 0)
	shared := of(api.Func{Results: 1, Code: l}, api.Func{Results: 1, Code: l}, api.Func{Locals: 3, Results: 1, Code: l})
	list := []api.Program{{}, {Data: []byte{}, Funcs: []api.Func{}}, single(api.INum, 3, api.IRet, 0), single(api.IJump, 0), shared,
		single(api.IPop, 0), single(api.IJump, 9), of(plain()), of(number(), looping(), function(2, 0, api.IRet, 0)), of(append([]api.Func{number()}, doubling(63)...)...)}
	for range 60 {
		list = append(list, drawnProgram(r), wild(r))
	}
	return list
}

func TestHandedInStays(t *testing.T) {
	for _, p := range programs() {
		p = roomyProgram(p)
		was := wholeText(p)
		check.Run(p)
		is(t, "P2: handed in to Run", wholeText(p), was)
		for f := -1; f < 5; f++ {
			for at := -1; at < 12; at++ {
				check.Next(p, api.Spot{Func: f, At: at})
				check.Takes(p, api.Spot{Func: f, At: at})
			}
		}
		is(t, "P2: handed in to Next and Takes", wholeText(p), was)
	}
}

func TestFactsAreApart(t *testing.T) {
	for _, p := range programs() {
		p = roomyProgram(p)
		was := wholeText(p)
		want, wx := told(p, least)
		said := text(want)
		facts, x := check.Run(p)
		other, _ := check.Run(p)
		third, _ := check.Run(p)
		is(t, "P1302: Run", text(facts), said)
		is(t, "P1302: Run", x, wx)
		listsApart(t, third)
		spoilFacts(third)
		spoilFacts(other)
		is(t, "P2: two answers of Run", text(facts), said)
		is(t, "P2: handed in to Run, when its answer is written", wholeText(p), was)
		again, x2 := check.Run(p)
		is(t, "P3: Run again", text(again), said)
		is(t, "P3: Run again", x2, wx)
		spoilProgram(p)
		is(t, "P2: kept by Run", text(facts), said)
		is(t, "P2: kept by Run", text(again), said)
	}
}

func TestNextIsApart(t *testing.T) {
	for _, p := range programs() {
		p = roomyProgram(p)
		was := wholeText(p)
		for i, f := range p.Funcs {
			for at := range f.Code {
				spot := api.Spot{Func: i, At: at}
				l := check.Next(p, spot)
				want := text(l)
				other := check.Next(p, spot)
				spoil(other, -3)
				is(t, "P2: two answers of Next", text(l), want)
				is(t, "P3: Next again", text(check.Next(p, spot)), want)
			}
		}
		is(t, "P2: handed in to Next, when its answers are written", wholeText(p), was)
	}
	p := single(api.INum, 1, api.IZero, 0, api.INum, 1, api.IRet, 0)
	l := check.Next(p, api.Spot{At: 1})
	spoilProgram(p)
	is(t, "P2: kept by Next", text(l), "[0 2]")
}

// The same memory with something else in it is another program.
func TestSameMemory(t *testing.T) {
	r := seeded(10)
	p := of(first(many(one(api.INop, 0), 6)), function(1, 1, many(one(api.INop, 0), 5)), plain())
	for range 6000 {
		q := wild(r)
		if r.IntN(2) == 0 {
			q = drawnProgram(r)
		}
		n := min(len(q.Funcs), 3)
		for i, f := range q.Funcs[:n] {
			l := p.Funcs[i].Code
			k := copy(l[:cap(l)], f.Code)
			f.Code = l[:k]
			p.Funcs[i] = f
		}
		part := api.Program{Memory: 8, Funcs: p.Funcs[:n]}
		run(t, part)
		asked(t, part)
		f := &p.Funcs[r.IntN(n)]
		f.Code[r.IntN(len(f.Code))] = anyInstr(r)
		run(t, part)
		asked(t, part)
	}
}

// What was told stays when the program is changed afterwards, and the other way round.
func TestChangedAfterwards(t *testing.T) {
	p := of(first(api.INum, 5, api.ICall, 1, api.IRet, 0), function(1, 1, api.IGet, 0, api.IRet, 0))
	facts, _ := check.Run(p)
	p.Funcs[0].Code[1] = one(api.IPop, 0)
	_, x := check.Run(p)
	is(t, "P3: Run of what is there now", x, fault(api.ErrRet, 0, 2))
	is(t, "P2: kept by Run", text(facts), "{[[0 1 1] [0 1]] [1 1] [[] []] [true true] 4 5}")
	facts.Heights[0][0], facts.Live[1], facts.Tops[0] = 9, false, 9
	p.Funcs[0].Code[1] = one(api.ICall, 1)
	again, _ := check.Run(p)
	is(t, "P3: Run of what was there", text(again), "{[[0 1 1] [0 1]] [1 1] [[] []] [true true] 4 5}")
}

// Behind a call that met a fault the next one answers as if there had been none.
func TestFaultsLeaveNothing(t *testing.T) {
	p := single(api.INum, 3, api.INum, 4, api.ISub, 0, api.IRet, 0)
	for _, wrong := range []api.Program{{}, of(plain()), single(api.IJump, 9), single(api.IGet, 9), single(api.ICall, 9), single(api.IPop, 0), single(api.IRet, 0),
		single(deep(257)), single(api.INop, 0), single(api.INum, 1, api.IJump, 0), of(number(), function(0, 0, api.IPop, 0))} {
		facts, x := check.Run(wrong)
		if x.Err == api.OK || text(facts) != text(api.Facts{}) {
			t.Errorf("P4: Run of %s: %s, %v", brief(wrong), brief(facts), x)
		}
		found(t, "behind a fault", p, "{[[0 1 2 1]] [2] [[]] [true] 3 4}")
	}
}

// Facts have an element for each function, whatever there is of it.
func TestListsOfFacts(t *testing.T) {
	for n := 1; n <= 64; n++ {
		p := of(number())
		for len(p.Funcs) < n {
			p.Funcs = append(p.Funcs, plain())
		}
		facts := taken(t, "so many functions", p)
		is(t, "P1304: lists", [4]int{len(facts.Heights), len(facts.Tops), len(facts.Loops), len(facts.Live)}, [4]int{n, n, n, n})
		for i, f := range p.Funcs {
			is(t, "P1304: Heights of a function", len(facts.Heights[i]), len(f.Code))
		}
	}
}

func TestNoneAndEmpty(t *testing.T) {
	p := single(api.INum, 3, api.IRet, 0)
	p.Data = []byte{}
	found(t, "no Data", p, "{[[0 1]] [1] [[]] [true] 2 2}")
	p.Data = nil
	found(t, "no Data", p, "{[[0 1]] [1] [[]] [true] 2 2}")
	for _, l := range [][]api.Instr{nil, {}, make([]api.Instr, 0, 4)} {
		refused(t, "no code", of(api.Func{Results: 1, Code: l}), api.ErrProg, 0, 0)
		refused(t, "no code", of(number(), api.Func{Code: l}), api.ErrProg, 0, 0)
	}
	for _, l := range [][]api.Func{nil, {}, make([]api.Func, 0, 4)} {
		refused(t, "no functions", api.Program{Funcs: l}, api.ErrProg, 0, 0)
	}
}
