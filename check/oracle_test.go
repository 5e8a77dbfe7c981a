package check_test

import (
	"fmt"
	"math/big"
	"math/rand/v2"
	"slices"
	"testing"

	"retort/api"
	"retort/check"
	"retort/prog"
)

// The chapter said once more, in another way: operands by a table of its own, places that wait as a plain list, loops by trying each place, cost in big numbers.

// table has how many operands each instruction takes and gives; -: it hangs on the operand.
const table = "00 10 10 01 10 01 22 01 10 11 20 11 20 01 00 10 10 -- -- -- " +
	"21 21 21 21 21 21 21 21 21 21 21 21 21 21 11 11 " +
	"21 21 21 21 21 21 11 11 11 11"

// filesTable has how many operands each call of files takes.
const filesTable = "33341"

// amounts tells how many operands an instruction of a function takes, wants and gives.
func amounts(p api.Program, f api.Func, x api.Instr) (takes, wants, gives int) {
	switch x.Op {
	case api.ICall:
		if x.A < len(p.Funcs) {
			takes, gives = p.Funcs[x.A].Args, p.Funcs[x.A].Results
		}
	case api.IRet:
		takes = f.Results
	case api.ISys:
		takes, gives = int(filesTable[x.A]-'0'), 1
	default:
		row := table[3*x.Op:]
		takes, gives = int(row[0]-'0'), int(row[1]-'0')
	}
	if x.Op == api.ICopy {
		return takes, x.A + 1, gives
	}
	return takes, takes, gives
}

// ways tells the places at which an instruction goes on, those behind the code too.
func ways(x api.Instr, at int) []int {
	var l []int
	if x.Op == api.IJump || x.Op == api.IZero || x.Op == api.INotZero {
		l = append(l, x.A)
	}
	if x.Op != api.IJump && x.Op != api.IHalt && x.Op != api.IAbort && x.Op != api.IRet && !slices.Contains(l, at+1) {
		l = append(l, at+1)
	}
	slices.Sort(l)
	return l
}

func inside(l []int, places int) []int {
	return slices.DeleteFunc(slices.Clone(l), func(n int) bool { return n >= places })
}

// picker tells which of the places that wait, rising, is taken.
type picker func(l []int) int

func least(l []int) int { return 0 }

func greatest(l []int) int { return len(l) - 1 }

// oracle has a program, what was found of it, and the order of taking places.
type oracle struct {
	p     api.Program
	pick  picker
	facts api.Facts
	cells map[int]int
	costs map[api.Spot]*big.Int
}

// told says what Run answers, if places are taken in that order.
func told(p api.Program, pick picker) (api.Facts, api.Fault) {
	o := &oracle{p: p, pick: pick, cells: map[int]int{}, costs: map[api.Spot]*big.Int{}}
	for _, look := range []func() api.Fault{o.whole, o.operands, o.heights} {
		if x := look(); x.Err != api.OK {
			return api.Facts{}, x
		}
	}
	o.perFunction()
	o.live()
	o.bounds()
	return o.facts, api.Fault{}
}

func (o *oracle) whole() api.Fault {
	if e := prog.Check(o.p); e != api.OK {
		return api.Fault{Err: e}
	}
	if f := o.p.Funcs[0]; f.Args > 0 || f.Results == 0 {
		return api.Fault{Err: api.ErrFirst}
	}
	return api.Fault{}
}

func (o *oracle) operands() api.Fault {
	most := map[int]func(f api.Func) (int, api.Errno){}
	for _, op := range []int{api.IJump, api.IZero, api.INotZero} {
		most[op] = func(f api.Func) (int, api.Errno) { return len(f.Code), api.ErrJump }
	}
	for _, op := range []int{api.IGet, api.ISet} {
		most[op] = func(f api.Func) (int, api.Errno) { return f.Locals, api.ErrLocal }
	}
	most[api.ICall] = func(f api.Func) (int, api.Errno) { return len(o.p.Funcs), api.ErrCall }
	for i, f := range o.p.Funcs {
		for at, x := range f.Code {
			if of := most[x.Op]; of != nil {
				if n, e := of(f); x.A >= n {
					return fault(e, i, at)
				}
			}
		}
	}
	return api.Fault{}
}

func (o *oracle) heights() api.Fault {
	for i := range o.p.Funcs {
		l, x := o.heightsOf(i)
		if x.Err != api.OK {
			return x
		}
		o.facts.Heights = append(o.facts.Heights, l)
	}
	return api.Fault{}
}

func (o *oracle) heightsOf(i int) ([]int, api.Fault) {
	f := o.p.Funcs[i]
	has := map[int]int{0: 0}
	wait := []int{0}
	for len(wait) > 0 {
		slices.Sort(wait)
		n := o.pick(wait)
		at := wait[n]
		wait = slices.Delete(wait, n, n+1)
		if e := o.faultAt(i, at, has); e != api.OK {
			return nil, fault(e, i, at)
		}
		for _, to := range ways(f.Code[at], at) {
			if _, there := has[to]; !there {
				takes, _, gives := amounts(o.p, f, f.Code[at])
				has[to] = has[at] - takes + gives
				wait = append(wait, to)
			}
		}
	}
	var l []int
	for at := range f.Code {
		h, there := has[at]
		if !there {
			h = -1
		}
		l = append(l, h)
	}
	return l, api.Fault{}
}

func (o *oracle) faultAt(i, at int, has map[int]int) api.Errno {
	f, h := o.p.Funcs[i], has[at]
	x := f.Code[at]
	takes, wants, gives := amounts(o.p, f, x)
	behind := h - takes + gives
	if wants > h && x.Op != api.IRet {
		return api.ErrUnder
	}
	if x.Op == api.IRet && h != f.Results {
		return api.ErrRet
	}
	if behind > 256 {
		return api.ErrOver
	}
	for _, to := range ways(x, at) {
		if to >= len(f.Code) {
			return api.ErrEnd
		}
	}
	for _, to := range ways(x, at) {
		if was, there := has[to]; there && was != behind {
			return api.ErrJoin
		}
	}
	return api.OK
}

// perFunction finds Tops and Loops.
func (o *oracle) perFunction() {
	for i, f := range o.p.Funcs {
		top := 0
		var loops []int
		for at := range f.Code {
			h := o.facts.Heights[i][at]
			if h == -1 {
				continue
			}
			takes, _, gives := amounts(o.p, f, f.Code[at])
			top = max(top, h, h-takes+gives)
			if comesAgain(f.Code, at) {
				loops = append(loops, at)
			}
		}
		o.facts.Tops = append(o.facts.Tops, top)
		o.facts.Loops = append(o.facts.Loops, loops)
	}
}

func comesAgain(code []api.Instr, from int) bool {
	met := make([]bool, len(code))
	todo := ways(code[from], from)
	for len(todo) > 0 {
		at := todo[0]
		todo = todo[1:]
		if !met[at] {
			met[at] = true
			todo = append(todo, ways(code[at], at)...)
		}
	}
	return met[from]
}

// calls tells the places of a function's ICalls that have a height.
func (o *oracle) calls(i int) []int {
	var l []int
	for at, x := range o.p.Funcs[i].Code {
		if x.Op == api.ICall && o.facts.Heights[i][at] >= 0 {
			l = append(l, at)
		}
	}
	return l
}

func (o *oracle) live() {
	o.facts.Live = make([]bool, len(o.p.Funcs))
	o.facts.Live[0] = true
	for range o.p.Funcs {
		for i, f := range o.p.Funcs {
			for _, at := range o.calls(i) {
				if o.facts.Live[i] {
					o.facts.Live[f.Code[at].A] = true
				}
			}
		}
	}
}

// underWay tells whether a live function may be called again while it is under way, by which leads to which over ever more others.
func (o *oracle) underWay() bool {
	n := len(o.p.Funcs)
	leads := make([][]bool, n)
	for i := range leads {
		leads[i] = make([]bool, n)
		for _, at := range o.calls(i) {
			leads[i][o.p.Funcs[i].Code[at].A] = true
		}
	}
	for k := range n {
		for i := range n {
			for j := range n {
				leads[i][j] = leads[i][j] || leads[i][k] && leads[k][j]
			}
		}
	}
	for i := range n {
		if o.facts.Live[i] && leads[i][i] {
			return true
		}
	}
	return false
}

func (o *oracle) bounds() {
	o.facts.Cells, o.facts.Cost = -1, -1
	if o.underWay() {
		return
	}
	o.facts.Cells = o.cellsOf(0)
	for i, live := range o.facts.Live {
		if live && len(o.facts.Loops[i]) > 0 {
			return
		}
	}
	most := big.NewInt(1 << 40)
	for i, live := range o.facts.Live {
		if live && o.costOf(api.Spot{Func: i}).Cmp(most) > 0 {
			return
		}
	}
	o.facts.Cost = int(o.costOf(api.Spot{}).Int64())
}

func (o *oracle) cellsOf(i int) int {
	if n, there := o.cells[i]; there {
		return n
	}
	most := o.facts.Tops[i]
	for _, at := range o.calls(i) {
		to := o.p.Funcs[i].Code[at].A
		most = max(most, o.facts.Heights[i][at]-o.p.Funcs[to].Args+o.cellsOf(to))
	}
	o.cells[i] = 1 + o.p.Funcs[i].Locals + most
	return o.cells[i]
}

func (o *oracle) costOf(at api.Spot) *big.Int {
	if n := o.costs[at]; n != nil {
		return n
	}
	x := o.p.Funcs[at.Func].Code[at.At]
	most := big.NewInt(0)
	for _, to := range ways(x, at.At) {
		if n := o.costOf(api.Spot{Func: at.Func, At: to}); n.Cmp(most) > 0 {
			most = n
		}
	}
	n := new(big.Int).Add(big.NewInt(1), most)
	if x.Op == api.ICall {
		n.Add(n, o.costOf(api.Spot{Func: x.A}))
	}
	o.costs[at] = n
	return n
}

// What the tests hold against each other.

func seeded(n uint64) *rand.Rand { return rand.New(rand.NewPCG(n, 13)) }

func text(x any) string { return fmt.Sprint(x) }

func brief(x any) string {
	s := text(x)
	if len(s) > 600 {
		return s[:600] + ".."
	}
	return s
}

func is[T comparable](t *testing.T, what string, got, want T) {
	t.Helper()
	if got != want {
		t.Errorf("%s: %v, want %v", what, brief(got), brief(want))
	}
}

func fault(e api.Errno, f, at int) api.Fault {
	return api.Fault{Err: e, At: api.Spot{Func: f, At: at}}
}

// run holds Run of any program against the oracle.
func run(t *testing.T, p api.Program) (api.Facts, api.Fault) {
	t.Helper()
	facts, x := check.Run(p)
	want, wx := told(p, least)
	if x != wx || text(facts) != text(want) {
		t.Fatalf("P1302 to P1304: Run of %s:\n%s, %v\nwant %s, %v", brief(p), brief(facts), x, brief(want), wx)
	}
	return facts, x
}

// refused holds a fault against what is written down for it.
func refused(t *testing.T, what string, p api.Program, e api.Errno, f, at int) {
	t.Helper()
	facts, x := run(t, p)
	is(t, what, x, fault(e, f, at))
	is(t, "P4: facts beside a fault: "+what, text(facts), text(api.Facts{}))
}

func taken(t *testing.T, what string, p api.Program) api.Facts {
	t.Helper()
	facts, x := run(t, p)
	is(t, what, x, api.Fault{})
	return facts
}

// What the tests hand in.

func one(op, a int) api.Instr { return api.Instr{Op: op, A: a} }

func many(x api.Instr, n int) []api.Instr { return slices.Repeat([]api.Instr{x}, n) }

// code reads instructions from pairs of numbers, and from lists of instructions.
func code(parts ...any) []api.Instr {
	var l []api.Instr
	for i := 0; i < len(parts); i++ {
		switch x := parts[i].(type) {
		case int:
			i++
			l = append(l, one(x, parts[i].(int)))
		case []api.Instr:
			l = append(l, x...)
		default:
			panic("neither a number nor instructions")
		}
	}
	return l
}

// first is a function that may be the first one.
func first(parts ...any) api.Func { return api.Func{Results: 1, Code: code(parts...)} }

// function has so many arguments, as many locals, and results.
func function(args, results int, parts ...any) api.Func {
	return api.Func{Args: args, Locals: args, Results: results, Code: code(parts...)}
}

// plain takes and gives nothing.
func plain() api.Func { return function(0, 0, api.IRet, 0) }

// number answers one.
func number() api.Func { return first(api.INum, 7, api.IRet, 0) }

func of(l ...api.Func) api.Program { return api.Program{Memory: 8, Data: []byte{1, 2}, Funcs: l} }

// single is a program of one function.
func single(parts ...any) api.Program { return of(first(parts...)) }
