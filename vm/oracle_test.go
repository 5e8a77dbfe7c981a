package vm_test

import (
	"bytes"
	"encoding/binary"
	"fmt"
	"math/rand/v2"
	"slices"
	"strings"
	"testing"

	"retort/api"
	"retort/asm"
	"retort/cell"
	"retort/check"
	"retort/prog"
	"retort/vfs"
	"retort/vm"
)

// The chapter said once more, in another way: each call under way has lists of its own; each step is done to a copy of all, which is taken or thrown away when it is seen what it came to; so are calls of files, to a twin of the files.

// filed is what a call of files came to: the files and the memory behind it.
type filed struct {
	f      *vfs.FS
	memory []byte
	touch  api.Touch
	moved  int
	trap   api.Trap
}

func lies(memory []byte, at, n int) bool {
	return at >= 0 && n >= 0 && uint64(at)+uint64(n) <= uint64(len(memory))
}

// filedOf is P1503, with P1507's Touch. What was handed in stays.
func filedOf(f *vfs.FS, memory []byte, call int, args []int, most int) filed {
	none := func(t api.Trap) filed { return filed{f: f, memory: memory, trap: t} }
	if takes := "33341"; call < 0 || call > 4 || len(args) != int(takes[call]-'0') {
		return none(api.TOp)
	}
	x := filed{f: f.Twin(), memory: bytes.Clone(memory), touch: api.Touch{Call: call}}
	var ranges [][2]int
	switch call {
	case api.SOpen:
		ranges = [][2]int{{args[0], args[1]}}
	case api.SRead, api.SWrite:
		ranges = [][2]int{{args[1], args[2]}}
	case api.SList:
		ranges = [][2]int{{args[0], args[1]}, {args[2], args[3]}}
	}
	for _, r := range ranges {
		if !lies(memory, r[0], r[1]) {
			return none(api.TBounds)
		}
	}
	if call == api.SOpen || call == api.SList {
		if args[1] > max(0, most) {
			return none(api.TFuel)
		}
		x.touch.Path = string(memory[args[0]:][:args[1]])
		x.moved = args[1]
	}
	e := x.do(args)
	if e != api.OK {
		x.touch.Answer = 0 - int(e)
	}
	if x.moved > max(0, most) {
		return none(api.TFuel)
	}
	return x
}

// do does it to what is x's own, whatever it moves.
func (x *filed) do(args []int) (e api.Errno) {
	switch x.touch.Call {
	case api.SOpen:
		x.touch.N = args[2]
		x.touch.Answer, e = x.f.Open(x.touch.Path, args[2])
	case api.SRead:
		x.touch.Handle, x.touch.N = args[0], args[2]
		x.touch.Data, e = x.f.Read(args[0], args[2])
		x.moved = len(x.touch.Data)
		x.touch.Answer = copy(x.memory[args[1]:], x.touch.Data)
	case api.SWrite:
		x.touch.Handle, x.touch.N = args[0], args[2]
		b := x.memory[args[1]:][:args[2]]
		if e = x.f.Write(args[0], b); e == api.OK {
			x.touch.Data, x.moved, x.touch.Answer = bytes.Clone(b), len(b), len(b)
		}
	case api.SList:
		x.touch.N = args[3]
		var names []string
		names, e = x.f.List(x.touch.Path)
		laid := strings.Join(append(names, ""), "\x00")
		if e == api.OK && len(laid) > args[3] {
			e = api.ErrRange
		}
		if e == api.OK {
			x.touch.Data = []byte(laid)
			x.touch.Answer = copy(x.memory[args[2]:], laid)
			x.moved += len(laid)
		}
	case api.SClose:
		x.touch.Handle = args[0]
		e = x.f.Close(args[0])
	}
	return e
}

// under is a call under way.
type under struct {
	f, at            int
	locals, operands []int
}

type model struct {
	p       api.Program
	l       api.Limits
	files   *vfs.FS
	memory  []byte
	calls   []under
	outcome api.Outcome
	touched []api.Touch
	steps   int
}

func ended(t api.Trap) api.Outcome { return api.Outcome{End: api.ETrap, Trap: t} }

// modelOf is P1501.
func modelOf(p api.Program, f *vfs.FS, l api.Limits) (*model, api.Errno) {
	if _, x := check.Run(p); prog.Check(p) != api.OK || x.Err != api.OK {
		return nil, api.ErrVerify
	}
	o := &model{p: prog.Twin(p), l: l, files: f, memory: append([]byte(nil), p.Data...)}
	for len(o.memory) < p.Memory {
		o.memory = append(o.memory, 0)
	}
	switch {
	case p.Memory > l.Memory:
		o.outcome = ended(api.TMemory)
	case p.Funcs[0].Locals+1 > l.Stack:
		o.outcome = ended(api.TStack)
	default:
		o.calls = []under{{locals: make([]int, p.Funcs[0].Locals)}}
	}
	return o, api.OK
}

func (o *model) copied() *model {
	w := *o
	w.memory = bytes.Clone(o.memory)
	w.calls = nil
	for _, c := range o.calls {
		c.locals, c.operands = slices.Clone(c.locals), slices.Clone(c.operands)
		w.calls = append(w.calls, c)
	}
	w.touched = slices.Clone(o.touched)
	return &w
}

func (o *model) taken() int {
	n := 0
	for _, c := range o.calls {
		n += 1 + len(c.locals) + len(c.operands)
	}
	return n
}

// step is P1502.
func (o *model) step() bool {
	if o.outcome.End != 0 {
		return false
	}
	o.steps++
	used := o.outcome.Fuel
	if used >= o.l.Fuel {
		o.outcome = ended(api.TFuel)
		o.outcome.Fuel = used
		return false
	}
	w := o.copied()
	end := w.do()
	if end.End == 0 && w.taken() > o.l.Stack {
		end = ended(api.TStack)
	}
	if end.End == 0 {
		w.outcome.Fuel++
		*o = *w
		return true
	}
	o.outcome = end
	o.outcome.Fuel = used
	if end.Trap != api.TFuel {
		o.outcome.Fuel++
	}
	return false
}

// do does the instruction to what is o's own, and tells how the run ends by it.
func (o *model) do() api.Outcome {
	c := &o.calls[len(o.calls)-1]
	x := o.p.Funcs[c.f].Code[c.at]
	takes, _ := check.Takes(o.p, api.Spot{Func: c.f, At: c.at})
	rest := len(c.operands) - takes
	args := slices.Clone(c.operands[rest:])
	before := slices.Clone(c.operands)
	c.operands = c.operands[:rest]
	a, b := 0, 0
	if takes > 0 {
		a = args[takes-1]
	}
	if takes > 1 {
		b = args[takes-2]
	}
	give := func(words ...int) { c.operands = append(c.operands, words...) }
	c.at++
	switch x.Op {
	case api.IHalt:
		return api.Outcome{End: api.EHalt, Code: a}
	case api.IAbort:
		return api.Outcome{End: api.ETrap, Trap: api.TAbort, Code: a}
	case api.INum:
		give(x.A)
	case api.ICopy:
		give(before[len(before)-1-x.A])
	case api.ISwap:
		give(a, b)
	case api.IGet:
		give(c.locals[x.A])
	case api.ISet:
		c.locals[x.A] = a
	case api.ISize:
		give(o.p.Memory)
	case api.IJump:
		c.at = x.A
	case api.IZero, api.INotZero:
		if (a == 0) == (x.Op == api.IZero) {
			c.at = x.A
		}
	case api.ICall:
		c.at-- // told of the caller till it goes on
		locals := append(args, make([]int, o.p.Funcs[x.A].Locals-takes)...)
		o.calls = append(o.calls, under{f: x.A, locals: locals})
	case api.IRet:
		if len(o.calls) == 1 {
			return api.Outcome{End: api.EHalt, Code: a}
		}
		o.calls = o.calls[:len(o.calls)-1]
		c = &o.calls[len(o.calls)-1]
		c.at++
		give(args...)
	case api.ISys:
		y := filedOf(o.files, o.memory, x.A, args, o.l.Fuel-o.outcome.Fuel-1)
		if y.trap != api.TNone {
			return ended(y.trap)
		}
		o.files, o.memory = y.f, y.memory
		o.outcome.Fuel += y.moved
		o.touched = append(o.touched, y.touch)
		give(y.touch.Answer)
	case api.ILoad, api.IStore, api.ILoad8, api.IStore8:
		return o.reach(x.Op, a, b, give)
	}
	w, t := 0, api.TNone
	switch {
	case cell.Has1(x.Op):
		w, t = cell.One(x.Op, a)
	case cell.Has2(x.Op):
		w, t = cell.Two(x.Op, b, a)
	default:
		return api.Outcome{}
	}
	if t != api.TNone {
		return ended(t)
	}
	give(w)
	return api.Outcome{}
}

// reach does what reads and writes the memory.
func (o *model) reach(op, a, b int, give func(...int)) api.Outcome {
	at, n := a, 1
	if op == api.IStore || op == api.IStore8 {
		at = b
	}
	if op == api.ILoad || op == api.IStore {
		n = 8
	}
	if !lies(o.memory, at, n) {
		return ended(api.TBounds)
	}
	switch op {
	case api.ILoad:
		give(int(binary.BigEndian.Uint64(o.memory[at:])))
	case api.IStore:
		binary.BigEndian.PutUint64(o.memory[at:], uint64(a))
	case api.ILoad8:
		give(int(o.memory[at]))
	case api.IStore8:
		o.memory[at] = byte(uint(a) % 256)
	}
	return api.Outcome{}
}

// line says all that is seen of a run.
func line(end api.Outcome, used int, spot api.Spot, calls []api.Spot, stack, locals []int, taken int, memory []byte, touched []api.Touch) string {
	return fmt.Sprintf("end %+v used %d spot %v calls %v stack %v locals %v taken %d memory %q touched %s", end, used, spot, calls, stack, locals, taken, memory, touchText(touched))
}

func touchText(l []api.Touch) string {
	var s []string
	for _, x := range l {
		s = append(s, fmt.Sprintf("{%d h%d n%d %q %q: %d}", x.Call, x.Handle, x.N, x.Path, x.Data, x.Answer))
	}
	return fmt.Sprint(s)
}

// seen says it of a machine, size being its Memory.
func seen(m *vm.Machine, size int) string {
	b, e := m.Memory(0, size)
	if e != api.OK {
		b = []byte("no memory: " + e.Error())
	}
	return line(m.End(), m.Used(), m.Spot(), m.Calls(), m.Stack(), m.Locals(), m.Taken(), b, m.Touched())
}

func (o *model) seen() string {
	var spot api.Spot
	var calls []api.Spot
	var stack, locals []int
	for i, c := range o.calls {
		at := api.Spot{Func: c.f, At: c.at}
		if i < len(o.calls)-1 {
			calls = append(calls, at)
		} else {
			spot, stack, locals = at, c.operands, c.locals
		}
	}
	return line(o.outcome, o.outcome.Fuel, spot, calls, stack, locals, o.taken(), o.memory, o.touched)
}

// lying says all that files have, their handles too.
func lying(f *vfs.FS) string {
	s := itemText(f.Items()) + fmt.Sprint(f.Used())
	for h := range 65 {
		if p, at, e := f.Place(h); e == api.OK {
			s += fmt.Sprintf(" %d: %q at %d %v,%v", h, p, at, f.May(h, 0), f.May(h, 1))
		}
	}
	return s
}

func itemText(l []api.Item) string {
	var s strings.Builder
	for _, x := range l {
		fmt.Fprintf(&s, "%q %v %q; ", x.Path, x.Dir, x.Data)
	}
	return s.String()
}

// both is a machine, the files that it was made with, and the model of it.
type both struct {
	m *vm.Machine
	f *vfs.FS // nil: they are a twin's
	o *model
}

// begun makes both over one kind of files; nil, if the program is refused.
func begun(t testing.TB, p api.Program, f *vfs.FS, l api.Limits) *both {
	t.Helper()
	o, want := modelOf(p, f.Twin(), l)
	m, e := vm.New(p, f, l)
	if e != want || (m == nil) != (o == nil) {
		t.Fatalf("P1501: New of %s, %+v: %v, want %v", brief(p), l, e, want)
	}
	if m == nil {
		return nil
	}
	x := &both{m, f, o}
	x.alike(t, "P1501: New")
	return x
}

func (x *both) alike(t testing.TB, what string) {
	t.Helper()
	if got, want := seen(x.m, x.o.p.Memory), x.o.seen(); got != want {
		t.Fatalf("%s of %s, %+v:\n%s, want\n%s", what, brief(x.o.p), x.o.l, got, want)
	}
	if got, want := itemText(x.m.Files()), itemText(x.o.files.Items()); got != want {
		t.Fatalf("%s: Files %s, want %s", what, got, want)
	}
	if x.f != nil {
		if got, want := lying(x.f), lying(x.o.files); got != want {
			t.Fatalf("%s: files %s, want %s", what, got, want)
		}
	}
}

// step does one step to both.
func (x *both) step(t testing.TB) bool {
	t.Helper()
	want := x.o.step()
	if got := x.m.Step(); got != want {
		t.Fatalf("P1502: Step %v, want %v, of %s, %+v", got, want, brief(x.o.p), x.o.l)
	}
	x.alike(t, "P1502: Step")
	return want
}

// run does steps to both till they end, so many at most.
func (x *both) run(t testing.TB, most int) {
	t.Helper()
	for range most {
		if !x.step(t) {
			return
		}
	}
}

func (x *both) twin() *both {
	o := x.o.copied()
	o.files = o.files.Twin()
	return &both{m: x.m.Twin(), o: o}
}

func seeded(n uint64) *rand.Rand { return rand.New(rand.NewPCG(n, 15)) }

func brief(x any) string {
	s := fmt.Sprintf("%v", x)
	if len(s) > 1000 {
		s = s[:1000] + ".."
	}
	return s
}

func is[T comparable](t testing.TB, what string, got, want T) {
	t.Helper()
	if got != want {
		t.Errorf("%s: %v, want %v", what, brief(got), brief(want))
	}
}

func text(x any) string { return fmt.Sprint(x) }

// whole reads a program from its text, whose lines are parted by |.
func whole(s string) api.Program {
	p, err := asm.Parse(strings.ReplaceAll(s, "|", "\n"))
	if err != nil {
		panic(s + ": " + err.Error())
	}
	return p
}

// body is a program of one function, with Memory 20, in which "ab" lies.
func body(s string) api.Program { return whole(`memory 20 | data "ab" | func f 0 0 1 |` + s) }

// wide is room for all that small programs do.
func wide() api.Limits { return api.Limits{Fuel: 1000, Memory: 1 << 16, Stack: 200} }

// files are a few, with room for some more.
func files() *vfs.FS {
	l := []api.Item{{Path: "d", Dir: true}, {Path: "d/e", Dir: true}, {Path: "d/x", Data: []byte("hello")}, {Path: "o", Data: []byte("12")}}
	return filesOf(api.Quota{Bytes: 20, Files: 8, Open: 4}, l...)
}

func filesOf(q api.Quota, l ...api.Item) *vfs.FS {
	f, e := vfs.New(l, q)
	if e != api.OK {
		panic(e)
	}
	return f
}

// made is a machine that New has to make.
func made(t testing.TB, p api.Program, f *vfs.FS, l api.Limits) *vm.Machine {
	t.Helper()
	m, e := vm.New(p, f, l)
	if m == nil || e != api.OK {
		t.Fatalf("P1501: New of %s: %v", brief(p), e)
	}
	return m
}

func halt(code, used int) api.Outcome { return api.Outcome{End: api.EHalt, Code: code, Fuel: used} }

func trap(t api.Trap, used int) api.Outcome {
	return api.Outcome{End: api.ETrap, Trap: t, Fuel: used}
}

// ends runs a program to its end, looks whether it is that one, and whether all of the run is as the model has it.
func ends(t testing.TB, what string, p api.Program, l api.Limits, want api.Outcome) *vm.Machine {
	t.Helper()
	m := made(t, p, files(), l)
	m.Run(100000)
	is(t, what+": End", text(m.End()), text(want))
	is(t, what+": Used", m.Used(), want.Fuel)
	if x := begun(t, p, files(), l); x != nil {
		x.run(t, 3000)
	}
	return m
}
