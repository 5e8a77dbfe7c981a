package vm_test

import (
	"bytes"
	"fmt"
	"slices"
	"strings"
	"testing"

	"retort/api"
	"retort/vfs"
	"retort/vm"
)

// roomy has that list with spare room behind it, in which something lies too.
func roomy[T any](l []T, spare T) []T {
	more := append(make([]T, 0, len(l)+3), l...)
	for i := len(l); i < cap(more); i++ {
		more[:cap(more)][i] = spare
	}
	return more
}

// roomyProgram has spare room behind each list.
func roomyProgram(p api.Program) api.Program {
	p.Data = roomy(p.Data, 77)
	p.Funcs = roomy(p.Funcs, api.Func{Args: 5, Code: []api.Instr{{Op: api.IJump, A: 2}}})
	for i, f := range p.Funcs {
		p.Funcs[i].Code = roomy(f.Code, api.Instr{Op: api.ICall, A: 1})
	}
	return p
}

func full[T any](l []T) []T { return l[:cap(l)] }

// fullText says a program with all that lies in its lists' spare room.
func fullText(p api.Program) string {
	p.Data = full(p.Data)
	p.Funcs = slices.Clone(full(p.Funcs))
	for i, f := range p.Funcs {
		p.Funcs[i].Code = full(f.Code)
	}
	return text(p)
}

func spoil[T any](l []T, x T) {
	l = full(l)
	for i := range l {
		l[i] = x
	}
}

// spoilProgram writes all of a program's lists, their spare room too.
func spoilProgram(p api.Program) {
	for _, f := range full(p.Funcs) {
		spoil(f.Code, api.Instr{Op: -8, A: -8})
	}
	spoil(p.Funcs, api.Func{Args: -9})
	spoil(p.Data, 200)
}

// spoilSeen writes all that is told of a machine, spare room too.
func spoilSeen(m *vm.Machine, size int) {
	b, _ := m.Memory(0, size)
	spoil(b, 99)
	spoil(m.Calls(), api.Spot{Func: -3, At: -3})
	spoil(m.Stack(), -4)
	spoil(m.Locals(), -5)
	l := m.Touched()
	for _, x := range full(l) {
		spoil(x.Data, 88)
	}
	spoil(l, api.Touch{Call: -6, Path: "spoilt"})
	items := m.Files()
	for _, x := range full(items) {
		spoil(x.Data, 77)
	}
	spoil(items, api.Item{Path: "spoilt"})
}

// The program stays as it was handed in, and is not kept: what is done to it afterwards is not seen.
func TestProgramStays(t *testing.T) {
	for _, w := range ways() {
		want := made(t, w.p, files(), w.l)
		steps := want.Run(1000)
		p := roomyProgram(w.p)
		was := fullText(p)
		m := made(t, p, files(), w.l)
		other := made(t, p, files(), w.l)
		m.Run(1000)
		m.Twin()
		is(t, "P2: handed in to New", fullText(p), was)
		is(t, "P2: with spare room", seen(m, p.Memory), seen(want, p.Memory))
		spoilProgram(p)
		is(t, "P2: kept by New", seen(m, w.p.Memory), seen(want, w.p.Memory))
		is(t, "P2: kept by New", other.Run(1000), steps)
		is(t, "P2: kept by New", seen(other, w.p.Memory), seen(want, w.p.Memory))
	}
	wrong := roomyProgram(body("pop | ret"))
	was := fullText(wrong)
	vm.New(wrong, files(), wide())
	is(t, "P2: refused by New", fullText(wrong), was)
}

// What lies in a run's memory is its own, not the Data of the program.
func TestDataStays(t *testing.T) {
	p := body("num 0 | num -1 | store | num 1 | ret")
	p.Data = make([]byte, 20, 40)
	p.Data[3] = 9
	a, b := made(t, p, files(), wide()), made(t, p, files(), wide())
	a.Run(9)
	is(t, "P2: Data", fmt.Sprint(full(p.Data)[:5]), "[0 0 0 9 0]")
	l, _ := b.Memory(0, 5)
	is(t, "P2: another's memory", fmt.Sprint(l), "[0 0 0 9 0]")
	p.Data[3] = 5
	l, _ = b.Memory(0, 5)
	is(t, "P2: Data that is written afterwards", fmt.Sprint(l), "[0 0 0 9 0]")
}

// What is told is changed by the caller without a trace, at each step.
func TestToldApart(t *testing.T) {
	for _, w := range ways() {
		x := begun(t, w.p, files(), w.l)
		twin := x.twin()
		for {
			spoilSeen(x.m, w.p.Memory)
			x.alike(t, "P2: what was told")
			goesOn := x.step(t)
			spoilSeen(x.m, w.p.Memory)
			x.alike(t, "P2: what was told")
			if !goesOn {
				break
			}
			spoilSeen(x.m.Twin(), w.p.Memory)
			x.alike(t, "P2: what a twin told")
		}
		twin.run(t, 1000)
		spoilSeen(x.m, w.p.Memory)
		twin.alike(t, "P2: what the first told")
	}
}

// What was told stays when the run goes on.
func TestToldStays(t *testing.T) {
	for _, w := range ways() {
		m := made(t, w.p, files(), w.l)
		for {
			b, _ := m.Memory(0, w.p.Memory)
			end, used, spot, calls, stack, locals, taken, touched, items := m.End(), m.Used(), m.Spot(), m.Calls(), m.Stack(), m.Locals(), m.Taken(), m.Touched(), m.Files()
			was := seen(m, w.p.Memory) + itemText(items)
			goesOn := m.Step()
			m.Run(2)
			is(t, "P2: what was told", line(end, used, spot, calls, stack, locals, taken, b, touched)+itemText(items), was)
			if !goesOn {
				break
			}
		}
	}
}

// No two lists of one answer share memory.
func TestListsApart(t *testing.T) {
	p := filing(`num 0 | num 3 | num 0 | sys open | num 20 | num 3 | sys read | pop | num 0 | num 20 | num 3 | sys read | pop
		num 13 | num 1 | num 25 | num 9 | sys list | pop | num 3 | num 1 | num 3 | sys open | num 0 | num 4 | sys write | num 1 | num 0 | num 4 | sys write | add | ret`)
	m := made(t, p, files(), wide())
	m.Run(99)
	l := m.Touched()
	is(t, "touches", len(l), 7)
	for i, x := range full(l) {
		spoil(x.Data, byte(100+i))
	}
	for i, x := range full(l) {
		for _, b := range full(x.Data) {
			is(t, "P2: two lists of Touched", b, byte(100+i))
		}
	}
	items := m.Files()
	for i, x := range items {
		spoil(x.Data, byte(100+i))
	}
	for i, x := range items {
		for _, b := range full(x.Data) {
			is(t, "P2: two lists of Files", b, byte(100+i))
		}
	}
}

// Spare room of what is told is new, too: nothing of the machine's is to be seen in it.
func TestSpareRoom(t *testing.T) {
	p := whole("memory 600 | func f 0 64 1 | num 1 | num 2 | num 3 | pop | pop | pop | num 5 | ret")
	p.Data = bytes.Repeat([]byte("secret"), 100)
	m := made(t, p, files(), wide())
	m.Run(7)
	for n := range 70 {
		b, _ := m.Memory(3, n)
		if spare := b[len(b):cap(b)]; bytes.ContainsAny(spare, "secrt") {
			t.Fatalf("P2: %q behind %q", spare, b)
		}
	}
	l := m.Stack()
	for _, w := range l[len(l):cap(l)] {
		is(t, "P2: behind Stack", w, 0)
	}
}

// Call writes nothing but the bytes that it lays down: no spare room, no args.
func TestCallsMemory(t *testing.T) {
	for _, c := range []struct {
		call int
		args []int
		want string
	}{
		{api.SOpen, list(0, 3, 0), "d/x..."},
		{api.SRead, list(0, 1, 5), "dhello"},
		{api.SRead, list(0, 0, 6), "hello."},
		{api.SWrite, list(1, 0, 6), "d/x..."},
		{api.SList, list(0, 1, 1, 5), "de/\x00x\x00"},
		{api.SClose, list(0), "d/x..."},
	} {
		memory, args := roomy([]byte("d/x..."), 55), roomy(c.args, 66)
		answer, _, tr := vm.Call(opened(), memory, c.call, args, 99)
		if answer < 0 || tr != api.TNone {
			t.Errorf("P1503: Call %d: %d, %v", c.call, answer, tr)
		}
		is(t, "P1503: memory", string(memory), c.want)
		is(t, "P2: the memory's spare room", strings.Trim(string(full(memory)[6:]), "7"), "")
		is(t, "P2: args", text(full(args)[:len(c.args)+3]), text(append(slices.Clone(c.args), 66, 66, 66)))
	}
}

// What Call was handed is not kept: neither its memory, as a path or as bytes, nor its args.
func TestCallKeepsNothing(t *testing.T) {
	f := opened()
	memory, args := []byte("abcdef"), list(1, 0, 6)
	vm.Call(f, memory, api.SWrite, args, 99)
	told := lying(f)
	spoil(memory, 'X')
	spoil(args, 9)
	is(t, "P2: bytes kept by Call", lying(f), told)
	memory, args = []byte("new"), list(0, 3, 1)
	vm.Call(f, memory, api.SOpen, args, 99)
	told = lying(f)
	spoil(memory, 'X')
	spoil(args, 9)
	is(t, "P2: a path kept by Call", lying(f), told)
	memory = []byte("......")
	vm.Call(f, memory, api.SRead, list(0, 0, 5), 99)
	told = lying(f)
	spoil(memory, 'X')
	is(t, "P2: bytes that were laid down", lying(f), told)
}

// The same memory and args with something else in them are another call.
func TestCallsInTheSameMemory(t *testing.T) {
	r := seeded(21)
	memory, args := make([]byte, 12), make([]int, 4)
	for range 300 {
		f := opened()
		for range 20 {
			for i := range memory {
				memory[i] = "dxo/.e"[r.IntN(6)]
			}
			for i := range args {
				args[i] = r.IntN(7)
			}
			call := r.IntN(5)
			asked(t, f, memory, call, args[:"33341"[call]-'0'], r.IntN(15))
		}
	}
}

// The same memory with another program in it is another program.
func TestProgramsInTheSameMemory(t *testing.T) {
	r := seeded(22)
	p := api.Program{Funcs: make([]api.Func, 4), Data: make([]byte, 20)}
	codes := make([][]api.Instr, 4)
	for i := range codes {
		codes[i] = make([]api.Instr, 200)
	}
	var before *both
	for range 400 {
		q := drawnProgram(r)
		in := api.Program{Memory: q.Memory, Data: p.Data[:copy(p.Data, q.Data)], Funcs: p.Funcs[:len(q.Funcs)]}
		for i, f := range q.Funcs {
			f.Code = codes[i][:copy(codes[i], f.Code)]
			in.Funcs[i] = f
		}
		x := begun(t, in, files(), drawnLimits(r))
		x.run(t, 20)
		if before != nil { // whose program is there no more
			before.run(t, 40)
		}
		before = x
	}
}

// The machine's files are those that were handed in, and its own.
func TestFilesOfTheMachine(t *testing.T) {
	f := files()
	m := made(t, filing("num 3 | num 1 | num 2 | sys open | ret"), f, wide())
	m.Run(9)
	is(t, "P1501: the FS that it was made with", lying(f), `"d" true ""; "d/e" true ""; "d/x" false "hello"; "o" false ""; {5 4 1} 0: "o" at 0 ok,ok`)
	g := files()
	g.Open("d/x", api.MRead)
	g.Read(0, 2)
	m = made(t, filing("num 0 | num 20 | num 9 | sys read | ret"), g, wide())
	m.Run(9)
	is(t, "P1501: handles that were open", m.End().Code, 3)
	m = made(t, filing("num 0 | num 3 | num 1 | sys open | ret"), new(vfs.FS), wide())
	m.Run(9)
	is(t, "P1: nobody's files", m.End().Code, refusal(api.ErrNoEnt))
}

func TestNoneAndEmpty(t *testing.T) {
	for _, data := range [][]byte{nil, {}} {
		p := whole("memory 4 | func f 0 0 1 | num 3 | load8 | ret")
		p.Data = data
		ends(t, "no Data", p, wide(), halt(0, 3))
	}
	for _, memory := range [][]byte{nil, {}} {
		does(t, "no memory", opened(), memory, api.SOpen, list(0, 0, 0), 0, refusal(api.ErrIsDir), 0, api.TNone)
		does(t, "no memory", opened(), memory, api.SRead, list(0, 0, 0), 0, 0, 0, api.TNone)
		does(t, "no memory", opened(), memory, api.SWrite, list(1, 0, 0), 0, 0, 0, api.TNone)
		does(t, "no memory", opened(), memory, api.SList, list(0, 0, 0, 0), 0, refusal(api.ErrRange), 0, api.TNone)
		does(t, "no memory", filesOf(api.Quota{}), memory, api.SList, list(0, 0, 0, 0), 0, 0, 0, api.TNone)
		does(t, "no memory", opened(), memory, api.SRead, list(0, 0, 1), 0, 0, 0, api.TBounds)
		for _, args := range [][]int{nil, {}} {
			does(t, "no args", opened(), memory, api.SClose, args, 0, 0, 0, api.TOp)
		}
	}
}

// P3: the same calls answer the same, each time anew.
func TestSameAgain(t *testing.T) {
	for n := range uint64(60) {
		var first string
		for i := range 4 {
			r := seeded(n)
			p := drawnProgram(r)
			m := made(t, p, files(), drawnLimits(r))
			m.Run(250)
			told := seen(m, p.Memory) + itemText(m.Files())
			if i == 0 {
				first = told
			}
			is(t, "P3: again", told, first)
			is(t, "P3: asked again", seen(m, p.Memory)+itemText(m.Files()), first)
		}
	}
}
