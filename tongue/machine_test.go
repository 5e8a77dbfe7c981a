package tongue_test

import (
	"fmt"
	"math"
	"strings"
	"testing"

	"retort/api"
	"retort/asm"
	"retort/cell"
	"retort/tongue"
	"retort/vfs"
	"retort/vm"
)

// What a unit means said once more, in another way: trees are asked, and each way of leaving off is thrown.

type (
	thrownTrap struct {
		trap api.Trap
		code int
	}
	thrownSteps  struct{}
	thrownReturn struct{ word int }
	thrownLoop   struct {
		name string
		n    int
	}
)

// meaner does a unit.
type meaner struct {
	u                        api.Unit
	bodies                   []tree
	files                    *vfs.FS
	memory                   []byte
	steps, left, moved, deep int
}

// thrown tells what a function throws; nil: nothing.
func thrown(f func()) (x any) {
	defer func() { x = recover() }()
	f()
	return nil
}

// meantOf is what Mean must tell, and do to the files.
func meantOf(u api.Unit, f *vfs.FS, memory, steps int) (api.Meant, bool) {
	all := 0
	for _, t := range u.Texts {
		all += len(t.Data)
	}
	if checkOf(u) != api.OK || memory < 0 || memory > 65536 || memory < all || steps < 0 {
		return api.Meant{}, false
	}
	m := &meaner{u: u, files: f, left: min(steps, 1<<20)}
	for _, t := range u.Texts {
		m.memory = append(m.memory, t.Data...)
	}
	m.memory = append(m.memory, make([]byte, memory-all)...)
	for _, f := range u.Funcs {
		m.bodies = append(m.bodies, treeOf(f))
	}
	o := api.Outcome{}
	switch x := thrown(func() { o = api.Outcome{End: api.EHalt, Code: m.call(0, nil)} }).(type) {
	case nil:
	case thrownSteps:
		return api.Meant{}, false
	case thrownTrap:
		o = api.Outcome{End: api.ETrap, Trap: x.trap, Code: x.code}
	default:
		panic(x)
	}
	return api.Meant{Outcome: o, Steps: m.steps, Moved: m.moved}, true
}

func (m *meaner) call(f int, args []int) (word int) {
	if m.deep == 128 {
		panic(thrownTrap{trap: api.TStack})
	}
	m.deep++
	locals := append(append([]int{}, args...), make([]int, len(m.u.Funcs[f].Locals)-len(args))...)
	switch x := thrown(func() { m.do(m.bodies[f], locals) }).(type) {
	case nil:
	case thrownReturn:
		word = x.word
	default:
		panic(x)
	}
	m.deep--
	return word
}

func (m *meaner) step() {
	if m.left == 0 {
		panic(thrownSteps{})
	}
	m.left--
	m.steps++
}

func trapIf(is bool, t api.Trap) {
	if is {
		panic(thrownTrap{trap: t})
	}
}

func (m *meaner) do(t tree, locals []int) {
	m.step()
	word := func(i int) int { return m.word(t.kids[i], locals) }
	switch t.name {
	case "block":
		for _, k := range t.kids {
			m.do(k, locals)
		}
	case "set":
		locals[t.n] = word(0)
	case "put", "put8":
		at, w := word(0), word(1)
		b := []byte{byte(w >> 56), byte(w >> 48), byte(w >> 40), byte(w >> 32), byte(w >> 24), byte(w >> 16), byte(w >> 8), byte(w)}
		if t.name == "put8" {
			b = b[7:]
		}
		trapIf(at < 0 || at > len(m.memory)-len(b), api.TBounds)
		copy(m.memory[at:], b)
	case "if":
		if word(0) != 0 {
			m.do(t.kids[1], locals)
		} else if len(t.kids) == 3 {
			m.do(t.kids[2], locals)
		}
	case "while":
		for word(0) != 0 && !m.leaves(t, locals) {
		}
	case "break", "continue":
		panic(thrownLoop{t.name, t.n})
	case "return":
		panic(thrownReturn{word(0)})
	case "do":
		word(0)
	case "abort":
		panic(thrownTrap{api.TAbort, word(0)})
	}
}

// leaves does a loop's block, and tells whether the loop ends by it.
func (m *meaner) leaves(t tree, locals []int) bool {
	switch x := thrown(func() { m.do(t.kids[1], locals) }).(type) {
	case nil:
		return false
	case thrownLoop:
		if x.n > 0 {
			panic(thrownLoop{x.name, x.n - 1})
		}
		return x.name == "break"
	default:
		panic(x)
	}
}

func bit(is bool) int {
	if is {
		return 1
	}
	return 0
}

func (m *meaner) word(t tree, locals []int) int {
	m.step()
	word := func(i int) int { return m.word(t.kids[i], locals) }
	told := func(w int, trap api.Trap) int {
		trapIf(trap != api.TNone, trap)
		return w
	}
	switch t.name {
	case "num":
		return t.n
	case "var":
		return locals[t.n]
	case "at":
		n := 0
		for _, x := range m.u.Texts[:t.n] {
			n += len(x.Data)
		}
		return n
	case "len":
		return len(m.u.Texts[t.n].Data)
	case "size":
		return len(m.memory)
	case "load", "load8":
		long := map[string]int{"load": 8, "load8": 1}[t.name]
		at, w := word(0), 0
		trapIf(at < 0 || at > len(m.memory)-long, api.TBounds)
		for _, b := range m.memory[at : at+long] {
			w = w*256 + int(b)
		}
		return w
	case "one":
		return told(cell.One(t.n, word(0)))
	case "two":
		return told(cell.Two(t.n, word(0), word(1)))
	case "turn":
		a := word(0)
		return told(cell.Two(t.n, word(1), a))
	case "not":
		return bit(word(0) == 0)
	case "and":
		return bit(word(0) != 0 && word(1) != 0)
	case "or":
		return bit(word(0) != 0 || word(1) != 0)
	}
	var args []int
	for i := range t.kids {
		args = append(args, word(i))
	}
	if t.name == "call" {
		return m.call(t.n, args)
	}
	answer, moved, trap := vm.Call(m.files, m.memory, t.n, args, math.MaxInt)
	m.moved += moved
	return told(answer, trap)
}

// compiled are the lines of a program that does what a unit means.
type compiled struct {
	u     api.Unit
	lines []string
	label int
	loops [][2]string // the labels of the beginning and of the end of those under way
}

func (c *compiled) put(l ...any) { c.lines = append(c.lines, strings.TrimSpace(fmt.Sprintln(l...))) }

func (c *compiled) mark() string {
	c.label++
	return fmt.Sprint("L", c.label)
}

// program is what a unit is made into by a table of its own, for a memory of so many bytes.
func program(t testing.TB, u api.Unit, memory int) api.Program {
	c := &compiled{u: u}
	c.put("memory", memory)
	for _, x := range u.Texts {
		c.put("data", quotedOf(x.Data))
	}
	for i, f := range u.Funcs {
		c.put("func", fmt.Sprint("F", i), f.Args, len(f.Locals), 1)
		c.code(treeOf(f))
		c.put("num 0")
		c.put("ret")
	}
	p, err := asm.Parse(strings.Join(c.lines, "\n"))
	if err != nil {
		t.Fatalf("%v: %s", err, strings.Join(c.lines, "\n"))
	}
	return p
}

func (c *compiled) code(t tree) {
	kids := func(l ...tree) {
		for _, k := range l {
			c.code(k)
		}
	}
	switch t.name {
	case "if":
		no, end := c.mark(), c.mark()
		kids(t.kids[0])
		c.put("zero", no)
		kids(t.kids[1])
		c.put("jump", end)
		c.put(no + ":")
		kids(t.kids[2:]...)
		c.put(end + ":")
		return
	case "while":
		again, end := c.mark(), c.mark()
		c.put(again + ":")
		kids(t.kids[0])
		c.put("zero", end)
		c.loops = append(c.loops, [2]string{again, end})
		kids(t.kids[1])
		c.loops = c.loops[:len(c.loops)-1]
		c.put("jump", again)
		c.put(end + ":")
		return
	case "and", "or":
		short, end := c.mark(), c.mark()
		kids(t.kids[0])
		c.put(map[string]string{"and": "zero", "or": "notzero"}[t.name], short)
		kids(t.kids[1])
		c.put("num 0\neq\nnum 0\neq\njump", end)
		c.put(short + ":")
		c.put("num", bit(t.name == "or"))
		c.put(end + ":")
		return
	}
	kids(t.kids...)
	c.last(t)
}

// last is what stands behind the code of a part's kids.
func (c *compiled) last(t tree) {
	ahead := 0
	if t.name == "at" {
		for _, x := range c.u.Texts[:t.n] {
			ahead += len(x.Data)
		}
	}
	switch t.name {
	case "break", "continue":
		c.put("jump", c.loops[len(c.loops)-1-t.n][bit(t.name == "break")])
	case "num", "set":
		c.put(t.name, t.n)
	case "var":
		c.put("get", t.n)
	case "at":
		c.put("num", ahead)
	case "len":
		c.put("num", len(c.u.Texts[t.n].Data))
	case "one", "two":
		c.put(opName(t.n))
	case "turn":
		c.put("swap\n" + opName(t.n))
	case "not":
		c.put("num 0\neq")
	case "call":
		c.put("call", fmt.Sprint("F", t.n))
	case "sys":
		c.put("sys", t.n)
	case "block":
	default:
		c.put(map[string]string{"put": "store", "put8": "store8", "return": "ret", "do": "pop", "abort": "abort", "size": "size", "load": "load", "load8": "load8"}[t.name])
	}
}

// someFiles are those that drawn units find.
func someFiles(t testing.TB) *vfs.FS {
	t.Helper()
	f, e := vfs.New([]api.Item{{Path: "a", Data: []byte("12345")}, {Path: "d", Dir: true}, {Path: "d/x", Data: []byte{0, 255, 7}}}, api.Quota{Bytes: 60, Files: 7, Open: 3})
	if e != api.OK {
		t.Fatal(e)
	}
	return f
}

// filesText says files, and the handles that are open.
func filesText(f *vfs.FS) string {
	s := fmt.Sprint(f.Items(), f.Used())
	for h := range 4 {
		p, at, e := f.Place(h)
		s += fmt.Sprint(" ", p, at, e)
	}
	return s
}

// means holds Mean of a unit against what it must tell, and do.
func means(t testing.TB, u api.Unit, f *vfs.FS, memory, steps int) (api.Meant, bool) {
	t.Helper()
	g := f.Twin()
	m, ok := tongue.Mean(u, f, memory, steps)
	want, wok := meantOf(u, g, memory, steps)
	if text, is := fmt.Sprintf("%+v %v", m, ok), fmt.Sprintf("%+v %v", want, wok); text != is {
		t.Errorf("P1706: Mean of %s, memory %d, steps %d: %s\nwant %s", brief(show(u)), memory, steps, text, is)
	}
	is(t, "P1705: the files", filesText(f), filesText(g))
	return m, ok
}

// Drawn units mean what the chapter says, under any steps, and what a machine does with their program.
func TestDrawnMeanings(t *testing.T) {
	t.Parallel()
	r := seeded(5)
	met := map[string]int{}
	for range rounds(6000) {
		u := drawn(r)
		memory := 20 + r.IntN(20)
		f := someFiles(t)
		m, ok := means(t, u, f, memory, 400+r.IntN(2000))
		if !ok {
			met["short"]++
			continue
		}
		met[m.Trap.Word()]++
		if m.Moved > 0 {
			met["moved"]++
		}
		if m.Steps > 100 {
			met["long"]++
		}
		g := someFiles(t)
		again, ok := tongue.Mean(u, g, memory, 1<<20)
		is(t, "P1708: with more steps", fmt.Sprintf("%+v %v %s", again, ok, filesText(g)), fmt.Sprintf("%+v true %s", m, filesText(f)))
		if again, ok = means(t, u, someFiles(t), memory, m.Steps); !ok || fmt.Sprint(again) != fmt.Sprint(m) {
			t.Errorf("P1708: with just as many steps: %+v %v", again, ok)
		}
		for range 2 {
			if less, ok := means(t, u, someFiles(t), memory, r.IntN(m.Steps)); ok || fmt.Sprint(less) != fmt.Sprint(api.Meant{}) {
				t.Errorf("P1708: with fewer steps: %+v %v", less, ok)
			}
		}
		is(t, "P1708: other names", fmt.Sprint(tongue.Mean(renamed(u), someFiles(t), memory, m.Steps)), fmt.Sprint(m, true))
		if m.Trap != api.TStack {
			machineDoes(t, u, memory, m, filesText(f))
		}
	}
	t.Log(met)
	for _, s := range []string{"short", "none", "stack", "bounds", "divide", "float", "abort", "moved", "long"} {
		if met[s] == 0 && !testing.Short() {
			t.Errorf("%s was never met", s)
		}
	}
}

func machineDoes(t testing.TB, u api.Unit, memory int, m api.Meant, files string) {
	t.Helper()
	f := someFiles(t)
	v, e := vm.New(program(t, u, memory), f, api.Limits{Fuel: 8*m.Steps + m.Moved, Memory: memory, Stack: 1 << 16})
	if e != api.OK {
		t.Fatalf("vm.New: %v of %s", e, show(u))
	}
	v.Run(math.MaxInt)
	o := v.End()
	o.Fuel = 0
	if fmt.Sprint(o) != fmt.Sprint(m.Outcome) || filesText(f) != files {
		t.Errorf("P1706: %s: a machine ends %+v, Mean %+v; files %s, %s", brief(show(u)), o, m, filesText(f), files)
	}
}

// renamed has other names for all.
func renamed(u api.Unit) api.Unit {
	u = twin(u)
	for i := range u.Texts {
		u.Texts[i].Name = fmt.Sprint("t", i)
	}
	for i, f := range u.Funcs {
		u.Funcs[i].Name = fmt.Sprint("t", i)
		for j := range f.Locals {
			f.Locals[j] = fmt.Sprint("t", j)
		}
	}
	return u
}
