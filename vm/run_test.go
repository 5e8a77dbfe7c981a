package vm_test

import (
	"fmt"
	"math"
	"strings"
	"testing"

	"retort/api"
)

// countdown takes 2 + 8 * n + 4 steps.
func countdown(n int) api.Program {
	return whole(fmt.Sprintf("memory 8 | func f 0 1 1 | num %d | set 0 | again: get 0 | zero done | get 0 | num 1 | sub | set 0 | nop | jump again | done: num 77 | ret", n))
}

func TestRunSteps(t *testing.T) {
	for _, steps := range []int{math.MinInt, -2, -1, 0} {
		m := made(t, countdown(3), files(), wide())
		was := seen(m, 8)
		is(t, "P1504: Run of none", m.Run(steps), 0)
		is(t, "P1504: nothing is done", seen(m, 8), was)
		m.Run(5)
		was = seen(m, 8)
		is(t, "P1504: Run of none", m.Run(steps), 0)
		is(t, "P1504: nothing is done", seen(m, 8), was)
	}
	const all = 2 + 8*3 + 4
	for steps := 1; steps < all+3; steps++ {
		m := made(t, countdown(3), files(), wide())
		is(t, "P1504: Run", m.Run(steps), min(steps, all))
		is(t, "P1505: Used", m.Used(), min(steps, all))
		is(t, "P1505: whether it goes on", m.End().End == 0, steps < all)
		is(t, "P1504: Run again", m.Run(steps), min(steps, max(0, all-steps)))
	}
	m := made(t, countdown(3), files(), wide())
	is(t, "P1504: the most steps", m.Run(math.MaxInt), all)
	for _, steps := range []int{math.MinInt, -1, 0, 1, 2, math.MaxInt} {
		is(t, "P1504: Run behind the end", m.Run(steps), 0)
		is(t, "P1505: End stays", text(m.End()), text(halt(77, all)))
	}
}

// The step that ends the run counts, whichever way it ends it, also for want of fuel.
func TestLastStepCounts(t *testing.T) {
	for _, c := range []struct {
		what, code string
		l          api.Limits
		steps      int
		want       api.Outcome
	}{
		{"IHalt", "num 1 | halt", wide(), 2, halt(1, 2)},
		{"IRet", "num 1 | ret", wide(), 2, halt(1, 2)},
		{"IAbort", "num 1 | abort", wide(), 2, api.Outcome{End: api.ETrap, Trap: api.TAbort, Code: 1, Fuel: 2}},
		{"TDivide", "num 1 | num 0 | div | ret", wide(), 3, trap(api.TDivide, 3)},
		{"TFuel", "num 1 | num 2 | add | ret", api.Limits{Fuel: 3, Memory: 20, Stack: 9}, 4, trap(api.TFuel, 3)},
		{"TFuel at once", "num 1 | num 2 | add | ret", api.Limits{Memory: 20, Stack: 9}, 1, trap(api.TFuel, 0)},
		{"TFuel of files", "num 0 | num 3 | num 0 | sys open | ret", api.Limits{Fuel: 5, Memory: 20, Stack: 9}, 4, trap(api.TFuel, 3)},
		{"TStack", "num 1 | num 2 | add | ret", api.Limits{Fuel: 9, Memory: 20, Stack: 2}, 2, trap(api.TStack, 2)},
		{"TMemory", "num 1 | ret", api.Limits{Fuel: 9, Memory: 19, Stack: 2}, 0, trap(api.TMemory, 0)},
		{"TStack at New", "num 1 | ret", api.Limits{Fuel: 9, Memory: 20, Stack: 0}, 0, trap(api.TStack, 0)},
	} {
		for _, steps := range []int{c.steps, c.steps + 1, math.MaxInt} {
			m := made(t, body(c.code), files(), c.l)
			is(t, "P1504: Run to "+c.what, m.Run(steps), c.steps)
			is(t, "P1505: "+c.what, text(m.End()), text(c.want))
		}
		m := made(t, body(c.code), files(), c.l)
		for n := 1; n <= c.steps; n++ {
			is(t, "P1502: Step to "+c.what, m.Step(), n < c.steps)
			is(t, "P1505: whether it has ended by "+c.what, m.End().End != 0, n == c.steps)
		}
		is(t, "P1502: Step behind "+c.what, m.Step(), false)
		is(t, "P1504: Run behind "+c.what, m.Run(9), 0)
		is(t, "P1505: "+c.what, text(m.End()), text(c.want))
	}
}

// While the run goes on End tells what is used, and nothing else.
func TestEndWhileItGoesOn(t *testing.T) {
	m := made(t, countdown(3), files(), wide())
	for n := range 30 {
		is(t, "P1505: End while it goes on", text(m.End()), text(api.Outcome{Fuel: n}))
		is(t, "P1505: Used", m.Used(), n)
		m.Step()
	}
	is(t, "P1505: End", text(m.End()), text(halt(77, 30)))
}

func TestMemoryIsSeen(t *testing.T) {
	for _, size := range []int{0, 1, 9, 1 << 16} {
		p := whole(fmt.Sprintf("memory %d | func f 0 0 1 | num 1 | ret", size))
		for i := range size {
			p.Data = append(p.Data, byte(i*7+1))
		}
		short := api.Limits{Fuel: 9, Memory: size - 1, Stack: 9}
		for _, l := range []api.Limits{wide(), short} {
			m := made(t, p, files(), l)
			for range 4 {
				for _, at := range edges(size) {
					for _, n := range edges(size) {
						b, e := m.Memory(at, n)
						if !lies(p.Data, at, n) {
							is(t, fmt.Sprintf("P1506: Memory(%d, %d) of %d", at, n, size), fmt.Sprint(len(b), e), "0 arg")
							continue
						}
						is(t, fmt.Sprintf("P1506: Memory(%d, %d) of %d", at, n, size), string(b)+e.Error(), string(p.Data[at:at+n])+"ok")
					}
				}
				m.Step()
			}
		}
	}
	b, e := made(t, body("num 1 | ret"), files(), wide()).Memory(1, 3)
	is(t, "P1506: zeros behind Data", string(b)+e.Error(), "b\x00\x00ok")
}

// ways are runs of all kinds: what they do with calls, files and memory, and how they end.
func ways() []struct {
	p api.Program
	l api.Limits
} {
	type way = struct {
		p api.Program
		l api.Limits
	}
	busy := filing(`num 0 | num 3 | num 0 | sys open | pop | num 8 | num 5 | num 5 | sys open | set 0
		num 0 | num 20 | num 3 | sys read | pop | get 0 | call write | num 13 | num 1 | num 30 | num 9 | sys list | pop
		num 0 | num 25 | num 9 | sys read | get 0 | call write | get 0 | sys close | add | num 100 | add | ret
		func write 1 2 0 | num 3 | set 1 | again: get 0 | num 20 | get 1 | sys write | pop
		num 20 | num 20 | load8 | num 1 | add | store8 | get 1 | num 1 | sub | set 1 | get 1 | notzero again | ret`)
	deep := whole(`memory 8 | func f 0 0 1 | num 9 | call g | ret
		func g 1 2 1 | get 0 | zero out | num 7 | get 0 | store8 | get 0 | num 1 | sub | call g | num 2 | mul | ret | out: num 1 | ret`)
	l := []way{
		{busy, wide()}, {deep, wide()}, {countdown(4), wide()}, {countdown(4), api.Limits{Fuel: 20, Memory: 8, Stack: 9}},
		{deep, api.Limits{Fuel: 99, Memory: 8, Stack: 25}}, {deep, api.Limits{Fuel: 50, Memory: 8, Stack: 99}},
		{busy, api.Limits{Fuel: 60, Memory: 40, Stack: 20}}, {busy, api.Limits{Fuel: 99, Memory: 40, Stack: 9}},
		{busy, api.Limits{Fuel: 99, Memory: 39, Stack: 99}}, {busy, api.Limits{Fuel: 99, Memory: 40, Stack: 1}}, {busy, api.Limits{Fuel: -5, Memory: 40, Stack: 20}},
	}
	for _, code := range []string{"num 1 | abort", "num 2 | halt", "num 1 | num 0 | rem | ret", "num 20 | load8 | ret", "num 0x7ff8000000000000 | toi | ret", "num 30 | num 1 | num 0 | sys open | ret"} {
		l = append(l, way{body(code), wide()})
	}
	return l
}

// Run in pieces is Run in one piece, and is Step by Step.
func TestPieces(t *testing.T) {
	r := seeded(3)
	for _, w := range ways() {
		one := made(t, w.p, files(), w.l)
		all := one.Run(math.MaxInt)
		for piece := 1; piece < 12; piece++ {
			m := made(t, w.p, files(), w.l)
			done := 0
			for {
				n := m.Run(piece)
				if n == 0 {
					break
				}
				done += n
			}
			is(t, "P1510: in pieces", fmt.Sprint(done, seen(m, w.p.Memory), itemText(m.Files())), fmt.Sprint(all, seen(one, w.p.Memory), itemText(one.Files())))
		}
		for range 5 {
			m := made(t, w.p, files(), w.l)
			done := 0
			for done < all {
				switch n := r.IntN(9) - 2; n {
				case 0:
					m.Step()
					done++
				default:
					done += m.Run(n)
				}
			}
			is(t, "P1510: in drawn pieces", fmt.Sprint(m.Run(9), seen(m, w.p.Memory)), fmt.Sprint(0, seen(one, w.p.Memory)))
		}
		x := begun(t, w.p, files(), w.l)
		x.run(t, 1000)
		is(t, "P1510: step by step", seen(x.m, w.p.Memory), seen(one, w.p.Memory))
	}
}

// Under more fuel a run goes alike, as far as the one with less goes.
func TestMoreFuel(t *testing.T) {
	for _, w := range ways() {
		w.l.Fuel = 1000
		one := made(t, w.p, files(), w.l)
		all := one.Run(math.MaxInt)
		for fuel := -1; fuel <= one.Used()+1; fuel++ {
			l := w.l
			l.Fuel = fuel
			more := made(t, w.p, files(), w.l)
			less := made(t, w.p, files(), l)
			n := 0
			for n < all && (less.Step() || less.End().Trap != api.TFuel) {
				more.Step()
				n++
				if a, b := seen(less, w.p.Memory), seen(more, w.p.Memory); a != b {
					t.Fatalf("P1510: under fuel %d: %s, want %s", fuel, a, b)
				}
			}
			want := seen(more, w.p.Memory)
			if n < all {
				want = strings.Replace(want, fmt.Sprintf("%+v", more.End()), fmt.Sprintf("%+v", trap(api.TFuel, more.Used())), 1)
				is(t, "P1505: no fuel", less.End().Trap, api.TFuel)
			}
			is(t, "P1510: at the end", seen(less, w.p.Memory)+itemText(less.Files()), want+itemText(more.Files()))
			if less.Used() > max(fuel, 0) {
				t.Errorf("P1509: Used %d of %d", less.Used(), fuel)
			}
		}
	}
}

// Two machines of one program over like files go alike, whatever is done to the one between.
func TestAlike(t *testing.T) {
	for _, w := range ways() {
		a, b := made(t, w.p, files(), w.l), made(t, w.p, files(), w.l)
		other := made(t, w.p, files(), w.l)
		for a.Step() {
			b.Step()
			other.Run(3)
			other.Twin().Run(5)
			is(t, "P1510: two machines", seen(a, w.p.Memory), seen(b, w.p.Memory))
		}
		b.Step()
		is(t, "P1510: two machines at their end", seen(a, w.p.Memory)+itemText(a.Files()), seen(b, w.p.Memory)+itemText(b.Files()))
	}
}

// A twin goes on as the first would, and neither is seen in the other.
func TestTwins(t *testing.T) {
	for _, w := range ways() {
		all := made(t, w.p, files(), w.l).Run(math.MaxInt)
		for at := range all + 2 {
			if testing.Short() && at%5 > 0 {
				continue
			}
			x := begun(t, w.p, files(), w.l)
			x.run(t, at)
			y := x.twin()
			y.alike(t, "P1508: Twin")
			z := y.twin()
			for range 7 { // in turn, so that they are at unlike places
				x.step(t)
				x.step(t)
				y.step(t)
				z.alike(t, "P1508: a twin's twin")
			}
			y.run(t, 1000)
			x.alike(t, "P1508: when the twin has ended")
			x.run(t, 1000)
			y.alike(t, "P1508: the twin, when the first has ended")
			z.run(t, 1000)
			is(t, "P1508: alike at the end", seen(x.m, w.p.Memory)+itemText(x.m.Files()), seen(y.m, w.p.Memory)+itemText(y.m.Files()))
			is(t, "P1508: alike at the end", seen(z.m, w.p.Memory)+itemText(z.m.Files()), seen(y.m, w.p.Memory)+itemText(y.m.Files()))
		}
	}
}

// Files gone apart: what the one writes, opens and closes the other does not see.
func TestTwinsFiles(t *testing.T) {
	p := filing("num 3 | num 1 | num 3 | sys open | set 0 | num 0 | num 13 | num 4 | sys write | ret")
	m := made(t, p, files(), wide())
	m.Run(5)
	w := m.Twin()
	other := m.Twin()
	m.Run(99)
	is(t, "P1508: the first", fmt.Sprint(m.End().Code, len(m.Touched()), itemText(m.Files())), fmt.Sprint(4, 2, `"d" true ""; "d/e" true ""; "d/x" false "hello"; "o" false "12dd/e"; `))
	is(t, "P1508: the twin's files", itemText(w.Files()), itemText(files().Items()))
	is(t, "P1508: the twin's touches", len(w.Touched()), 1)
	w.Run(99)
	is(t, "P1508: the twin", itemText(w.Files()), itemText(m.Files()))
	is(t, "P1508: the other twin's files", itemText(other.Files()), itemText(files().Items()))
	// A twin's quota is its own: both may write as much as may be.
	fill := filing("num 3 | num 1 | num 3 | sys open | num 20 | num 13 | sys write | ret")
	a := made(t, fill, files(), wide())
	a.Run(6)
	b := a.Twin()
	a.Run(9)
	b.Run(9)
	is(t, "P1508: both write", fmt.Sprint(a.End().Code, b.End().Code), "13 13")
}

// Touches gone apart: a hand on the first one's files lets it be answered otherwise than its twin.
func TestTwinsTouches(t *testing.T) {
	closes := "num 0 | sys close | pop |"
	for ahead := range 6 {
		f := files()
		p := filing(strings.Repeat(closes, ahead) + "num 0 | num 3 | num 0 | sys open | num 20 | num 3 | sys read | ret")
		m := made(t, p, f, wide())
		m.Run(3*ahead + 6)
		w := m.Twin()
		f.Close(0)
		m.Run(9)
		w.Run(9)
		a, b := m.Touched(), w.Touched()
		is(t, "P1508: touches", fmt.Sprint(len(a), len(b)), fmt.Sprint(ahead+2, ahead+2))
		is(t, "P1508: the first one's touches", touchText(a[ahead+1:]), touchText([]api.Touch{{Call: api.SRead, N: 3, Answer: refusal(api.ErrHandle)}}))
		is(t, "P1508: the twin's touches", touchText(b[ahead+1:]), touchText([]api.Touch{{Call: api.SRead, N: 3, Data: []byte("hel"), Answer: 3}}))
	}
}
