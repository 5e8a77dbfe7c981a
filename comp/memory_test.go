package comp_test

import (
	"fmt"
	"slices"
	"testing"

	"retort/api"
	"retort/comp"
	"retort/tongue"
)

// roomy has that list with spare room behind it, in which something lies too.
func roomy[T any](l []T, spare T) []T {
	more := append(make([]T, 0, len(l)+3), l...)
	for i := len(l); i < cap(more); i++ {
		more[:cap(more)][i] = spare
	}
	return more
}

func whole[T any](l []T) []T { return l[:cap(l)] }

func spoil[T any](l []T, x T) {
	l = whole(l)
	for i := range l {
		l[i] = x
	}
}

// roomyUnit has spare room behind each list.
func roomyUnit(u api.Unit) api.Unit {
	u.Texts = roomy(u.Texts, api.Text{Name: "spare", Data: []byte{1}})
	for i, t := range u.Texts {
		u.Texts[i].Data = roomy(t.Data, 77)
	}
	u.Funcs = roomy(u.Funcs, api.Fn{Name: "spare"})
	for i, f := range u.Funcs {
		u.Funcs[i].Locals = roomy(f.Locals, "spare")
		u.Funcs[i].Parts = roomy(f.Parts, num(5))
	}
	return u
}

// wholeText says a unit with all that lies in its lists' spare room.
func wholeText(u api.Unit) string {
	u.Texts, u.Funcs = slices.Clone(whole(u.Texts)), slices.Clone(whole(u.Funcs))
	for i, t := range u.Texts {
		u.Texts[i].Data = whole(t.Data)
	}
	for i, f := range u.Funcs {
		u.Funcs[i].Locals, u.Funcs[i].Parts = whole(f.Locals), whole(f.Parts)
	}
	return fmt.Sprint(u)
}

func spoilUnit(u api.Unit) {
	for _, t := range whole(u.Texts) {
		spoil(t.Data, 200)
	}
	for _, f := range whole(u.Funcs) {
		spoil(f.Locals, "spoilt")
		spoil(f.Parts, part(-8, -8, -8))
	}
	spoil(u.Texts, api.Text{Name: "spoilt"})
	spoil(u.Funcs, api.Fn{Name: "spoilt"})
}

// listsApart writes into each list of the answers, its spare room too, which one it is, and looks whether all of it stays.
func listsApart(t *testing.T, p api.Program, origins [][]int) {
	t.Helper()
	spoil(p.Data, 201)
	for i, f := range p.Funcs {
		spoil(f.Code, api.Instr{Op: i, A: i})
	}
	for i, l := range origins {
		spoil(l, i)
	}
	for i, f := range p.Funcs {
		for _, x := range whole(f.Code) {
			is(t, "P2: two codes of one answer", x, api.Instr{Op: i, A: i})
		}
	}
	for i, l := range origins {
		for _, n := range whole(l) {
			is(t, "P2: two lists of Origin's answer", n, i)
		}
	}
	for i := len(p.Funcs); i < cap(p.Funcs); i++ {
		is(t, "P2: spare room", len(whole(p.Funcs)[i].Code), 0)
	}
	for i := len(origins); i < cap(origins); i++ {
		is(t, "P2: spare room", len(whole(origins)[i]), 0)
	}
}

// What is handed in stays, and is not kept; the answers are new memory; again they are the same.
func TestUnitsStay(t *testing.T) {
	r := seeded(3)
	l := []api.Unit{{}, unit(0), unit(1)}
	for range 300 {
		u := drawn(r)
		l = append(l, u, bent(r, u))
	}
	for _, x := range wrongUnits() {
		l = append(l, x.u)
	}
	for _, u := range l {
		u = roomyUnit(twin(u))
		was := wholeText(u)
		p, e := comp.Compile(u, 30)
		origins, oe := comp.Origin(u)
		is(t, "P2: handed in", wholeText(u), was)
		first := fmt.Sprint(saidProgram(p), e, origins, oe)
		other, e := comp.Compile(u, 30)
		others, oe := comp.Origin(u)
		is(t, "P3: again", fmt.Sprint(saidProgram(other), e, others, oe), first)
		listsApart(t, other, others)
		is(t, "P2: an answer that was written", fmt.Sprint(saidProgram(p), e, origins, oe), first)
		is(t, "P2: handed in", wholeText(u), was)
		other, e = comp.Compile(u, 30)
		others, oe = comp.Origin(u)
		is(t, "P3: when an answer was written", fmt.Sprint(saidProgram(other), e, others, oe), first)
		spoilUnit(u)
		is(t, "P2: kept", fmt.Sprint(saidProgram(p), e, origins, oe), first)
	}
}

// No list and an empty one are the same.
func TestEmptyLists(t *testing.T) {
	a := unit(0)
	b := api.Unit{Texts: []api.Text{}, Funcs: []api.Fn{{Name: "main", Locals: []string{}, Parts: a.Funcs[0].Parts}}}
	c := api.Unit{Texts: []api.Text{{Name: "p", Data: []byte{}}, {Name: "q"}}, Funcs: a.Funcs}
	for _, u := range []api.Unit{a, b, c} {
		p, l, e := compiled(t, u, 0)
		is(t, "P2: empty lists", fmt.Sprint(saidProgram(p), l, e), "memory 0, data \"\"\n0 0 1: num 0, ret[[0 0]] ok")
	}
	p, _ := comp.Compile(api.Unit{Texts: []api.Text{}, Funcs: []api.Fn{}}, 0)
	is(t, "P4: no functions", saidProgram(p), saidProgram(api.Program{}))
}

// The same memory with something else in it is another unit.
func TestSameMemory(t *testing.T) {
	r := seeded(4)
	u := read(t, `text p = "ab"; func main(; a, b) { a = 1; while a < 3 { a = a + 1; if b { break; } } return a + b; }`)
	f := &u.Funcs[0]
	for range rounds(2000) {
		i := r.IntN(len(f.Parts))
		was := f.Parts[i]
		switch r.IntN(4) {
		case 0:
			f.Parts[i].N = r.IntN(4) - 1
		case 1:
			f.Parts[i].Kind = []int{api.PNum, api.PVar, api.PLen, api.PAt, api.PBreak, api.PContinue}[r.IntN(6)]
		case 2:
			u.Texts[0].Data[r.IntN(2)]++
		case 3:
			f.Parts[i].Kids = r.IntN(4)
		}
		follows(t, u, 2, 1000)
		if tongue.Check(u) != api.OK {
			f.Parts[i] = was
		}
	}
}

// FuzzUnit takes bytes as parts: a kind, a number, kids.
func FuzzUnit(f *testing.F) {
	r := seeded(5)
	for range 30 {
		var b []byte
		for _, x := range drawn(r).Funcs[0].Parts {
			b = append(b, byte(x.Kind), byte(x.N), byte(x.Kids))
		}
		f.Add(b)
	}
	f.Fuzz(func(t *testing.T, b []byte) {
		if len(b) > 600 {
			return
		}
		var l []api.Part
		for ; len(b) > 2; b = b[3:] {
			l = append(l, part(int(b[0]), int(int8(b[1])), int(int8(b[2]))))
		}
		u := api.Unit{Texts: []api.Text{{Name: "p", Data: []byte("a")}, {Name: "q", Data: []byte("d/x")}}, Funcs: []api.Fn{{Name: "main", Locals: []string{"a", "b"}, Parts: l}, {Name: "f", Args: 1, Locals: []string{"a"}, Parts: []api.Part{part(api.PBlock, 0, 1), part(api.PReturn, 0, 1), part(api.PVar, 0, 0)}}}}
		follows(t, u, 20, 1000)
	})
}

// FuzzText takes bytes as a text of the small language.
func FuzzText(f *testing.F) {
	r := seeded(6)
	for range 30 {
		text, _ := tongue.Print(drawn(r))
		f.Add(text)
	}
	f.Fuzz(func(t *testing.T, text string) {
		if u, e, _ := tongue.Parse(text); e == api.OK && len(text) < 3000 {
			follows(t, u, 20, 1000)
		}
	})
}
