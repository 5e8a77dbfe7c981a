package tongue_test

import (
	"fmt"
	"slices"
	"strings"
	"testing"
	"unsafe"

	"retort/api"
	"retort/tongue"
)

// roomy has that list with spare room behind it, in which something lies too.
func roomy[T any](l []T, spare T) []T {
	more := append(make([]T, 0, len(l)+3), l...)
	for i := len(l); i < cap(more); i++ {
		more[:cap(more)][i] = spare
	}
	return more
}

func whole[T any](l []T) []T { return l[:cap(l)] }

func spoil[T any](l []T, x T) {
	l = whole(l)
	for i := range l {
		l[i] = x
	}
}

// loose has the text in memory that can be written, as no text can that Go makes itself.
func loose(b []byte) string { return unsafe.String(unsafe.SliceData(b), len(b)) }

// looseUnit has spare room behind each list, and all names in memory that can be written: that is told too.
func looseUnit(u api.Unit) (api.Unit, [][]byte) {
	var names [][]byte
	name := func(s string) string {
		names = append(names, []byte(s))
		return loose(names[len(names)-1])
	}
	u.Texts = roomy(u.Texts, api.Text{Name: "spare", Data: []byte{1}})
	for i, t := range u.Texts {
		u.Texts[i] = api.Text{Name: name(t.Name), Data: roomy(t.Data, 77)}
	}
	u.Funcs = roomy(u.Funcs, empty("spare", "spare"))
	for i, f := range u.Funcs {
		f.Name = name(f.Name)
		f.Locals = roomy(f.Locals, "spare")
		for j, l := range f.Locals {
			f.Locals[j] = name(l)
		}
		f.Parts = roomy(f.Parts, num(5))
		u.Funcs[i] = f
	}
	return u, names
}

// wholeText says a unit with all that lies in its lists' spare room.
func wholeText(u api.Unit) string {
	u.Texts, u.Funcs = slices.Clone(whole(u.Texts)), slices.Clone(whole(u.Funcs))
	for i, t := range u.Texts {
		u.Texts[i].Data = whole(t.Data)
	}
	for i, f := range u.Funcs {
		u.Funcs[i].Locals, u.Funcs[i].Parts = whole(f.Locals), whole(f.Parts)
	}
	return fmt.Sprint(u)
}

// spoilUnit writes all of a unit's lists, their spare room too.
func spoilUnit(u api.Unit) {
	for _, t := range whole(u.Texts) {
		spoil(t.Data, 200)
	}
	for _, f := range whole(u.Funcs) {
		spoil(f.Locals, "spoilt")
		spoil(f.Parts, part(-8, -8, -8))
	}
	spoil(u.Texts, api.Text{Name: "spoilt"})
	spoil(u.Funcs, api.Fn{Name: "spoilt"})
}

// listsApart writes into each list of a unit, its spare room too, which one it is, and looks whether all of it stays.
func listsApart(t *testing.T, u api.Unit) {
	t.Helper()
	for i, x := range u.Texts {
		spoil(x.Data, byte(i))
	}
	for i, f := range u.Funcs {
		spoil(f.Locals, fmt.Sprint(i))
		spoil(f.Parts, part(i, i, i))
	}
	for i, x := range u.Texts {
		for _, b := range whole(x.Data) {
			is(t, "P2: two texts of what Parse tells", b, byte(i))
		}
	}
	for i, f := range u.Funcs {
		for _, l := range whole(f.Locals) {
			is(t, "P2: two functions' locals of what Parse tells", l, fmt.Sprint(i))
		}
		for _, x := range whole(f.Parts) {
			is(t, "P2: two functions' parts of what Parse tells", x, part(i, i, i))
		}
	}
}

// units are right ones and wrong ones.
func units() []api.Unit {
	r := seeded(8)
	l := []api.Unit{{}, {Texts: []api.Text{}, Funcs: []api.Fn{}}, unit(), unit(body(0)...), doing(part(api.PDo, 0, 1)), doing(part(api.PBreak, 0, 0)), {Funcs: manyFuncs(64)}, {Funcs: manyFuncs(65)}, {Texts: manyTexts(3, 30000), Funcs: manyFuncs(1)}}
	for range 60 {
		u := drawn(r)
		l = append(l, u, bentUnit(r, u))
	}
	return l
}

func TestUnitsStay(t *testing.T) {
	for _, u := range units() {
		before := show(u)
		u, names := looseUnit(u)
		was := wholeText(u)
		e := tongue.Check(u)
		text, pe := tongue.Print(u)
		m, ok := tongue.Mean(u, someFiles(t), 60, 1000)
		is(t, "P2: handed in", wholeText(u), was)
		is(t, "P3: Check again", tongue.Check(u), e)
		again, pe2 := tongue.Print(u)
		is(t, "P3: Print again", fmt.Sprint(again, pe2), fmt.Sprint(text, pe))
		m2, ok2 := tongue.Mean(u, someFiles(t), 60, 1000)
		is(t, "P3: Mean again", fmt.Sprint(m2, ok2), fmt.Sprint(m, ok))
		want, _ := textOf(u)
		want = strings.Clone(want)
		for _, b := range names {
			spoil(b, '9')
		}
		spoilUnit(u)
		is(t, "P2: kept by Print of "+brief(before), text, want)
		if e == api.OK && pe == api.OK {
			is(t, "P2: kept by Print", show(read(t, text)), before)
		}
	}
}

func TestTextsStay(t *testing.T) {
	r := seeded(9)
	texts := []string{"", "func main() { }", longText, "func main() { x = 1; }", strings.Repeat(" ", 65537), "text p = \"" + strings.Repeat("a", 1000) + "\"; func main(; a, b, c) { }"}
	for range 150 {
		text := otherwise(r, drawn(r))
		texts = append(texts, text, bent(r, text))
	}
	for _, text := range texts {
		b := roomy([]byte(text), 77)
		was := string(whole(b))
		got, other := answer{}, answer{}
		got.u, got.e, got.at = tongue.Parse(loose(b))
		other.u, other.e, other.at = tongue.Parse(loose(b))
		is(t, "P2: handed in to Parse", string(whole(b)), was)
		said := got.String()
		spoil(b, '9')
		is(t, "P2: kept by Parse", got.String(), said)
		is(t, "P3: Parse again", other.String(), said)
		listsApart(t, other.u)
		spoilUnit(other.u)
		is(t, "P2: two answers of Parse", got.String(), said)
		other.u, other.e, other.at = tongue.Parse(text)
		is(t, "P3: Parse, when its answer was written", other.String(), said)
	}
}

// What Mean is told of the texts is its own: the memory that it writes is not theirs.
func TestMeanWritesItsOwn(t *testing.T) {
	u := read(t, "text p = \"abc\"; text q = \"defghijk\"; func main() { byte[0] = byte[0] + 1; word[&q] = 0; return byte[0]; }")
	was := show(u)
	for range 3 {
		m, ok := tongue.Mean(u, someFiles(t), 11, 100)
		is(t, "P2: Mean again", fmt.Sprint(m.Code, ok), fmt.Sprint('b', true))
		is(t, "P2: handed in to Mean", show(u), was)
	}
}

// The same memory with something else in it is another unit.
func TestSameUnitMemory(t *testing.T) {
	r := seeded(10)
	u := unit(body(3, part(api.PSet, 0, 1), num(1), part(api.PSet, 1, 1), num(2), part(api.PReturn, 0, 1), two(api.IAdd), local(0), local(1))...)
	f := &u.Funcs[0]
	for range rounds(2000) {
		switch r.IntN(6) {
		case 0:
			f.Parts[2].N = r.IntN(9) - 4
		case 1:
			f.Parts[6].N = opNamed(strings.Fields(twosNamed)[r.IntN(20)])
		case 2:
			f.Parts[7+r.IntN(2)] = []api.Part{local(0), local(1), local(2), num(7), part(api.PSize, 0, 0), part(api.PLen, 0, 0)}[r.IntN(6)]
		case 3:
			f.Locals[r.IntN(2)] = drawnNames[r.IntN(len(drawnNames))]
		case 4:
			u.Texts[0].Data[0] = byte(r.Uint32())
		case 5:
			f.Parts[0].Kids = 2 + r.IntN(3)
		}
		back(t, u)
		means(t, u, someFiles(t), 8, 100)
	}
}

// The same memory with something else in it is another text.
func TestSameTextMemory(t *testing.T) {
	r := seeded(11)
	b := make([]byte, 1<<16)
	for range rounds(1000) {
		text := otherwise(r, drawn(r))
		if r.IntN(2) == 0 {
			text = bent(r, text)
		}
		n := copy(b, text)
		parse(t, loose(b[:n]))
	}
}

// Behind a call that met a fault the next one answers as if there had been none.
func TestFaultsLeaveNothing(t *testing.T) {
	right := show(read(t, longText))
	for _, wrong := range []string{"", "func", "func main(; a, a) { }", "func main() { x = 1; }", "func main() { return f(1, 2); }", "func main() { return 99999999999999999999; }", "func main() { break; }", strings.Repeat("(", 70000), "func main() { return " + strings.Repeat("(", 300), "text p = \"abc"} {
		u, e, _ := tongue.Parse(wrong)
		if e == api.OK || show(u) != "" {
			t.Errorf("P4: Parse of %s: %s, %v", brief(wrong), show(u), e)
		}
		is(t, "P3: Parse behind a fault", show(read(t, longText)), right)
	}
	want, _ := tongue.Print(read(t, longText))
	for _, wrong := range []api.Unit{{}, unit(), doing(part(api.PBreak, 0, 0)), {Texts: manyTexts(1, 65536), Funcs: manyFuncs(1)}} {
		text, e := tongue.Print(wrong)
		if e == api.OK || text != "" {
			t.Errorf("P4: Print of %s: %s, %v", brief(wrong), brief(text), e)
		}
		text, e = tongue.Print(read(t, longText))
		is(t, "P3: Print behind a fault", fmt.Sprint(text, e), fmt.Sprint(want, api.OK))
	}
}

// FuzzParse takes bytes as a text.
func FuzzParse(f *testing.F) {
	r := seeded(12)
	f.Add([]byte(longText))
	for range 30 {
		f.Add([]byte(otherwise(r, drawn(r))))
	}
	f.Fuzz(func(t *testing.T, b []byte) {
		if len(b) > 2000 {
			return
		}
		a := parse(t, string(b))
		if a.e == api.OK {
			back(t, a.u)
			means(t, a.u, someFiles(t), 32, 500)
		}
	})
}

// FuzzUnit takes bytes as parts: a kind, a number, kids.
func FuzzUnit(f *testing.F) {
	r := seeded(13)
	for range 30 {
		var b []byte
		for _, x := range drawn(r).Funcs[0].Parts {
			b = append(b, byte(x.Kind), byte(x.N), byte(x.Kids))
		}
		f.Add(b)
	}
	f.Fuzz(func(t *testing.T, b []byte) {
		if len(b) > 600 {
			return
		}
		var l []api.Part
		for ; len(b) > 2; b = b[3:] {
			l = append(l, part(int(b[0]), int(int8(b[1])), int(int8(b[2]))))
		}
		u := unit(l...)
		back(t, u)
		means(t, u, someFiles(t), 32, 500)
	})
}
