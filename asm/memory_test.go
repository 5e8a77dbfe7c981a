package asm_test

import (
	"fmt"
	"slices"
	"strings"
	"testing"
	"unsafe"

	"retort/api"
	"retort/asm"
)

// roomy has that list with spare room behind it, in which something lies too.
func roomy[T any](l []T, spare T) []T {
	more := append(make([]T, 0, len(l)+3), l...)
	for i := len(l); i < cap(more); i++ {
		more[:cap(more)][i] = spare
	}
	return more
}

func whole[T any](l []T) []T { return l[:cap(l)] }

func spoil[T any](l []T, x T) {
	l = whole(l)
	for i := range l {
		l[i] = x
	}
}

// roomyProgram has spare room behind each list.
func roomyProgram(p api.Program) api.Program {
	p.Data = roomy(p.Data, 77)
	p.Funcs = roomy(p.Funcs, api.Func{Args: 5, Code: list(one(1, 2))})
	for i, f := range p.Funcs {
		p.Funcs[i].Code = roomy(f.Code, one(api.IJump, 0))
	}
	return p
}

// wholeText says a program with all that lies in its lists' spare room.
func wholeText(p api.Program) string {
	p.Data = whole(p.Data)
	p.Funcs = slices.Clone(whole(p.Funcs))
	for i, f := range p.Funcs {
		p.Funcs[i].Code = whole(f.Code)
	}
	return fmt.Sprint(p)
}

// spoilProgram writes all of a program's lists, their spare room too.
func spoilProgram(p api.Program) {
	for _, f := range whole(p.Funcs) {
		spoil(f.Code, one(-8, -8))
	}
	spoil(p.Funcs, api.Func{Args: -9})
	spoil(p.Data, 200)
}

// codesApart writes into each code of a program, its spare room too, which function's it is, and looks whether all of it stays.
func codesApart(t *testing.T, p api.Program) {
	t.Helper()
	for i, f := range p.Funcs {
		spoil(f.Code, one(i, i))
	}
	for i, f := range p.Funcs {
		for _, x := range whole(f.Code) {
			is(t, "P2: two codes of what Parse tells", x, one(i, i))
		}
	}
}

func programs() []api.Program {
	r := seeded(8)
	l := []api.Program{{}, {Data: []byte{}, Funcs: []api.Func{}}, example(), plain(one(0, 0)), plain(one(46, 0)), plain(one(api.IJump, 1)), plain(one(api.IAdd, 1)), {Memory: -1, Funcs: make([]api.Func, 3)}, plain(many(one(api.IJump, 0), 4096)...), filled(65536, 'a', 1), filled(65537, 7, 4)}
	for range 40 {
		l = append(l, drawn(r))
	}
	return l
}

func TestPrintKeepsNothing(t *testing.T) {
	for _, p := range programs() {
		p = roomyProgram(p)
		was := wholeText(p)
		text, e := asm.Print(p)
		is(t, "P2: handed in to Print", wholeText(p), was)
		want, we := textOf(p)
		again, e2 := asm.Print(p)
		is(t, "P3: Print again", again, text)
		is(t, "P3: Print again", e2, e)
		spoilProgram(p)
		is(t, "P2: kept by Print", text, want)
		is(t, "P1402: Print", e, we)
	}
}

// loose has the text in memory that can be written, as no text can that Go makes itself.
func loose(b []byte) string { return unsafe.String(unsafe.SliceData(b), len(b)) }

func TestParseKeepsNothing(t *testing.T) {
	r := seeded(9)
	var texts []string
	for range 200 {
		text := otherwise(r, drawn(r))
		texts = append(texts, text, bent(r, text))
	}
	texts = append(texts, "", "nop", begin, begin+"nop", strings.Repeat("a", 65537))
	for _, text := range texts {
		b := roomy([]byte(text), 77)
		was := string(whole(b))
		p, err := asm.Parse(loose(b))
		other, _ := asm.Parse(loose(b))
		is(t, "P2: handed in to Parse", string(whole(b)), was)
		want := programOf(text)
		said := show(told{p: want.p})
		spoil(b, '9')
		is(t, "P2: kept by Parse", show(told{p: p}), said)
		if err != nil {
			is(t, "P2: kept in its error", err.Error(), (&asm.LineError{Line: want.line, Err: want.e}).Error())
		}
		codesApart(t, other)
		spoilProgram(other)
		is(t, "P2: two answers of Parse", show(told{p: p}), said)
		is(t, "P3: Parse, when its answer was written", show(said1(t, text)), show(want))
	}
}

// The same memory with something else in it is another program.
func TestSameProgramMemory(t *testing.T) {
	r := seeded(10)
	p := api.Program{Memory: 9, Data: []byte{1, 2, 3}}
	for range 4 {
		p.Funcs = append(p.Funcs, api.Func{Code: many(one(0, 0), 3)})
	}
	for range rounds(3000) {
		f := &p.Funcs[r.IntN(4)]
		switch r.IntN(5) {
		case 0:
			p.Data[r.IntN(3)] = byte(r.Uint32())
		case 1:
			f.Code[r.IntN(3)] = drawnInstr(r, 3, 4)
		case 2:
			f.Code[r.IntN(3)] = one(r.IntN(48)-1, r.IntN(5)-1)
		case 3:
			*f = api.Func{Args: r.IntN(3), Locals: r.IntN(6), Results: r.IntN(2), Code: f.Code}
		case 4:
			for i := range p.Funcs {
				copy(p.Funcs[i].Code, many(one(api.IJump, i), 3))
			}
		}
		back(t, p)
	}
}

// The same memory with something else in it is another text.
func TestSameTextMemory(t *testing.T) {
	r := seeded(11)
	b := make([]byte, 4096)
	for range rounds(3000) {
		text := otherwise(r, drawn(r))
		if r.IntN(2) == 0 {
			text = bent(r, text)
		}
		n := copy(b, text)
		want := programOf(string(b[:n]))
		is(t, "P3: Parse of the same memory", show(said1(t, loose(b[:n]))), show(want))
	}
}

// Behind a call that met a fault the next one answers as if there had been none.
func TestFaultsLeaveNothing(t *testing.T) {
	right := "memory 4\ndata \"a\\x00\"\nfunc main 0 0 1\nagain: num -3\nzero again\nnum 7\nret"
	for _, wrong := range []string{"", "memory 5\ndata \"b", "memory 5\ndata \"bbb\"\nfunc main 0 0 0\nagain: again:", "func main 0 0 0\nagain: jump a", "func main 0 0 0\nnum 99999999999999999999", "func main 0 0 0\nget 64", strings.Repeat(" ", 65537)} {
		p, err := asm.Parse(wrong)
		if err == nil || show(told{p: p}) != show(told{}) {
			t.Errorf("P4: Parse of %s: %v, %v", brief(wrong), p, err)
		}
		is(t, "P3: Parse behind a fault", show(said1(t, right)), show(told{p: example()}))
	}
	want, _ := textOf(example())
	for _, wrong := range []api.Program{{}, plain(one(46, 0)), plain(one(api.IJump, 4096)), filled(65537, 'a', 1)} {
		text, e := asm.Print(wrong)
		if e == api.OK || text != "" {
			t.Errorf("P4: Print of %s: %s, %v", brief(wrong), brief(text), e)
		}
		text, e = asm.Print(example())
		is(t, "P3: Print behind a fault", text, want)
		is(t, "P3: Print behind a fault", e, api.OK)
	}
}
