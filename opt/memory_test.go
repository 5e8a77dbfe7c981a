package opt_test

import (
	"slices"
	"testing"

	"retort/api"
	"retort/opt"
	"retort/prog"
)

// roomy has that list with spare room behind it, in which something lies too.
func roomy[T any](l []T, spare T) []T {
	more := append(make([]T, 0, len(l)+3), l...)
	for i := len(l); i < cap(more); i++ {
		more[:cap(more)][i] = spare
	}
	return more
}

// roomyProgram has spare room behind each list.
func roomyProgram(p api.Program) api.Program {
	p.Data = roomy(p.Data, 77)
	p.Funcs = roomy(p.Funcs, api.Func{Args: 5, Code: []api.Instr{{Op: api.IJump, A: 2}}})
	for i, f := range p.Funcs {
		p.Funcs[i].Code = roomy(f.Code, api.Instr{Op: api.ICall, A: 1})
	}
	return p
}

func full[T any](l []T) []T { return l[:cap(l)] }

// fullText says a program with all that lies in its lists' spare room.
func fullText(p api.Program) string {
	p.Data = full(p.Data)
	p.Funcs = slices.Clone(full(p.Funcs))
	for i, f := range p.Funcs {
		p.Funcs[i].Code = full(f.Code)
	}
	return text(p)
}

func spoil[T any](l []T, x T) {
	l = full(l)
	for i := range l {
		l[i] = x
	}
}

// spoilProgram writes all of a program's lists, their spare room too.
func spoilProgram(p api.Program) {
	for _, f := range full(p.Funcs) {
		spoil(f.Code, api.Instr{Op: -8, A: -8})
	}
	spoil(p.Funcs, api.Func{Args: -9})
	spoil(p.Data, 200)
}

// apart writes into each code of a program, its spare room too, which one it is, and looks whether all of it stays.
func apart(t testing.TB, p api.Program) {
	t.Helper()
	for i, f := range full(p.Funcs) {
		spoil(f.Code, api.Instr{Op: i, A: i})
	}
	for i, f := range full(p.Funcs) {
		for _, x := range full(f.Code) {
			is(t, "P2: two codes of one program", x, api.Instr{Op: i, A: i})
		}
	}
}

// kept are programs in which something of each kind is left, or nothing, or which are refused; some have one memory for several codes.
func kept() []api.Program {
	l := []api.Program{
		{}, {Data: []byte{}, Funcs: []api.Func{}}, single("pop | ret"), single("size | ret"), single("jump 0"), single("num 2 | num 3 | mul | ret"), single("size | ret | nop"),
		single("size | zero A | size | ret | A: nop | get 1 | ret"), single("nop | size | ret"), single("get 0 | pop | size | ret"),
		single("get 0 | get 1 | zero A | neg | jump B | A: not | B: num 0 | add | ret"), whole(main1 + never + twice), whole(main1 + twice),
	}
	code := whole("func f 0 0 1 | nop | num 1 | zero A | size | ret | A: size | neg | neg | ret").Funcs[0].Code
	first := whole("func f 0 0 1 | call g | call h | add | ret | func g 0 0 1 | size | ret | func h 0 0 1 | size | ret")
	first.Funcs[1].Code, first.Funcs[2].Code = code, code
	l = append(l, first)
	still := whole("func f 0 0 1 | call g | call h | add | ret | func g 0 0 1 | size | ret | func h 0 0 1 | size | ret")
	still.Funcs[2].Code = still.Funcs[1].Code
	l = append(l, still)
	r := seeded(9)
	for range 80 {
		l = append(l, drawnProgram(r))
	}
	return l
}

// faces are the calls that tell a program.
func faces() map[string]func(p api.Program) (api.Program, api.Errno) {
	return map[string]func(p api.Program) (api.Program, api.Errno){"Run": opt.Run, "Once": opt.Once}
}

func TestHandedInStays(t *testing.T) {
	for _, p := range kept() {
		for name, face := range faces() {
			want, e := face(p)
			q := roomyProgram(p)
			was := fullText(q)
			got, e2 := face(q)
			is(t, "P2: handed in to "+name, fullText(q), was)
			is(t, "P2: with spare room", said(got), said(want))
			is(t, "P2: with spare room", e, e2)
			spoilProgram(got)
			is(t, "P2: what is told shares with what was handed in to "+name, fullText(q), was)
			again, _ := face(q)
			is(t, "P3: "+name+" again", said(again), said(want))
			spoilProgram(q)
			is(t, "P2: kept by "+name, said(again), said(want))
		}
		q := roomyProgram(p)
		was := fullText(q)
		at, what, some := opt.Left(q)
		is(t, "P2: handed in to Left", fullText(q), was)
		s, w, is2 := opt.Left(p)
		is(t, "P3: Left again", text([]any{at, what, some}), text([]any{s, w, is2}))
	}
}

func TestToldApart(t *testing.T) {
	for _, p := range kept() {
		for _, face := range faces() {
			a, _ := face(p)
			b, _ := face(p)
			was := said(b)
			apart(t, a)
			spoilProgram(a)
			is(t, "P2: two answers", said(b), was)
		}
	}
}

// The same memory holds something else the next time.
func TestOtherInSameMemory(t *testing.T) {
	codes := []string{
		"num 2 | num 3 | mul | ret", "nop | get 0 | neg | ret", "size | ret | nop | nop", "size | zero A | A: size | ret", "A: jump A | nop | nop | nop", "num 0 | zero A | A: size | ret",
		"pop | nop | size | ret", "get 0 | set 0 | size | ret", "num 1 | num 0 | div | ret", "jump 2 | nop | size | ret",
	}
	q := single("nop | nop | size | ret")
	shared := q.Funcs[0].Code
	for range 2 {
		for _, s := range codes {
			p := single(s)
			copy(shared, p.Funcs[0].Code)
			q.Data[0]++
			p.Data[0] = q.Data[0]
			for name, face := range faces() {
				want, e := face(p)
				got, e2 := face(q)
				is(t, "P2: "+name+" of "+s, said(got), said(want))
				is(t, "P2: "+name+" of "+s, e2, e)
			}
			at, what, some := opt.Left(q)
			s2, w, some2 := opt.Left(p)
			is(t, "P2: Left of "+s, text([]any{at, what, some}), text([]any{s2, w, some2}))
		}
	}
}

// No list and an empty one are the same.
func TestNoList(t *testing.T) {
	p := whole("func f 0 0 1 | nop | size | ret")
	p.Data = []byte{}
	q := prog.Twin(p)
	q.Data = nil
	for name, face := range faces() {
		a, e := face(p)
		b, e2 := face(q)
		is(t, "P2: no Data, "+name, prog.Same(a, b), true)
		is(t, "P2: no Data, "+name, e, e2)
	}
	refused(t, api.Program{Funcs: []api.Func{{Results: 1, Code: []api.Instr{}}}})
	refused(t, api.Program{Funcs: []api.Func{}})
}
