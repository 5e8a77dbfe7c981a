package prog_test

import (
	"bytes"
	"slices"
	"testing"

	"retort/api"
	"retort/prog"
)

// roomy has that list with spare room behind it, in which something lies too.
func roomy[T any](l []T, spare T) []T {
	more := append(make([]T, 0, len(l)+3), l...)
	for i := len(l); i < cap(more); i++ {
		more[:cap(more)][i] = spare
	}
	return more
}

// roomyProgram has spare room behind each list; what shared memory goes on to share it.
func roomyProgram(p api.Program) api.Program {
	p.Data = roomy(p.Data, 77)
	p.Funcs = roomy(p.Funcs, api.Func{Args: 5, Code: list(one(1, 2))})
	codes := map[*api.Instr][]api.Instr{}
	for i, f := range p.Funcs {
		if len(f.Code) > 0 {
			if codes[&f.Code[0]] == nil {
				codes[&f.Code[0]] = roomy(f.Code, one(api.INum, 77))
			}
			p.Funcs[i].Code = codes[&f.Code[0]]
		}
	}
	return p
}

func whole[T any](l []T) []T { return l[:cap(l)] }

// wholeText says a program with all that lies in its lists' spare room.
func wholeText(p api.Program) string {
	p.Data = whole(p.Data)
	p.Funcs = slices.Clone(whole(p.Funcs))
	for i, f := range p.Funcs {
		p.Funcs[i].Code = whole(f.Code)
	}
	return text(p)
}

func spoil[T any](l []T, x T) {
	l = whole(l)
	for i := range l {
		l[i] = x
	}
}

// spoilProgram writes all of a program's lists, their spare room too.
func spoilProgram(p api.Program) {
	for _, f := range whole(p.Funcs) {
		spoil(f.Code, one(-8, -8))
	}
	spoil(p.Funcs, api.Func{Args: -9})
	spoil(p.Data, 200)
}

// codesApart writes into each code of a program, its spare room too, which function's it is, and looks whether all of it stays.
func codesApart(t *testing.T, what string, p api.Program) {
	t.Helper()
	for i, f := range whole(p.Funcs) {
		spoil(f.Code, one(i, i))
	}
	for i, f := range whole(p.Funcs) {
		for _, x := range whole(f.Code) {
			is(t, "P2: two codes of what "+what+" tells", x, one(i, i))
		}
	}
}

// programs are right and wrong ones, some with one memory for several functions' codes.
func programs() []api.Program {
	r := seeded(2)
	wrong := several(3)
	wrong.Funcs[1].Code = list(one(99, 0))
	twice := several(2)
	twice.Funcs[1].Code = twice.Funcs[0].Code
	again := several(64)
	for i := range again.Funcs {
		again.Funcs[i] = again.Funcs[0]
	}
	return []api.Program{{}, {Data: []byte{}, Funcs: []api.Func{}}, small(), several(1), several(5), several(64), several(65), wrong, twice, again, drawn(r), drawn(r), {Memory: -1, Funcs: make([]api.Func, 3)}}
}

func TestHandedInStays(t *testing.T) {
	for _, p := range append(programs(), full(1048577)) {
		p = roomyProgram(p)
		was := wholeText(p)
		for what, call := range map[string]func(){
			"Check":  func() { prog.Check(p) },
			"Encode": func() { prog.Encode(p) },
			"Same":   func() { prog.Same(p, p); prog.Same(p, small()); prog.Same(small(), p) },
			"Twin":   func() { prog.Twin(p) },
		} {
			call()
			is(t, "P2: handed in to "+what, wholeText(p), was)
		}
	}
}

func TestTwinIsApart(t *testing.T) {
	for _, p := range programs() {
		p = roomyProgram(p)
		was, want := wholeText(p), text(p)
		q := prog.Twin(p)
		other := prog.Twin(p)
		codesApart(t, "Twin", q)
		spoilProgram(q)
		is(t, "P2: handed in to Twin, when its answer is written", wholeText(p), was)
		is(t, "P2: another Twin", text(other), want)
		is(t, "P3: Twin, when its answer was written", text(prog.Twin(p)), want)
		spoilProgram(p)
		is(t, "P2: kept by Twin", text(other), want)
		is(t, "P2: Twin of what is spoilt now", text(prog.Twin(p)), text(p))
	}
}

func TestEncodeIsApart(t *testing.T) {
	for _, p := range programs() {
		p = roomyProgram(p)
		was := wholeText(p)
		want, we := bytesOf(p)
		b, e := prog.Encode(p)
		other, _ := prog.Encode(p)
		spoil(other, 200)
		is(t, "P2: two answers of Encode", string(b), string(want))
		is(t, "P2: handed in to Encode, when its answer is written", wholeText(p), was)
		again, e2 := prog.Encode(p)
		is(t, "P3: Encode again", string(again), string(want))
		is(t, "P3: Encode again", e2, e)
		is(t, "P1202: Encode", e, we)
		spoilProgram(p)
		is(t, "P2: kept by Encode", string(b), string(want))
	}
}

func TestDecodeIsApart(t *testing.T) {
	rows := [][]byte{nil, {3}, {2, 4, 1, 7, 65}, functionsOf(1, coded(46)), append(smallBytes(), 0), append(laid(several(65)), 0)}
	for _, p := range programs() {
		if b, e := bytesOf(p); e == api.OK {
			rows = append(rows, b, append(slices.Clone(b), 0), b[:len(b)-1])
		}
	}
	for _, b := range rows {
		b = roomy(b, 77)
		was := slices.Clone(whole(b))
		want, we := programOf(slices.Clone(b))
		said := text(want)
		p, e := prog.Decode(b)
		other, _ := prog.Decode(b)
		is(t, "P1203: Decode", text(p), said)
		is(t, "P1203: Decode", e, we)
		is(t, "P2: handed in to Decode", string(whole(b)), string(was))
		codesApart(t, "Decode", other)
		spoilProgram(other)
		is(t, "P2: two answers of Decode", text(p), said)
		is(t, "P2: handed in to Decode, when its answer is written", string(whole(b)), string(was))
		again, e2 := prog.Decode(b)
		is(t, "P3: Decode again", text(again), said)
		is(t, "P3: Decode again", e2, e)
		spoil(b, 200)
		is(t, "P2: kept by Decode", text(p), said)
	}
}

// The same memory with something else in it is another program.
func TestSameMemory(t *testing.T) {
	r := seeded(3)
	p, q := several(4), several(4)
	for range 3000 {
		f := &p.Funcs[r.IntN(4)]
		switch r.IntN(6) {
		case 0:
			p.Data[r.IntN(3)] = byte(r.IntN(3))
		case 1:
			f.Code[r.IntN(2)] = drawnInstr(r)
		case 2:
			f.Code[r.IntN(2)] = one(r.IntN(60)-7, r.IntN(3)-1)
		case 3:
			f.Args, f.Locals, f.Results = r.IntN(5)-1, r.IntN(5)-1, r.IntN(4)-1
		case 4:
			copy(p.Funcs, several(4).Funcs)
		case 5:
			p.Memory = r.IntN(6)
		}
		is(t, "P3: Check", prog.Check(p), faultOf(p))
		encode(t, p)
		compare(t, "the same memory", p, q)
		twin(t, p)
	}
}

// The same memory with something else in it is other bytes.
func TestSameBytes(t *testing.T) {
	r := seeded(4)
	b := make([]byte, 64)
	for range 3000 {
		n := copy(b, laid(several(1+r.IntN(4))))
		decode(t, b[:n])
		b[r.IntN(n)] = byte(r.IntN(70))
		decode(t, b[:n])
		decode(t, b[:r.IntN(n)])
	}
}

// Behind a call that met a fault the next one answers as if there had been none.
func TestFaultsLeaveNothing(t *testing.T) {
	for _, wrong := range []api.Program{{}, several(65), {Memory: -1, Funcs: several(1).Funcs}, {Funcs: []api.Func{plain(), {}}}, {Funcs: []api.Func{plain(), {Code: list(one(99, 0))}}}, full(1048577)} {
		if b, e := prog.Encode(wrong); e == api.OK || len(b) > 0 {
			t.Errorf("P4: Encode of %s: %s, %v", brief(wrong), brief(b), e)
		}
		b, e := prog.Encode(small())
		is(t, "P3: Encode behind a fault", string(b), string(smallBytes()))
		is(t, "P3: Encode behind a fault", e, api.OK)
	}
	for _, wrong := range [][]byte{nil, {3}, {248, 2}, {2, 0, 0, 65}, functionsOf(2, plainBytes(), coded(46)), functionsOf(2, plainBytes()), append(smallBytes(), 0), functionsOf(1, row(0, 0, 2, 1, 18)), bytes.Repeat([]byte{2}, 1<<20+1)} {
		if p, e := prog.Decode(wrong); e == api.OK || text(p) != text(api.Program{}) {
			t.Errorf("P4: Decode of %s: %s, %v", brief(wrong), brief(p), e)
		}
		p, e := prog.Decode(smallBytes())
		is(t, "P3: Decode behind a fault", text(p), text(small()))
		is(t, "P3: Decode behind a fault", e, api.OK)
	}
}
