package act_test

import (
	"bytes"
	"fmt"
	"slices"
	"testing"
	"unsafe"

	"retort/act"
	"retort/api"
	"retort/cas"
)

// roomy has that list with spare room behind it, in which something lies too.
func roomy[T any](l []T, spare T) []T {
	more := append(make([]T, 0, len(l)+3), l...)
	for i := len(l); i < cap(more); i++ {
		more[:cap(more)][i] = spare
	}
	return more
}

func whole[T any](l []T) []T { return l[:cap(l)] }

func spoil[T any](l []T, x T) {
	l = whole(l)
	for i := range l {
		l[i] = x
	}
}

// inMemory is a text whose bytes can be written afterwards; no one but a test may do so.
func inMemory(s string) (string, []byte) {
	if s == "" {
		return "", nil
	}
	b := []byte(s)
	return unsafe.String(&b[0], len(b)), b
}

// handed is what Run is handed, with spare room everywhere.
type handed struct {
	p    api.Program
	l    []api.Item
	keep []string
	text [][]byte // the bytes of the texts in it
}

func handedOf(p api.Program, l []api.Item, keep []string) *handed {
	h := &handed{p: p}
	h.p.Data = roomy(p.Data, 77)
	h.p.Funcs = roomy(p.Funcs, api.Func{Args: 5, Code: []api.Instr{{Op: api.IJump, A: 2}}})
	for i, f := range h.p.Funcs {
		h.p.Funcs[i].Code = roomy(f.Code, api.Instr{Op: api.ICall, A: 1})
	}
	for _, x := range l {
		h.l = append(h.l, api.Item{Path: h.own(x.Path), Dir: x.Dir, Data: roomy(x.Data, 88)})
	}
	h.l = roomy(h.l, file("spare", 1))
	for _, p := range keep {
		h.keep = append(h.keep, h.own(p))
	}
	h.keep = roomy(h.keep, "spare")
	return h
}

func (h *handed) own(s string) string {
	s, b := inMemory(s)
	h.text = append(h.text, b)
	return s
}

// image says all of it, spare room too.
func (h *handed) image() string {
	s := fmt.Sprint(h.p.Memory, whole(h.p.Data), whole(h.l), fmt.Sprintf("%q", whole(h.keep)))
	for _, f := range whole(h.p.Funcs) {
		s += fmt.Sprint(f.Args, f.Locals, f.Results, whole(f.Code))
	}
	for _, x := range whole(h.l) {
		s += fmt.Sprint(x.Path, x.Dir, whole(x.Data))
	}
	return s
}

// spoil writes all of it, texts too.
func (h *handed) spoil() {
	for _, f := range whole(h.p.Funcs) {
		spoil(f.Code, api.Instr{Op: -8, A: -8})
	}
	spoil(h.p.Funcs, api.Func{Args: -9})
	spoil(h.p.Data, 200)
	for _, x := range whole(h.l) {
		spoil(x.Data, 201)
	}
	spoil(h.l, file("spoilt", 1))
	spoil(h.keep, "spoilt")
	for _, b := range h.text {
		spoil(b, 'z')
	}
}

func spoilOutcome(o api.Outcome) {
	for _, x := range whole(o.Keep) {
		spoil(x.Data, 202)
	}
	spoil(o.Keep, file("spoilt", 2))
	spoil(o.Missing, "spoilt")
}

func TestRunIsApart(t *testing.T) {
	l := list(file("a", '1', '2'), dir("e"), dir("f"), file("f/g", '1', '2'), file("h"))
	p := writing(2, [2]int{1, 1}, [2]int{2, 3})
	wrong := program("func f 0 0 1 | pop | num 1 | ret")
	for i, c := range []*handed{
		handedOf(p, l, keep("")), handedOf(p, l, keep("a", "b", "f/g", "x", "y/z")), handedOf(p, nil, nil), handedOf(p, l, keep("x")),
		handedOf(body("num 1 | abort"), l, keep("a")), handedOf(wrong, l, keep("a")), handedOf(p, l, keep("b", "a")), handedOf(p, slices.Concat(l, l), keep("a")),
	} {
		what := fmt.Sprint("run ", i)
		was := c.image()
		o, e := act.Run(c.p, c.l, wide(), c.keep)
		said := text(o)
		is(t, "P2: handed in: "+what, c.image(), was)
		other, _ := act.Run(c.p, c.l, wide(), c.keep)
		is(t, "P3: "+what, text(other), said)
		spoilOutcome(other)
		is(t, "P2: two answers: "+what, text(o), said)
		is(t, "P2: handed in, when the answer is written: "+what, c.image(), was)
		again, e2 := act.Run(c.p, c.l, wide(), c.keep)
		is(t, "P3: "+what, text(again), said)
		is(t, "P3: "+what, e2, e)
		for j := range again.Keep {
			want := slices.Clone(again.Keep)
			for k := range want {
				want[k].Data = bytes.Clone(want[k].Data)
			}
			spoil(again.Keep[j].Data, byte(j))
			want[j].Data = again.Keep[j].Data
			is(t, "P2: the lists of one answer: "+what, text(again.Keep), text(want))
		}
		c.spoil()
		is(t, "P2: kept: "+what, text(o), said)
	}
}

// What is handed in to the four calls that write and read bytes, and what they answer.
func TestBytesAreApart(t *testing.T) {
	for _, k := range [][]string{nil, keep(""), keep("a", "b/c"), keep("b", "a")} {
		h := handedOf(api.Program{}, nil, k)
		was := h.image()
		a := some()
		a.Keep = h.keep
		r := halted()
		r.Missing = h.keep
		is(t, "P1901", act.Check(a), faultOf(a))
		one, e := act.Encode(a)
		two, _ := act.Encode(a)
		three, f := act.EncodeResult(r)
		four, _ := act.EncodeResult(r)
		is(t, "P2: handed in", h.image(), was)
		if e != api.OK {
			is(t, "P4: Encode", len(one)+len(three), 0)
			is(t, "P1904", f, api.ErrResult)
			continue
		}
		first, third := bytes.Clone(one), bytes.Clone(three)
		spoil(two, 9)
		spoil(four, 9)
		sameBytes(t, "P2: two answers of Encode", one, first)
		sameBytes(t, "P2: two answers of EncodeResult", three, third)
		is(t, "P2: handed in, when the answer is written", h.image(), was)
		h.spoil()
		sameBytes(t, "P2: kept by Encode", one, first)
		sameBytes(t, "P2: kept by EncodeResult", three, third)

		b, c := roomy(first, 77), roomy(third, 77)
		said, told := string(whole(b)), string(whole(c))
		x, _ := act.Decode(b)
		y, _ := act.DecodeResult(c)
		sayX, sayY := text(x), text(y)
		other, _ := act.Decode(b)
		another, _ := act.DecodeResult(c)
		spoil(other.Keep, "spoilt")
		spoil(another.Missing, "spoilt")
		is(t, "P2: two answers of Decode", text(x), sayX)
		is(t, "P2: two answers of DecodeResult", text(y), sayY)
		is(t, "P2: handed in to Decode", string(whole(b)), said)
		is(t, "P2: handed in to DecodeResult", string(whole(c)), told)
		spoil(b, 200)
		spoil(c, 200)
		is(t, "P2: kept by Decode", text(x), sayX)
		is(t, "P2: kept by DecodeResult", text(y), sayY)
	}
}

// What Exec and Reach answer is not the Store's, nor theirs.
func TestStoreIsApart(t *testing.T) {
	s := store(t, 32, 1<<20)
	d := action(t, s, writing(2, [2]int{0, 1}), list(file("b", 1)), wide(), "a", "x")
	first, e := act.Exec(s, d)
	is(t, "P1906", e, api.OK)
	want, was := bytes.Clone(first), lying(s)
	for range 3 {
		b, _ := act.Exec(s, d)
		spoil(b, 9)
		sameBytes(t, "P2: two answers of Exec", first, want)
		is(t, "P2: what lies in the Store", lying(s), was)
	}
	l, _ := act.Reach(s, d)
	digests := slices.Clone(l)
	for range 3 {
		other, _ := act.Reach(s, d)
		spoil(other, api.Digest{9})
		sameDigests(t, "P2: two answers of Reach", l, digests)
		is(t, "P2: what lies in the Store", lying(s), was)
	}
	b, _ := act.Exec(s, d)
	sameBytes(t, "P3: Exec", b, want)
}

// Behind calls that met faults the next ones answer as if there had been none.
func TestFaultsLeaveNothing(t *testing.T) {
	s := store(t, 32, 1<<20)
	d := action(t, s, writing(2, [2]int{0, 1}), list(file("b", 1)), wide(), "a", "x")
	want, _ := act.Exec(s, d)
	for range 3 {
		act.Exec(s, api.Digest{1})
		act.Exec(s, put(t, s, 3))
		act.Reach(s, put(t, s, 3, 0))
		act.Decode([]byte{3, 1, 2})
		act.DecodeResult([]byte{4, 1, 2})
		act.Run(api.Program{}, nil, wide(), nil)
		b, e := act.Exec(s, d)
		is(t, "P3: Exec behind faults", e, api.OK)
		sameBytes(t, "P3: Exec behind faults", b, want)
		decodes(t, "behind faults", laid(some()), api.OK)
		tells(t, "behind faults", laidResult(halted()), api.OK)
	}
}

// P1: a Store that nobody made has nothing in it: the calls end all the same.
func TestBareStore(t *testing.T) {
	s := new(cas.Store)
	for _, d := range []api.Digest{{}, {1}, {31: 1}} {
		b, e := act.Exec(s, d)
		is(t, "P1: Exec", e, api.ErrMissing)
		is(t, "P4: Exec", len(b), 0)
		l, e := act.Reach(s, d)
		is(t, "P1: Reach", e, api.ErrMissing)
		sameDigests(t, "P1: Reach", l, []api.Digest{d})
	}
}

// A digest that no blob of the Store's width has is missing.
func TestOtherWidths(t *testing.T) {
	s := store(t, 2, 1<<20)
	d := action(t, s, seven(), nil, wide(), "a")
	is(t, "P1906: as it is", does(t, "as it is", s, d).e, api.OK)
	d[31] = 1
	is(t, "P1906: another width", does(t, "another width", s, d).e, api.ErrMissing)
	a := api.Action{Program: putProgram(t, s, seven()), Input: putTree(t, s), Limits: wide()}
	a.Program[2]++
	is(t, "P1906: another width's program", does(t, "its program", s, putAction(t, s, a)).e, api.ErrMissing)
	a.Program[2]--
	a.Input[31]++
	x := does(t, "its input", s, putAction(t, s, a))
	is(t, "P1906: another width's input", fmt.Sprint(x.e, x.counts), "missing {3 0}")
}
