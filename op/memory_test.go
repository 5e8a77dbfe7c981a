package op_test

import (
	"bytes"
	"slices"
	"testing"

	"retort/api"
	"retort/op"
)

// roomy has that list with spare room behind it, in which something lies too.
func roomy[T any](l []T, spare T) []T {
	more := append(make([]T, 0, len(l)+3), l...)
	for i := len(l); i < cap(more); i++ {
		more[:cap(more)][i] = spare
	}
	return more
}

// spoil writes all of a list, its spare room too.
func spoil[T any](l []T, x T) {
	l = l[:cap(l)]
	for i := range l {
		l[i] = x
	}
}

// apart holds a call that makes one list out of another against what it may change and keep.
func apart[A, B comparable](t *testing.T, what string, was []A, spare A, wrong B, call func([]A) ([]B, api.Errno)) {
	t.Helper()
	l := roomy(was, spare)
	all := slices.Clone(l[:cap(l)])
	got, e := call(l)
	same(t, "P2: handed in to "+what, l[:cap(l)], all)
	want := slices.Clone(got)
	again, _ := call(l)
	same(t, "P3: "+what+" again", again, want)
	spoil(again, wrong)
	same(t, "P2: two answers of "+what, got, want)
	same(t, "P2: handed in to "+what+", when its answer is written", l[:cap(l)], all)
	spoil(l, spare)
	same(t, "P2: kept by "+what, got, want)
	copy(l, was)
	spoil(got, wrong)
	third, e3 := call(l)
	same(t, "P3: "+what+" when its answers were written", third, want)
	is(t, "P3: "+what, e3, e)
}

func codes() [][]api.Instr {
	r := seeded(2)
	return [][]api.Instr{nil, {}, list(one(api.INop, 0)), list(one(api.INum, -1), one(api.ISub, 0)), drawnCode(r, 30), drawnCode(r, 4096),
		list(one(46, 0)), list(one(api.INop, 0), one(api.IAdd, 1)), many(one(0, 0), 4097)}
}

func TestListsStayApart(t *testing.T) {
	for _, code := range codes() {
		apart(t, "Encode", code, one(api.INum, 77), byte(200), op.Encode)
	}
	for _, code := range codes() {
		b, _ := bytesOf(code)
		for _, more := range [][]byte{nil, {46}, {3}, {19, 5}, {248, 1}} {
			apart(t, "Decode", slices.Concat(b, more), byte(20), one(-1, -1), op.Decode)
		}
	}
}

// The same memory with something else in it is another code, other bytes.
func TestSameMemory(t *testing.T) {
	r := seeded(3)
	code, b := make([]api.Instr, 8), make([]byte, 6)
	for range 2000 {
		copy(code, drawnCode(r, 8))
		if r.IntN(3) == 0 {
			code[r.IntN(8)] = one(r.IntN(60)-7, r.IntN(100)-5)
		}
		encode(t, code[:r.IntN(9)])
		for i := range b {
			b[i] = byte(r.IntN(50))
		}
		decode(t, b[:r.IntN(7)])
	}
}

func TestNoneAndEmpty(t *testing.T) {
	for _, code := range [][]api.Instr{nil, {}, make([]api.Instr, 0, 9)} {
		b, e := op.Encode(code)
		is(t, "P1103: Encode of none", e, api.OK)
		is(t, "P1103: Encode of none", len(b), 0)
	}
	for _, b := range [][]byte{nil, {}, make([]byte, 0, 9)} {
		code, e := op.Decode(b)
		is(t, "P1104: Decode of none", e, api.OK)
		is(t, "P1104: Decode of none", len(code), 0)
	}
}

// Behind a call that met a fault the next one answers as if there had been none.
func TestFaultsLeaveNothing(t *testing.T) {
	code := list(one(api.INum, -1), one(api.INum, 3), one(api.ISub, 0), one(api.IRet, 0))
	want := []byte{3, 1, 3, 6, 21, 18}
	for _, wrong := range [][]api.Instr{append(slices.Clone(code), one(46, 0)), append(slices.Clone(code), one(api.IAdd, 1)), many(one(0, 0), 4097)} {
		if b, e := op.Encode(wrong); e == api.OK || len(b) > 0 {
			t.Errorf("P4: Encode of %s: %s, %v", brief(wrong), brief(b), e)
		}
		b, _ := op.Encode(code)
		same(t, "P3: Encode behind a fault", b, want)
	}
	for _, wrong := range [][]byte{{46}, {3}, {19, 5}, {248, 1}, make([]byte, 4097), make([]byte, 40961)} {
		b := append(bytes.Clone(want), wrong...)
		if l, e := op.Decode(b); e == api.OK || len(l) > 0 {
			t.Errorf("P4: Decode of %s: %s, %v", brief(b), brief(l), e)
		}
		l, _ := op.Decode(want)
		same(t, "P3: Decode behind a fault", l, code)
	}
}

// Written shapes are the caller's own.
func TestShapesStayApart(t *testing.T) {
	for n, want := range rowsOf(instructions) {
		s, _ := op.Of(n)
		s.Name, s.Operand, s.Takes, s.Gives = "spoilt", 9, 9, 9
		again, _ := op.Of(n)
		is(t, "P2: Of again", again, want)
	}
	for n, want := range rowsOf(callsOfFiles) {
		s, _ := op.Sys(n)
		s.Name, s.Takes = "spoilt", 9
		again, _ := op.Sys(n)
		is(t, "P2: Sys again", again, want)
	}
}
