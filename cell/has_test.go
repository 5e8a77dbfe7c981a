package cell_test

import (
	"math"
	"slices"
	"testing"

	"retort/api"
	"retort/cell"
)

// strangers are numbers that no instruction has; some would be one, were it not for their upper bits.
func strangers() []int {
	row := []int{-1, -2, -3, api.ICount, api.ICount + 1, math.MinInt, math.MinInt + 1, math.MaxInt, math.MaxInt - 1}
	for _, op := range append(twos(), ones()...) {
		row = append(row, -op, ^op, op+64, op+api.ICount, op-api.ICount)
		for _, n := range []int{6, 7, 8, 15, 16, 31, 32, 62, 63} {
			row = append(row, op+1<<n, op-1<<n)
		}
	}
	return slices.DeleteFunc(row, func(op int) bool { return 0 <= op && op < api.ICount })
}

func everyOp() []int {
	row := strangers()
	for op := range api.ICount {
		row = append(row, op)
	}
	return row
}

func TestHas(t *testing.T) {
	for _, op := range everyOp() {
		if got, want := cell.Has2(op), slices.Contains(twos(), op); got != want {
			t.Errorf("P1002: Has2(%d): %v", op, got)
		}
		if got, want := cell.Has1(op), slices.Contains(ones(), op); got != want {
			t.Errorf("P1002: Has1(%d): %v", op, got)
		}
	}
}

// The rows' first and last instructions, and those beside them.
func TestHasBesideTheRows(t *testing.T) {
	for _, c := range []struct {
		op       int
		one, two bool
	}{
		{-1, false, false}, {api.INop, false, false}, {api.ISys, false, false},
		{api.IAdd, false, true}, {api.IUlt, false, true},
		{api.INeg, true, false}, {api.INot, true, false},
		{api.IFadd, false, true}, {api.IFlt, false, true},
		{api.IFneg, true, false}, {api.IToI, true, false},
		{api.ICount, false, false},
	} {
		if cell.Has1(c.op) != c.one || cell.Has2(c.op) != c.two {
			t.Errorf("P1002: Has1(%d): %v, Has2: %v", c.op, cell.Has1(c.op), cell.Has2(c.op))
		}
	}
}

// What is none of a row's is told as such, whatever the operands would trap by.
func TestNoSuchOp(t *testing.T) {
	words := []int{0, 1, -1, least, most, none, infinity, -1 << 62}
	for _, op := range everyOp() {
		for _, a := range words {
			if !slices.Contains(ones(), op) {
				is1(t, op, a, 0, api.TOp)
			}
			if slices.Contains(twos(), op) {
				continue
			}
			for _, b := range words {
				is2(t, op, a, b, 0, api.TOp)
			}
		}
	}
}

// What is one of a row's is never told as no such instruction, and none but three ever trap.
func TestWhoTraps(t *testing.T) {
	words := append(wholes(), floats()...)
	for _, op := range twos() {
		for _, a := range words {
			for _, b := range words {
				w, trap := cell.Two(op, a, b)
				if parts := op == api.IDiv || op == api.IRem; trap != api.TNone && (trap != api.TDivide || !parts || b != 0 || w != 0) {
					t.Fatalf("P1003: Two(%d, %d, %d): %d, %s", op, a, b, w, trap.Word())
				}
			}
		}
	}
	for _, op := range ones() {
		for _, a := range words {
			w, trap := cell.One(op, a)
			if trap != api.TNone && (trap != api.TFloat || op != api.IToI || w != 0) {
				t.Fatalf("P1004: One(%d, %d): %d, %s", op, a, w, trap.Word())
			}
		}
	}
}
