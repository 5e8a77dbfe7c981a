package check

import "math"

// closed stands for a number's turn when it is done with: it is behind all turns.
const closed = math.MaxInt

// tour goes from 0 by all ways to other numbers, and finds which ones come to themselves again. It is Tarjan's: those that come to each other are done with together, behind all that they lead to.
type tour struct {
	next  func(n int) []int
	turns []int // of each number the turn in which it was met, from 1 on; 0: it was not
	turn  int
	open  []int
	order []int // those that were met, each behind all that it leads to, but for those that lead to it too
	again []bool
}

func tourOf(numbers int, next func(n int) []int) *tour {
	t := &tour{next: next, turns: make([]int, numbers), again: make([]bool, numbers)}
	t.meet(0)
	return t
}

// meet tells the earliest turn of a number, not done with yet, to which n leads.
func (t *tour) meet(n int) int {
	t.turn++
	turn, earliest, first := t.turn, t.turn, len(t.open)
	t.turns[n] = turn
	t.open = append(t.open, n)
	for _, m := range t.next(n) {
		if m == n {
			t.again[n] = true
		}
		if t.turns[m] == 0 {
			earliest = min(earliest, t.meet(m))
		} else {
			earliest = min(earliest, t.turns[m])
		}
	}
	if earliest == turn {
		t.finish(t.open[first:])
		t.open = t.open[:first]
	}
	return earliest
}

// finish is done with numbers that all come to each other.
func (t *tour) finish(l []int) {
	for _, n := range l {
		t.turns[n] = closed
		t.again[n] = t.again[n] || len(l) > 1
	}
	t.order = append(t.order, l...)
}
