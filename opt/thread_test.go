package opt_test

import (
	"fmt"
	"strings"
	"testing"

	"retort/opt"
)

// Jumps over INops and IJumps, all at once. What is led past may be dead then.
func TestThreads(t *testing.T) {
	does(t, "size | zero A | size | ret | A: nop | get 1 | ret", 1, opt.LThread, "size | zero B | size | ret | nop | B: get 1 | ret")
	does(t, "size | notzero A | size | ret | A: nop | nop | nop | get 1 | ret", 1, opt.LThread, "size | notzero B | size | ret | nop | nop | nop | B: get 1 | ret")
	does(t, "size | zero A | size | ret | A: jump B | B: get 1 | ret", 1, opt.LThread, "size | zero B | size | ret | jump B | B: get 1 | ret")
	does(t, "size | zero A | B: size | ret | A: nop | jump C | C: nop | jump B", 1, opt.LThread, "size | zero B | B: size | ret | nop | jump B | nop | jump B")
	does(t, "jump A | A: nop | size | ret", 0, opt.LThread, "jump B | nop | B: size | ret")
	does(t, "jump A | B: size | ret | A: jump B", 0, opt.LThread, "jump B | B: size | ret | jump B")
	does(t, "get 0 | zero A | get 1 | zero B | size | ret | A: nop | B: nop | C: get 2 | ret", 1, opt.LThread, "get 0 | zero C | get 1 | zero C | size | ret | nop | nop | C: get 2 | ret")
	// Only those that do not name their end are changed; the first of them is told.
	does(t, "get 0 | zero C | get 1 | zero B | size | ret | B: nop | C: get 2 | ret", 3, opt.LThread, "get 0 | zero C | get 1 | zero C | size | ret | nop | C: get 2 | ret")
	// A jump ends at a branch, whatever it branches on.
	does(t, "get 0 | jump A | A: nop | B: zero B2 | size | ret | B2: size | jump E | E: ret", 1, opt.LThread, "get 0 | jump B | nop | B: zero B2 | size | ret | B2: size | jump E | E: ret")
	rests(t, "get 0 | get 1 | zero A | neg | A: zero B | size | ret | B: get 2 | ret")
	// Down to the end of a long way.
	long := "size | zero A | size | ret | A: " + repeated("nop", 60) + "E: get 1 | ret"
	does(t, long, 1, opt.LThread, strings.Replace(strings.Replace(long, "zero A", "zero E", 1), "A:", "", 1))
}

// Jumps that never end: in a ring each names where it ends; from ahead of it, the first of its places.
func TestRings(t *testing.T) {
	rests(t, "A: jump A")
	rests(t, "size | zero A | size | ret | A: jump A")
	rests(t, "jump 2 | jump 0 | jump 1")
	rests(t, "jump 3 | jump 0 | jump 1 | jump 2")
	// The row 2 makes a ring less, not another one.
	does(t, "jump 1 | jump 0", 0, opt.LNop, "jump 0")
	does(t, "jump 2 | jump 0 | jump 3 | jump 1", 2, opt.LNop, "jump 2 | jump 0 | jump 1")
	comes(t, "jump 1 | jump 2 | jump 3 | jump 0", "jump 0")
	comes(t, "nop | nop | nop | jump 0", "jump 0")
	does(t, "nop | nop | jump 1", 0, opt.LNop, "nop | jump 0")
	// From ahead of a ring: where it is come to.
	does(t, "get 0 | zero P | size | ret | P: nop | A: nop | B: nop | jump A", 1, opt.LThread, "get 0 | zero A | size | ret | nop | A: nop | nop | jump A")
	does(t, "get 0 | zero P | size | ret | P: jump B | A: nop | B: nop | jump A", 1, opt.LThread, "get 0 | zero B | size | ret | jump B | A: nop | B: nop | jump A")
	does(t, "jump P | P: jump Q | Q: jump R | R: jump S | S: jump Q", 0, opt.LThread, "jump Q | P: jump Q | Q: jump R | R: jump S | S: jump Q")
	// Branches into a ring, to each of its places.
	rests(t, "get 0 | zero A | get 1 | zero B | get 2 | zero C | size | ret | A: jump C | B: jump A | C: jump B")
	// Two rings, ways into both.
	does(t, "get 0 | zero P | get 1 | zero Q | size | ret | P: jump A | Q: nop | B: jump B | A: jump A2 | nop | A2: jump A",
		10, opt.LDead, "get 0 | zero P | get 1 | zero Q | size | ret | P: jump A | Q: nop | B: jump B | A: jump A2 | A2: jump A")
	does(t, "get 0 | zero P | get 1 | zero Q | size | ret | P: jump A | Q: nop | B: jump B | A: jump A2 | A2: jump A",
		1, opt.LThread, "get 0 | zero A | get 1 | zero B | size | ret | jump A | nop | B: jump B | A: jump A2 | A2: jump A")
	comes(t, "get 0 | zero P | get 1 | zero Q | size | ret | P: jump A | Q: nop | B: jump B | A: jump A2 | A2: jump A",
		"get 0 | zero A | get 1 | zero B | size | ret | B: jump B | A: jump A")
}

// web is a code with branches to each of some places, at which stand jumps to each other: to[i] names the one of the i-th, an INop may stand for a jump to the next one.
func web(to []int, nops bool) string {
	n := len(to)
	base := 2*n + 2
	var l []string
	for i := range n {
		l = append(l, "get 0", fmt.Sprint("zero ", base+i))
	}
	l = append(l, "size", "ret")
	for i, x := range to {
		if nops && x == i+1 {
			l = append(l, "nop")
		} else {
			l = append(l, fmt.Sprint("jump ", base+x))
		}
	}
	return strings.Join(l, "|")
}

// All ways in which up to five jumps may name each other.
func TestWebs(t *testing.T) {
	t.Parallel()
	most := 5
	if testing.Short() {
		most = 4
	}
	for n := 1; n <= most; n++ {
		to := make([]int, n)
		for i := 0; i < n; {
			held(t, single(web(to, false)))
			held(t, single(web(to, true)))
			for i = 0; i < n; i++ {
				if to[i]++; to[i] < n {
					break
				}
				to[i] = 0
			}
		}
	}
}

// Of several functions at once.
func TestThreadsOfAll(t *testing.T) {
	doesWhole(t, "func f 0 1 1 | get 0 | call g | get 0 | zero A | get 0 | call h | ret | A: nop | size | ret | func g 1 1 0 | jump B | B: jump C | C: ret | func h 1 1 1 | get 0 | zero D | D: size | ret",
		spot(0, 3), opt.LThread,
		"func f 0 1 1 | get 0 | call g | get 0 | zero A | get 0 | call h | ret | nop | A: size | ret | func g 1 1 0 | jump C | jump C | C: ret | func h 1 1 1 | get 0 | zero D | D: size | ret")
}
