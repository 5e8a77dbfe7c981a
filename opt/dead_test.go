package opt_test

import (
	"testing"

	"retort/api"
	"retort/opt"
	"retort/prog"
)

// doesWhole looks at the first thing that is left in a program of several functions, and at the program with it done.
func doesWhole(t testing.TB, code string, at api.Spot, what int, want string) {
	t.Helper()
	p, q := whole(code), whole(want)
	s, w, some := opt.Left(p)
	if s != at || w != what || !some {
		t.Errorf("P1604: Left of %s: %v %v %v; want %v %v", code, s, w, some, at, what)
	}
	if once, e := opt.Once(p); e != api.OK || !prog.Same(once, q) {
		t.Errorf("P1605: Once of %s: %s %v; want %s", code, said(once), e, want)
	}
	held(t, p)
}

// comesWhole looks at what Run tells of a program.
func comesWhole(t testing.TB, code, want string) {
	t.Helper()
	p := whole(code)
	if q, e := opt.Run(p); e != api.OK || !prog.Same(q, whole(want)) {
		t.Errorf("P1606: Run of %s: %s %v; want %s", code, said(q), e, want)
	}
	held(t, p)
}

func spot(f, at int) api.Spot { return api.Spot{Func: f, At: at} }

// Places to which nothing comes: behind an end, behind a jump, in a ring of their own, with faults that no run meets.
func TestDeadPlaces(t *testing.T) {
	does(t, "size | ret | nop", 2, opt.LDead, "size | ret")
	does(t, "size | ret | size | ret", 2, opt.LDead, "size | ret")
	does(t, "size | halt | pop | add | get 0", 2, opt.LDead, "size | halt")
	does(t, "size | abort | jump 0 | zero 1 | notzero 3", 2, opt.LDead, "size | abort")
	does(t, "A: jump A | size | ret", 1, opt.LDead, "A: jump A")
	does(t, "jump B | A: nop | jump A | B: size | ret", 1, opt.LDead, "jump B | B: size | ret")
	does(t, "jump B | A: size | jump A | jump B | B: size | jump C | pop | C: ret | copy 200", 1, opt.LDead, "jump B | B: size | jump C | C: ret")
	does(t, "size | zero B | A: size | ret | get 2 | jump A | B: get 3 | ret | jump B", 4, opt.LDead, "size | zero B | A: size | ret | B: get 3 | ret")
	// What has a height, but is not first, is not dead: the branch that is never taken too.
	does(t, "num 1 | zero B | size | ret | B: get 3 | ret", 0, opt.LFold, "size | ret | B: get 3 | ret")
	rests(t, "size | zero B | size | ret | B: get 3 | ret")
	// A jump that is dead makes nothing a target.
	comes(t, "get 0 | neg | neg | ret | A: get 1 | jump M | M: neg", "get 0 | ret")
	does(t, "get 0 | neg | M: neg | ret | get 1 | jump M", 4, opt.LDead, "get 0 | neg | neg | ret")
	comes(t, "get 0 | neg | M: neg | ret | get 1 | jump M", "get 0 | ret")
}

const (
	main1 = "memory 8 | func f 0 0 1 | size | call g | ret |"
	twice = "func g 1 1 1 | get 0 | get 0 | add | ret |"
	never = "func n 0 0 0 | nop | nop | ret |"
)

// Functions that are not live go, whatever stands in them; calls name the others by their new numbers.
func TestDeadFunctions(t *testing.T) {
	doesWhole(t, main1+twice+never, spot(2, 0), opt.LDead, main1+twice)
	doesWhole(t, main1+never+twice, spot(1, 0), opt.LDead, main1+twice)
	doesWhole(t, main1+never+twice+"func m 0 0 1 | size | call g | ret |", spot(1, 0), opt.LDead, main1+twice)
	doesWhole(t, "func f 0 0 1 | size | ret |"+never, spot(1, 0), opt.LDead, "func f 0 0 1 | size | ret")
	// They may call each other, themselves and the others.
	doesWhole(t, main1+"func a 0 0 0 | call b | ret | func b 0 0 0 | call a | call b | call f | pop | ret |"+twice, spot(1, 0), opt.LDead, main1+twice)
	// Live by a function that is itself live only by others; one gone between them.
	doesWhole(t, "func f 0 0 1 | call c | ret | func a 0 0 1 | size | ret | func b 0 0 1 | size | neg | ret | func c 0 0 1 | call b | call d | add | ret | func n 0 0 1 | size | not | ret | func d 0 0 1 | call b | call f | mul | ret",
		spot(1, 0), opt.LDead, "func f 0 0 1 | call c | ret | func b 0 0 1 | size | neg | ret | func c 0 0 1 | call b | call d | add | ret | func d 0 0 1 | call b | call f | mul | ret")
	// A call at a place that is dead makes nothing live; both go at once.
	doesWhole(t, "func f 0 0 1 | size | ret | call a | ret | func a 0 0 1 | size | neg | ret", spot(0, 2), opt.LDead, "func f 0 0 1 | size | ret")
	doesWhole(t, "func f 0 0 1 | call b | ret | func a 0 0 1 | size | neg | ret | func b 0 0 1 | size | ret | call a | ret",
		spot(1, 0), opt.LDead, "func f 0 0 1 | call b | ret | func b 0 0 1 | size | ret")
	// Places of several functions, and functions, all at once.
	doesWhole(t, "func f 0 0 1 | call c | ret | nop | func a 0 0 1 | size | ret | func b 0 0 1 | size | jump B | neg | B: ret | not | func c 0 0 1 | call b | halt | pop | func d 0 0 0 | nop | ret | nop",
		spot(0, 2), opt.LDead, "func f 0 0 1 | call c | ret | func b 0 0 1 | size | jump B | B: ret | func c 0 0 1 | call b | halt")
	// A head stays as it is.
	doesWhole(t, "memory 9 | data \"ox\" | func f 0 7 1 | size | call b | ret | func n 3 5 0 | ret | func b 1 9 1 | get 0 | ret",
		spot(1, 0), opt.LDead, "memory 9 | data \"ox\" | func f 0 7 1 | size | call b | ret | func b 1 9 1 | get 0 | ret")
}

// A function whose last call goes is gone at the end; what only it calls, too.
func TestLastCallGoes(t *testing.T) {
	code := "func f 0 0 1 | num 1 | zero A | size | ret | A: call a | ret | func a 0 0 1 | call c | ret | func b 0 0 1 | size | ret | func c 0 0 1 | call b | ret"
	doesWhole(t, code, spot(0, 0), opt.LFold, "func f 0 0 1 | size | ret | A: call a | ret | func a 0 0 1 | call c | ret | func b 0 0 1 | size | ret | func c 0 0 1 | call b | ret")
	comesWhole(t, code, "func f 0 0 1 | size | ret")
	// A later function's code goes, and with it an earlier function; calls behind it have new numbers.
	comesWhole(t, "func f 0 0 1 | call c | ret | func a 0 0 1 | num 2 | num 3 | add | ret | func b 0 0 1 | size | num 0 | add | ret | func c 0 0 1 | num 0 | zero B | call a | ret | B: call b | ret",
		"func f 0 0 1 | call c | ret | func b 0 0 1 | size | ret | func c 0 0 1 | call b | ret")
	// It goes though something was left in it, and though it calls itself.
	comesWhole(t, "func f 0 0 1 | num 1 | notzero A | call a | ret | A: size | ret | func a 0 0 1 | call a | nop | num 0 | add | ret", "func f 0 0 1 | size | ret")
}
