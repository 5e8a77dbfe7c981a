package opt_test

import (
	"testing"

	"retort/api"
	"retort/opt"
)

// The numbers of what may be left are the chapter's.
func TestNumbers(t *testing.T) {
	is(t, "LDead, LNop, LThread, LFold, LDrop", [5]int{opt.LDead, opt.LNop, opt.LThread, opt.LFold, opt.LDrop}, [5]int{1, 2, 3, 4, 5})
}

// Dead ahead of threads ahead of rows, whatever function and place they have.
func TestWhichComesFirst(t *testing.T) {
	code := "func f 0 1 1 | nop | call a | call b | add | ret | func a 0 1 1 | get 0 | zero A | size | ret | A: nop | get 0 | ret | func b 0 1 1 | size | num 0 | add | ret | pop"
	steps := []struct {
		at   api.Spot
		what int
		then string
	}{
		{spot(2, 4), opt.LDead, "func f 0 1 1 | nop | call a | call b | add | ret | func a 0 1 1 | get 0 | zero A | size | ret | A: nop | get 0 | ret | func b 0 1 1 | size | num 0 | add | ret"},
		{spot(1, 1), opt.LThread, "func f 0 1 1 | nop | call a | call b | add | ret | func a 0 1 1 | get 0 | zero A | size | ret | nop | A: get 0 | ret | func b 0 1 1 | size | num 0 | add | ret"},
		{spot(1, 4), opt.LDead, "func f 0 1 1 | nop | call a | call b | add | ret | func a 0 1 1 | get 0 | zero A | size | ret | A: get 0 | ret | func b 0 1 1 | size | num 0 | add | ret"},
		{spot(0, 0), opt.LNop, "func f 0 1 1 | call a | call b | add | ret | func a 0 1 1 | get 0 | zero A | size | ret | A: get 0 | ret | func b 0 1 1 | size | num 0 | add | ret"},
		{spot(2, 1), opt.LFold, "func f 0 1 1 | call a | call b | add | ret | func a 0 1 1 | get 0 | zero A | size | ret | A: get 0 | ret | func b 0 1 1 | size | ret"},
	}
	now := code
	for _, x := range steps {
		doesWhole(t, now, x.at, x.what, x.then)
		now = x.then
	}
	comesWhole(t, code, now)
	comesWhole(t, now, now)
}

// Of one kind: functions rising, places rising; a row of an earlier function ahead of all of a later one.
func TestFirstSpot(t *testing.T) {
	doesWhole(t, "func f 0 0 1 | size | call a | ret | func a 1 1 1 | nop | get 0 | ret | func b 0 0 0 | ret", spot(2, 0), opt.LDead, "func f 0 0 1 | size | call a | ret | func a 1 1 1 | nop | get 0 | ret")
	doesWhole(t, "func f 0 0 1 | size | neg | neg | call a | ret | func a 1 1 1 | nop | get 0 | ret", spot(0, 1), opt.LDrop, "func f 0 0 1 | size | call a | ret | func a 1 1 1 | nop | get 0 | ret")
	doesWhole(t, "func f 0 0 1 | size | call a | neg | neg | nop | ret | func a 1 1 1 | nop | get 0 | ret", spot(0, 2), opt.LDrop, "func f 0 0 1 | size | call a | nop | ret | func a 1 1 1 | nop | get 0 | ret")
	doesWhole(t, "func f 0 0 1 | size | call a | ret | nop | func a 1 1 1 | get 0 | ret | nop | nop", spot(0, 3), opt.LDead, "func f 0 0 1 | size | call a | ret | func a 1 1 1 | get 0 | ret")
	doesWhole(t, "func f 0 0 1 | size | call a | ret | func a 1 1 1 | get 0 | ret | nop | nop", spot(1, 2), opt.LDead, "func f 0 0 1 | size | call a | ret | func a 1 1 1 | get 0 | ret")
}

// A jump to what is gone: to what was put there, to the next one that is left, behind several rows too.
func TestJumpsToGone(t *testing.T) {
	// To what was put in the row's place.
	does(t, "get 0 | get 1 | zero F | neg | F: copy 0 | swap | add | ret", 4, opt.LDrop, "get 0 | get 1 | zero F | neg | F: copy 0 | add | ret")
	// To the next one, the row's place not the last one that is gone.
	does(t, "get 0 | get 1 | zero F | neg | F: num 0 | add | not | ret", 4, opt.LFold, "get 0 | get 1 | zero F | neg | F: not | ret")
	// Behind one another: each time to the next one that is left.
	comes(t, "get 0 | get 1 | zero F | neg | F: num 0 | add | num 1 | mul | size | pop | not | ret", "get 0 | get 1 | zero F | neg | F: not | ret")
	comes(t, "get 0 | get 1 | zero F | neg | F: num 0 | add | num 1 | G: mul | get 2 | zero H | ret | H: num 3 | jump G", "get 0 | get 1 | zero F | neg | F: num 1 | G: mul | get 2 | zero H | ret | H: num 3 | jump G")
	// What is next is an end, a jump, an INop, the jump's own place.
	comes(t, "get 0 | get 1 | zero F | neg | F: num 0 | add | ret", "get 0 | get 1 | zero F | neg | F: ret")
	does(t, "get 0 | get 1 | zero F | neg | F: num 0 | add | jump Q | P: not | ret | Q: get 2 | zero P | ret", 4, opt.LFold, "get 0 | get 1 | zero F | neg | F: jump Q | P: not | ret | Q: get 2 | zero P | ret")
	does(t, "get 0 | get 1 | zero F | neg | F: jump Q | P: not | ret | Q: get 2 | zero P | ret", 2, opt.LThread, "get 0 | get 1 | zero Q | neg | F: jump Q | P: not | ret | Q: get 2 | zero P | ret")
	does(t, "get 0 | get 1 | zero F | neg | F: num 0 | add | nop | ret", 4, opt.LFold, "get 0 | get 1 | zero F | neg | F: nop | ret")
	does(t, "F: size | pop | jump F", 0, opt.LDrop, "F: jump F")
	does(t, "size | set 0 | F: num 3 | pop | get 1 | zero F | size | ret", 2, opt.LDrop, "size | set 0 | F: get 1 | zero F | size | ret")
	// The place behind a row, named too.
	does(t, "get 0 | get 1 | zero G | num 0 | add | G: not | ret", 3, opt.LFold, "get 0 | get 1 | zero G | G: not | ret")
	comes(t, "get 0 | get 1 | zero G | num 0 | add | G: not | ret", "get 0 | not | ret")
	// A jump that is itself in the row, or stands instead of it.
	does(t, "F: num 0 | zero F | size | ret", 0, opt.LFold, "F: jump F | size | ret")
	does(t, "size | set 0 | F: get 0 | num 0 | eq | zero F | size | ret", 3, opt.LFold, "size | set 0 | F: get 0 | notzero F | size | ret")
	does(t, "size | set 0 | nop | F: get 0 | num 0 | eq | notzero G | size | ret | G: get 1 | nop | nop | zero F | get 2 | ret", 2, opt.LNop, "size | set 0 | F: get 0 | num 0 | eq | notzero G | size | ret | G: get 1 | nop | nop | zero F | get 2 | ret")
}

// What check refuses: zeros, and ErrVerify, whatever would be left in it.
func TestRefused(t *testing.T) {
	for _, p := range []api.Program{
		{}, {Memory: -1}, {Memory: 1 << 17, Funcs: whole("func f 0 0 1 | nop | size | ret").Funcs}, {Data: []byte{1}, Funcs: whole("func f 0 0 1 | nop | size | ret").Funcs},
		{Funcs: []api.Func{{Results: 1}}}, {Funcs: []api.Func{{Results: 1, Code: []api.Instr{{Op: 99}}}}}, {Funcs: []api.Func{{Results: 1, Code: []api.Instr{{Op: api.INop, A: 1}, {Op: api.ISize}, {Op: api.IRet}}}}},
		{Funcs: []api.Func{{Results: 1, Code: []api.Instr{{Op: -1}}}}}, {Funcs: []api.Func{{Results: 2, Code: []api.Instr{{Op: api.INop}}}}},
		{Funcs: make([]api.Func, 65)},
		{Funcs: []api.Func{{Results: 1, Locals: 65, Code: whole("func f 0 0 1 | nop | size | ret").Funcs[0].Code}}},
		whole("func f 0 0 0 | nop | ret"), whole("func f 1 1 1 | nop | get 0 | ret"),
		whole("func f 0 0 1 | nop | pop | ret"), whole("func f 0 0 1 | nop | ret"), whole("func f 0 0 1 | size | nop"), whole("func f 0 0 1 | nop"), whole("func f 0 0 1 | jump 1"), whole("func f 0 0 1 | nop | get 0 | ret"),
		whole("func f 0 0 1 | call 1 | ret"), whole("func f 0 0 1 | num 1 | zero 3 | size | size | ret"), whole("func f 0 0 1 | again: size | jump again"), whole("func f 0 0 1 |" + repeated("size", 257) + "halt"),
		// At places that are dead, in functions that are not live.
		whole("func f 0 0 1 | size | ret | jump 9"), whole("func f 0 0 1 | size | ret | get 0"), whole("func f 0 0 1 | size | ret | call 3"),
		whole("func f 0 0 1 | size | ret | func g 0 0 0 | nop | pop | ret"), whole("func f 0 0 1 | size | ret | func g 0 0 1 | ret"),
	} {
		refused(t, p)
	}
}

// What is wrong in a program that is refused may lie anywhere; what is taken with places that no run meets.
func TestTakenThoughDead(t *testing.T) {
	comes(t, "size | ret | pop | pop | add", "size | ret")
	comesWhole(t, "func f 0 0 1 | size | ret | func g 0 0 0 | ret | pop", "func f 0 0 1 | size | ret")
}
