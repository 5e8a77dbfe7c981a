package asm_test

import (
	"errors"
	"fmt"
	"math"
	"testing"

	"retort/api"
	"retort/asm"
)

// wrapped is an error of another layer about one.
type wrapped struct{ inner error }

func (w wrapped) Error() string { return "wrapped " + w.inner.Error() }

func (w wrapped) Unwrap() error { return w.inner }

func TestErrorWords(t *testing.T) {
	plain := errors.New("plain")
	for _, c := range []struct {
		line int
		err  error
		want string
	}{
		{0, nil, "ok"}, {1, nil, "line 1: ok"}, {0, api.OK, "ok"}, {3, api.OK, "line 3: ok"},
		{0, api.ErrProg, "prog"}, {0, api.ErrLong, "long"}, {12, api.ErrLabel, "line 12: label"}, {65537, api.ErrLine, "line 65537: line"}, {2, api.ErrNumber, "line 2: number"}, {0, api.ErrCode, api.ErrCode.Error()},
		{-1, api.ErrLine, "line -1: line"}, {math.MaxInt, api.ErrLine, "line 9223372036854775807: line"}, {math.MinInt, api.ErrLine, "line -9223372036854775808: line"},
		{5, api.Errno(-7), "line 5: " + api.Errno(-7).Error()}, {5, api.Errno(9999), "line 5: " + api.Errno(9999).Error()},
		{4, plain, "line 4: plain"}, {0, plain, "plain"}, {4, errors.New(""), "line 4: "}, {0, errors.New(""), ""}, {4, wrapped{api.ErrLine}, "line 4: wrapped line"},
		{1, &asm.LineError{Line: 2, Err: api.ErrLabel}, "line 1: line 2: label"}, {0, &asm.LineError{Line: 2, Err: api.ErrLabel}, "line 2: label"}, {1, &asm.LineError{Err: api.ErrLabel}, "line 1: label"}, {1, &asm.LineError{}, "line 1: ok"}, {0, &asm.LineError{Line: 7}, "line 7: ok"}, {1, &asm.LineError{Line: 2, Err: &asm.LineError{Line: 3}}, "line 1: line 2: line 3: ok"},
	} {
		le := &asm.LineError{Line: c.line, Err: c.err}
		is(t, fmt.Sprintf("P1403: Error of %d, %v", c.line, c.err), le.Error(), c.want)
		is(t, fmt.Sprintf("P1403: Error of %d, %v again", c.line, c.err), le.Error(), c.want)
		is(t, fmt.Sprintf("P1403: Unwrap of %d, %v", c.line, c.err), le.Unwrap(), c.err)
		is(t, "P2: a LineError that was asked", *le, asm.LineError{Line: c.line, Err: c.err})
	}
}

func TestErrorsThrough(t *testing.T) {
	inner := &asm.LineError{Line: 3, Err: api.ErrLabel}
	for _, err := range []error{inner, &asm.LineError{Line: 1, Err: inner}, wrapped{inner}, &asm.LineError{Err: wrapped{inner}}} {
		is(t, "P1403: errors.Is", errors.Is(err, api.ErrLabel), true)
		is(t, "P1403: errors.Is of another", errors.Is(err, api.ErrLine), false)
		is(t, "P1403: errors.Is of itself", errors.Is(err, inner), true)
		var e api.Errno
		is(t, "P1403: errors.As of the number", errors.As(err, &e), true)
		is(t, "P1403: errors.As of the number", e, api.ErrLabel)
		var le *asm.LineError
		is(t, "P1403: errors.As", errors.As(err, &le), true)
		is(t, "P1403: errors.As", errors.Is(le, api.ErrLabel), true)
	}
	none := &asm.LineError{Line: 3}
	var e api.Errno
	is(t, "P1403: errors.As of none", errors.As(none, &e), false)
	is(t, "P1403: errors.Is of none", errors.Is(none, api.OK), false)
	is(t, "P1403: Unwrap of none", errors.Unwrap(none), nil)
}

// What Parse tells is asked for by errors.As, its number by errors.Is; without a fault it is nil itself.
func TestErrorsOfParse(t *testing.T) {
	for _, c := range []struct {
		text string
		line int
		e    api.Errno
		want string
	}{{"nop", 1, api.ErrLine, "line 1: line"}, {begin + "\n\njump a", 4, api.ErrLabel, "line 4: label"}, {"", 0, api.ErrProg, "prog"}, {"\nmemory 99999999999999999999", 2, api.ErrNumber, "line 2: number"}} {
		_, err := asm.Parse(c.text)
		var le *asm.LineError
		if !errors.As(err, &le) {
			t.Fatalf("P1401: %q: %v", c.text, err)
		}
		is(t, "P1401: its line", le.Line, c.line)
		is(t, "P1401: its number", errors.Is(err, c.e), true)
		is(t, "P1403: its word", err.Error(), c.want)
	}
	if _, err := asm.Parse(begin + "nop"); err != nil {
		t.Errorf("P1401: without a fault: %v", err)
	}
}

// Each error is the caller's own.
func TestErrorsApart(t *testing.T) {
	_, a := asm.Parse("nop")
	_, b := asm.Parse("nop")
	*a.(*asm.LineError) = asm.LineError{Line: 99}
	is(t, "P2: another error", b.Error(), "line 1: line")
	_, c := asm.Parse("nop")
	is(t, "P3: an error behind one that was written", c.Error(), "line 1: line")
}
