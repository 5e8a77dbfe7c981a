package mint_test

import (
	"errors"
	"runtime"
	"testing"

	"retort/api"
	"retort/mint"
)

// wantZeros: each call of a Reader that has met a fault, or whose Read has ended, answers nothing, and nothing happens.
func wantZeros(t *testing.T, what string, r *mint.Reader) {
	t.Helper()
	defer func() {
		if x := recover(); x != nil {
			t.Errorf("%s: a call throws %v", what, x)
		}
	}()
	for range 2 {
		same(t, what+" Num", r.Num(), 0)
		same(t, what+" Int", r.Int(), 0)
		same(t, what+" Bool", r.Bool(), false)
		same(t, what+" Bytes", len(r.Bytes()), 0)
		same(t, what+" Text", r.Text(), "")
		same(t, what+" Raw", len(r.Raw(2)), 0)
		same(t, what+" Raw of none", len(r.Raw(0)), 0)
		same(t, what+" Raw below 0", len(r.Raw(-1)), 0)
		same(t, what+" Most", r.Most(9), 0)
		same(t, what+" Most below 0", r.Most(-1), 0)
		same(t, what+" Left", r.Left(), 0)
		r.Fail(api.ErrTag)
		r.Fail(api.OK)
	}
}

// wantThrown: f throws, and what it throws is told.
func wantThrown(t *testing.T, what string, f func()) (x any) {
	t.Helper()
	defer func() {
		if x = recover(); x == nil {
			t.Errorf("%s: nothing is thrown", what)
		}
	}()
	f()
	return nil
}

func TestReadsWithinReads(t *testing.T) {
	wantRead(t, []byte{1, 2, 3}, api.OK, func(r *mint.Reader) {
		same(t, "P105", r.Num(), 1)
		wantRead(t, []byte{9}, api.OK, func(s *mint.Reader) {
			same(t, "P105", s.Num(), 9)
			same(t, "P105", r.Num(), 2)
			same(t, "P105", s.Left(), 0)
			same(t, "P105", r.Left(), 1)
		})
		wantRead(t, []byte{9}, api.ErrCut, func(s *mint.Reader) { s.Num(); s.Num() })
		wantRead(t, []byte{9}, api.ErrTail, func(s *mint.Reader) {})
		wantRead(t, []byte{9}, api.ErrTag, func(s *mint.Reader) { s.Fail(api.ErrTag) })
		same(t, "P105 behind an inner fault", r.Left(), 1)
		same(t, "P105 behind an inner fault", r.Num(), 3)
	})
}

func TestAnOuterFaultEndsAllWithin(t *testing.T) {
	var inner, innermost *mint.Reader
	deferred := 0
	wantStop(t, "P105", []byte{1, 2, 3}, api.ErrCut, func(r *mint.Reader) {
		defer func() { deferred++ }()
		mint.Read([]byte{9, 9}, func(s *mint.Reader) {
			inner = s
			defer func() {
				deferred++
				same(t, "P105 an inner Reader is not at fault", s.Num(), 9)
			}()
			mint.Read([]byte{8}, func(u *mint.Reader) {
				innermost = u
				defer func() { deferred++ }()
				r.Raw(5)
				t.Error("P105: it goes on in the innermost")
			})
			t.Error("P105: the innermost Read answers")
		})
		t.Error("P105: the inner Read answers")
	})
	same(t, "P105 deferred calls", deferred, 3)
	wantZeros(t, "P106 inner", inner)
	wantZeros(t, "P106 innermost", innermost)
}

func TestAFaultOfTheMiddleEndsAtTheMiddle(t *testing.T) {
	wantRead(t, []byte{1}, api.OK, func(r *mint.Reader) {
		wantStop(t, "P105", []byte{2}, api.ErrForm, func(s *mint.Reader) {
			mint.Read([]byte{3}, func(u *mint.Reader) {
				u.Num()
				s.Bool()
			})
			t.Error("P105: the innermost Read answers")
		})
		same(t, "P105 the outer one goes on", r.Num(), 1)
	})
}

// nest does n Reads within each other, and at within the innermost.
func nest(n int, at func()) api.Errno {
	if n == 0 {
		at()
		return api.OK
	}
	return mint.Read(nil, func(r *mint.Reader) { r.Fail(nest(n-1, at)) })
}

func TestManyReadsWithinEachOther(t *testing.T) {
	const deep = 1<<16 - 1
	wantRead(t, []byte{1}, api.OK, func(r *mint.Reader) {
		same(t, "P105", nest(deep, func() { r.Num() }), api.OK)
	})
	wantStop(t, "P105", []byte{1}, api.ErrForm, func(r *mint.Reader) {
		r.Fail(nest(deep, func() {
			mint.Read([]byte{248, 0}, func(s *mint.Reader) { r.Fail(api.ErrForm) })
		}))
	})
	wantStop(t, "P105", nil, api.ErrForm, func(r *mint.Reader) {
		r.Fail(nest(deep, func() {
			r.Fail(mint.Read([]byte{248, 0}, func(s *mint.Reader) { s.Num() }))
		}))
	})
}

func TestAFaultIsThrown(t *testing.T) {
	wantRead(t, nil, api.ErrCut, func(r *mint.Reader) {
		defer func() {
			x := recover()
			if x == nil {
				t.Error("P105: f's deferred function finds nothing thrown")
			}
			panic(x)
		}()
		deep(r, 1000)
		t.Error("P103: it goes on")
	})
}

// deep meets a fault n calls down.
func deep(r *mint.Reader, n int) int {
	if n == 0 {
		return r.Num()
	}
	return deep(r, n-1) + 1
}

func TestAFaultStays(t *testing.T) {
	for _, b := range [][]byte{nil, {1}, {1, 2, 3}} {
		wantRead(t, b, api.ErrCut, func(r *mint.Reader) {
			defer wantZeros(t, "P105 in f's deferred call", r)
			r.Raw(4)
		})
		wantRead(t, b, api.ErrCut, func(r *mint.Reader) {
			wantThrown(t, "P105", func() { r.Raw(4) })
			wantZeros(t, "P105 behind a fault that f catches", r)
		})
		wantRead(t, b, api.ErrTag, func(r *mint.Reader) {
			wantThrown(t, "P105", func() { r.Fail(api.ErrTag) })
			wantZeros(t, "P105 behind Fail", r)
			same(t, "P105 a Read within", mint.Read(b, func(s *mint.Reader) { s.Raw(len(b)) }), api.OK)
		})
	}
}

func TestAnInnerFunctionCatchesAnOuterFault(t *testing.T) {
	wantRead(t, []byte{1, 2}, api.ErrCut, func(r *mint.Reader) {
		e := mint.Read([]byte{9, 8}, func(s *mint.Reader) {
			wantThrown(t, "P105", func() { r.Raw(3) })
			wantZeros(t, "P105 the outer one", r)
			same(t, "P105 the inner one reads on", s.Num(), 9)
		})
		same(t, "P105 the inner Read", e, api.ErrTail)
		wantZeros(t, "P105 the outer one", r)
	})
}

func TestWhatFThrowsGoesThrough(t *testing.T) {
	own := errors.New("own")
	var none []int
	for _, c := range []struct {
		what  string
		throw func(r *mint.Reader)
		is    func(x any) bool
	}{
		{"a text", func(r *mint.Reader) { panic("own") }, func(x any) bool { return x == "own" }},
		{"an error", func(r *mint.Reader) { panic(own) }, func(x any) bool { return x == own }},
		{"an Errno", func(r *mint.Reader) { panic(api.ErrCut) }, func(x any) bool { return x == api.ErrCut }},
		{"a list", func(r *mint.Reader) { panic([]int{4}) }, func(x any) bool { l, ok := x.([]int); return ok && l[0] == 4 }},
		{"the Reader", func(r *mint.Reader) { panic(r) }, func(x any) bool { _, ok := x.(*mint.Reader); return ok }},
		{"nil", func(r *mint.Reader) { panic(nil) }, func(x any) bool { _, ok := x.(*runtime.PanicNilError); return ok }},
		{"an index", func(r *mint.Reader) { none[0]++ }, func(x any) bool { _, ok := x.(runtime.Error); return ok }},
	} {
		for _, bytesThere := range [][]byte{nil, {1}} {
			var outer, inner *mint.Reader
			x := wantThrown(t, "P105 "+c.what, func() {
				mint.Read(bytesThere, func(r *mint.Reader) {
					outer = r
					mint.Read(bytesThere, func(s *mint.Reader) {
						inner = s
						c.throw(s)
					})
					t.Errorf("P105 %s: the inner Read answers", c.what)
				})
				t.Errorf("P105 %s: Read answers", c.what)
			})
			if !c.is(x) {
				t.Errorf("P105 %s: %v", c.what, x)
			}
			wantZeros(t, "P106 behind "+c.what, outer)
			wantZeros(t, "P106 behind "+c.what, inner)
		}
	}
}

func TestWhatFThrowsBehindAFaultGoesThrough(t *testing.T) {
	x := wantThrown(t, "P105", func() {
		mint.Read(nil, func(r *mint.Reader) {
			wantThrown(t, "P105", func() { r.Num() })
			panic("own")
		})
	})
	same(t, "P105 behind a caught fault", x, any("own"))
	x = wantThrown(t, "P105", func() {
		mint.Read(nil, func(r *mint.Reader) {
			defer func() { panic("own") }()
			r.Num()
		})
	})
	same(t, "P105 in a deferred function", x, any("own"))
}

func TestAFaultBehindWhatFThrowsIsAnswered(t *testing.T) {
	wantRead(t, nil, api.ErrCut, func(r *mint.Reader) {
		defer r.Num()
		panic("own")
	})
}

// An inner Reader that meets a fault in a deferred call, while an outer one's is under way, takes its place, as panics do; the outer one stays all the same.
func TestAnInnerFaultBehindAnOuterOne(t *testing.T) {
	wantRead(t, []byte{2}, api.ErrForm, func(r *mint.Reader) {
		e := mint.Read(nil, func(s *mint.Reader) {
			defer s.Num()
			r.Bool()
		})
		same(t, "P105 the inner Read", e, api.ErrCut)
		wantZeros(t, "P105 the outer one", r)
	})
}

func TestAnotherReadsFaultIsNotThisOnes(t *testing.T) {
	var old any
	mint.Read(nil, func(r *mint.Reader) {
		old = wantThrown(t, "P105", func() { r.Num() })
	})
	x := wantThrown(t, "P105", func() {
		mint.Read(nil, func(r *mint.Reader) { panic(old) })
	})
	if x != old {
		t.Errorf("P105: f throws what it caught in another Read: %v", x)
	}
}

func TestAFunctionThatNeverReturns(t *testing.T) {
	var old *mint.Reader
	done := make(chan bool)
	go func() {
		defer close(done)
		mint.Read([]byte{1}, func(r *mint.Reader) {
			old = r
			runtime.Goexit()
		})
		t.Error("P103: Read answers behind Goexit")
	}()
	<-done
	wantZeros(t, "P106 behind Goexit", old)
}

func TestBehindTheEndOfRead(t *testing.T) {
	for _, c := range []struct {
		b []byte
		e api.Errno
		f func(r *mint.Reader)
	}{
		{nil, api.OK, func(r *mint.Reader) {}},
		{[]byte{1, 2, 3}, api.OK, func(r *mint.Reader) { r.Raw(3) }},
		{[]byte{1, 2, 3}, api.ErrTail, func(r *mint.Reader) {}},
		{[]byte{1, 2, 3}, api.ErrTail, func(r *mint.Reader) { r.Num() }},
		{[]byte{1, 2, 3}, api.ErrCut, func(r *mint.Reader) { r.Raw(4) }},
		{[]byte{1, 2, 3}, api.ErrTag, func(r *mint.Reader) { r.Fail(api.ErrTag) }},
	} {
		var old *mint.Reader
		wantRead(t, c.b, c.e, func(r *mint.Reader) {
			old = r
			c.f(r)
		})
		wantZeros(t, "P106", old)
		wantRead(t, []byte{7}, api.OK, func(r *mint.Reader) {
			wantZeros(t, "P106 within another Read", old)
			same(t, "P106 another Read", r.Num(), 7)
		})
	}
	wantZeros(t, "P1 a Reader that no Read has made", &mint.Reader{})
}
