package mint_test

import (
	"bytes"
	"math"
	"math/big"
	"testing"

	"retort/api"
	"retort/mint"
)

// wantRead also holds that f is called once, and that it ends (its deferred calls are done) ahead of Read's answer.
func wantRead(t *testing.T, b []byte, want api.Errno, f func(r *mint.Reader)) {
	t.Helper()
	calls, ends := 0, 0
	e := mint.Read(b, func(r *mint.Reader) {
		calls++
		defer func() { ends++ }()
		f(r)
	})
	if e != want || calls != 1 || ends != 1 {
		t.Errorf("P103 Read of %v: %v, want %v; f was called %d times and ended %d times", b, e, want, calls, ends)
	}
}

// wantStop: f meets that fault, so that nothing behind it is done.
func wantStop(t *testing.T, what string, b []byte, want api.Errno, f func(r *mint.Reader)) {
	t.Helper()
	wantRead(t, b, want, func(r *mint.Reader) {
		f(r)
		t.Errorf("%s of %v: it goes on", what, b)
	})
}

func same[T comparable](t *testing.T, what string, got, want T) {
	t.Helper()
	if got != want {
		t.Errorf("%s: %v, want %v", what, got, want)
	}
}

func TestReadGoesOnBehindWhatIsRead(t *testing.T) {
	b := []byte{248, 248, 7}
	wantRead(t, b, api.OK, func(r *mint.Reader) {
		same(t, "P104 Left", r.Left(), 3)
		same(t, "P104 Num", r.Num(), 248)
		same(t, "P104 Left", r.Left(), 1)
		same(t, "P104 Left again", r.Left(), 1)
		same(t, "P104 Num", r.Num(), 7)
		same(t, "P104 Left", r.Left(), 0)
	})
	wantStop(t, "P103 a Num more", b, api.ErrCut, func(r *mint.Reader) { r.Num(); r.Num(); r.Num() })
	wantRead(t, b, api.ErrTail, func(r *mint.Reader) { r.Num() })
	wantRead(t, b, api.ErrTail, func(r *mint.Reader) {})
	wantRead(t, nil, api.OK, func(r *mint.Reader) { same(t, "P104 Left", r.Left(), 0) })
	wantRead(t, []byte{1, 0, 2, 9, 8, 2, 111, 120, 0, 0, 4, 5, 248, 248, 1, 3}, api.OK, func(r *mint.Reader) {
		same(t, "P104 Bool", r.Bool(), true)
		same(t, "P104 Bool", r.Bool(), false)
		same(t, "P104 Bytes", string(r.Bytes()), "\x09\x08")
		same(t, "P104 Text", r.Text(), "ox")
		same(t, "P104 Bytes of none", len(r.Bytes()), 0)
		same(t, "P104 Text of none", r.Text(), "")
		same(t, "P104 Raw", string(r.Raw(2)), "\x04\x05")
		same(t, "P104 Int", r.Int(), 124)
		same(t, "P104 Int", r.Int(), -1)
		same(t, "P104 Raw of none", len(r.Raw(0)), 0)
		same(t, "P104 Most", r.Most(3), 3)
		same(t, "P104 Raw of none at the end", len(r.Raw(0)), 0)
	})
}

func TestNumbersAreRead(t *testing.T) {
	for _, n := range edges() {
		wantRead(t, formOf(foldOf(n)), api.OK, func(r *mint.Reader) { same(t, "P104 Int", r.Int(), n) })
		if n >= 0 {
			form := formOf(big.NewInt(int64(n)))
			wantRead(t, form, api.OK, func(r *mint.Reader) { same(t, "P104 Num", r.Num(), n) })
			wantRead(t, form, api.OK, func(r *mint.Reader) { same(t, "P104 Most", r.Most(n), n) })
			wantStop(t, "P104 Most of one less", form, api.ErrLong, func(r *mint.Reader) { r.Most(n - 1) })
		}
	}
}

func TestFaults(t *testing.T) {
	num := func(r *mint.Reader) { r.Num() }
	integer := func(r *mint.Reader) { r.Int() }
	boolean := func(r *mint.Reader) { r.Bool() }
	counted := func(r *mint.Reader) { r.Bytes() }
	text := func(r *mint.Reader) { r.Text() }
	raw := func(n int) func(r *mint.Reader) { return func(r *mint.Reader) { r.Raw(n) } }
	most := func(n int) func(r *mint.Reader) { return func(r *mint.Reader) { r.Most(n) } }
	above := []byte{255, 128, 0, 0, 0, 0, 0, 0, 0}
	for _, c := range []struct {
		what string
		b    []byte
		e    api.Errno
		f    func(r *mint.Reader)
	}{
		{"Num of one byte's number in two", []byte{248, 247}, api.ErrForm, num},
		{"Num of 0 in two", []byte{248, 0}, api.ErrForm, num},
		{"Num with a 0 ahead", []byte{249, 0, 9}, api.ErrForm, num},
		{"Num with a 0 ahead of 248", []byte{249, 0, 248}, api.ErrForm, num},
		{"Num with a 0 ahead of seven", []byte{255, 0, 255, 255, 255, 255, 255, 255, 255}, api.ErrForm, num},
		{"Num, cut", []byte{249, 1}, api.ErrCut, num},
		{"Num, cut, with a 0 ahead", []byte{249, 0}, api.ErrCut, num},
		{"Num above the greatest int", above, api.ErrForm, num},
		{"Num of no bytes", nil, api.ErrCut, num},
		{"Int of no bytes", nil, api.ErrCut, integer},
		{"Int, cut", []byte{255, 255, 255, 255, 255, 255, 255, 255}, api.ErrCut, integer},
		{"Int of one byte's number in two", []byte{248, 247}, api.ErrForm, integer},
		{"Int with a 0 ahead", []byte{250, 0, 255, 255}, api.ErrForm, integer},
		{"Bool of no bytes", nil, api.ErrCut, boolean},
		{"Bool of 2", []byte{2}, api.ErrForm, boolean},
		{"Bool of 255", []byte{255}, api.ErrForm, boolean},
		{"Bytes, cut", []byte{3, 1, 2}, api.ErrCut, counted},
		{"Bytes of no bytes", nil, api.ErrCut, counted},
		{"Bytes of a cut number", []byte{249, 1}, api.ErrCut, counted},
		{"Bytes of a number that is not the one form", []byte{248, 1, 5}, api.ErrForm, counted},
		{"Bytes of a number above the greatest int", above, api.ErrForm, counted},
		{"Bytes of the greatest int", []byte{255, 127, 255, 255, 255, 255, 255, 255, 255}, api.ErrCut, counted},
		{"Text, cut", []byte{3, 1, 2}, api.ErrCut, text},
		{"Text of no bytes", nil, api.ErrCut, text},
		{"Text of a number that is not the one form", []byte{248, 1, 5}, api.ErrForm, text},
		{"Text of a number above the greatest int", above, api.ErrForm, text},
		{"Text of the greatest int", []byte{255, 127, 255, 255, 255, 255, 255, 255, 255}, api.ErrCut, text},
		{"Raw below 0", []byte{2}, api.ErrArg, raw(-1)},
		{"Raw below 0 of no bytes", nil, api.ErrArg, raw(math.MinInt)},
		{"Raw of one more", []byte{2}, api.ErrCut, raw(2)},
		{"Raw of the greatest int", []byte{2}, api.ErrCut, raw(math.MaxInt)},
		{"Most", []byte{5}, api.ErrLong, most(4)},
		{"Most below 0", []byte{0}, api.ErrLong, most(-1)},
		{"Most of the least int", []byte{0}, api.ErrLong, most(math.MinInt)},
		{"Most, cut", []byte{248}, api.ErrCut, most(4)},
		{"Most of no bytes", nil, api.ErrCut, most(-1)},
		{"Most, not the one form", []byte{248, 9}, api.ErrForm, most(4)},
		{"Most above the greatest int", above, api.ErrForm, most(4)},
	} {
		wantStop(t, "P104 "+c.what, c.b, c.e, c.f)
	}
	wantRead(t, above, api.OK, func(r *mint.Reader) { same(t, "P104 Int", r.Int(), 4611686018427387904) })
}

func TestFail(t *testing.T) {
	for _, e := range []api.Errno{api.ErrTag, api.ErrTail, api.ErrArg, -1, 1 << 40} {
		wantStop(t, "P104 Fail", []byte{5}, e, func(r *mint.Reader) { r.Num(); r.Fail(e) })
		wantStop(t, "P104 Fail with bytes left", []byte{5}, e, func(r *mint.Reader) { r.Fail(e) })
	}
	wantRead(t, []byte{5}, api.OK, func(r *mint.Reader) {
		r.Fail(api.OK)
		same(t, "P104 behind Fail of OK", r.Num(), 5)
	})
	wantRead(t, []byte{5}, api.ErrTail, func(r *mint.Reader) { r.Fail(api.OK) })
}

// readOf says the chapter's words again: b is looked up among all the forms that are as long as it says.
func readOf(b []byte) (u *big.Int, size int, e api.Errno) {
	if len(b) == 0 {
		return nil, 0, api.ErrCut
	}
	size = 1 + max(0, int(b[0])-247)
	if len(b) < size {
		return nil, 0, api.ErrCut
	}
	u = big.NewInt(int64(b[0]))
	if size > 1 {
		u.SetBytes(b[1:size])
	}
	if !bytes.Equal(formOf(u), b[:size]) {
		return nil, 0, api.ErrForm
	}
	return u, size, api.OK
}

// TestEveryShortRead goes over all that are up to two bytes long, and all forms of two bytes behind the first, right ones and wrong ones.
func TestEveryShortRead(t *testing.T) {
	all := [][]byte{nil}
	for first := range 256 {
		all = append(all, []byte{byte(first)})
		for second := range 256 {
			all = append(all, []byte{byte(first), byte(second)})
		}
	}
	for i := range 1 << 16 {
		all = append(all, []byte{249, byte(i >> 8), byte(i)})
	}
	for _, b := range all {
		u, size, want := readOf(b)
		if want == api.OK && size < len(b) {
			want = api.ErrTail
		}
		wantRead(t, b, want, func(r *mint.Reader) { same(t, "P104 Num", r.Num(), int(u.Int64())) })
		wantRead(t, b, want, func(r *mint.Reader) { same(t, "P104 Int", foldOf(r.Int()).Cmp(u), 0) })
	}
}

func TestEveryFrontOfAFormIsCut(t *testing.T) {
	for _, n := range edges() {
		form := formOf(foldOf(n))
		for i := range form {
			wantStop(t, "P104 Int of a front", form[:i:i], api.ErrCut, func(r *mint.Reader) { r.Int() })
			wantStop(t, "P104 Num of a front", form[:i], api.ErrCut, func(r *mint.Reader) { r.Num() })
		}
	}
}

func TestAReaderSharesNoMemory(t *testing.T) {
	room := []byte{2, 9, 8, 4, 5, 2, 9, 8, 77, 77}
	was := bytes.Clone(room)
	var answers [][]byte
	wantRead(t, room[:8], api.OK, func(r *mint.Reader) {
		same(t, "P104 Left counts no spare room", r.Left(), 8)
		answers = append(answers, r.Bytes(), r.Raw(2), r.Bytes())
		for _, a := range answers {
			a = append(a, 99)
			a = a[:cap(a)]
			for i := range a {
				a[i] = 99
			}
		}
		for _, a := range answers {
			a[0], a[1] = 98, 98
		}
	})
	if !bytes.Equal(room, was) {
		t.Errorf("P2: what is handed in, or its spare room, was changed: %v", room)
	}
	kept := bytes.Clone(answers[0])
	clear(room)
	if !bytes.Equal(answers[0], kept) {
		t.Errorf("P2: an answer is the memory that was handed in")
	}
}

func TestTheSameReadsAnswerTheSame(t *testing.T) {
	for range 3 {
		wantRead(t, []byte{249, 1, 0, 1}, api.ErrTail, func(r *mint.Reader) { same(t, "P3", r.Num(), 256) })
		wantRead(t, []byte{249, 1, 0, 1}, api.ErrCut, func(r *mint.Reader) { r.Num(); r.Raw(2) })
	}
}
