package act_test

import (
	"bytes"
	"fmt"
	"math"
	"math/rand/v2"
	"slices"
	"strings"
	"testing"

	"retort/act"
	"retort/api"
)

// checks holds Check and Encode of any action against the oracle, and Decode of its bytes against it.
func checks(t testing.TB, what string, a api.Action, want api.Errno) {
	t.Helper()
	is(t, "the oracle: "+what, faultOf(a), want)
	is(t, "P1901: "+what, act.Check(a), want)
	b, e := act.Encode(a)
	is(t, "P1902: "+what, e, want)
	if want != api.OK {
		is(t, "P4: bytes beside an error: "+what, len(b), 0)
		return
	}
	sameBytes(t, "P1902: "+what, b, laid(a))
	back, e := act.Decode(b)
	is(t, "P1909: Decode of Encode: "+what, e, api.OK)
	is(t, "P1909: Decode of Encode: "+what, text(back), text(a))
}

// decodes holds Decode of any bytes against the oracle, and Encode of its action against them.
func decodes(t testing.TB, what string, b []byte, want api.Errno) api.Action {
	t.Helper()
	a, e := act.Decode(b)
	x, we := actionOf(b)
	is(t, "the oracle: "+what, we, want)
	is(t, "P1903: "+what, e, want)
	is(t, "P1903: "+what, text(a), text(x))
	if want == api.OK {
		again, e := act.Encode(a)
		is(t, "P1909: Encode of Decode: "+what, e, api.OK)
		sameBytes(t, "P1909: Encode of Decode: "+what, again, b)
	}
	return a
}

// some is a right action.
func some() api.Action {
	a := api.Action{Limits: wide(), Keep: keep("a", "b/c")}
	for i := range a.Program {
		a.Program[i], a.Input[i] = byte(i+1), byte(200-i)
	}
	return a
}

// Each limit at its edges and beyond them, alone and with paths that may not be.
func TestLimits(t *testing.T) {
	checks(t, "as it is", some(), api.OK)
	for i := range 8 {
		least, most := leastLimits()[i], mostLimits()[i]
		for _, n := range []int{math.MinInt, -1 << 32, -2, -1, 0, 1, 2, 31, 32, 33, 63, 64, 65, 4095, 4096, 4097, 65535, 65536, 65537, 1048575, 1048576, 1048577, 67108863, 67108864, 67108865, 1 << 32, 1<<32 + 1, math.MaxInt} {
			l := numbersOf(wide())
			l[i] = n
			a := some()
			a.Limits = limitsOf(l)
			want := api.OK
			if n < least || n > most {
				want = api.ErrLimits
			}
			checks(t, fmt.Sprintf("limit %d is %d", i, n), a, want)
			a.Keep = keep("b", "a")
			if want == api.OK {
				want = api.ErrKeep
			}
			checks(t, fmt.Sprintf("limit %d is %d, and the paths may not be", i, n), a, want)
		}
	}
	a := some()
	a.Limits = limitsOf(leastLimits())
	checks(t, "the least", a, api.OK)
	a.Limits = limitsOf(mostLimits())
	checks(t, "the most", a, api.OK)
	a.Limits = api.Limits{}
	checks(t, "zeros: no node", a, api.ErrLimits)
	checks(t, "the zero action", api.Action{}, api.ErrLimits)
}

// long is a path of n names of 64 bytes each.
func long(first string, n int) string {
	return first + strings.Repeat("x", 64-len(first)) + strings.Repeat("/"+strings.Repeat("y", 64), n-1)
}

// many are n paths, rising.
func many(n int) []string {
	var l []string
	for i := range n {
		l = append(l, fmt.Sprintf("p%02d", i))
	}
	return l
}

func TestKeep(t *testing.T) {
	var widest []string
	for _, p := range many(64) {
		widest = append(widest, long(p, 32))
	}
	for _, c := range []struct {
		l    []string
		want api.Errno
	}{
		{nil, api.OK}, {keep(), api.OK}, {keep(""), api.OK}, {keep("a"), api.OK}, {keep("a", "b"), api.OK}, {keep("a/b", "a-"), api.OK}, {keep("a/b", "a/c", "b"), api.OK},
		{many(63), api.OK}, {many(64), api.OK}, {widest, api.OK}, {keep("é", "\xff"), api.OK}, {keep("\x01\n"), api.OK},
		{keep("", ""), api.ErrKeep}, {keep("", "a"), api.ErrKeep}, {keep("a", ""), api.ErrKeep}, {keep("a", "a"), api.ErrKeep}, {keep("b", "a"), api.ErrKeep}, {keep("a-", "a/b"), api.ErrKeep},
		{keep("a", "a/b"), api.ErrKeep}, {keep("a/b", "a"), api.ErrKeep}, {keep("a", "a/b/c", "b"), api.ErrKeep},
		{keep("/"), api.ErrKeep}, {keep("a/"), api.ErrKeep}, {keep("/a"), api.ErrKeep}, {keep("a//b"), api.ErrKeep}, {keep("."), api.ErrKeep}, {keep(".."), api.ErrKeep}, {keep("a/../b"), api.ErrKeep}, {keep("a\x00"), api.ErrKeep},
		{keep(strings.Repeat("x", 65)), api.ErrKeep}, {keep(long("p", 33)), api.ErrKeep}, {keep(strings.Repeat("x", 1<<20)), api.ErrKeep},
		{many(65), api.ErrKeep}, {many(99), api.ErrKeep}, {append(many(63), "p62/x"), api.ErrKeep}, {append(many(63), "a"), api.ErrKeep},
	} {
		a := some()
		a.Keep = c.l
		checks(t, brief(c.l), a, c.want)
		decodes(t, brief(c.l), laid(a), c.want)
	}
	a := some()
	a.Keep = widest
	a.Limits = limitsOf(mostLimits())
	b, e := act.Encode(a)
	is(t, "P1902: the longest action", e, api.OK)
	if len(b) > api.MaxBlob {
		t.Errorf("DOC.md, Limits that meet: the longest action has %d bytes", len(b))
	}
	put(t, store(t, 32, 1<<20), b...)
}

// An action's bytes, written out.
func TestActionBytes(t *testing.T) {
	a := api.Action{Limits: api.Limits{Fuel: 1, Memory: 2, Stack: 3, Bytes: 248, Files: 5, Open: 6, Nodes: 256, Depth: 8}, Keep: keep("a", "b/c"), Fresh: true}
	a.Program = api.Digest{9, 8, 31: 7}
	a.Input = api.Digest{1, 30: 6}
	zeros := make([]byte, 29)
	want := slices.Concat([]byte{3, 9, 8}, zeros, []byte{7, 1}, zeros, []byte{6, 0, 1, 2, 3, 248, 248, 5, 6, 249, 1, 0, 8, 2, 1, 'a', 3, 'b', '/', 'c', 1})
	b, e := act.Encode(a)
	is(t, "P1902", e, api.OK)
	sameBytes(t, "P1902", b, want)
	is(t, "P1903", text(decodes(t, "written out", want, api.OK)), text(a))
	a.Keep, a.Fresh = nil, false
	b, _ = act.Encode(a)
	sameBytes(t, "P1902: no paths, not Fresh", b, append(want[:len(want)-8:len(want)-8], 0, 0))
	a.Keep = keep("")
	b, _ = act.Encode(a)
	sameBytes(t, "P1902: the root", b, append(want[:len(want)-8:len(want)-8], 1, 0, 0))
}

// Any digests may stand there.
func TestDigestsMayBeAny(t *testing.T) {
	for _, d := range []api.Digest{{}, {1}, {31: 1}, api.Digest(bytes.Repeat([]byte{255}, 32))} {
		a := some()
		a.Program = d
		checks(t, "a program", a, api.OK)
		a.Input = d
		checks(t, "an input", a, api.OK)
	}
}

// Of an action's bytes each front is cut, wherever it ends; what is left behind them is too much.
func TestActionFronts(t *testing.T) {
	wideOne := some()
	wideOne.Limits = limitsOf(mostLimits())
	wideOne.Keep = keep(long("a", 5), "b")
	for _, a := range []api.Action{some(), {Limits: wide(), Fresh: true}, {Limits: wide(), Keep: keep("")}, wideOne} {
		b := laid(a)
		for i := range b {
			decodes(t, fmt.Sprintf("%d bytes of %d", i, len(b)), b[:i], api.ErrCut)
		}
		decodes(t, "all", b, api.OK)
		for _, more := range [][]byte{{0}, {1}, {255}, b} {
			decodes(t, "something behind", slices.Concat(b, more), api.ErrTail)
		}
	}
	decodes(t, "no bytes", nil, api.ErrCut)
	decodes(t, "no bytes", []byte{}, api.ErrCut)
}

// numberAt are an action's bytes with other ones in the place of a number's form: 0 is the kind, 1 to 8 are the limits, 9 is how many paths, 10 how many bytes the first one has.
func numberAt(at int, instead []byte) []byte {
	a := some()
	parts := [][]byte{num(3)}
	for _, n := range numbersOf(a.Limits) {
		parts = append(parts, num(n))
	}
	parts = append(parts, num(2), num(1))
	if at >= 0 {
		parts[at] = instead
	}
	b := slices.Concat(parts[0], a.Program[:], a.Input[:])
	return append(append(b, slices.Concat(parts[1:]...)...), "a\x03b/c\x00"...)
}

// Each number in forms that are not its one form, above ints, and cut.
func TestActionForms(t *testing.T) {
	decodes(t, "as it is", numberAt(-1, nil), api.OK)
	sameBytes(t, "numberAt", numberAt(-1, nil), laid(some()))
	for at := range 11 {
		for k := 1; k <= 8; k++ {
			odd := append(append([]byte{byte(247 + k)}, make([]byte, k-1)...), 3)
			decodes(t, fmt.Sprintf("number %d in %d bytes", at, k), numberAt(at, odd), api.ErrForm)
		}
		decodes(t, fmt.Sprintf("number %d above ints", at), numberAt(at, form(1<<63)), api.ErrForm)
		decodes(t, fmt.Sprintf("number %d is the greatest", at), numberAt(at, form(math.MaxUint64)), api.ErrForm)
	}
	for _, fresh := range []byte{2, 3, 128, 247, 248, 255} {
		b := laid(some())
		b[len(b)-1] = fresh
		decodes(t, "Fresh is neither 0 nor 1", b, api.ErrForm)
		decodes(t, "Fresh is neither 0 nor 1, and something is left", append(b, 0), api.ErrForm)
	}
}

// The kind is looked at ahead of all that stands behind it.
func TestActionKinds(t *testing.T) {
	for n := range 300 {
		if n == 3 {
			continue
		}
		decodes(t, fmt.Sprint("kind ", n), numberAt(0, num(n)), api.ErrTag)
		decodes(t, fmt.Sprint("kind ", n, " alone"), num(n), api.ErrTag)
	}
	for _, n := range []int{259, 65539, 1<<32 + 3, math.MaxInt} {
		decodes(t, fmt.Sprint("kind ", n), numberAt(0, num(n)), api.ErrTag)
	}
	decodes(t, "the chapter's first example", []byte{1, 3, 5}, api.ErrTag)
}

// How many paths there are is looked at ahead of the paths, and behind all that stands ahead.
func TestHowManyPaths(t *testing.T) {
	for _, n := range []int{65, 66, 247, 248, 1 << 16, 1 << 40, math.MaxInt} {
		b := numberAt(9, num(n))
		decodes(t, fmt.Sprint(n, " paths"), b, api.ErrKeep)
		decodes(t, fmt.Sprint(n, " paths, nothing behind"), b[:len(b)-len("\x01a\x03b/c\x00")], api.ErrKeep)
		decodes(t, fmt.Sprint(n, " paths, cut"), b[:len(b)-1], api.ErrKeep)
		wrong := numberAt(9, slices.Concat(num(n), []byte{248, 1}))
		decodes(t, fmt.Sprint(n, " paths, ahead of a form"), wrong, api.ErrKeep)
		wrong = slices.Clone(b)
		wrong[0] = 4
		decodes(t, fmt.Sprint(n, " paths, behind another kind"), wrong, api.ErrTag)
	}
	decodes(t, "64 paths, few there", numberAt(9, num(64)), api.ErrCut)
	decodes(t, "3 paths, two there", numberAt(9, num(3)), api.ErrCut)
	decodes(t, "1 path, two there", numberAt(9, num(1)), api.ErrForm)
	decodes(t, "no path, two there", numberAt(9, num(0)), api.ErrTail)
	for _, n := range []int{6, 200, 1 << 40, math.MaxInt} {
		decodes(t, fmt.Sprint("a path of ", n, " bytes"), numberAt(10, num(n)), api.ErrCut)
	}
}

// What Check refuses is told when all was read: behind any fault of the bytes.
func TestCheckBehindReading(t *testing.T) {
	for i, most := range mostLimits() {
		for _, n := range []int{most + 1, math.MaxInt} {
			l := numbersOf(wide())
			l[i] = n
			a := some()
			a.Limits = limitsOf(l)
			b := laid(a)
			decodes(t, "a limit", b, api.ErrLimits)
			decodes(t, "a limit, and something behind", append(slices.Clone(b), 0), api.ErrTail)
			decodes(t, "a limit, and cut", b[:len(b)-1], api.ErrCut)
			a.Keep = many(65)
			decodes(t, "a limit, and too many paths", laid(a), api.ErrKeep)
			a.Keep = keep("b", "a")
			decodes(t, "a limit, and paths that may not be", laid(a), api.ErrLimits)
		}
	}
	a := some()
	a.Limits.Nodes = 0
	decodes(t, "no node", laid(a), api.ErrLimits)
	a = some()
	a.Keep = keep("b", "a")
	b := laid(a)
	decodes(t, "paths", b, api.ErrKeep)
	decodes(t, "paths, and something behind", append(slices.Clone(b), 0), api.ErrTail)
	decodes(t, "paths, and cut", b[:len(b)-1], api.ErrCut)
	b[len(b)-1] = 2
	decodes(t, "paths, and a form", b, api.ErrForm)
}

// Bytes of any length are read, also more than a blob has.
func TestLongActions(t *testing.T) {
	b := append(laid(some()), make([]byte, 2<<20)...)
	decodes(t, "much behind", b, api.ErrTail)
	a := some()
	a.Keep = keep(strings.Repeat("x", 2<<20))
	decodes(t, "a long path", laid(a), api.ErrKeep)
	decodes(t, "a long path, and something behind", append(laid(a), 0), api.ErrTail)
	decodes(t, "another kind, and long", make([]byte, 5<<20), api.ErrTag)
}

// drawnAction is a right one, in any order of greatness.
func drawnAction(r *rand.Rand) api.Action {
	var a api.Action
	for i := range a.Program {
		a.Program[i], a.Input[i] = byte(r.Uint32()), byte(r.Uint32()>>r.IntN(20))
	}
	l := leastLimits()
	for i, most := range mostLimits() {
		l[i] += r.IntN(most+1-l[i]) >> r.IntN(20)
		l[i] = max(l[i], leastLimits()[i])
	}
	a.Limits = limitsOf(l)
	for _, p := range []string{"-", "a", "a/b/c", "a-", "b/b", long("c", 9), "é"} {
		if r.IntN(3) == 0 {
			if n := len(a.Keep); n == 0 || !under(a.Keep[n-1], p) {
				a.Keep = append(a.Keep, p)
			}
		}
	}
	a.Fresh = r.IntN(2) == 0
	return a
}

func bent(r *rand.Rand, b []byte) []byte {
	b = slices.Clone(b)
	switch at := r.IntN(len(b)); r.IntN(4) {
	case 0:
		b[at] = byte(r.Uint32())
	case 1:
		b[at] ^= 1 << r.IntN(8)
	case 2:
		b = slices.Delete(b, at, at+1)
	case 3:
		b = slices.Insert(b, at, byte(r.Uint32()>>r.IntN(30)))
	}
	return b
}

// P1909 over drawn actions and over bytes that are nearly an action's.
func TestDrawnActions(t *testing.T) {
	seen := map[api.Errno]int{}
	unlike := map[string]string{}
	for n := range uint64(20000) {
		r := seeded(n)
		a := drawnAction(r)
		checks(t, "drawn", a, api.OK)
		b, _ := act.Encode(a)
		if was, there := unlike[string(b)]; there {
			is(t, "P1909: two actions of the same bytes", text(a), was)
		}
		unlike[string(b)] = text(a)
		b = bent(r, b)
		_, e := actionOf(b)
		decodes(t, "bent", b, e)
		seen[e]++
	}
	for _, e := range []api.Errno{api.OK, api.ErrCut, api.ErrForm, api.ErrTag, api.ErrKeep, api.ErrTail, api.ErrLimits} {
		if seen[e] < 20 {
			t.Errorf("%v was met %d times only", e, seen[e])
		}
	}
}

// Two actions that are unlike in one thing have unlike bytes.
func TestUnlikeActions(t *testing.T) {
	row := []api.Action{some()}
	for i := range 8 {
		a := some()
		l := numbersOf(a.Limits)
		l[i]++
		a.Limits = limitsOf(l)
		row = append(row, a)
	}
	for _, turn := range []func(a *api.Action){
		func(a *api.Action) { a.Program[31]++ }, func(a *api.Action) { a.Input[0]++ }, func(a *api.Action) { a.Fresh = true }, func(a *api.Action) { a.Program, a.Input = a.Input, a.Program },
		func(a *api.Action) { a.Keep = nil }, func(a *api.Action) { a.Keep = keep("") }, func(a *api.Action) { a.Keep = keep("a") }, func(a *api.Action) { a.Keep = keep("a", "b") }, func(a *api.Action) { a.Keep = keep("a", "b/c", "d") },
	} {
		a := some()
		turn(&a)
		row = append(row, a)
	}
	met := map[string]int{}
	for i, a := range row {
		b, e := act.Encode(a)
		is(t, "P1902", e, api.OK)
		if j, there := met[string(b)]; there {
			t.Errorf("P1909: actions %d and %d have the same bytes", j, i)
		}
		met[string(b)] = i
	}
}

func FuzzDecode(f *testing.F) {
	f.Add(laid(some()))
	f.Add(laid(api.Action{Limits: wide(), Keep: keep(""), Fresh: true}))
	f.Add(numberAt(9, num(65)))
	for n := range uint64(20) {
		r := seeded(n)
		f.Add(bent(r, laid(drawnAction(r))))
	}
	f.Fuzz(func(t *testing.T, b []byte) {
		_, e := actionOf(b)
		decodes(t, "fuzz", b, e)
	})
}
