package act_test

import (
	"bytes"
	"fmt"
	"math"
	"math/rand/v2"
	"slices"
	"strings"
	"testing"

	"retort/act"
	"retort/api"
)

// rights holds EncodeResult of any result against the oracle, and DecodeResult of its bytes against it.
func rights(t testing.TB, what string, r api.Result, right bool) {
	t.Helper()
	is(t, "the oracle: "+what, isRight(r), right)
	b, e := act.EncodeResult(r)
	if !right {
		is(t, "P1904: "+what, e, api.ErrResult)
		is(t, "P4: bytes beside an error: "+what, len(b), 0)
		return
	}
	is(t, "P1904: "+what, e, api.OK)
	sameBytes(t, "P1904: "+what, b, laidResult(r))
	back, e := act.DecodeResult(b)
	is(t, "P1909: DecodeResult of EncodeResult: "+what, e, api.OK)
	is(t, "P1909: DecodeResult of EncodeResult: "+what, text(back), text(r))
}

// tells holds DecodeResult of any bytes against the oracle, and EncodeResult of its result against them.
func tells(t testing.TB, what string, b []byte, want api.Errno) api.Result {
	t.Helper()
	r, e := act.DecodeResult(b)
	x, we := resultOf(b)
	is(t, "the oracle: "+what, we, want)
	is(t, "P1904: "+what, e, want)
	is(t, "P1904: "+what, text(r), text(x))
	if want == api.OK {
		again, e := act.EncodeResult(r)
		is(t, "P1909: EncodeResult of DecodeResult: "+what, e, api.OK)
		sameBytes(t, "P1909: EncodeResult of DecodeResult: "+what, again, b)
	}
	return r
}

func halted() api.Result {
	return api.Result{End: api.EHalt, Code: 7, Fuel: 2, Root: api.Digest{5, 31: 6}, Missing: keep("a", "b/c")}
}

func trapped() api.Result { return api.Result{End: api.ETrap, Trap: api.TBounds, Fuel: 300} }

// edgeInts are numbers on both sides of each edge that results have.
func edgeInts() []int {
	return []int{math.MinInt, math.MinInt + 1, -1 << 40, -125, -124, -2, -1, 0, 1, 2, 3, 4, 5, 6, 7, 8, 9, 123, 124, 248, 1048575, 1048576, 1048577, 1 << 40, math.MaxInt - 1, math.MaxInt}
}

// Each End with each Trap, with and without a Code, a Root, and paths.
func TestRightResults(t *testing.T) {
	for _, end := range edgeInts() {
		for _, trap := range edgeInts() {
			for _, code := range []int{0, 1, -1, math.MinInt, math.MaxInt} {
				for _, root := range []api.Digest{{}, {1}, {31: 1}} {
					for _, missing := range [][]string{nil, {}, keep(""), keep("a")} {
						r := api.Result{End: end, Trap: api.Trap(trap), Code: code, Fuel: 9, Root: root, Missing: missing}
						none := root == api.Digest{} && len(missing) == 0
						right := end == 1 && trap == 0 || end == 2 && none && (trap == 7 || trap >= 1 && trap <= 6 && code == 0)
						rights(t, text(r), r, right)
						if end >= 0 && trap >= 0 {
							tells(t, text(r), laidResult(r), map[bool]api.Errno{true: api.OK, false: api.ErrResult}[right])
						}
					}
				}
			}
		}
	}
	rights(t, "none", api.Result{}, false)
}

func TestResultNumbers(t *testing.T) {
	for _, n := range edgeInts() {
		for _, r := range []api.Result{halted(), trapped(), {End: 2, Trap: api.TAbort, Code: -5}} {
			r.Fuel = n
			rights(t, fmt.Sprint("Fuel ", n), r, n >= 0 && n <= 1048576)
			if n >= 0 {
				tells(t, fmt.Sprint("Fuel ", n), laidResult(r), map[bool]api.Errno{true: api.OK, false: api.ErrResult}[n <= 1048576])
			}
		}
		r := halted()
		r.Code = n
		rights(t, fmt.Sprint("Code ", n), r, true)
		r = api.Result{End: 2, Trap: api.TAbort, Code: n}
		rights(t, fmt.Sprint("TAbort's Code ", n), r, true)
		r.Trap = api.TFloat
		rights(t, fmt.Sprint("TFloat's Code ", n), r, n == 0)
	}
	for _, d := range []api.Digest{{}, {31: 1}, api.Digest(bytes.Repeat([]byte{255}, 32))} {
		r := halted()
		r.Root = d
		rights(t, "any Root of one that halted", r, true)
		r = trapped()
		r.Root = d
		rights(t, "the zero Root of one that trapped", r, d == api.Digest{})
	}
}

func TestMissing(t *testing.T) {
	for _, c := range []struct {
		l     []string
		right bool
	}{
		{nil, true}, {keep(""), true}, {keep("a", "b"), true}, {keep("a/b", "a-"), true}, {many(64), true}, {keep(long("p", 32)), true},
		{keep("b", "a"), false}, {keep("a", "a"), false}, {keep("a", "a/b"), false}, {keep("", "a"), false}, {keep("a/"), false}, {keep(".."), false}, {keep(long("p", 33)), false}, {many(65), false}, {keep(strings.Repeat("x", 65)), false},
	} {
		r := halted()
		r.Missing = c.l
		rights(t, brief(c.l), r, c.right)
		tells(t, brief(c.l), laidResult(r), map[bool]api.Errno{true: api.OK, false: api.ErrResult}[c.right])
		r = trapped()
		r.Missing = c.l
		rights(t, "trapped: "+brief(c.l), r, len(c.l) == 0)
	}
}

// A result's bytes, written out.
func TestResultBytes(t *testing.T) {
	zeros := make([]byte, 30)
	want := slices.Concat([]byte{4, 1, 14, 0, 2, 5}, zeros, []byte{6, 2, 1, 'a', 3, 'b', '/', 'c'})
	b, e := act.EncodeResult(halted())
	is(t, "P1904", e, api.OK)
	sameBytes(t, "P1904: halted", b, want)
	is(t, "P1904: halted", text(tells(t, "written out", want, api.OK)), text(halted()))
	want = slices.Concat([]byte{4, 2, 0, 4, 249, 1, 44}, make([]byte, 32), []byte{0})
	b, e = act.EncodeResult(trapped())
	is(t, "P1904", e, api.OK)
	sameBytes(t, "P1904: trapped", b, want)
	is(t, "P1904: trapped", text(tells(t, "written out", want, api.OK)), text(trapped()))
	b, e = act.EncodeResult(api.Result{End: api.ETrap, Trap: api.TAbort, Code: -125, Fuel: 1})
	is(t, "P1904", e, api.OK)
	sameBytes(t, "P1904: aborted", b, slices.Concat([]byte{4, 2, 248, 249, 7, 1}, make([]byte, 32), []byte{0}))
}

func TestResultFronts(t *testing.T) {
	for _, r := range []api.Result{halted(), trapped(), {End: 1, Code: math.MinInt, Fuel: 1 << 20}, {End: 1, Missing: keep("")}} {
		b := laidResult(r)
		for i := range b {
			tells(t, fmt.Sprintf("%d bytes of %d", i, len(b)), b[:i], api.ErrCut)
		}
		tells(t, "all", b, api.OK)
		for _, more := range [][]byte{{0}, {1}, {255}, b} {
			tells(t, "something behind", slices.Concat(b, more), api.ErrTail)
		}
	}
	tells(t, "no bytes", nil, api.ErrCut)
	tells(t, "much behind", append(laidResult(halted()), make([]byte, 2<<20)...), api.ErrTail)
}

// resultAt are a result's bytes with other ones in the place of a number's form: 0 is the kind, then End, Code, Trap, Fuel, how many paths, how many bytes the first one has.
func resultAt(at int, instead []byte) []byte {
	r := halted()
	parts := [][]byte{num(4), num(1), folded(7), num(0), num(2), num(2), num(1)}
	if at >= 0 {
		parts[at] = instead
	}
	b := slices.Concat(slices.Concat(parts[:5]...), r.Root[:])
	return append(append(b, slices.Concat(parts[5:]...)...), "a\x03b/c"...)
}

func TestResultForms(t *testing.T) {
	sameBytes(t, "resultAt", resultAt(-1, nil), laidResult(halted()))
	for at := range 7 {
		for k := 1; k <= 8; k++ {
			odd := append(append([]byte{byte(247 + k)}, make([]byte, k-1)...), 3)
			tells(t, fmt.Sprintf("number %d in %d bytes", at, k), resultAt(at, odd), api.ErrForm)
		}
		above := api.ErrForm
		if at == 2 { // any number is an int's fold
			above = api.OK
		}
		tells(t, fmt.Sprintf("number %d above ints", at), resultAt(at, form(1<<63)), above)
		tells(t, fmt.Sprintf("number %d is the greatest", at), resultAt(at, form(math.MaxUint64)), above)
	}
}

func TestResultKinds(t *testing.T) {
	for n := range 300 {
		if n != 4 {
			tells(t, fmt.Sprint("kind ", n), resultAt(0, num(n)), api.ErrTag)
			tells(t, fmt.Sprint("kind ", n, " alone"), num(n), api.ErrTag)
		}
	}
	for _, n := range []int{260, 65540, 1<<32 + 4, math.MaxInt} {
		tells(t, fmt.Sprint("kind ", n), resultAt(0, num(n)), api.ErrTag)
	}
	tells(t, "an action", laid(some()), api.ErrTag)
	decodes(t, "a result", laidResult(halted()), api.ErrTag)
}

// How many paths there are is looked at ahead of the paths; whether all is right when all was read.
func TestResultOrder(t *testing.T) {
	for _, n := range []int{65, 66, 247, 248, 1 << 16, math.MaxInt} {
		b := resultAt(5, num(n))
		tells(t, fmt.Sprint(n, " paths"), b, api.ErrResult)
		tells(t, fmt.Sprint(n, " paths, nothing behind"), b[:len(b)-6], api.ErrResult)
		tells(t, fmt.Sprint(n, " paths, and something behind"), append(slices.Clone(b), 0), api.ErrResult)
		tells(t, fmt.Sprint(n, " paths, ahead of a form"), resultAt(5, slices.Concat(num(n), []byte{248, 1})), api.ErrResult)
		tells(t, fmt.Sprint(n, " paths, behind another kind"), append([]byte{3}, b[1:]...), api.ErrTag)
	}
	tells(t, "64 paths, few there", resultAt(5, num(64)), api.ErrCut)
	tells(t, "1 path, two there", resultAt(5, num(1)), api.ErrTail)
	for what, r := range map[string]api.Result{
		"End": {End: 3}, "Trap": {End: 1, Trap: 1}, "Fuel": {End: 1, Fuel: 1<<20 + 1}, "Code": {End: 2, Trap: 1, Code: 1}, "TOp": {End: 2, Trap: 8}, "no Trap": {End: 2}, "Root": {End: 2, Trap: 1, Root: api.Digest{1}}, "paths": {End: 2, Trap: 1, Missing: keep("a")}, "wrong paths": {End: 1, Missing: keep("b", "a")},
	} {
		b := laidResult(r)
		tells(t, what, b, api.ErrResult)
		tells(t, what+", and something behind", append(slices.Clone(b), 0), api.ErrTail)
		tells(t, what+", cut", b[:len(b)-1], api.ErrCut)
		tells(t, what+", behind another kind", append([]byte{3}, b[1:]...), api.ErrTag)
	}
	tells(t, "End, and a Trap's form", slices.Concat([]byte{4, 9, 0, 248, 1}, make([]byte, 40)), api.ErrForm)
}

// drawnResult is a right one.
func drawnResult(r *rand.Rand) api.Result {
	x := api.Result{End: 1 + r.IntN(2), Code: int(r.Uint64()) >> r.IntN(64), Fuel: r.IntN(1<<20+1) >> r.IntN(20)}
	a := drawnAction(r)
	if x.End == 1 {
		x.Root, x.Missing = a.Program, a.Keep
		return x
	}
	x.Trap = api.Trap(1 + r.IntN(7))
	if x.Trap != api.TAbort {
		x.Code = 0
	}
	return x
}

func TestDrawnResults(t *testing.T) {
	seen := map[api.Errno]int{}
	unlike := map[string]string{}
	for n := range uint64(20000) {
		r := seeded(n)
		x := drawnResult(r)
		rights(t, "drawn", x, true)
		b, _ := act.EncodeResult(x)
		if was, there := unlike[string(b)]; there {
			is(t, "P1909: two results of the same bytes", text(x), was)
		}
		unlike[string(b)] = text(x)
		b = bent(r, b)
		_, e := resultOf(b)
		tells(t, "bent", b, e)
		seen[e]++
	}
	for _, e := range []api.Errno{api.OK, api.ErrCut, api.ErrForm, api.ErrTag, api.ErrTail, api.ErrResult} {
		if seen[e] < 20 {
			t.Errorf("%v was met %d times only", e, seen[e])
		}
	}
}

func FuzzResult(f *testing.F) {
	f.Add(laidResult(halted()))
	f.Add(laidResult(trapped()))
	f.Add(resultAt(5, num(65)))
	for n := range uint64(20) {
		r := seeded(n)
		f.Add(bent(r, laidResult(drawnResult(r))))
	}
	f.Fuzz(func(t *testing.T, b []byte) {
		_, e := resultOf(b)
		tells(t, "fuzz", b, e)
	})
}

// P1908, of each number that is an error's, and of others.
func TestClass(t *testing.T) {
	want := map[api.Errno]int{api.OK: api.GNone, api.ErrMissing: api.GMissing, api.ErrCorrupt: api.GCorrupt, api.ErrDeep: api.GOver, api.ErrNodes: api.GOver, api.ErrBytes: api.GOver, api.ErrFiles: api.GOver, api.ErrFull: api.GFull, api.ErrClash: api.GClash}
	met := 0
	for n := -300; n < 1000; n++ {
		class, there := want[api.Errno(n)]
		if there {
			met++
		} else {
			class = api.GMalformed
		}
		is(t, fmt.Sprint("P1908: ", n), act.Class(api.Errno(n)), class)
	}
	is(t, "all were met", met, len(want))
	for _, n := range []int{math.MinInt, math.MaxInt, 1 << 32, -1 << 32} {
		is(t, fmt.Sprint("P1908: ", n), act.Class(api.Errno(n)), api.GMalformed)
	}
	is(t, "P1908: the classes", fmt.Sprint(api.GNone, api.GMalformed, api.GMissing, api.GCorrupt, api.GOver, api.GFull, api.GClash), "0 1 2 3 4 5 6")
}
