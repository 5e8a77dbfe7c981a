package mint_test

import (
	"bytes"
	"math"
	"math/big"
	"slices"
	"strings"
	"testing"

	"retort/api"
	"retort/mint"
)

// written is what a Writer tells behind f, which must be without a fault.
func written(t *testing.T, f func(w *mint.Writer)) []byte {
	t.Helper()
	w := mint.New()
	f(w)
	b, e := w.Done()
	if e != api.OK {
		t.Fatalf("Done: %v", e)
	}
	return b
}

func wantPut(t *testing.T, what string, f func(w *mint.Writer), want ...byte) {
	t.Helper()
	if b := written(t, f); !bytes.Equal(b, want) {
		t.Errorf("%s: %v, want %v", what, b, want)
	}
}

func wantFault(t *testing.T, what string, w *mint.Writer, want api.Errno) {
	t.Helper()
	if b, e := w.Done(); e != want || len(b) != 0 {
		t.Errorf("%s: %d bytes, %v; want none, %v", what, len(b), e, want)
	}
}

// formOf says the chapter's words again, by other means.
func formOf(u *big.Int) []byte {
	if u.Cmp(big.NewInt(247)) <= 0 {
		return []byte{byte(u.Int64())}
	}
	b := u.Bytes()
	return append([]byte{byte(247 + len(b))}, b...)
}

func foldOf(n int) *big.Int {
	u := big.NewInt(int64(n))
	if n >= 0 {
		return u.Mul(u, big.NewInt(2))
	}
	u.Mul(u, big.NewInt(-2))
	return u.Sub(u, big.NewInt(1))
}

// edges are the ints near each power of 2, near the greatest one-byte form, and the outermost ones; rising, each once.
func edges() []int {
	out := []int{math.MinInt, math.MinInt + 1, math.MaxInt - 1, math.MaxInt}
	for i := range 63 {
		for d := -3; d <= 3; d++ {
			out = append(out, 1<<i+d, -1<<i+d)
		}
	}
	for n := -600; n <= 600; n++ {
		out = append(out, n)
	}
	slices.Sort(out)
	return slices.Compact(out)
}

func TestNumPutsTheForm(t *testing.T) {
	for _, c := range []struct {
		n    int
		want []byte
	}{
		{0, []byte{0}},
		{247, []byte{247}},
		{248, []byte{248, 248}},
		{255, []byte{248, 255}},
		{256, []byte{249, 1, 0}},
		{65535, []byte{249, 255, 255}},
		{65536, []byte{250, 1, 0, 0}},
		{math.MaxInt, []byte{255, 127, 255, 255, 255, 255, 255, 255, 255}},
	} {
		wantPut(t, "P101 Num", func(w *mint.Writer) { w.Num(c.n) }, c.want...)
	}
	for _, n := range edges() {
		if n >= 0 {
			wantPut(t, "P101 Num", func(w *mint.Writer) { w.Num(n) }, formOf(big.NewInt(int64(n)))...)
		}
	}
}

func TestIntPutsTheFoldsForm(t *testing.T) {
	for _, c := range []struct {
		n    int
		want []byte
	}{
		{0, []byte{0}},
		{-1, []byte{1}},
		{1, []byte{2}},
		{-124, []byte{247}},
		{124, []byte{248, 248}},
		{math.MaxInt, []byte{255, 255, 255, 255, 255, 255, 255, 255, 254}},
		{math.MinInt, []byte{255, 255, 255, 255, 255, 255, 255, 255, 255}},
	} {
		wantPut(t, "P101 Int", func(w *mint.Writer) { w.Int(c.n) }, c.want...)
	}
	for _, n := range edges() {
		wantPut(t, "P101 Int", func(w *mint.Writer) { w.Int(n) }, formOf(foldOf(n))...)
	}
}

func TestPutsOfTheOtherKinds(t *testing.T) {
	wantPut(t, "P101 Bool true", func(w *mint.Writer) { w.Bool(true) }, 1)
	wantPut(t, "P101 Bool false", func(w *mint.Writer) { w.Bool(false) }, 0)
	wantPut(t, "P101 Bytes", func(w *mint.Writer) { w.Bytes([]byte{9, 8}) }, 2, 9, 8)
	wantPut(t, "P101 Text", func(w *mint.Writer) { w.Text("ox") }, 2, 111, 120)
	wantPut(t, "P101 Text that is no UTF-8", func(w *mint.Writer) { w.Text("\xff\x00") }, 2, 255, 0)
	wantPut(t, "P101 Raw", func(w *mint.Writer) { w.Raw([]byte{9, 8}) }, 9, 8)
	wantPut(t, "P101 Text of no bytes", func(w *mint.Writer) { w.Text("") }, 0)
	wantPut(t, "P101 Bytes of none", func(w *mint.Writer) { w.Bytes(nil) }, 0)
	wantPut(t, "P101 Raw of none", func(w *mint.Writer) { w.Raw(nil) })
	for _, n := range []int{247, 248, 255, 256, 70000} {
		s := strings.Repeat("s", n)
		want := append(formOf(big.NewInt(int64(n))), s...)
		wantPut(t, "P101 a long Text", func(w *mint.Writer) { w.Text(s) }, want...)
		wantPut(t, "P101 long Bytes", func(w *mint.Writer) { w.Bytes([]byte(s)) }, want...)
	}
}

func TestDoneTellsAllInOrder(t *testing.T) {
	w := mint.New()
	for _, c := range []struct {
		put  func()
		want []byte
	}{
		{func() {}, nil},
		{func() { w.Num(300) }, []byte{249, 1, 44}},
		{func() {}, []byte{249, 1, 44}},
		{func() { w.Int(-1); w.Bool(true); w.Text("a") }, []byte{249, 1, 44, 1, 1, 1, 97}},
		{func() { w.Bytes([]byte{5}); w.Raw([]byte{6, 7}) }, []byte{249, 1, 44, 1, 1, 1, 97, 1, 5, 6, 7}},
	} {
		c.put()
		for range 2 {
			if b, e := w.Done(); e != api.OK || !bytes.Equal(b, c.want) {
				t.Errorf("P102: %v, %v; want %v", b, e, c.want)
			}
		}
	}
}

func TestTheFirstFaultStays(t *testing.T) {
	more := func(w *mint.Writer) {
		w.Num(6)
		w.Num(-2)
		w.Raw(make([]byte, api.MaxMint+1))
		w.Text("a")
	}
	for _, n := range []int{-1, -248, math.MinInt} {
		w := mint.New()
		w.Num(5)
		w.Num(n)
		wantFault(t, "P102 below 0", w, api.ErrArg)
		more(w)
		wantFault(t, "P102 behind the fault", w, api.ErrArg)
		wantFault(t, "P102 Done again", w, api.ErrArg)
	}
	w := mint.New()
	w.Raw(make([]byte, api.MaxMint+1))
	wantFault(t, "P102 too many", w, api.ErrLong)
	more(w)
	wantFault(t, "P102 behind the fault", w, api.ErrLong)
}

// TestMaxMint fills a Writer so that each call has just the room that it needs, and then one byte less.
func TestMaxMint(t *testing.T) {
	for _, c := range []struct {
		what string
		size int
		put  func(w *mint.Writer)
	}{
		{"Num 0", 1, func(w *mint.Writer) { w.Num(0) }},
		{"Num 248", 2, func(w *mint.Writer) { w.Num(248) }},
		{"Num of the greatest", 9, func(w *mint.Writer) { w.Num(math.MaxInt) }},
		{"Int 124", 2, func(w *mint.Writer) { w.Int(124) }},
		{"Int of the least", 9, func(w *mint.Writer) { w.Int(math.MinInt) }},
		{"Bool", 1, func(w *mint.Writer) { w.Bool(false) }},
		{"Bytes of none", 1, func(w *mint.Writer) { w.Bytes(nil) }},
		{"Bytes", 4, func(w *mint.Writer) { w.Bytes(make([]byte, 3)) }},
		{"Text of none", 1, func(w *mint.Writer) { w.Text("") }},
		{"Text", 4, func(w *mint.Writer) { w.Text("abc") }},
		{"Raw", 3, func(w *mint.Writer) { w.Raw(make([]byte, 3)) }},
		{"Raw of all", api.MaxMint, func(w *mint.Writer) { w.Raw(make([]byte, api.MaxMint)) }},
		{"Text of all", api.MaxMint, func(w *mint.Writer) { w.Text(strings.Repeat("a", api.MaxMint-4)) }},
		{"Bytes of all", api.MaxMint, func(w *mint.Writer) { w.Bytes(make([]byte, api.MaxMint-4)) }},
	} {
		w := mint.New()
		w.Raw(make([]byte, api.MaxMint-c.size))
		c.put(w)
		w.Raw(nil)
		if b, e := w.Done(); e != api.OK || len(b) != api.MaxMint {
			t.Errorf("P102 %s, with room: %d bytes, %v", c.what, len(b), e)
		}
		w.Bool(true)
		wantFault(t, "P102 one more behind "+c.what, w, api.ErrLong)

		w = mint.New()
		w.Raw(make([]byte, api.MaxMint-c.size+1))
		c.put(w)
		wantFault(t, "P102 without room: "+c.what, w, api.ErrLong)
		w.Raw(nil)
		wantFault(t, "P102 behind the fault of "+c.what, w, api.ErrLong)
	}
}

func TestAWriterSharesNoMemory(t *testing.T) {
	b := []byte{7, 7, 1, 2}
	w := mint.New()
	w.Raw(b[:2])
	w.Bytes(b[:2])
	w.Num(5)
	if !bytes.Equal(b, []byte{7, 7, 1, 2}) {
		t.Errorf("P2: what is handed in was changed, or its spare room: %v", b)
	}
	b[0] = 8
	want := []byte{7, 7, 2, 7, 7, 5}
	for range 2 {
		got, _ := w.Done()
		if !bytes.Equal(got, want) {
			t.Errorf("P2: %v, want %v", got, want)
		}
		got = append(got, 99)
		got = got[:cap(got)]
		for i := range got {
			got[i] = 99
		}
	}
	w.Num(6)
	if got, _ := w.Done(); !bytes.Equal(got, append(want, 6)) {
		t.Errorf("P2: behind a change of an answer's spare room: %v", got)
	}
}

func TestWritersAreApart(t *testing.T) {
	v, w := mint.New(), mint.New()
	v.Num(1)
	w.Num(-1)
	v.Num(2)
	if b, e := v.Done(); e != api.OK || !bytes.Equal(b, []byte{1, 2}) {
		t.Errorf("P7: %v, %v", b, e)
	}
	wantFault(t, "P7", w, api.ErrArg)
}
