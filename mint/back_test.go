package mint_test

import (
	"bytes"
	"math/rand/v2"
	"testing"

	"retort/api"
	"retort/mint"
)

// call is one call of a Writer or a Reader, with what it puts or has read.
type call struct {
	kind byte
	n    int
	b    []byte
}

// kinds: Num, Int, Bool, Bytes, Text, Raw.
const kinds = 6

func (c call) put(w *mint.Writer) {
	switch c.kind {
	case 0:
		w.Num(c.n)
	case 1:
		w.Int(c.n)
	case 2:
		w.Bool(c.n == 1)
	case 3:
		w.Bytes(c.b)
	case 4:
		w.Text(string(c.b))
	case 5:
		w.Raw(c.b)
	}
}

// read does the call that c is; of c's values it takes Raw's number of bytes alone.
func (c call) read(r *mint.Reader) call {
	got := call{kind: c.kind}
	switch c.kind {
	case 0:
		got.n = r.Num()
	case 1:
		got.n = r.Int()
	case 2:
		if r.Bool() {
			got.n = 1
		}
	case 3:
		got.b = r.Bytes()
	case 4:
		got.b = []byte(r.Text())
	case 5:
		got.b = r.Raw(len(c.b))
	}
	return got
}

func wide(d *rand.Rand) int { return int(d.Uint64() >> d.IntN(64)) }

func drawn(d *rand.Rand) call {
	c := call{kind: byte(d.IntN(kinds))}
	switch c.kind {
	case 0:
		c.n = wide(d) &^ (-1 << 63)
	case 1:
		c.n = wide(d)
	case 2:
		c.n = d.IntN(2)
	default:
		c.b = make([]byte, d.IntN(1<<d.IntN(11)))
		for i := range c.b {
			c.b[i] = byte(d.Uint32())
		}
	}
	return c
}

func TestThereAndBack(t *testing.T) {
	d := rand.New(rand.NewPCG(1, 107))
	for range 3000 {
		calls := make([]call, d.IntN(20))
		for i := range calls {
			calls[i] = drawn(d)
		}
		b := written(t, func(w *mint.Writer) {
			for _, c := range calls {
				c.put(w)
			}
		})
		wantRead(t, b, api.OK, func(r *mint.Reader) {
			for _, c := range calls {
				if got := c.read(r); got.n != c.n || !bytes.Equal(got.b, c.b) {
					t.Errorf("P107: %v was put, %v is read", c, got)
				}
			}
		})
		if len(b) > 0 {
			wantBackAgain(t, spoilt(d, b), calls)
		}
	}
}

// spoilt is b with one byte changed, so that it is often no longer of the one form.
func spoilt(d *rand.Rand, b []byte) []byte {
	b = bytes.Clone(b)
	b[d.IntN(len(b))] = byte(d.Uint32())
	return b
}

// wantBackAgain: if the calls read b without a fault, and nothing is left, a Writer makes b again of what they answered.
func wantBackAgain(t *testing.T, b []byte, calls []call) (ok bool) {
	t.Helper()
	var got []call
	e := mint.Read(b, func(r *mint.Reader) {
		for _, c := range calls {
			got = append(got, c.read(r))
		}
	})
	if e != api.OK {
		return false
	}
	again := written(t, func(w *mint.Writer) {
		for _, c := range got {
			c.put(w)
		}
	})
	if !bytes.Equal(again, b) {
		t.Errorf("P107: of %v is read %v, which is put as %v", b, got, again)
	}
	return true
}

func TestBackAgain(t *testing.T) {
	d := rand.New(rand.NewPCG(2, 107))
	read := 0
	for range 200000 {
		b := make([]byte, 1+d.IntN(10))
		for i := range b {
			b[i] = byte(d.Uint32()) | byte(-d.IntN(2)<<3)
		}
		calls := make([]call, 1+d.IntN(4))
		for i := range calls {
			calls[i] = call{kind: byte(d.IntN(kinds)), b: make([]byte, d.IntN(4))}
		}
		if wantBackAgain(t, b, calls) {
			read++
		}
	}
	if read < 1000 {
		t.Errorf("only %d were read without a fault: too few to tell", read)
	}
}

func FuzzBackAgain(f *testing.F) {
	f.Add([]byte{0, 1, 2, 3, 4}, []byte{248, 248, 247, 1, 1, 9, 2, 111, 120})
	f.Add([]byte{1}, []byte{255, 128, 0, 0, 0, 0, 0, 0, 0})
	f.Fuzz(func(t *testing.T, script, b []byte) {
		var calls []call
		for _, k := range script {
			calls = append(calls, call{kind: k % kinds, b: make([]byte, k/kinds)})
		}
		if len(b) <= api.MaxMint {
			wantBackAgain(t, b, calls)
		}
	})
}

func TestFormsAreInOrder(t *testing.T) {
	var forms [][]byte
	for _, n := range edges() {
		if n >= 0 {
			forms = append(forms, written(t, func(w *mint.Writer) { w.Num(n) }))
		}
	}
	for i, a := range forms {
		for _, b := range forms[i+1:] {
			if bytes.Compare(a, b) >= 0 {
				t.Errorf("P108: %v does not stand ahead of %v", a, b)
			}
			if bytes.HasPrefix(b, a) || bytes.HasPrefix(a, b) {
				t.Errorf("P108: of %v and %v one is the other's front", a, b)
			}
		}
	}
}
