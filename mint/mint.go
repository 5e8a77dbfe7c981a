// Package mint: one form of numbers, ints, bytes and texts. See doc/01-mint.md.
package mint

import (
	"bytes"
	"math"
	"math/bits"

	"retort/api"
)

// oneByte is the greatest number whose form is one byte, itself.
const oneByte = 247

// size tells how many bytes u has without zeros ahead of them.
func size(u uint64) int { return (bits.Len64(u) + 7) / 8 }

// fold takes the ints near 0, on either side, to small numbers.
func fold(n int) uint64 {
	if n < 0 {
		return ^(uint64(n) << 1)
	}
	return uint64(n) << 1
}

func unfold(u uint64) int {
	if u&1 == 1 {
		return ^int(u >> 1)
	}
	return int(u >> 1)
}

// Writer puts things behind one another.
type Writer struct {
	out   []byte
	fault api.Errno
}

func New() *Writer { return &Writer{} }

// stop drops what was put, too: behind a fault nobody is told it.
func (w *Writer) stop(e api.Errno) {
	if w.fault == api.OK {
		w.fault, w.out = e, nil
	}
}

// room tells whether n bytes more may be put; that they may not is a fault.
func (w *Writer) room(n int) bool {
	if n > api.MaxMint-len(w.out) {
		w.stop(api.ErrLong)
	}
	return w.fault == api.OK
}

func (w *Writer) form(u uint64) {
	if u <= oneByte {
		w.Raw([]byte{byte(u)})
		return
	}
	k := size(u)
	b := []byte{byte(oneByte + k)}
	for i := range k {
		b = append(b, byte(u>>(8*(k-1-i))))
	}
	w.Raw(b)
}

func (w *Writer) Num(n int) {
	if n < 0 {
		w.stop(api.ErrArg)
		return
	}
	w.form(uint64(n))
}

func (w *Writer) Int(n int) { w.form(fold(n)) }

func (w *Writer) Bool(x bool) {
	if x {
		w.Raw([]byte{1})
	} else {
		w.Raw([]byte{0})
	}
}

func (w *Writer) Bytes(b []byte) {
	w.Num(len(b))
	w.Raw(b)
}

func (w *Writer) Text(s string) {
	w.Num(len(s))
	if w.room(len(s)) {
		w.out = append(w.out, s...)
	}
}

// Raw puts bytes as they are: without their number.
func (w *Writer) Raw(b []byte) {
	if w.room(len(b)) {
		w.out = append(w.out, b...)
	}
}

// Done tells all that was put, or the first fault.
func (w *Writer) Done() ([]byte, api.Errno) {
	return bytes.Clone(w.out), w.fault
}

// Reader takes things one behind the other.
type Reader struct {
	rest  []byte
	live  bool // Read is under way, and no fault was met
	fault api.Errno
}

// thrown is what a fault is thrown as: its Reader's own Read catches it, every other one lets it go by.
type thrown struct{ by *Reader }

// Read hands f a Reader of b, once. A call of it that meets a fault does not return: f ends there, and Read answers the fault.
func Read(b []byte, f func(r *Reader)) api.Errno {
	r := &Reader{rest: b, live: true}
	r.lead(f)
	return r.fault
}

func (r *Reader) lead(f func(r *Reader)) {
	defer func() {
		x := recover()
		r.end()
		if x != nil && !r.threw(x) {
			panic(x)
		}
	}()
	f(r)
}

func (r *Reader) threw(x any) bool {
	t, ok := x.(thrown)
	return ok && t.by == r
}

// end lets go of the bytes: f may have kept the Reader.
func (r *Reader) end() {
	if len(r.rest) > 0 {
		r.fault = api.ErrTail
	}
	r.live, r.rest = false, nil
}

// take does not copy: what it answers may not be handed out. A Reader that is no longer live has no bytes left, and answers none.
func (r *Reader) take(n int) []byte {
	if n > len(r.rest) {
		r.Fail(api.ErrCut)
		return nil
	}
	b := r.rest[:n]
	r.rest = r.rest[n:]
	return b
}

func (r *Reader) form() uint64 {
	if !r.live {
		return 0
	}
	first := r.take(1)[0]
	if first <= oneByte {
		return uint64(first)
	}
	k := int(first) - oneByte
	u := uint64(0)
	for _, c := range r.take(k) {
		u = u<<8 | uint64(c)
	}
	if u <= oneByte || size(u) != k {
		r.Fail(api.ErrForm)
	}
	return u
}

func (r *Reader) Num() int {
	u := r.form()
	if u > math.MaxInt {
		r.Fail(api.ErrForm)
	}
	return int(u)
}

func (r *Reader) Int() int { return unfold(r.form()) }

func (r *Reader) Bool() bool {
	if !r.live {
		return false
	}
	x := r.take(1)[0]
	if x > 1 {
		r.Fail(api.ErrForm)
	}
	return x == 1
}

func (r *Reader) Bytes() []byte { return r.Raw(r.Num()) }

func (r *Reader) Text() string { return string(r.take(r.Num())) }

// Raw takes so many bytes as they are.
func (r *Reader) Raw(n int) []byte {
	if n < 0 {
		r.Fail(api.ErrArg)
		return nil
	}
	return bytes.Clone(r.take(n))
}

// Most takes a number that is no more than that.
func (r *Reader) Most(n int) int {
	m := r.Num()
	if m > n {
		r.Fail(api.ErrLong)
	}
	return m
}

// Left tells how many bytes are left.
func (r *Reader) Left() int { return len(r.rest) }

// Fail ends f with a fault of the caller's own.
func (r *Reader) Fail(e api.Errno) {
	if e == api.OK || !r.live {
		return
	}
	r.live, r.rest, r.fault = false, nil, e
	panic(thrown{r})
}
