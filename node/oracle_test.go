package node_test

import (
	"bytes"
	"fmt"
	"math/rand/v2"
	"slices"
	"strings"
	"testing"

	"retort/api"
)

// The chapter said once more, in another way: by hand over bytes, without mint and path.

func isName(s string) bool {
	return len(s) >= 1 && len(s) <= 64 && !strings.ContainsAny(s, "/\x00") && s != "." && s != ".."
}

func isKind(k int) bool { return k == 1 || k == 2 }

func checkOf(l []api.Entry) api.Errno {
	if len(l) > 1024 {
		return api.ErrLong
	}
	for i, x := range l {
		if !isName(x.Name) || !isKind(x.Kind) || i > 0 && bytes.Compare([]byte(l[i-1].Name), []byte(x.Name)) >= 0 {
			return api.ErrEntry
		}
	}
	return api.OK
}

func form(n int) []byte {
	if n < 248 {
		return []byte{byte(n)}
	}
	var b []byte
	for ; n > 0; n >>= 8 {
		b = append([]byte{byte(n)}, b...)
	}
	return append([]byte{byte(247 + len(b))}, b...)
}

func frontOf(d api.Digest) []byte {
	n := 0
	for i, c := range d {
		if c != 0 {
			n = i + 1
		}
	}
	return d[:n]
}

func bytesOf(l []api.Entry) []byte {
	b := append([]byte{1}, form(len(l))...)
	for _, x := range l {
		f := frontOf(x.Digest)
		b = append(b, byte(x.Kind))
		b = append(append(b, form(len(x.Name))...), x.Name...)
		b = append(append(b, byte(len(f))), f...)
	}
	return b
}

// rest is what of some bytes is not yet read; at the first fault it stops.
type rest struct {
	b []byte
	e api.Errno
}

func (r *rest) fail(wrong bool, e api.Errno) {
	if wrong && r.e == api.OK {
		r.e = e
	}
}

func (r *rest) take(n uint64) []byte {
	r.fail(uint64(len(r.b)) < n, api.ErrCut)
	if r.e != api.OK {
		return nil
	}
	b := r.b[:n]
	r.b = r.b[n:]
	return b
}

func (r *rest) num() uint64 {
	first := r.take(1)
	if r.e != api.OK {
		return 0
	}
	if first[0] < 248 {
		return uint64(first[0])
	}
	n := uint64(0)
	ahead := r.take(uint64(first[0]) - 247)
	for _, c := range ahead {
		n = n<<8 + uint64(c)
	}
	if r.e == api.OK && (n >= 1<<63 || !bytes.Equal(form(int(n)), append([]byte{first[0]}, ahead...))) {
		r.e = api.ErrForm
	}
	return n
}

func entriesOf(b []byte) ([]api.Entry, api.Errno) {
	if len(b) > 1<<20 {
		return nil, api.ErrLong
	}
	r := &rest{b: slices.Clone(b)}
	r.fail(r.num() != 1, api.ErrTag)
	n := r.num()
	r.fail(n > 1024, api.ErrLong)
	var l []api.Entry
	for i := 0; r.e == api.OK && i < int(n); i++ {
		kind := r.num()
		r.fail(kind != 1 && kind != 2, api.ErrEntry)
		name := string(r.take(r.num()))
		r.fail(!isName(name), api.ErrEntry)
		r.fail(i > 0 && r.e == api.OK && l[i-1].Name >= name, api.ErrEntry)
		f := r.take(r.num())
		r.fail(len(f) > 32 || len(f) > 0 && f[len(f)-1] == 0, api.ErrEntry)
		x := api.Entry{Name: name, Kind: int(kind)}
		copy(x.Digest[:], f)
		l = append(l, x)
	}
	r.fail(len(r.b) > 0, api.ErrTail)
	if r.e != api.OK {
		return nil, r.e
	}
	return l, api.OK
}

// What the tests hand in.

func file(name string, d ...byte) api.Entry {
	x := api.Entry{Name: name, Kind: api.KFile}
	copy(x.Digest[:], d)
	return x
}

func dir(name string, d ...byte) api.Entry {
	x := file(name, d...)
	x.Kind = api.KDir
	return x
}

func list(l ...api.Entry) []api.Entry { return l }

// fan has n entries with names in order.
func fan(n int) []api.Entry {
	var l []api.Entry
	for i := range n {
		l = append(l, file(fmt.Sprintf("%04d", i), byte(i), byte(i>>8)))
	}
	return l
}

// full is a digest without a 0.
func full() api.Digest {
	var d api.Digest
	for i := range d {
		d[i] = byte(255 - i)
	}
	return d
}

// names that may be, in order, with those that are one another's front, and those that `/`, or the end, would put elsewhere.
func names() []string {
	return []string{"\x01", " ", "-", "...", "..a", ".a", "a", "a\x01", "a-", "a.", "aa", "ab", "a\xff", "b", strings.Repeat("b", 63), strings.Repeat("b", 64), "é", "\xff", "\xff\xff"}
}

// notNames may not be.
func notNames() []string {
	return []string{"", ".", "..", "/", "a/", "/a", "a/b", "\x00", "a\x00", "\x00a", "a\x00b", strings.Repeat("a", 65), strings.Repeat("a", 64) + "/", strings.Repeat("é", 33), strings.Repeat("a", 4096)}
}

func digests() []api.Digest {
	last, midst := full(), full()
	last[31] = 0
	midst[0], midst[7], midst[30] = 0, 0, 0
	return []api.Digest{{}, {1}, {0, 1}, {7, 0, 9}, {31: 1}, {30: 255}, full(), last, midst}
}

// draw is a right list, out of at most so many names.
func draw(r *rand.Rand, most int) []api.Entry {
	all, ds := names(), digests()
	var l []api.Entry
	for _, i := range r.Perm(len(all))[:r.IntN(min(most, len(all))+1)] {
		l = append(l, api.Entry{Name: all[i], Kind: 1 + r.IntN(2), Digest: ds[r.IntN(len(ds))]})
	}
	slices.SortFunc(l, func(x, y api.Entry) int { return strings.Compare(x.Name, y.Name) })
	return l
}

func seeded(n uint64) *rand.Rand { return rand.New(rand.NewPCG(n, 5)) }

// brief is a list, or bytes, in few words.
func brief[T any](l []T) string {
	s := fmt.Sprintf("%q", fmt.Sprint(l))
	if len(s) > 200 {
		s = s[:200] + ".."
	}
	return fmt.Sprintf("%d: %s", len(l), s)
}

func same[T comparable](t *testing.T, what string, got, want []T) {
	t.Helper()
	if !slices.Equal(got, want) {
		t.Fatalf("%s: %s\nwant %s", what, brief(got), brief(want))
	}
}

func is[T comparable](t *testing.T, what string, got, want T) {
	t.Helper()
	if got != want {
		t.Errorf("%s: %v, want %v", what, got, want)
	}
}

func TestTheOracle(t *testing.T) {
	if !slices.IsSorted(names()) {
		t.Error("names are not in order")
	}
	for _, s := range names() {
		is(t, "isName", isName(s), true)
	}
	for _, s := range notNames() {
		is(t, "isName", isName(s), false)
	}
	is(t, "form", fmt.Sprint(form(247), form(248), form(1024), form(65536)), "[247] [248 248] [249 4 0] [250 1 0 0]")
}
