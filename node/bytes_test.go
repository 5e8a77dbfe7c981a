package node_test

import (
	"bytes"
	"fmt"
	"slices"
	"strings"
	"testing"

	"retort/api"
	"retort/node"
)

// there holds Encode and Decode of a right list against the oracle, and against each other.
func there(t *testing.T, l []api.Entry) []byte {
	t.Helper()
	b, e := node.Encode(l)
	is(t, "P502: Encode", e, api.OK)
	same(t, "P502: Encode", b, bytesOf(l))
	back, e := node.Decode(b)
	is(t, "P505: Decode of Encode", e, api.OK)
	same(t, "P505: Decode of Encode", back, l)
	return b
}

// decode holds Decode of any bytes against the oracle.
func decode(t *testing.T, b []byte) api.Errno {
	t.Helper()
	l, e := node.Decode(b)
	want, we := entriesOf(b)
	if e != we || !slices.Equal(l, want) {
		t.Fatalf("P503: Decode of %s: %s, %v\nwant %s, %v", brief(b), brief(l), e, brief(want), we)
	}
	if e != api.OK {
		return e
	}
	is(t, "P505: Check of Decode", node.Check(l), api.OK)
	again, e := node.Encode(l)
	is(t, "P505: Encode of Decode", e, api.OK)
	same(t, "P505: Encode of Decode", again, b)
	return e
}

func refused(t *testing.T, what string, b []byte, want api.Errno) {
	t.Helper()
	if l, e := node.Decode(b); e != want || len(l) > 0 {
		t.Errorf("P503: %s: Decode of %s: %s, %v, want %v", what, brief(b), brief(l), e, want)
	}
	decode(t, b)
}

func TestEncodeExamples(t *testing.T) {
	for _, c := range []struct {
		l    []api.Entry
		want []byte
	}{
		{nil, []byte{1, 0}},
		{list(), []byte{1, 0}},
		{list(file("a")), []byte{1, 1, 1, 1, 97, 0}},
		{list(dir("a", 7, 0, 9)), []byte{1, 1, 2, 1, 97, 3, 7, 0, 9}},
		{list(dir("a", 0, 0, 5), file("ab", 248)), []byte{1, 2, 2, 1, 97, 3, 0, 0, 5, 1, 2, 97, 98, 1, 248}},
	} {
		b, e := node.Encode(c.l)
		is(t, "P502: Encode", e, api.OK)
		same(t, "P502: Encode", b, c.want)
		l, e := node.Decode(c.want)
		is(t, "P503: Decode", e, api.OK)
		same(t, "P503: Decode", l, c.l)
	}
}

func TestDecodeExamples(t *testing.T) {
	refused(t, "no bytes", nil, api.ErrCut)
	refused(t, "another tag", []byte{2}, api.ErrTag)
	refused(t, "a kind, and no name", []byte{1, 1, 3}, api.ErrEntry)
	refused(t, "the name /", []byte{1, 1, 1, 1, 47, 0}, api.ErrEntry)
	refused(t, "a front that ends with 0", []byte{1, 1, 1, 1, 97, 1, 0}, api.ErrEntry)
	refused(t, "something left", []byte{1, 0, 0}, api.ErrTail)
	refused(t, "248 entries, no kind", []byte{1, 248, 248}, api.ErrCut)
	refused(t, "1025 entries", []byte{1, 249, 4, 1}, api.ErrLong)
}

func TestThereAndBack(t *testing.T) {
	for _, s := range names() {
		for _, d := range digests() {
			for k := api.KFile; k <= api.KDir; k++ {
				there(t, list(api.Entry{Name: s, Kind: k, Digest: d}))
			}
		}
	}
	for n := range 33 {
		var d api.Digest
		copy(d[:n], bytes.Repeat([]byte{9}, n))
		there(t, list(api.Entry{Name: "a", Kind: api.KDir, Digest: d}))
		d = api.Digest{}
		if n > 0 {
			d[n-1] = 1
		}
		b := there(t, list(api.Entry{Name: "a", Kind: api.KFile, Digest: d}))
		is(t, "P502: a front's length", int(b[5]), n)
	}
	for _, n := range []int{0, 1, 2, 246, 247, 248, 249, 255, 256, 257, 1023, 1024} {
		there(t, fan(n))
	}
	r := seeded(505)
	for range 5000 {
		there(t, draw(r, 30))
	}
}

// The greatest directory is far from MaxBlob.
func TestGreatest(t *testing.T) {
	l := fan(1024)
	for i := range l {
		l[i].Name = strings.Repeat("n", 60) + l[i].Name
		l[i].Kind = api.KDir
		l[i].Digest = full()
	}
	b := there(t, l)
	is(t, "P502: the greatest directory's bytes", len(b), 1+3+1024*(1+1+64+1+32))
}

func TestDecodeLong(t *testing.T) {
	for _, n := range []int{1<<20 - 1, 1 << 20} {
		refused(t, "bytes left", append([]byte{1, 0}, make([]byte, n-2)...), api.ErrTail)
		refused(t, "zeros", make([]byte, n), api.ErrTag)
		refused(t, "a long name", append([]byte{1, 1, 1, 250, byte((n - 7) >> 16), byte((n - 7) >> 8), byte(n - 7)}, bytes.Repeat([]byte{97}, n-7)...), api.ErrEntry)
	}
	for _, n := range []int{1<<20 + 1, 1<<20 + 2, 1 << 21} {
		refused(t, "bytes left", append([]byte{1, 0}, make([]byte, n-2)...), api.ErrLong)
		refused(t, "zeros", make([]byte, n), api.ErrLong)
		refused(t, "right ones, and more", append(bytesOf(fan(1024)), make([]byte, n)...), api.ErrLong)
	}
}

// entryBytes are those of one entry: its kind's, its name's and its digest's, as they are told.
func entryBytes(kind, name, front []byte) []byte {
	return slices.Concat([]byte{1, 1}, kind, name, front)
}

func text(s string) []byte { return append(form(len(s)), s...) }

// At each place the fault of mint and the fault of node is the one that is met, whatever is wrong behind it.
func TestDecodeFirstFault(t *testing.T) {
	bad := []byte{255, 255} // cut, and no form
	for _, c := range []struct {
		what  string
		front []byte
		want  api.Errno
	}{
		{"the tag's form", []byte{248, 1}, api.ErrForm},
		{"the tag is cut", []byte{249, 1}, api.ErrCut},
		{"the tag 0", []byte{0}, api.ErrTag},
		{"the tag 2", []byte{2}, api.ErrTag},
		{"the tag 5", []byte{5}, api.ErrTag},
		{"the tag 257", []byte{249, 1, 1}, api.ErrTag},
		{"a tag above ints", []byte{255, 128, 0, 0, 0, 0, 0, 0, 0}, api.ErrForm},
		{"the number's form", []byte{1, 248, 247}, api.ErrForm},
		{"1025", []byte{1, 249, 4, 1}, api.ErrLong},
		{"the greatest number", []byte{1, 255, 127, 255, 255, 255, 255, 255, 255, 255}, api.ErrLong},
		{"a number above ints", []byte{1, 255, 128, 0, 0, 0, 0, 0, 0, 0}, api.ErrForm},
		{"the kind's form", []byte{1, 1, 248, 1}, api.ErrForm},
		{"the kind 0", []byte{1, 1, 0}, api.ErrEntry},
		{"the kind 3", []byte{1, 1, 3}, api.ErrEntry},
		{"the kind 257", []byte{1, 1, 249, 1, 1}, api.ErrEntry},
		{"the greatest kind", []byte{1, 1, 255, 127, 255, 255, 255, 255, 255, 255, 255}, api.ErrEntry},
		{"a kind above ints", []byte{1, 1, 255, 255, 255, 255, 255, 255, 255, 255, 255}, api.ErrForm},
		{"the name's length's form", []byte{1, 1, 1, 248, 1}, api.ErrForm},
		{"a name without bytes", []byte{1, 1, 1, 0}, api.ErrEntry},
		{"the name .", []byte{1, 1, 2, 1, 46}, api.ErrEntry},
		{"the name ..", []byte{1, 1, 2, 2, 46, 46}, api.ErrEntry},
		{"the name 0", []byte{1, 1, 2, 1, 0}, api.ErrEntry},
		{"a name of 65", entryBytes([]byte{1}, text(strings.Repeat("a", 65)), nil), api.ErrEntry},
		{"a name twice", []byte{1, 2, 1, 1, 97, 0, 2, 1, 97}, api.ErrEntry},
		{"a lesser name", []byte{1, 2, 1, 1, 98, 0, 2, 1, 97}, api.ErrEntry},
		{"a front of the one ahead", []byte{1, 2, 1, 2, 97, 97, 0, 2, 1, 97}, api.ErrEntry},
		{"the front's length's form", []byte{1, 1, 1, 1, 97, 248, 1}, api.ErrForm},
		{"a front of 33", entryBytes([]byte{1}, text("a"), append([]byte{33}, bytes.Repeat([]byte{1}, 33)...)), api.ErrEntry},
		{"a front of 33, the last 0", entryBytes([]byte{1}, text("a"), append([]byte{33}, append(bytes.Repeat([]byte{1}, 32), 0)...)), api.ErrEntry},
		{"a front of 32, the last 0", entryBytes([]byte{1}, text("a"), append([]byte{32}, append(bytes.Repeat([]byte{1}, 31), 0)...)), api.ErrEntry},
		{"a front of 300", entryBytes([]byte{1}, text("a"), append([]byte{249, 1, 44}, bytes.Repeat([]byte{1}, 300)...)), api.ErrEntry},
		{"a front 0", []byte{1, 1, 1, 1, 97, 1, 0}, api.ErrEntry},
		{"a front 1 0", []byte{1, 1, 1, 1, 97, 2, 1, 0}, api.ErrEntry},
	} {
		if c.want != api.ErrCut {
			refused(t, c.what, c.front, c.want)
		}
		refused(t, c.what+", and more", append(slices.Clone(c.front), bad...), wantBehind(c.front, bad, c.want))
		refused(t, c.what+", and a right entry", append(slices.Clone(c.front), 1, 1, 98, 0), wantBehind(c.front, []byte{1, 1, 98, 0}, c.want))
	}
}

// wantBehind: where a number was cut, what stands behind it is taken for its bytes.
func wantBehind(front, behind []byte, want api.Errno) api.Errno {
	if want == api.ErrCut {
		_, want = entriesOf(append(slices.Clone(front), behind...))
	}
	return want
}

// A name, a front that would be refused is not, as long as it is not wholly there.
func TestDecodeCutAheadOfEntry(t *testing.T) {
	name := entryBytes([]byte{1}, text(strings.Repeat("/", 70)), nil)
	front := entryBytes([]byte{1}, text("a"), append([]byte{40}, make([]byte, 40)...))
	for _, b := range [][]byte{name, front} {
		for i := range b {
			refused(t, "cut", b[:i], api.ErrCut)
		}
		refused(t, "whole", b, api.ErrEntry)
	}
	refused(t, "a length without end", []byte{1, 1, 1, 255, 127, 255, 255, 255, 255, 255, 255, 255, 47}, api.ErrCut)
}

func TestDecodeEdges(t *testing.T) {
	for n := range 40 {
		for _, last := range []byte{0, 1, 255} {
			b := entryBytes([]byte{2}, text("a"), append([]byte{byte(n)}, bytes.Repeat([]byte{0}, n)...))
			want := api.OK
			if n > 0 {
				b[len(b)-1] = last
			}
			if n > 32 || n > 0 && last == 0 {
				want = api.ErrEntry
			}
			is(t, fmt.Sprintf("P503: a front of %d, the last %d", n, last), decode(t, b), want)
		}
	}
	for n := range 70 {
		want := api.OK
		if n == 0 || n > 64 {
			want = api.ErrEntry
		}
		is(t, fmt.Sprintf("P503: a name of %d", n), decode(t, entryBytes([]byte{1}, text(strings.Repeat("x", n)), []byte{0})), want)
	}
	for k := range 248 {
		want := api.OK
		if k != 1 && k != 2 {
			want = api.ErrEntry
		}
		is(t, fmt.Sprintf("P503: the kind %d", k), decode(t, entryBytes([]byte{byte(k)}, text("a"), []byte{0})), want)
	}
	for _, s := range notNames() {
		is(t, "P503: no name", decode(t, entryBytes([]byte{1}, text(s), []byte{0})), api.ErrEntry)
	}
	is(t, "P503: 1024 entries", decode(t, bytesOf(fan(1024))), api.OK)
	is(t, "P503: 1025 entries", decode(t, bytesOf(fan(1025))), api.ErrLong)
	for i, a := range names() {
		for j, b := range names() {
			want := api.ErrEntry
			if i < j {
				want = api.OK
			}
			is(t, "P503: two names", decode(t, bytesOf(list(file(a), dir(b)))), want)
		}
	}
}

// Right bytes, cut at each place, with more behind them, with one byte changed.
func TestDecodeCutAndMore(t *testing.T) {
	r := seeded(503)
	for n := range 60 {
		l := draw(r, n%5)
		b := bytesOf(l)
		for i := range b {
			refused(t, "cut", b[:i], api.ErrCut)
		}
		for c := range 256 {
			refused(t, "more", append(slices.Clone(b), byte(c)), api.ErrTail)
		}
		refused(t, "the same again", append(slices.Clone(b), b...), api.ErrTail)
		for i := range b {
			for _, c := range []byte{0, 1, 2, 3, 46, 47, 97, 98, 246, 247, 248, 249, 255, b[i] + 1, b[i] - 1} {
				m := slices.Clone(b)
				m[i] = c
				decode(t, m)
			}
		}
	}
	b := bytesOf(fan(1024))
	for i := range b {
		if _, e := node.Decode(b[:i]); e != api.ErrCut {
			t.Fatalf("P503: cut at %d: %v", i, e)
		}
	}
}

// All short bytes of few kinds.
func TestDecodeAllShort(t *testing.T) {
	kinds := []byte{0, 1, 2, 3, 47, 97, 98}
	most := 6
	if testing.Short() {
		most = 5
	}
	var grow func(b []byte)
	grow = func(b []byte) {
		decode(t, b)
		if len(b) > most {
			return
		}
		for _, c := range kinds {
			grow(append(b, c))
		}
	}
	grow([]byte{1})
	grow([]byte{1, 1, 1, 1, 97})
	grow([]byte{1, 2, 1, 1, 97, 0})
	for a := range 256 {
		decode(t, []byte{byte(a)})
		for b := range 256 {
			decode(t, []byte{byte(a), byte(b)})
			decode(t, []byte{1, byte(a), byte(b)})
			decode(t, []byte{1, 1, byte(a), byte(b)})
		}
	}
}

// few are all lists of few names, kinds and digests.
func few() [][]api.Entry {
	all := [][]api.Entry{nil}
	for _, s := range []string{"a", "ab", "b"} {
		for _, l := range slices.Clone(all) {
			for _, d := range []api.Digest{{}, {1}, {0, 1}, {1, 1}} {
				for k := api.KFile; k <= api.KDir; k++ {
					all = append(all, append(slices.Clone(l), api.Entry{Name: s, Kind: k, Digest: d}))
				}
			}
		}
	}
	return all
}

// In order, bytes that are another's front stand right ahead of one that has them.
func TestNoFront(t *testing.T) {
	var all [][]byte
	for _, l := range few() {
		all = append(all, there(t, l))
	}
	r := seeded(506)
	seen := map[string]bool{}
	for range 3000 {
		b := there(t, draw(r, 6))
		if !seen[string(b)] && len(b) > 20 {
			all = append(all, b)
		}
		seen[string(b)] = true
	}
	slices.SortFunc(all, bytes.Compare)
	for i, b := range all[1:] {
		if bytes.HasPrefix(b, all[i]) {
			t.Fatalf("P505: %s is a front of %s", brief(all[i]), brief(b))
		}
	}
}

func FuzzDecode(f *testing.F) {
	f.Add([]byte{})
	f.Add(bytesOf(nil))
	f.Add(bytesOf(list(dir("a", 7, 0, 9))))
	f.Add(bytesOf(draw(seeded(1), 9)))
	f.Add(bytesOf(fan(300)))
	f.Fuzz(func(t *testing.T, b []byte) { decode(t, b) })
}
