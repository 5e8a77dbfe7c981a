package flow_test

import (
	"bytes"
	"crypto/sha256"
	"fmt"
	"math/rand/v2"
	"slices"
	"strings"
	"testing"

	"retort/api"
	"retort/cas"
	"retort/node"
	"retort/tree"
)

// The chapter said once more, in another way: by calls within calls, over lists that are gone through from end to end at each question.

func digestOf(width int, b []byte) api.Digest {
	full := sha256.Sum256(b)
	var d api.Digest
	copy(d[:width], full[:])
	return d
}

// tour is a walk of W7: what it came to, how often Get is called, its error.
type tour struct {
	s           *cas.Store
	room        api.Room
	nodes, size int
	met         []api.Digest
	dirs        map[api.Digest]bool // those that it came to as directories
	gets        int
	e           api.Errno
}

func walkOf(s *cas.Store, root api.Digest, room api.Room) *tour {
	w := &tour{s: s, room: room, dirs: map[api.Digest]bool{}}
	w.e = w.visit(root, true, 0)
	return w
}

func (w *tour) visit(d api.Digest, isDir bool, depth int) api.Errno {
	if depth > w.room.Depth || depth > 32 {
		return api.ErrDeep
	}
	if w.nodes++; w.nodes > w.room.Nodes || w.nodes > 1<<16 {
		return api.ErrNodes
	}
	w.gets++
	b, there := w.s.Raw(d)
	if !there {
		return api.ErrMissing
	}
	if digestOf(w.s.Width(), b) != d {
		return api.ErrCorrupt
	}
	if !slices.Contains(w.met, d) {
		w.met = append(w.met, d)
	}
	if !isDir {
		if w.size += len(b); w.size > w.room.Bytes || w.size > 1<<26 {
			return api.ErrBytes
		}
		return api.OK
	}
	w.dirs[d] = true
	l, e := node.Decode(b)
	for _, x := range l {
		if e == api.OK {
			e = w.visit(x.Digest, x.Kind == api.KDir, depth+1)
		}
	}
	return e
}

// partsOf are those of a digest that the walk came to.
func (w *tour) partsOf(d api.Digest) []api.Digest {
	if !w.dirs[d] {
		return nil
	}
	var parts []api.Digest
	b, _ := w.s.Raw(d)
	l, _ := node.Decode(b)
	for _, x := range l {
		parts = append(parts, x.Digest)
	}
	return parts
}

// behindOf is the chapter's list in which each digest stands behind its parts.
func (w *tour) behindOf() []api.Digest {
	var l []api.Digest
	gone := map[api.Digest]bool{}
	var to func(d api.Digest)
	to = func(d api.Digest) {
		if gone[d] {
			return
		}
		gone[d] = true
		for _, p := range w.partsOf(d) {
			to(p)
		}
		l = append(l, d)
	}
	to(w.met[0])
	return l
}

// hasBelow tells whether x is y or has y below itself, by ways of parts.
func (w *tour) hasBelow(x, y api.Digest) bool {
	row, seen := []api.Digest{x}, map[api.Digest]bool{}
	for len(row) > 0 {
		d := row[0]
		row = row[1:]
		if d == y {
			return true
		}
		if !seen[d] {
			seen[d] = true
			row = append(row, w.partsOf(d)...)
		}
	}
	return false
}

// blobsOf are those of a walk that came through, each behind its parts.
func (w *tour) blobsOf() [][]byte {
	var l [][]byte
	for _, d := range w.behindOf() {
		b, _ := w.s.Raw(d)
		l = append(l, b)
	}
	return l
}

// puts puts blobs up to the first error: how many were laid down, and it.
func puts(to *cas.Store, blobs [][]byte) (int, api.Errno) {
	n := 0
	for _, b := range blobs {
		was := lying(to)
		if _, e := to.Put(b); e != api.OK {
			return n, e
		}
		if lying(to) != was {
			n++
		}
	}
	return n, api.OK
}

// copyOf is P802, done to to.
func copyOf(from, to *cas.Store, root api.Digest, room api.Room) (n int, e api.Errno, gets int) {
	if from.Width() != to.Width() {
		return 0, api.ErrWidth, 0
	}
	w := walkOf(from, root, room)
	if w.e != api.OK {
		return 0, w.e, w.gets
	}
	n, e = puts(to, w.blobsOf())
	return n, e, w.gets
}

// sweepOf is P803, done to s.
func sweepOf(s *cas.Store, roots []api.Digest, room api.Room) (n int, e api.Errno, gets int) {
	if len(roots) > 1<<16 {
		return 0, api.ErrLong, 0
	}
	var kept []api.Digest
	for _, root := range roots {
		w := walkOf(s, root, room)
		gets += w.gets
		if w.e != api.OK {
			return 0, w.e, gets
		}
		kept = append(kept, w.met...)
	}
	for d := range s.All() {
		if !slices.Contains(kept, d) {
			s.Evict(d)
			n++
		}
	}
	return n, api.OK, gets
}

// form is chapter 1's of a number.
func form(n int) []byte {
	if n < 248 {
		return []byte{byte(n)}
	}
	var b []byte
	for ; n > 0; n /= 256 {
		b = append([]byte{byte(n % 256)}, b...)
	}
	return append([]byte{byte(247 + len(b))}, b...)
}

// packed is the pack of some blobs, whatever they are.
func packed(width int, blobs ...[]byte) []byte {
	b := slices.Concat(form(5), form(width), form(len(blobs)))
	for _, x := range blobs {
		b = append(append(b, form(len(x))...), x...)
	}
	return b
}

// packOf is P804.
func packOf(s *cas.Store, root api.Digest, room api.Room) (b []byte, e api.Errno, gets int) {
	w := walkOf(s, root, room)
	if w.e != api.OK {
		return nil, w.e, w.gets
	}
	if b = packed(s.Width(), w.blobsOf()...); len(b) > 1<<22 {
		return nil, api.ErrLong, w.gets
	}
	return b, api.OK, w.gets
}

// numOf reads a number from the left: it, what is behind it, what is wrong.
func numOf(b []byte) (n int, behind []byte, e api.Errno) {
	if len(b) == 0 {
		return 0, nil, api.ErrCut
	}
	k := max(0, int(b[0])-247)
	if len(b) < 1+k {
		return 0, nil, api.ErrCut
	}
	if k == 0 {
		return int(b[0]), b[1:], api.OK
	}
	for _, c := range b[1 : 1+k] {
		n = n<<8 + int(c)
	}
	if n < 0 || !bytes.Equal(form(n), b[:1+k]) {
		return 0, nil, api.ErrForm
	}
	return n, b[1+k:], api.OK
}

// readOf is what P805 says of reading: the blobs, or the first error.
func readOf(width int, b []byte) ([][]byte, api.Errno) {
	if len(b) > 1<<22 {
		return nil, api.ErrLong
	}
	var n int
	for i, may := range []func(n int) bool{
		func(n int) bool { return n == 5 }, func(n int) bool { return n == width }, func(n int) bool { return n >= 1 && n <= 1<<16 },
	} {
		var e api.Errno
		if n, b, e = numOf(b); e != api.OK {
			return nil, e
		}
		if !may(n) {
			return nil, []api.Errno{api.ErrTag, api.ErrWidth, api.ErrPack}[i]
		}
	}
	var blobs [][]byte
	for range n {
		size, rest, e := numOf(b)
		switch {
		case e != api.OK:
			return nil, e
		case size > len(rest):
			return nil, api.ErrCut
		case size > 1<<20:
			return nil, api.ErrLong
		}
		blobs = append(blobs, rest[:size])
		b = rest[size:]
	}
	if len(b) > 0 {
		return nil, api.ErrTail
	}
	return blobs, api.OK
}

// arePack is what P805 says of the blobs: out of a Store in which just they lie.
func arePack(width int, blobs [][]byte) bool {
	s, _ := cas.New(width, 1<<26)
	var digests []api.Digest
	for i, b := range blobs {
		d, e := s.Put(b)
		if e != api.OK || s.Len() != i+1 {
			return false
		}
		digests = append(digests, d)
	}
	w := walkOf(s, digests[len(digests)-1], greatest())
	return w.e == api.OK && slices.Equal(w.behindOf(), digests)
}

// unpackOf is P805, done to s.
func unpackOf(s *cas.Store, b []byte) (api.Digest, api.Errno) {
	blobs, e := readOf(s.Width(), b)
	if e != api.OK {
		return api.Digest{}, e
	}
	if !arePack(s.Width(), blobs) {
		return api.Digest{}, api.ErrPack
	}
	if _, e := puts(s, blobs); e != api.OK {
		return api.Digest{}, e
	}
	return digestOf(s.Width(), blobs[len(blobs)-1]), api.OK
}

// What the tests hand in.

func greatest() api.Room { return api.Room{Nodes: 1 << 16, Depth: 32, Bytes: 1 << 26} }

func store(t testing.TB, width, capacity int) *cas.Store {
	t.Helper()
	s, e := cas.New(width, capacity)
	if e != api.OK {
		t.Fatal(e)
	}
	return s
}

// put puts what must find room.
func put(t testing.TB, s *cas.Store, b ...byte) api.Digest {
	t.Helper()
	d, e := s.Put(b)
	if e != api.OK {
		t.Fatal(e)
	}
	return d
}

func blobOf(t testing.TB, l ...api.Entry) []byte {
	t.Helper()
	b, e := node.Encode(l)
	if e != api.OK {
		t.Fatal(e)
	}
	return b
}

// putDir puts a directory of those entries.
func putDir(t testing.TB, s *cas.Store, l ...api.Entry) api.Digest {
	t.Helper()
	return put(t, s, blobOf(t, l...)...)
}

// plant lays any bytes anywhere.
func plant(t testing.TB, s *cas.Store, d api.Digest, b ...byte) {
	t.Helper()
	if e := s.Plant(d, b); e != api.OK {
		t.Fatal(e)
	}
}

func kept(t testing.TB, s *cas.Store, l []api.Item) api.Digest {
	t.Helper()
	root, e := tree.Keep(s, l)
	if e != api.OK {
		t.Fatal(e)
	}
	return root
}

func raw(s *cas.Store, d api.Digest) []byte {
	b, _ := s.Raw(d)
	return b
}

func fileAt(name string, d api.Digest) api.Entry {
	return api.Entry{Name: name, Kind: api.KFile, Digest: d}
}

func dirAt(name string, d api.Digest) api.Entry {
	return api.Entry{Name: name, Kind: api.KDir, Digest: d}
}

func digests(l ...api.Digest) []api.Digest { return l }

// sample is what the chapter's examples speak of.
type sample struct {
	s         *cas.Store
	x, d1, d2 api.Digest
}

func example(t testing.TB) sample {
	s := store(t, 32, 10000)
	x := put(t, s, 1, 2)
	d1 := putDir(t, s, fileAt("x", x))
	d2 := putDir(t, s, dirAt("a", d1), fileAt("b", x), dirAt("c", d1))
	return sample{s, x, d1, d2}
}

// tied puts, at the width 1, a directory of that digest with these entries, and one ahead of them that is told a name (it does not hang on which one).
func tied(t testing.TB, s *cas.Store, d api.Digest, first api.Entry, l ...api.Entry) {
	t.Helper()
	for i := range 1 << 16 {
		first.Name = fmt.Sprintf("!%d", i)
		b := blobOf(t, append([]api.Entry{first}, l...)...)
		if digestOf(1, b) == d {
			put(t, s, b...)
			return
		}
	}
	t.Fatal("there is none")
}

// tiedFile puts, at the width 1, a file of that digest: no directory.
func tiedFile(t testing.TB, s *cas.Store, d api.Digest) {
	t.Helper()
	b := fileOf(d, 0)
	put(t, s, b...)
}

// fileOf are bytes of a digest at the width 1; unlike ones for unlike numbers.
func fileOf(d api.Digest, n int) []byte {
	for i := n << 20; ; i++ {
		if b := fmt.Appendf(nil, "file %d", i); digestOf(1, b) == d {
			return b
		}
	}
}

// nest is a Store of the width 1 in which directories name each other, as files in any direction, as directories from the later ones on to the earlier ones (but for odd ones); and its digests.
func nest(t testing.TB, r *rand.Rand) (*cas.Store, []api.Digest) {
	s := store(t, 1, 1<<20)
	var l []api.Digest
	for _, i := range r.Perm(256)[:2+r.IntN(9)] {
		l = append(l, api.Digest{byte(i)})
	}
	var dirs []api.Digest
	for i, d := range l {
		if r.IntN(4) == 0 && i < len(l)-1 {
			tiedFile(t, s, d)
			continue
		}
		var entries []api.Entry
		for _, name := range []string{"a", "b", "c", "d"}[:r.IntN(5)] {
			entries = append(entries, drawEntry(r, name, l, dirs))
		}
		tied(t, s, d, drawEntry(r, "", l, dirs), entries...)
		dirs = append(dirs, d)
	}
	return s, l
}

func drawEntry(r *rand.Rand, name string, all, dirs []api.Digest) api.Entry {
	switch r.IntN(60) {
	case 0:
		return dirAt(name, all[r.IntN(len(all))])
	case 1:
		return fileAt(name, api.Digest{byte(r.Int())})
	}
	if len(dirs) > 0 && r.IntN(2) == 0 {
		return dirAt(name, dirs[r.IntN(len(dirs))])
	}
	return fileAt(name, all[r.IntN(len(all))])
}

// drawRoom is wide, or narrow in some way.
func drawRoom(r *rand.Rand) api.Room {
	room := api.Room{Nodes: 3000, Depth: 40, Bytes: 1 << 30}
	switch r.IntN(8) {
	case 0:
		room.Nodes = r.IntN(20) - 1
	case 1:
		room.Depth = r.IntN(6) - 1
	case 2:
		room.Bytes = r.IntN(400) - 1
	}
	return room
}

// names that may be, in order.
func names() []string {
	return []string{"-", "a", "a-", "aa", "b", strings.Repeat("b", 64), "é", "\xff"}
}

// drawTree is one with few items in each directory, and few bytes, many of them the same, or those of directories.
func drawTree(r *rand.Rand, ahead string, depth int) []api.Item {
	contents := [][]byte{nil, {0}, {1, 0}, {1, 2}, {1, 1, 1, 1, 97, 0}, []byte("bytes")}
	picked := r.Perm(len(names()))[:r.IntN(5)]
	slices.Sort(picked)
	var l []api.Item
	for _, i := range picked {
		p := ahead + names()[i]
		if r.IntN(2) == 0 {
			l = append(l, api.Item{Path: p, Data: contents[r.IntN(len(contents))]})
			continue
		}
		l = append(l, api.Item{Path: p, Dir: true})
		if depth > 0 {
			l = append(l, drawTree(r, p+"/", depth-1)...)
		}
	}
	return l
}

func seeded(n uint64) *rand.Rand { return rand.New(rand.NewPCG(n, 8)) }

// How things are held against each other.

func brief[T any](l []T) string {
	s := fmt.Sprint(l)
	if len(s) > 600 {
		s = s[:600] + ".."
	}
	return fmt.Sprintf("%d: %s", len(l), s)
}

func short(l []api.Digest) string {
	var words []string
	for _, d := range l {
		words = append(words, fmt.Sprintf("%x", d[:4]))
	}
	return brief(words)
}

func sameDigests(t testing.TB, what string, got, want []api.Digest) {
	t.Helper()
	if !slices.Equal(got, want) {
		t.Fatalf("%s: %s\nwant %s", what, short(got), short(want))
	}
}

func sameBytes(t testing.TB, what string, got, want []byte) {
	t.Helper()
	if !bytes.Equal(got, want) {
		t.Fatalf("%s: %s\nwant %s", what, brief(got), brief(want))
	}
}

func sameTree(t testing.TB, what string, got, want []api.Item) {
	t.Helper()
	same := func(x, y api.Item) bool {
		return x.Path == y.Path && x.Dir == y.Dir && bytes.Equal(x.Data, y.Data)
	}
	if !slices.EqualFunc(got, want, same) {
		t.Fatalf("%s: %s\nwant %s", what, brief(got), brief(want))
	}
}

func is[T comparable](t testing.TB, what string, got, want T) {
	t.Helper()
	if got != want {
		t.Errorf("%s: %v, want %v", what, got, want)
	}
}

// lying is all that a Store has, with its stamps, but for its Counts.
func lying(s *cas.Store) string {
	var all strings.Builder
	for d, b := range s.All() {
		fmt.Fprintf(&all, "%x %d %x\n", d, s.Stamp(d), sha256.Sum256(b))
	}
	return fmt.Sprintf("%d %d %d\n%s", s.Len(), s.Used(), s.Cap(), all.String())
}

// asked is how often a Store was asked since.
func asked(s *cas.Store, since api.Counts) api.Counts {
	now := s.Counts()
	return api.Counts{Gets: now.Gets - since.Gets, Puts: now.Puts - since.Puts}
}

func TestTheOracle(t *testing.T) {
	for n, want := range map[int]string{0: "[0]", 247: "[247]", 248: "[248 248]", 255: "[248 255]", 256: "[249 1 0]", 65536: "[250 1 0 0]"} {
		is(t, "form", fmt.Sprint(form(n)), want)
		got, behind, e := numOf(append(form(n), 7))
		is(t, "a form read", fmt.Sprint(got, behind, int(e)), fmt.Sprint(n, " [7] 0"))
	}
	x := example(t)
	w := walkOf(x.s, x.d2, greatest())
	sameDigests(t, "met", w.met, digests(x.d2, x.d1, x.x))
	sameDigests(t, "behind", w.behindOf(), digests(x.x, x.d1, x.d2))
	is(t, "gets", w.gets, 6)
	is(t, "x below D2", w.hasBelow(x.d2, x.x), true)
	is(t, "D2 below x", w.hasBelow(x.x, x.d2), false)
	// What nest makes must have ways round, walks that come through, and walks that do not.
	round, through, short := 0, 0, 0
	for n := range uint64(200) {
		s, l := nest(t, seeded(n))
		w := walkOf(s, l[len(l)-1], api.Room{Nodes: 3000, Depth: 32, Bytes: 1 << 20})
		if w.e != api.OK {
			short++
			continue
		}
		through++
		place := map[api.Digest]int{}
		for i, d := range w.behindOf() {
			place[d] = i
		}
		for d := range w.dirs {
			if slices.ContainsFunc(w.partsOf(d), func(p api.Digest) bool { return place[p] > place[d] }) {
				round++
				break
			}
		}
	}
	if round < 20 || through < 100 || short < 20 {
		t.Errorf("of 200 drawn Stores %d have ways round, %d come through, %d do not", round, through, short)
	}
}
