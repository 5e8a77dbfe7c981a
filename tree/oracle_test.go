package tree_test

import (
	"bytes"
	"crypto/sha256"
	"fmt"
	"math/rand/v2"
	"slices"
	"strings"
	"testing"

	"retort/api"
	"retort/cas"
	"retort/node"
)

// The chapter said once more, in another way: by names, not by texts, and without an eye on how long it takes.

func namesOf(p string) []string {
	if p == "" {
		return nil
	}
	return strings.Split(p, "/")
}

func isName(s string) bool {
	return len(s) >= 1 && len(s) <= 64 && !strings.ContainsAny(s, "/\x00") && s != "." && s != ".."
}

func isClean(p string) bool {
	names := namesOf(p)
	return len(names) <= 32 && !slices.ContainsFunc(names, func(s string) bool { return !isName(s) })
}

func order(a, b string) int { return slices.Compare(namesOf(a), namesOf(b)) }

func under(a, b string) bool {
	x, y := namesOf(a), namesOf(b)
	return len(x) <= len(y) && slices.Equal(x, y[:len(x)])
}

func dirOf(p string) string {
	names := namesOf(p)
	return strings.Join(names[:len(names)-1], "/")
}

// isTree is W5, line by line.
func isTree(l []api.Item) bool {
	dirs, fans, size := map[string]bool{"": true}, map[string]int{}, 0
	for _, x := range l {
		if x.Path == "" || !isClean(x.Path) || x.Dir && len(x.Data) > 0 || len(x.Data) > 1<<20 {
			return false
		}
		dirs[x.Path] = dirs[x.Path] || x.Dir
		fans[dirOf(x.Path)]++
		size += len(x.Data)
	}
	for i, x := range l {
		if i > 0 && order(l[i-1].Path, x.Path) >= 0 || !dirs[dirOf(x.Path)] || fans[x.Path] > 1024 {
			return false
		}
	}
	return fans[""] <= 1024 && len(l) < 1<<16 && size <= 1<<26
}

func checkOf(l []api.Item) api.Errno {
	if !isTree(l) {
		return api.ErrItems
	}
	return api.OK
}

func digestOf(width int, b []byte) api.Digest {
	full := sha256.Sum256(b)
	var d api.Digest
	copy(d[:width], full[:])
	return d
}

// standing is one that a walk has still to go to.
type standing struct {
	names []string
	dir   bool
	d     api.Digest
}

// walkOf is W7: what is told, and how often Get is called.
func walkOf(s *cas.Store, root api.Digest, room api.Room) (l []api.Item, e api.Errno, gets int) {
	row := []standing{{dir: true, d: root}}
	nodes, size := 0, 0
	for len(row) > 0 {
		x := row[0]
		row = row[1:]
		nodes++
		if len(x.names) > room.Depth || len(x.names) > 32 {
			return nil, api.ErrDeep, gets
		}
		if nodes > room.Nodes || nodes > 1<<16 {
			return nil, api.ErrNodes, gets
		}
		gets++
		b, there := s.Raw(x.d)
		if !there {
			return nil, api.ErrMissing, gets
		}
		if digestOf(s.Width(), b) != x.d {
			return nil, api.ErrCorrupt, gets
		}
		if len(x.names) > 0 {
			y := api.Item{Path: strings.Join(x.names, "/"), Dir: x.dir}
			if !x.dir {
				y.Data = b
			}
			l = append(l, y)
		}
		if !x.dir {
			size += len(b)
			if size > room.Bytes || size > 1<<26 {
				return nil, api.ErrBytes, gets
			}
			continue
		}
		entries, e := node.Decode(b)
		if e != api.OK {
			return nil, e, gets
		}
		var below []standing
		for _, y := range entries {
			below = append(below, standing{append(slices.Clone(x.names), y.Name), y.Kind == api.KDir, y.Digest})
		}
		row = append(below, row...)
	}
	return l, api.OK, gets
}

// entriesOf are those of the directory at p.
func entriesOf(width int, l []api.Item, p string) []api.Entry {
	var entries []api.Entry
	for _, x := range l {
		if dirOf(x.Path) != p {
			continue
		}
		y := api.Entry{Name: namesOf(x.Path)[len(namesOf(p))], Kind: api.KFile, Digest: digestOf(width, x.Data)}
		if x.Dir {
			y.Kind = api.KDir
			y.Digest = digestOf(width, dirBlob(width, l, x.Path))
		}
		entries = append(entries, y)
	}
	return entries
}

func dirBlob(width int, l []api.Item, p string) []byte {
	b, e := node.Encode(entriesOf(width, l, p))
	if e != api.OK {
		panic(e)
	}
	return b
}

// allBlobs are those of the directory at p in their order, each as often as it stands there.
func allBlobs(width int, l []api.Item, p string) [][]byte {
	var row [][]byte
	for _, x := range l {
		if dirOf(x.Path) == p && x.Dir {
			row = append(row, allBlobs(width, l, x.Path)...)
		} else if dirOf(x.Path) == p {
			row = append(row, x.Data)
		}
	}
	return append(row, dirBlob(width, l, p))
}

// buildOf is P603 of a tree.
func buildOf(width int, l []api.Item) (api.Digest, [][]byte) {
	var row [][]byte
	for _, b := range allBlobs(width, l, "") {
		if !slices.ContainsFunc(row, func(x []byte) bool { return bytes.Equal(x, b) }) {
			row = append(row, b)
		}
	}
	return digestOf(width, dirBlob(width, l, "")), row
}

func checkKeepOf(keep []string) api.Errno {
	for i, p := range keep {
		for j, q := range keep {
			if i < j && order(p, q) >= 0 || i != j && under(p, q) {
				return api.ErrKeep
			}
		}
		if !isClean(p) || i >= 64 {
			return api.ErrKeep
		}
	}
	return api.OK
}

// cutOf is P606 of a tree and paths that may be kept.
func cutOf(l []api.Item, keep []string) (left []api.Item, missing []string) {
	isKept := func(x api.Item) bool {
		return slices.ContainsFunc(keep, func(p string) bool { return under(p, x.Path) })
	}
	for _, x := range l {
		if isKept(x) || x.Dir && slices.ContainsFunc(l, func(y api.Item) bool { return isKept(y) && under(x.Path, y.Path) }) {
			left = append(left, x)
		}
	}
	for _, p := range keep {
		if p != "" && !slices.ContainsFunc(l, func(x api.Item) bool { return x.Path == p }) {
			missing = append(missing, p)
		}
	}
	return left, missing
}

// What the tests hand in.

func file(p string, b ...byte) api.Item { return api.Item{Path: p, Data: b} }

func dir(p string) api.Item { return api.Item{Path: p, Dir: true} }

func list(l ...api.Item) []api.Item { return l }

// example is that of the chapter.
func example() []api.Item { return list(dir("a"), file("a/x", 1, 2), file("b", 1, 2)) }

func greatest() api.Room { return api.Room{Nodes: 1 << 16, Depth: 32, Bytes: 1 << 26} }

func store(t testing.TB, width, capacity int) *cas.Store {
	t.Helper()
	s, e := cas.New(width, capacity)
	if e != api.OK {
		t.Fatal(e)
	}
	return s
}

// put puts what must find room.
func put(t testing.TB, s *cas.Store, b ...byte) api.Digest {
	t.Helper()
	d, e := s.Put(b)
	if e != api.OK {
		t.Fatal(e)
	}
	return d
}

// putDir puts a directory of those entries.
func putDir(t testing.TB, s *cas.Store, l ...api.Entry) api.Digest {
	t.Helper()
	b, e := node.Encode(l)
	if e != api.OK {
		t.Fatal(e)
	}
	return put(t, s, b...)
}

func fileAt(name string, d api.Digest) api.Entry {
	return api.Entry{Name: name, Kind: api.KFile, Digest: d}
}

func dirAt(name string, d api.Digest) api.Entry {
	return api.Entry{Name: name, Kind: api.KDir, Digest: d}
}

// fan has n files, in order, right below a directory (or the root).
func fan(ahead string, n int) []api.Item {
	var l []api.Item
	for i := range n {
		l = append(l, file(fmt.Sprintf("%s%05d", ahead, i), byte(i)))
	}
	return l
}

// chain has n directories, one in the other, each of that name.
func chain(name string, n int) []api.Item {
	var l []api.Item
	for i := range n {
		l = append(l, dir(strings.Repeat(name+"/", i)+name))
	}
	return l
}

// many has n items with not too many in one place.
func many(n int) []api.Item {
	var l []api.Item
	for i := range n {
		p := fmt.Sprintf("%03d", i/1000)
		if i%1000 == 0 {
			l = append(l, dir(p))
		} else {
			l = append(l, file(fmt.Sprintf("%s/%03d", p, i%1000)))
		}
	}
	return l
}

// heavy has files of so many bytes in all, which lie in one place of the memory.
func heavy(size int) []api.Item {
	var l []api.Item
	data := bytes.Repeat([]byte("x"), 1<<20)
	for ; size > 0; size -= 1 << 20 {
		l = append(l, api.Item{Path: fmt.Sprintf("%03d", len(l)), Data: data[:min(size, 1<<20)]})
	}
	return l
}

// names that may be, in order, with those that are one another's front, and those that `/` would put elsewhere.
func names() []string {
	return []string{"\x01", "-", "...", "a", "a\x01", "a-", "a.", "aa", "b", strings.Repeat("b", 64), "é", "\xff"}
}

// drawTree is one with few items in each directory, and few bytes, many of them the same.
func drawTree(r *rand.Rand, ahead string, depth int) []api.Item {
	all, contents := names(), [][]byte{nil, {0}, {1, 0}, {1, 2}, []byte("bytes")}
	picked := r.Perm(len(all))[:r.IntN(5)]
	slices.Sort(picked)
	var l []api.Item
	for _, i := range picked {
		p := ahead + all[i]
		if r.IntN(2) == 0 {
			l = append(l, file(p, contents[r.IntN(len(contents))]...))
			continue
		}
		l = append(l, dir(p))
		if depth > 0 {
			l = append(l, drawTree(r, p+"/", depth-1)...)
		}
	}
	return l
}

func seeded(n uint64) *rand.Rand { return rand.New(rand.NewPCG(n, 6)) }

// How things are held against each other.

func sameItem(x, y api.Item) bool {
	return x.Path == y.Path && x.Dir == y.Dir && bytes.Equal(x.Data, y.Data)
}

func brief[T any](l []T) string {
	s := fmt.Sprintf("%q", fmt.Sprint(l))
	if len(s) > 300 {
		s = s[:300] + ".."
	}
	return fmt.Sprintf("%d: %s", len(l), s)
}

func sameItems(t testing.TB, what string, got, want []api.Item) {
	t.Helper()
	if !slices.EqualFunc(got, want, sameItem) {
		t.Fatalf("%s: %s\nwant %s", what, brief(got), brief(want))
	}
}

func sameBlobs(t testing.TB, what string, got, want [][]byte) {
	t.Helper()
	if !slices.EqualFunc(got, want, bytes.Equal) {
		t.Fatalf("%s: %s\nwant %s", what, brief(got), brief(want))
	}
}

func sameTexts(t testing.TB, what string, got, want []string) {
	t.Helper()
	if !slices.Equal(got, want) {
		t.Fatalf("%s: %q\nwant %q", what, got, want)
	}
}

func is[T comparable](t testing.TB, what string, got, want T) {
	t.Helper()
	if got != want {
		t.Errorf("%s: %v, want %v", what, got, want)
	}
}

// lying is all that a Store has, with its stamps, but for its Counts.
func lying(s *cas.Store) string {
	var all strings.Builder
	for d, b := range s.All() {
		fmt.Fprintf(&all, "%x %d %x\n", d, s.Stamp(d), sha256.Sum256(b))
	}
	return fmt.Sprintf("%d %d %d\n%s", s.Len(), s.Used(), s.Cap(), all.String())
}

func TestTheOracle(t *testing.T) {
	if !slices.IsSorted(names()) {
		t.Error("names are not in order")
	}
	r := seeded(1)
	for range 300 {
		l := drawTree(r, "", 4)
		is(t, "drawn", isTree(l), true)
	}
	for what, l := range map[string][]api.Item{"fan": fan("", 1024), "chain": chain("a", 32), "many": many(1<<16 - 1), "heavy": heavy(1 << 26)} {
		is(t, what, isTree(l), true)
	}
	for what, l := range map[string][]api.Item{"fan": fan("", 1025), "chain": chain("a", 33), "many": many(1 << 16), "heavy": heavy(1<<26 + 1)} {
		is(t, what, isTree(l), false)
	}
}
