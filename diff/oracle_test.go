package diff_test

import (
	"bytes"
	"crypto/sha256"
	"fmt"
	"math/rand/v2"
	"slices"
	"strings"
	"testing"

	"retort/api"
	"retort/cas"
	"retort/node"
	"retort/tree"
)

// The chapter said once more, in another way: over plain lists that are gone through from end to end at each question.

func namesOf(p string) []string {
	if p == "" {
		return nil
	}
	return strings.Split(p, "/")
}

func under(a, b string) bool {
	x, y := namesOf(a), namesOf(b)
	return len(x) <= len(y) && slices.Equal(x, y[:len(x)])
}

func order(a, b string) int { return slices.Compare(namesOf(a), namesOf(b)) }

func dirOf(p string) string {
	names := namesOf(p)
	return strings.Join(names[:len(names)-1], "/")
}

func nameOf(p string) string {
	names := namesOf(p)
	return names[len(names)-1]
}

func isCleanPath(p string) bool {
	return len(namesOf(p)) <= 32 && !slices.ContainsFunc(namesOf(p), func(s string) bool {
		return s == "" || len(s) > 64 || s == "." || s == ".." || strings.Contains(s, "\x00")
	})
}

func joinOf(dir, name string) string { return strings.TrimPrefix(dir+"/"+name, "/") }

func digestOf(width int, b []byte) api.Digest {
	full := sha256.Sum256(b)
	var d api.Digest
	copy(d[:width], full[:])
	return d
}

// gotOf is P404, uncounted.
func gotOf(s *cas.Store, d api.Digest) ([]byte, api.Errno) {
	b, there := s.Raw(d)
	if !there {
		return nil, api.ErrMissing
	}
	if digestOf(s.Width(), b) != d {
		return nil, api.ErrCorrupt
	}
	return b, api.OK
}

func entryIn(l []api.Entry, name string) api.Entry {
	for _, x := range l {
		if x.Name == name {
			return x
		}
	}
	return api.Entry{}
}

// allNames are those of some lists, each once, in order.
func allNames(lists ...[]api.Entry) []string {
	var l []string
	for _, x := range slices.Concat(lists...) {
		l = append(l, x.Name)
	}
	slices.Sort(l)
	return slices.Compact(l)
}

// unlike is point 4 of P701 of one name: a change, or two directories to go into.
func unlike(p string, was, now api.Entry) (c api.Change, into bool) {
	c = api.Change{Path: p, Was: was, Now: now}
	switch {
	case was == now:
		return api.Change{}, false
	case was.Kind == api.KDir && now.Kind == api.KDir:
		return api.Change{}, true
	case now.Kind == api.KNone:
		c.Kind = api.CDrop
	case was.Kind == api.KNone:
		c.Kind = api.CAdd
	default:
		c.Kind = api.CEdit
	}
	return c, false
}

// sight is what is to be looked at yet: a pair of directories, or a change that is told when its turn comes.
type sight struct {
	p      string
	depth  int
	a, b   api.Digest
	change api.Change
}

// betweenOf is P701: a row of sights, of which the first one is always next; and how often Get is called.
func betweenOf(s *cas.Store, a, b api.Digest, room api.Room) (l []api.Change, e api.Errno, gets int) {
	row := []sight{{a: a, b: b}}
	nodes := 0
	for len(row) > 0 {
		x := row[0]
		row = row[1:]
		if x.change != (api.Change{}) {
			l = append(l, x.change)
			continue
		}
		if x.a == x.b {
			continue
		}
		if x.depth+1 > room.Depth || x.depth+1 > 32 {
			return nil, api.ErrDeep, gets
		}
		var both [2][]api.Entry
		for i, d := range []api.Digest{x.a, x.b} {
			nodes++
			if nodes > room.Nodes || nodes > 1<<16 {
				return nil, api.ErrNodes, gets
			}
			gets++
			blob, e := gotOf(s, d)
			if e == api.OK {
				both[i], e = node.Decode(blob)
			}
			if e != api.OK {
				return nil, e, gets
			}
		}
		var more []sight
		for _, name := range allNames(both[0], both[1]) {
			y := sight{p: joinOf(x.p, name), depth: x.depth + 1}
			was, now := entryIn(both[0], name), entryIn(both[1], name)
			c, into := unlike(y.p, was, now)
			y.change = c
			if into {
				y.a, y.b = was.Digest, now.Digest
			}
			more = append(more, y)
		}
		row = append(more, row...)
	}
	return l, api.OK, gets
}

// entriesOf are those of the directory at p of a tree.
func entriesOf(width int, l []api.Item, p string) []api.Entry {
	var entries []api.Entry
	for _, x := range l {
		if dirOf(x.Path) == p {
			entries = append(entries, entryOf(width, l, x))
		}
	}
	return entries
}

func entryOf(width int, l []api.Item, x api.Item) api.Entry {
	if !x.Dir {
		return api.Entry{Name: nameOf(x.Path), Kind: api.KFile, Digest: digestOf(width, x.Data)}
	}
	return api.Entry{Name: nameOf(x.Path), Kind: api.KDir, Digest: rootOf(width, below(l, x.Path))}
}

// rootOf is the digest that tree.Build tells of what is a tree.
func rootOf(width int, l []api.Item) api.Digest {
	b, e := node.Encode(entriesOf(width, l, ""))
	if e != api.OK {
		panic(e)
	}
	return digestOf(width, b)
}

// below is what a list has below a path, as a list of its own.
func below(l []api.Item, p string) []api.Item {
	var m []api.Item
	for _, x := range l {
		if under(p, x.Path) && x.Path != p {
			x.Path = strings.Join(namesOf(x.Path)[len(namesOf(p)):], "/")
			m = append(m, x)
		}
	}
	return m
}

// plainOf is P702 of two trees: what each path that one of them has comes to, unless something above it has said all.
func plainOf(width int, a, b []api.Item) []api.Change {
	var paths []string
	for _, x := range slices.Concat(a, b) {
		paths = append(paths, x.Path)
	}
	slices.SortFunc(paths, order)
	paths = slices.Compact(paths)
	var l []api.Change
	done := map[string]bool{"": rootOf(width, a) == rootOf(width, b)}
	for _, p := range paths {
		done[p] = done[dirOf(p)]
		if done[p] {
			continue
		}
		was, now := entryAt(width, a, p), entryAt(width, b, p)
		c, into := unlike(p, was, now)
		done[p] = !into
		if c != (api.Change{}) {
			l = append(l, c)
		}
	}
	return l
}

func entryAt(width int, l []api.Item, p string) api.Entry {
	for _, x := range l {
		if x.Path == p {
			return entryOf(width, l, x)
		}
	}
	return api.Entry{}
}

// isRightChange is what P703 asks of a change alone.
func isRightChange(c api.Change) bool {
	if c.Path == "" || !isCleanPath(c.Path) {
		return false
	}
	isEntry := func(x api.Entry) bool {
		return x.Name == nameOf(c.Path) && (x.Kind == 1 || x.Kind == 2)
	}
	none := api.Entry{}
	return c.Kind == api.CAdd && c.Was == none && isEntry(c.Now) ||
		c.Kind == api.CDrop && isEntry(c.Was) && c.Now == none ||
		c.Kind == api.CEdit && isEntry(c.Was) && isEntry(c.Now)
}

// standsAs is what P703 asks of a change on a list of items.
func standsAs(width int, l []api.Item, c api.Change) bool {
	if dir := dirOf(c.Path); dir != "" && !slices.ContainsFunc(l, func(x api.Item) bool { return x.Path == dir && x.Dir }) {
		return false
	}
	i := slices.IndexFunc(l, func(x api.Item) bool { return x.Path == c.Path })
	if i < 0 {
		return c.Was == api.Entry{}
	}
	if l[i].Dir && tree.Check(below(l, c.Path)) != api.OK {
		return false
	}
	return c.Was == entryOf(width, l, l[i])
}

// layOf is P703, and how often Get is called.
func layOf(s *cas.Store, l []api.Item, changes []api.Change) ([]api.Item, api.Errno, int) {
	gets := 0
	if tree.Check(l) != api.OK {
		return nil, api.ErrItems, 0
	}
	l = slices.Clone(l)
	for _, c := range changes {
		if !isRightChange(c) || !standsAs(s.Width(), l, c) {
			return nil, api.ErrEdit, gets
		}
		l = slices.DeleteFunc(l, func(x api.Item) bool { return under(c.Path, x.Path) })
		switch c.Now.Kind {
		case api.KFile:
			gets++
			b, e := gotOf(s, c.Now.Digest)
			if e != api.OK {
				return nil, e, gets
			}
			l = append(l, file(c.Path, b...))
		case api.KDir:
			w := s.Twin()
			n := w.Counts().Gets
			m, e := tree.Load(w, c.Now.Digest, greatest())
			gets += w.Counts().Gets - n
			if e != api.OK {
				return nil, e, gets
			}
			l = append(l, dir(c.Path))
			for _, x := range m {
				x.Path = c.Path + "/" + x.Path
				l = append(l, x)
			}
		}
		slices.SortFunc(l, func(x, y api.Item) int { return order(x.Path, y.Path) })
		size := 0
		for _, x := range l {
			size += len(x.Data)
		}
		if len(l) >= 2<<16 || size > 2<<26 {
			return nil, api.ErrItems, gets
		}
	}
	if tree.Check(l) != api.OK {
		return nil, api.ErrItems, gets
	}
	return l, api.OK, gets
}

// all is what stands at a path: its item, and those below it.
func all(l []api.Item, p string) []api.Item {
	var m []api.Item
	for _, x := range l {
		if under(p, x.Path) {
			m = append(m, x)
		}
	}
	return m
}

func alike(l, m []api.Item) bool { return slices.EqualFunc(l, m, sameItem) }

// mergeOf is P704 of three trees, but for whether a tree comes out.
func mergeOf(base, ours, theirs []api.Item) (l []api.Item, conflicts []api.Conflict) {
	var paths []string
	for _, x := range slices.Concat(base, ours, theirs) {
		paths = append(paths, x.Path)
	}
	slices.SortFunc(paths, order)
	settled := map[string]bool{"": false}
	for _, p := range slices.Compact(paths) {
		if settled[p] = settled[dirOf(p)]; settled[p] {
			continue
		}
		x, o, u := all(base, p), all(ours, p), all(theirs, p)
		settled[p] = true
		switch {
		case alike(o, u):
			l = append(l, o...)
		case alike(o, x):
			l = append(l, u...)
		case alike(u, x):
			l = append(l, o...)
		case len(o) > 0 && o[0].Dir && len(u) > 0 && u[0].Dir:
			settled[p] = false
			l = append(l, o[0])
		default:
			l = append(l, o...)
			conflicts = append(conflicts, api.Conflict{Path: p, Base: firstOf(x), Ours: firstOf(o), Theirs: firstOf(u)})
		}
	}
	return l, conflicts
}

func firstOf(l []api.Item) api.Item {
	if len(l) == 0 {
		return api.Item{}
	}
	return l[0]
}

// What the tests hand in.

func file(p string, b ...byte) api.Item { return api.Item{Path: p, Data: b} }

func dir(p string) api.Item { return api.Item{Path: p, Dir: true} }

func list(l ...api.Item) []api.Item { return l }

// exampleA, exampleB are those of the chapter.
func exampleA() []api.Item { return list(dir("a"), file("a/x", 1), file("b", 2)) }

func exampleB() []api.Item { return list(dir("a"), file("a/x", 3), dir("c")) }

func greatest() api.Room { return api.Room{Nodes: 1 << 16, Depth: 32, Bytes: 1 << 26} }

func store(t testing.TB, width, capacity int) *cas.Store {
	t.Helper()
	s, e := cas.New(width, capacity)
	if e != api.OK {
		t.Fatal(e)
	}
	return s
}

func put(t testing.TB, s *cas.Store, b ...byte) api.Digest {
	t.Helper()
	d, e := s.Put(b)
	if e != api.OK {
		t.Fatal(e)
	}
	return d
}

func putDir(t testing.TB, s *cas.Store, l ...api.Entry) api.Digest {
	t.Helper()
	b, e := node.Encode(l)
	if e != api.OK {
		t.Fatal(e)
	}
	return put(t, s, b...)
}

func kept(t testing.TB, s *cas.Store, l []api.Item) api.Digest {
	t.Helper()
	root, e := tree.Keep(s, l)
	if e != api.OK {
		t.Fatal(e)
	}
	return root
}

func fileAt(name string, d api.Digest) api.Entry {
	return api.Entry{Name: name, Kind: api.KFile, Digest: d}
}

func dirAt(name string, d api.Digest) api.Entry {
	return api.Entry{Name: name, Kind: api.KDir, Digest: d}
}

func added(p string, now api.Entry) api.Change {
	return api.Change{Path: p, Kind: api.CAdd, Now: now}
}

func dropped(p string, was api.Entry) api.Change {
	return api.Change{Path: p, Kind: api.CDrop, Was: was}
}

func edited(p string, was, now api.Entry) api.Change {
	return api.Change{Path: p, Kind: api.CEdit, Was: was, Now: now}
}

// fan has n files, in order, right below a directory (or the root).
func fan(ahead string, n int) []api.Item {
	var l []api.Item
	for i := range n {
		l = append(l, file(fmt.Sprintf("%s%05d", ahead, i), byte(i)))
	}
	return l
}

// chain has n directories, one in the other, each of that name.
func chain(name string, n int) []api.Item {
	var l []api.Item
	for i := range n {
		l = append(l, dir(strings.Repeat(name+"/", i)+name))
	}
	return l
}

// many has n items with not too many in one place; all paths begin so.
func many(ahead string, n int) []api.Item {
	var l []api.Item
	for i := range n {
		p := fmt.Sprintf("%s%03d", ahead, i/1000)
		if i%1000 == 0 {
			l = append(l, dir(p))
		} else {
			l = append(l, file(fmt.Sprintf("%s/%03d", p, i%1000)))
		}
	}
	return l
}

// heavy has files of so many bytes in all, which lie in one place of the memory.
func heavy(ahead string, size int) []api.Item {
	var l []api.Item
	data := bytes.Repeat([]byte("x"), 1<<20)
	for ; size > 0; size -= 1 << 20 {
		l = append(l, api.Item{Path: fmt.Sprintf("%s%03d", ahead, len(l)), Data: data[:min(size, 1<<20)]})
	}
	return l
}

// wrongs are lists that are no trees.
func wrongs() map[string][]api.Item {
	return map[string][]api.Item{
		"out of order":         list(file("b"), file("a")),
		"twice":                list(file("a"), file("a")),
		"no directory":         list(file("a/b")),
		"below a file":         list(file("a"), file("a/b")),
		"bytes in a directory": list(api.Item{Path: "a", Dir: true, Data: []byte{0}}),
		"the root":             list(dir("")),
		"not clean":            list(file("./a")),
		"one deeper":           chain("a", 33),
		"one more":             fan("", 1025),
		"one longer":           list(api.Item{Path: "a", Data: make([]byte, 1<<20+1)}),
		"one item more":        many("", 1<<16),
		"one byte more":        heavy("", 1<<26+1),
	}
}

// names that may be, in order, with those that are one another's front, and those that `/` would put elsewhere.
func names() []string {
	return []string{"\x01", "-", "a", "a\x01", "a-", "aa", "b", strings.Repeat("b", 64), "é", "\xff"}
}

// contents are bytes that files have; some are those of directories.
func contents() [][]byte { return [][]byte{nil, {0}, {1, 0}, {1, 2}, []byte("bytes")} }

// drawTree is one with few items in each directory, and few bytes, many of them the same.
func drawTree(r *rand.Rand, ahead string, depth int) []api.Item {
	picked := r.Perm(len(names()))[:r.IntN(5)]
	slices.Sort(picked)
	var l []api.Item
	for _, i := range picked {
		l = append(l, drawThing(r, ahead+names()[i], depth)...)
	}
	return l
}

func drawThing(r *rand.Rand, p string, depth int) []api.Item {
	if r.IntN(2) == 0 {
		return list(file(p, contents()[r.IntN(len(contents()))]...))
	}
	l := list(dir(p))
	if depth > 0 {
		l = append(l, drawTree(r, p+"/", depth-1)...)
	}
	return l
}

// drawNext is a tree with some things dropped, some put in their place, some beside them.
func drawNext(r *rand.Rand, l []api.Item, often int) []api.Item {
	l = slices.Clone(l)
	for range r.IntN(often + 1) {
		ahead, depth := "", 2
		if len(l) > 0 {
			x := l[r.IntN(len(l))]
			if x.Dir && r.IntN(2) == 0 {
				ahead = x.Path + "/"
			} else if dirOf(x.Path) != "" {
				ahead = dirOf(x.Path) + "/"
			}
		}
		p := ahead + names()[r.IntN(len(names()))]
		if len(namesOf(p)) > 4 {
			depth = 0
		}
		l = slices.DeleteFunc(l, func(x api.Item) bool { return under(p, x.Path) })
		if r.IntN(3) > 0 {
			l = append(l, drawThing(r, p, depth)...)
		}
		slices.SortFunc(l, func(x, y api.Item) int { return order(x.Path, y.Path) })
	}
	return l
}

func seeded(n uint64) *rand.Rand { return rand.New(rand.NewPCG(n, 7)) }

// How things are held against each other.

func sameItem(x, y api.Item) bool {
	return x.Path == y.Path && x.Dir == y.Dir && bytes.Equal(x.Data, y.Data)
}

func brief[T any](l []T) string {
	s := fmt.Sprintf("%q", fmt.Sprint(l))
	if len(s) > 1000 {
		s = s[:1000] + ".."
	}
	return fmt.Sprintf("%d: %s", len(l), s)
}

func sameItems(t testing.TB, what string, got, want []api.Item) {
	t.Helper()
	if !slices.EqualFunc(got, want, sameItem) {
		t.Fatalf("%s: %s\nwant %s", what, brief(got), brief(want))
	}
}

func sameChanges(t testing.TB, what string, got, want []api.Change) {
	t.Helper()
	if !slices.Equal(got, want) {
		t.Fatalf("%s: %s\nwant %s", what, brief(got), brief(want))
	}
}

func sameConflicts(t testing.TB, what string, got, want []api.Conflict) {
	t.Helper()
	same := func(x, y api.Conflict) bool {
		return x.Path == y.Path && sameItem(x.Base, y.Base) && sameItem(x.Ours, y.Ours) && sameItem(x.Theirs, y.Theirs)
	}
	if !slices.EqualFunc(got, want, same) {
		t.Fatalf("%s: %s\nwant %s", what, brief(got), brief(want))
	}
}

func is[T comparable](t testing.TB, what string, got, want T) {
	t.Helper()
	if got != want {
		t.Errorf("%s: %v, want %v", what, got, want)
	}
}

// lying is all that a Store has, with its stamps, but for its Counts.
func lying(s *cas.Store) string {
	var all strings.Builder
	for d, b := range s.All() {
		fmt.Fprintf(&all, "%x %d %x\n", d, s.Stamp(d), sha256.Sum256(b))
	}
	return fmt.Sprintf("%d %d %d\n%s", s.Len(), s.Used(), s.Cap(), all.String())
}

func TestTheOracle(t *testing.T) {
	if !slices.IsSorted(names()) {
		t.Error("names are not in order")
	}
	r := seeded(1)
	for range 300 {
		l := drawTree(r, "", 3)
		is(t, "drawn", tree.Check(l), api.OK)
		l = drawNext(r, l, 5)
		is(t, "drawn next", tree.Check(l), api.OK)
		root, _, _ := tree.Build(2, l)
		is(t, "its root", rootOf(2, l), root)
	}
	for what, l := range wrongs() {
		is(t, what, tree.Check(l), api.ErrItems)
	}
	for what, l := range map[string][]api.Item{"fan": fan("", 1024), "chain": chain("a", 32), "many": many("", 1<<16-1), "heavy": heavy("", 1<<26)} {
		is(t, what, tree.Check(l), api.OK)
	}
}
