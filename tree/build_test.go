package tree_test

import (
	"bytes"
	"fmt"
	"math"
	"slices"
	"strings"
	"testing"

	"retort/api"
	"retort/cas"
	"retort/node"
	"retort/tree"
)

// builds holds Build against what is wanted of a tree.
func builds(t testing.TB, what string, width int, l []api.Item, root api.Digest, blobs [][]byte) {
	t.Helper()
	d, b, e := tree.Build(width, l)
	if d != root || e != api.OK {
		t.Fatalf("P603: %s, width %d: %x, %v, want %x", what, width, d, e, root)
	}
	sameBlobs(t, "P603: "+what, b, blobs)
}

func encoded(l ...api.Entry) []byte {
	b, e := node.Encode(l)
	if e != api.OK {
		panic(e)
	}
	return b
}

func TestBuildTheExamples(t *testing.T) {
	for _, width := range []int{1, 2, 31, 32} {
		builds(t, "example 1", width, nil, digestOf(width, []byte{1, 0}), [][]byte{{1, 0}})
		text := []byte{1, 2}
		sub := encoded(fileAt("x", digestOf(width, text)))
		root := encoded(dirAt("a", digestOf(width, sub)), fileAt("b", digestOf(width, text)))
		builds(t, "example 2", width, example(), digestOf(width, root), [][]byte{text, sub, root})
	}
}

func TestBuildWidths(t *testing.T) {
	for _, width := range []int{math.MinInt, -32, -1, 0, 33, 64, math.MaxInt} {
		for _, l := range [][]api.Item{nil, example(), example()[1:]} {
			d, b, e := tree.Build(width, l)
			if d != (api.Digest{}) || len(b) > 0 || e != api.ErrWidth {
				t.Errorf("P603: the width %d: %x, %d blobs, %v", width, d, len(b), e)
			}
		}
	}
	for width := 1; width <= 32; width++ {
		root, blobs := buildOf(width, example())
		builds(t, "widths", width, example(), root, blobs)
	}
}

// Each directory's blobs stand ahead of its own, entry by entry, and not in the order of the list.
func TestBuildOrder(t *testing.T) {
	l := list(dir("a"), dir("a/b"), file("a/b/c", 1), file("a/d", 2), file("e", 3), dir("f"), file("f/g", 4), file("h", 5))
	c, d, e, g, h := []byte{1}, []byte{2}, []byte{3}, []byte{4}, []byte{5}
	at := func(b []byte) api.Digest { return digestOf(32, b) }
	ab := encoded(fileAt("c", at(c)))
	a := encoded(dirAt("b", at(ab)), fileAt("d", at(d)))
	f := encoded(fileAt("g", at(g)))
	root := encoded(dirAt("a", at(a)), fileAt("e", at(e)), dirAt("f", at(f)), fileAt("h", at(h)))
	builds(t, "order", 32, l, at(root), [][]byte{c, ab, d, a, e, g, f, h, root})
}

// A blob whose bytes stand there already is left out, whatever it stands for.
func TestBuildOnce(t *testing.T) {
	at := func(b []byte) api.Digest { return digestOf(32, b) }
	empty := []byte{1, 0}
	root := encoded(fileAt("a", at(empty)), dirAt("b", at(empty)), fileAt("c", at(empty)), dirAt("d", at(empty)))
	builds(t, "a file ahead of a directory", 32, list(file("a", 1, 0), dir("b"), file("c", 1, 0), dir("d")), at(root), [][]byte{empty, root})
	sub := encoded(fileAt("x", at(nil)))
	root = encoded(dirAt("a", at(sub)), fileAt("b", at(sub)), dirAt("c", at(sub)), fileAt("d", at(nil)))
	builds(t, "the same directories", 32, list(dir("a"), file("a/x"), file("b", sub...), dir("c"), file("c/x"), file("d")), at(root), [][]byte{nil, sub, root})
	deep := list(dir("a"), dir("a/a"), dir("b"), dir("b/a"), dir("c"))
	one := encoded(dirAt("a", at(empty)))
	root = encoded(dirAt("a", at(one)), dirAt("b", at(one)), dirAt("c", at(empty)))
	builds(t, "the same trees", 32, deep, at(root), [][]byte{empty, one, root})
}

// The root's blob may stand ahead: as the bytes of a file whose digest, of a small width, is the root's.
func TestBuildRootAhead(t *testing.T) {
	s := store(t, 1, 1000)
	root, name := round(t, s, api.KFile)
	b, _ := s.Raw(root)
	builds(t, "the root ahead", 1, list(file(name, b...)), root, [][]byte{b})
	s = store(t, 1, 1000)
	got, e := tree.Keep(s, list(file(name, b...)))
	if got != root || e != api.OK || s.Len() != 1 || s.Counts().Puts != 1 {
		t.Errorf("P604: the root ahead: %x, %v, %v", got, e, s.Counts())
	}
}

// clash is two unlike blobs of one digest at the width 1.
func clash() ([]byte, []byte) {
	for i := 1; ; i++ {
		b := fmt.Appendf(nil, "%d", i)
		if digestOf(1, b) == digestOf(1, []byte("0")) {
			return []byte("0"), b
		}
	}
}

// W1: unlike blobs of one digest are blobs apart.
func TestBuildClash(t *testing.T) {
	one, other := clash()
	for _, l := range [][]api.Item{
		list(file("a", one...), file("b", other...)),
		list(file("a", other...), file("b", one...), file("c", other...)),
		list(dir("a"), file("a/x", one...), dir("b"), file("b/x", other...)),
	} {
		root, blobs := buildOf(1, l)
		builds(t, "clash", 1, l, root, blobs)
	}
	root, blobs := buildOf(1, list(file("a", one...), file("b", other...)))
	is(t, "P603: the blobs", len(blobs), 3)
	s := store(t, 1, 1000)
	d, e := tree.Keep(s, list(file("a", one...), file("b", other...)))
	if d != (api.Digest{}) || e != api.ErrClash || s.Has(root) || s.Len() != 1 || s.Counts() != (api.Counts{Puts: 2}) {
		t.Errorf("P604: clash: %x, %v, %d blobs, %v", d, e, s.Len(), s.Counts())
	}
	if b, _ := s.Raw(digestOf(1, one)); !bytes.Equal(b, one) {
		t.Errorf("P604: clash: %q", b)
	}
}

func TestBuildWide(t *testing.T) {
	for what, l := range map[string][]api.Item{
		"root": fan("", 1024), "below": append(list(dir("a")), fan("a/", 1024)...), "deep": chain(strings.Repeat("n", 64), 32),
	} {
		root, blobs := buildOf(32, l)
		builds(t, what, 32, l, root, blobs)
	}
}

// As much as may be is built, kept and loaded again.
func TestBuildMost(t *testing.T) {
	l := many(1<<16 - 1)
	s := store(t, 32, 1<<26)
	root := kept(t, s, l)
	back, e := tree.Load(s, root, greatest())
	is(t, "P608: as many items as may be", e, api.OK)
	sameItems(t, "P608: as many items as may be", back, l)
	is(t, "P602: Gets", s.Counts().Gets, 1<<16)
	if testing.Short() {
		t.Skip("the rest hashes 200 MiB")
	}
	l = heavy(1 << 26)
	s = store(t, 32, 1<<26)
	root = kept(t, s, l)
	is(t, "P604: one blob and the root", s.Len(), 2)
	back, e = tree.Load(s, root, greatest())
	is(t, "P608: as many bytes as may be", e, api.OK)
	sameItems(t, "P608: as many bytes as may be", back, l)
}

func TestBuildDrawn(t *testing.T) {
	r := seeded(603)
	for range 1500 {
		l := drawTree(r, "", 3)
		width := 1 + r.IntN(32)
		root, blobs := buildOf(width, l)
		builds(t, "drawn", width, l, root, blobs)
	}
}

// puts holds Keep against a twin in which Build's blobs are put by hand: answer, what lies there, stamps, Counts.
func puts(t testing.TB, what string, s *cas.Store, l []api.Item) api.Errno {
	t.Helper()
	w := s.Twin()
	want, blobs := buildOf(s.Width(), l)
	wrong := api.OK
	for _, b := range blobs {
		if _, e := w.Put(b); e != api.OK {
			want, wrong = api.Digest{}, e
			break
		}
	}
	root, e := tree.Keep(s, l)
	if root != want || e != wrong {
		t.Fatalf("P604: %s: %x, %v, want %x, %v", what, root, e, want, wrong)
	}
	is(t, "P604: what lies there: "+what, lying(s), lying(w))
	is(t, "P604: how often Put is called: "+what, s.Counts(), w.Counts())
	return e
}

// Room for so many bytes, from none up to all: what was put stays, nothing is put behind the first that finds none.
func TestKeepWithoutRoom(t *testing.T) {
	l := list(dir("a"), file("a/x", 1, 2), file("b", 1, 2, 3, 4), file("c", 5), dir("d"))
	seen := map[int]int{}
	whole := store(t, 32, 1<<20)
	kept(t, whole, l)
	for capacity := range whole.Used() + 2 {
		s := store(t, 32, capacity)
		e := puts(t, fmt.Sprint("room for ", capacity), s, l)
		is(t, "P604: ErrFull", e == api.ErrFull, capacity < whole.Used())
		is(t, "P604: all is there", s.Len() == whole.Len(), capacity >= whole.Used())
		seen[s.Counts().Puts]++
	}
	is(t, "each blob once found no room", len(seen), whole.Len())
}

// What lies there already needs no room and has no new stamp.
func TestKeepThereAlready(t *testing.T) {
	l := example()
	_, blobs := buildOf(32, l)
	for i := range 1 << len(blobs) {
		for _, full := range []bool{false, true} {
			s := store(t, 32, 1000)
			for j, b := range slices.Backward(blobs) {
				if i>>j&1 == 1 {
					put(t, s, b...)
				}
			}
			if full {
				s.Limit(s.Used())
			}
			e := puts(t, fmt.Sprint("there: ", i), s, l)
			is(t, "P604: ErrFull", e == api.ErrFull, full && i != 1<<len(blobs)-1)
			if e == api.OK {
				s.Limit(s.Used())
				was, n := lying(s), s.Counts().Puts
				is(t, "P604: again, without room", puts(t, "again", s, l), api.OK)
				is(t, "P604: again lays nothing down", lying(s), was)
				is(t, "P604: each blob is put again", s.Counts().Puts-n, len(blobs))
			}
		}
	}
}

// Spoilt blobs are laid down anew; nothing else that lies there is touched.
func TestKeepOverSpoilt(t *testing.T) {
	l := example()
	_, blobs := buildOf(32, l)
	for i, b := range blobs {
		s := store(t, 32, 1000)
		other := put(t, s, []byte("another's")...)
		s.Plant(s.Digest([]byte("any")), []byte("spoilt, and none of the tree's"))
		s.Plant(s.Digest(b), []byte("spoilt"))
		is(t, fmt.Sprint("P604: spoilt: ", i), puts(t, "spoilt", s, l), api.OK)
		if raw, _ := s.Raw(other); string(raw) != "another's" {
			t.Errorf("P604: another's blob: %q", raw)
		}
		if _, e := s.Get(s.Digest([]byte("any"))); e != api.ErrCorrupt {
			t.Errorf("P604: another's spoilt blob: %v", e)
		}
	}
}

// Keep into Stores of small widths, with other blobs in them: ErrClash and ErrFull wherever they are met first.
func TestKeepDrawn(t *testing.T) {
	seen := map[api.Errno]int{}
	for n := range uint64(600) {
		r := seeded(n)
		s := store(t, 1+r.IntN(2), 300+r.IntN(3000))
		for range r.IntN(40) {
			s.Put([]byte{byte(r.Int()), byte(r.Int())})
			s.Plant(api.Digest{byte(r.Int())}, []byte("spoilt"))
		}
		for range 3 {
			l := drawTree(r, "", 2)
			e := puts(t, "drawn", s, l)
			seen[e]++
			if e == api.OK {
				thereAndBack(t, s, l)
			}
		}
	}
	for _, e := range []api.Errno{api.OK, api.ErrFull, api.ErrClash} {
		if seen[e] < 50 {
			t.Errorf("%v was met %d times only", e, seen[e])
		}
	}
}

// thereAndBack is P608, behind a Keep that answered OK.
func thereAndBack(t testing.TB, s *cas.Store, l []api.Item) {
	t.Helper()
	root, e := tree.Keep(s, l)
	is(t, "P604: again", e, api.OK)
	loads(t, "P608", s, root, greatest(), l, api.OK, len(l)+1)
	backAgain(t, s, root, l)
}

func TestThereAndBack(t *testing.T) {
	for what, l := range trees() {
		if len(l) > 2000 || what == "as many bytes" || what == "as many and no more" {
			continue
		}
		for _, width := range []int{16, 32} {
			s := store(t, width, 1<<26)
			is(t, "P604: "+what, puts(t, what, s, l), api.OK)
			thereAndBack(t, s, l)
		}
	}
}
