package diff_test

import (
	"fmt"
	"math"
	"math/rand/v2"
	"slices"
	"strings"
	"testing"

	"retort/api"
	"retort/cas"
	"retort/diff"
	"retort/tree"
)

// lays holds Lay against what is wanted: the tree (none with an error), the error, its Gets; and nothing else of the Store is touched.
func lays(t testing.TB, what string, s *cas.Store, l []api.Item, changes []api.Change, want []api.Item, e api.Errno, gets int) {
	t.Helper()
	was, counts := lying(s), s.Counts()
	got, f := diff.Lay(s, l, changes)
	if f != e {
		t.Fatalf("P703: %s: %v, want %v", what, f, e)
	}
	sameItems(t, "P703: "+what, got, want)
	counts.Gets += gets
	is(t, "P703: how often the Store is asked: "+what, s.Counts(), counts)
	is(t, "P703: the Store: "+what, lying(s), was)
}

func row(l ...api.Change) []api.Change { return l }

func TestLayTheExamples(t *testing.T) {
	s := store(t, 32, 1000)
	l := fromAToB(32)
	lays(t, "without the blob", s, exampleA(), l[:1], nil, api.ErrMissing, 1)
	put(t, s, 3)
	lays(t, "example 2", s, exampleA(), l[:1], list(dir("a"), file("a/x", 3), file("b", 2)), api.OK, 1)
	lays(t, "on B", s, exampleB(), l[:1], nil, api.ErrEdit, 0)
	lays(t, "all, without the directory", s, exampleA(), l, nil, api.ErrMissing, 2)
	put(t, s, 1, 0)
	lays(t, "all", s, exampleA(), l, exampleB(), api.OK, 2)
	lays(t, "none", s, exampleA(), nil, exampleA(), api.OK, 0)
	lays(t, "none on nothing", s, nil, row(), nil, api.OK, 0)
}

func TestLayOnNoTree(t *testing.T) {
	s := store(t, 32, 1000)
	gone := fileAt("gone", s.Digest([]byte("gone")))
	for what, l := range wrongs() {
		for _, changes := range [][]api.Change{nil, row(added("", gone)), row(added("gone", gone))} {
			lays(t, what, s, l, changes, nil, api.ErrItems, 0)
		}
	}
}

// Every path, kind, Was and Now of a few, right and wrong, on one tree: held against the chapter said once more.
func TestLayEachChange(t *testing.T) {
	s := store(t, 32, 1<<16)
	l := list(dir("a"), file("a/x", 1), dir("a/y"), file("b", 2))
	one, two, empty := put(t, s, 1), put(t, s, 2), put(t, s, 1, 0)
	sub := rootOf(32, below(l, "a"))
	kept(t, s, l)
	s.Plant(s.Digest([]byte("spoilt")), []byte("otherwise"))
	gone, spoilt := s.Digest([]byte("gone")), s.Digest([]byte("spoilt"))
	entries := func(name string) []api.Entry {
		l := []api.Entry{dirAt(name, gone), fileAt(name, gone), fileAt(name, spoilt), {Digest: api.Digest{31: 1}}}
		for _, name := range []string{"", name, "q"} {
			for _, d := range []api.Digest{{}, one, two, sub, empty} {
				l = append(l, fileAt(name, d), dirAt(name, d))
			}
			for _, kind := range []int{0, 3, -1, math.MaxInt, math.MinInt} {
				l = append(l, api.Entry{Name: name, Kind: kind})
			}
		}
		return l
	}
	seen := map[api.Errno]int{}
	each := func(c api.Change) {
		var want []api.Item
		e, gets := api.ErrEdit, 0
		if isRightChange(c) {
			want, e, gets = layOf(s, l, row(c))
		}
		n := s.Counts().Gets
		got, f := diff.Lay(s, l, row(c))
		if f != e || s.Counts().Gets-n != gets || !slices.EqualFunc(got, want, sameItem) {
			t.Fatalf("P703: %v: %s, %v, %d Gets, want %s, %v, %d", c, brief(got), f, s.Counts().Gets-n, brief(want), e, gets)
		}
		seen[e]++
	}
	for _, p := range []string{"a", "b", "z", "a/x", "a/y", "a/z", "a/y/z", "b/z", "z/z", "a/x/z", "", "./z"} {
		some := entries(p[strings.LastIndexByte(p, '/')+1:])
		for _, kind := range []int{0, api.CAdd, api.CDrop, api.CEdit, 4, -1} {
			for _, was := range some {
				for _, now := range some {
					each(api.Change{Path: p, Kind: kind, Was: was, Now: now})
				}
			}
		}
	}
	for e, least := range map[api.Errno]int{api.OK: 40, api.ErrMissing: 20, api.ErrCorrupt: 5, api.ErrTag: 5, api.ErrCut: 5, api.ErrEdit: 1000} {
		if seen[e] < least {
			t.Errorf("met: %v", seen)
		}
	}
}

func TestLayPaths(t *testing.T) {
	s := store(t, 32, 1<<16)
	l := append(chain("a", 31), file("b"))
	d := put(t, s, 3)
	at := strings.Repeat("a/", 31)
	for _, p := range []string{
		"", "/", ".", "..", "./z", "z/", "/z", "a//z", "a/./z", "a/../z", "../z", "z/.", "z/..", "a/z\x00", "\x00", strings.Repeat("z", 65), at + "a/z", at + "z/z",
		"b/z", "b/z/z", "z/z", "z/z/z", "a/z/z", strings.Repeat("a/", 3000) + "z", strings.Repeat("z", 1<<16),
	} {
		name := p[strings.LastIndexByte(p, '/')+1:]
		lays(t, fmt.Sprintf("%.99q", p), s, l, row(added(p, fileAt(name, d))), nil, api.ErrEdit, 0)
		lays(t, fmt.Sprintf("%.99q", p), s, l, row(dropped(p, fileAt(name, d))), nil, api.ErrEdit, 0)
	}
	for _, p := range []string{"z", "a/z", "\xff", "a\x01", "a-", " ", "...", at + "z", strings.Repeat("z", 64)} {
		name := nameOf(p)
		want := append(slices.Clone(l), file(p, 3))
		slices.SortFunc(want, func(x, y api.Item) int { return order(x.Path, y.Path) })
		lays(t, p, s, l, row(added(p, fileAt(name, d))), want, api.OK, 1)
	}
}

// Was is what stands there, at the Store's width; the bytes that are alike at a small width are so.
func TestLayWas(t *testing.T) {
	one, other := clash()
	for _, width := range []int{1, 2, 31, 32} {
		s := store(t, width, 1000)
		put(t, s, one...)
		at := func(b []byte) api.Entry { return fileAt("f", digestOf(width, b)) }
		l := list(file("f", other...))
		lays(t, "its digest", s, l, row(edited("f", at(other), at(one))), list(file("f", one...)), api.OK, 1)
		if width < 32 {
			lays(t, "its digest at another width", s, l, row(dropped("f", fileAt("f", digestOf(width+1, other)))), nil, api.ErrEdit, 0)
			lays(t, "a byte behind the width", s, l, row(dropped("f", fileAt("f", digestOf(32, other)))), nil, api.ErrEdit, 0)
		}
		if width == 1 {
			lays(t, "another's of one digest", s, l, row(edited("f", at(one), at(one))), list(file("f", one...)), api.OK, 1)
		} else {
			lays(t, "another's", s, l, row(edited("f", at(one), at(one))), nil, api.ErrEdit, 0)
		}
		lays(t, "nothing where there is something", s, l, row(added("f", at(one))), nil, api.ErrEdit, 0)
		lays(t, "something where there is nothing", s, nil, row(dropped("f", at(one))), nil, api.ErrEdit, 0)
		lays(t, "something where there is nothing", s, nil, row(edited("f", at(one), at(one))), nil, api.ErrEdit, 0)
		lays(t, "a directory where there is a file", s, l, row(dropped("f", dirAt("f", at(other).Digest))), nil, api.ErrEdit, 0)
		lays(t, "a file where there is a directory", s, list(dir("f")), row(dropped("f", at([]byte{1, 0}))), nil, api.ErrEdit, 0)
	}
}

// A change lies on what the one ahead of it has left.
func TestLayOneOnAnother(t *testing.T) {
	s := store(t, 32, 1<<16)
	f, g := put(t, s, 1), put(t, s, 2)
	empty := put(t, s, 1, 0)
	l := list(dir("d"), file("d/x", 1), file("e", 1))
	d := kept(t, s, list(file("x", 1)))
	addD, dropD := added("n", dirAt("n", d)), dropped("d", dirAt("d", d))
	lays(t, "into a directory just made", s, l, row(addD, added("n/y", fileAt("y", g))), append(slices.Clone(l), dir("n"), file("n/x", 1), file("n/y", 2)), api.OK, 3)
	lays(t, "what was made with it", s, l, row(addD, edited("n/x", fileAt("x", f), fileAt("x", g))), append(slices.Clone(l), dir("n"), file("n/x", 2)), api.OK, 3)
	lays(t, "a directory in a directory just made", s, l, row(addD, added("n/m", dirAt("m", empty)), added("n/m/k", fileAt("k", f))), append(slices.Clone(l), dir("n"), dir("n/m"), file("n/m/k", 1), file("n/x", 1)), api.OK, 4)
	lays(t, "into a directory made later", s, l, row(added("n/y", fileAt("y", g)), addD), nil, api.ErrEdit, 0)
	lays(t, "into a directory just taken", s, l, row(dropD, added("d/y", fileAt("y", g))), nil, api.ErrEdit, 0)
	lays(t, "what was taken with it", s, l, row(dropD, dropped("d/x", fileAt("x", f))), nil, api.ErrEdit, 0)
	lays(t, "into a file in the place of a directory", s, l, row(edited("d", dirAt("d", d), fileAt("d", f)), added("d/y", fileAt("y", g))), nil, api.ErrEdit, 1)
	lays(t, "a file in the place of a directory", s, l, row(edited("d", dirAt("d", d), fileAt("d", f))), list(file("d", 1), file("e", 1)), api.OK, 1)
	lays(t, "into a directory in the place of a file", s, l, row(edited("e", fileAt("e", f), dirAt("e", empty)), added("e/y", fileAt("y", g))), list(dir("d"), file("d/x", 1), dir("e"), file("e/y", 2)), api.OK, 2)
	lays(t, "taken and made again", s, l, row(dropD, added("d", dirAt("d", empty)), added("d/x", fileAt("x", f)), dropD), list(file("e", 1)), api.OK, 2)
	lays(t, "twice", s, l, row(addD, addD), nil, api.ErrEdit, 2)
	lays(t, "taken twice", s, l, row(dropD, dropD), nil, api.ErrEdit, 0)
	lays(t, "a directory that was changed", s, l, row(added("d/y", fileAt("y", g)), dropD), nil, api.ErrEdit, 1)
	lays(t, "a directory that was changed and changed back", s, l, row(added("d/y", fileAt("y", g)), dropped("d/y", fileAt("y", g)), dropD), list(file("e", 1)), api.OK, 1)
	more := dirAt("d", rootOf(32, list(file("x", 1), file("y", 2))))
	lays(t, "a directory as it is then", s, l, row(added("d/y", fileAt("y", g)), dropped("d", more)), list(file("e", 1)), api.OK, 1)
	lays(t, "the same again", s, l, row(edited("d", dirAt("d", d), dirAt("d", d)), edited("e", fileAt("e", f), fileAt("e", f))), l, api.OK, 3)
	lays(t, "not in order", s, l, row(added("z", fileAt("z", f)), added("a", fileAt("a", f))), list(file("a", 1), dir("d"), file("d/x", 1), file("e", 1), file("z", 1)), api.OK, 2)
	lays(t, "all", s, l, row(dropD, dropped("e", fileAt("e", f))), nil, api.OK, 0)
}

// Whatever ails what is to stand there is told, and nothing is got behind it.
func TestLayFaults(t *testing.T) {
	s := store(t, 32, 1<<22)
	gone, spoilt := s.Digest([]byte("gone")), s.Digest([]byte("spoilt"))
	s.Plant(spoilt, []byte{1, 0})
	f := put(t, s, 7)
	deep := putDir(t, s)
	for range 32 {
		deep = putDir(t, s, dirAt("d", deep))
	}
	var wide []api.Entry
	for i := range 1024 {
		wide = append(wide, fileAt(fmt.Sprintf("%04d", i), f))
	}
	fan := putDir(t, s, wide...)
	for i, x := range wide {
		wide[i] = dirAt(x.Name, fan)
	}
	for _, x := range []struct {
		what string
		y    api.Entry
		e    api.Errno
		gets int
	}{
		{"a missing file", fileAt("n", gone), api.ErrMissing, 1},
		{"a spoilt file", fileAt("n", spoilt), api.ErrCorrupt, 1},
		{"a missing directory", dirAt("n", gone), api.ErrMissing, 1},
		{"a spoilt directory", dirAt("n", spoilt), api.ErrCorrupt, 1},
		{"no directory", dirAt("n", f), api.ErrTag, 1},
		{"a tail", dirAt("n", put(t, s, 1, 0, 0)), api.ErrTail, 1},
		{"no bytes", dirAt("n", put(t, s)), api.ErrCut, 1},
		{"no such kind", dirAt("n", put(t, s, 1, 1, 3)), api.ErrEntry, 1},
		{"too long", dirAt("n", put(t, s, 1, 249, 4, 1)), api.ErrLong, 1},
		{"a long number", dirAt("n", put(t, s, 248, 1)), api.ErrForm, 1},
		{"missing in it", dirAt("n", putDir(t, s, fileAt("a", f), fileAt("b", gone), fileAt("c", spoilt))), api.ErrMissing, 3},
		{"spoilt in it", dirAt("n", putDir(t, s, fileAt("a", f), dirAt("b", spoilt), fileAt("c", gone))), api.ErrCorrupt, 3},
		{"no directory in it", dirAt("n", putDir(t, s, dirAt("b", f), fileAt("c", gone))), api.ErrTag, 2},
		{"too deep", dirAt("n", putDir(t, s, dirAt("d", deep))), api.ErrDeep, 33},
		{"too many nodes", dirAt("n", putDir(t, s, wide...)), api.ErrNodes, 1 << 16},
	} {
		l := list(file("b", 2), file("n", 1))
		one := fileAt("n", digestOf(32, []byte{1}))
		lays(t, x.what, s, l, row(edited("n", one, x.y)), nil, x.e, x.gets)
		lays(t, x.what+", nothing behind it", s, l, row(edited("n", one, x.y), added("z", fileAt("z", f)), added("", f2())), nil, x.e, x.gets)
		lays(t, x.what+", something ahead of it", s, l, row(added("z", fileAt("z", f)), edited("n", one, x.y)), nil, x.e, x.gets+1)
		lays(t, x.what+", a wrong one ahead of it", s, l, row(added("b", fileAt("b", f)), edited("n", one, x.y)), nil, api.ErrEdit, 0)
		lays(t, x.what+", Was is another", s, l, row(edited("n", fileAt("n", f), x.y)), nil, api.ErrEdit, 0)
		lays(t, x.what+", no tree at the end", s, append(chain("d", 32), file("n", 1)), row(edited("n", one, x.y)), nil, x.e, x.gets)
	}
	lays(t, "deep, and not too deep", s, nil, row(added("n", dirAt("n", deep)), dropped("n", dirAt("n", deep))), nil, api.OK, 33)
	lays(t, "what is at the end too deep", s, nil, row(added("n", dirAt("n", deep))), nil, api.ErrItems, 33)
}

func f2() api.Entry { return fileAt("f", api.Digest{2}) }

// The greatest Room: as many bytes as may be, and one more.
func TestLayFaultBytes(t *testing.T) {
	if testing.Short() {
		t.Skip("it hashes 192 MiB")
	}
	s := store(t, 32, 1<<22)
	long, one := put(t, s, make([]byte, 1<<20)...), put(t, s, 1)
	var l []api.Entry
	for i := range 64 {
		l = append(l, fileAt(fmt.Sprintf("%02d", i), long))
	}
	d := putDir(t, s, l...)
	more := putDir(t, s, append(l, fileAt("x", one))...)
	got, e := diff.Lay(s, nil, row(added("n", dirAt("n", d))))
	if e != api.OK || len(got) != 65 || s.Counts().Gets != 65 {
		t.Errorf("P703: as many bytes as may be: %d, %v", len(got), e)
	}
	lays(t, "one byte more", s, nil, row(added("n", dirAt("n", more))), nil, api.ErrBytes, 66)
}

// A directory in which there is too much for the time being has another entry than any.
func TestLayTooMuchForTheTimeBeing(t *testing.T) {
	s := store(t, 32, 1<<24)
	f := put(t, s, 7)
	none := api.Digest{}
	x := fileAt("x", f)
	full := append(list(dir("d")), fan("d/", 1024)...)
	root := rootOf(32, below(full, "d"))
	add, drop := added("d/x", x), dropped("d/x", x)
	for _, was := range []api.Digest{none, root, f} {
		lays(t, "one more", s, full, row(add, dropped("d", dirAt("d", was))), nil, api.ErrEdit, 1)
		lays(t, "one more, further up", s, append(list(dir("c")), rename(full, "c/")...), row(added("c/d/x", x), dropped("c", dirAt("c", was))), nil, api.ErrEdit, 1)
	}
	lays(t, "one more, and away again", s, full, row(add, drop, dropped("d", dirAt("d", root))), nil, api.OK, 1)
	lays(t, "one more, and away again", s, full, row(add, drop), full, api.OK, 1)
	lays(t, "one more, and another one away", s, full, row(add, dropped("d/00000", fileAt("00000", digestOf(32, []byte{0})))), append(append(list(dir("d")), full[2:]...), file("d/x", 7)), api.OK, 1)
	lays(t, "one more at the end", s, full, row(add), nil, api.ErrItems, 1)
	lays(t, "one more at the root", s, fan("", 1024), row(added("x", x)), nil, api.ErrItems, 1)
	lays(t, "one more at the root, and away again", s, fan("", 1024), row(added("x", x), dropped("x", x)), fan("", 1024), api.OK, 1)

	// too deep: what stands at d/e is a tree of its own, what stands at d is none
	deep := kept(t, s, chain("c", 32))
	empty := put(t, s, 1, 0)
	add = added("d/e", dirAt("e", deep))
	l := list(dir("d"))
	for _, was := range []api.Digest{none, empty, deep} {
		lays(t, "too deep", s, l, row(add, dropped("d", dirAt("d", was))), nil, api.ErrEdit, 33)
	}
	lays(t, "too deep, and away again", s, l, row(add, dropped("d/e", dirAt("e", deep)), dropped("d", dirAt("d", empty))), nil, api.OK, 33)
	lays(t, "too deep at the end", s, l, row(add), nil, api.ErrItems, 33)
	cut := strings.Repeat("c/", 29) + "c" // of 30 names: what stands there in d/e has two more below it
	two := dirAt("c", rootOf(32, chain("c", 2)))
	lays(t, "too deep, and cut", s, l, row(add, dropped("d/e/"+cut, two)), append(list(dir("d"), dir("d/e")), rename(chain("c", 29), "d/e/")...), api.OK, 33)
	lays(t, "too deep, and a file in it", s, l, row(add, edited("d/e/"+cut, two, fileAt("c", f))), append(append(list(dir("d"), dir("d/e")), rename(chain("c", 29), "d/e/")...), file("d/e/"+cut, 7)), api.OK, 34)
}

// rename puts a text ahead of all paths.
func rename(l []api.Item, ahead string) []api.Item {
	l = slices.Clone(l)
	for i := range l {
		l[i].Path = ahead + l[i].Path
	}
	return l
}

// 2 * MaxItems items are too many behind any change, though they would be gone at the end; one less are not.
func TestLayManyOnTheWay(t *testing.T) {
	if testing.Short() {
		t.Skip("it loads many items")
	}
	s := store(t, 32, 1<<26)
	l := many("", 1<<16-1)
	root := kept(t, s, l)
	f := put(t, s, 7)
	x, y := dirAt("x", root), fileAt("y", f)
	lays(t, "as many", s, l, row(added("x", x), dropped("x", x)), l, api.OK, 1<<16)
	lays(t, "one more", s, l, row(added("x", x), added("y", y), dropped("y", y), dropped("x", x)), nil, api.ErrItems, 1<<16+1)
	lays(t, "one more ahead", s, l, row(added("y", y), added("x", x), dropped("y", y), dropped("x", x)), nil, api.ErrItems, 1<<16+1)
	lays(t, "one more, of which one is replaced", s, l, row(added("x", x), edited("x", x, x), dropped("x", x)), l, api.OK, 2<<16)
	lays(t, "too many in it for the time being", s, l, row(added("x", x), added("x/y", y)), nil, api.ErrItems, 1<<16+1)
	lays(t, "too many at the end", s, l, row(added("y", y)), nil, api.ErrItems, 1)
	lays(t, "far too many at the end", s, l, row(added("x", x)), nil, api.ErrItems, 1<<16)
	lays(t, "just enough at the end", s, l[:len(l)-1], row(added("y", y)), append(l[:len(l)-1:len(l)-1], file("y", 7)), api.OK, 1)
	// in a directory of 1 << 16 items there are too many for the time being
	lays(t, "too many in it", s, nil, row(added("x", x), added("x/y", y), dropped("x", dirAt("x", api.Digest{}))), nil, api.ErrEdit, 1<<16+1)
	lays(t, "too many in it, and away again", s, nil, row(added("x", x), added("x/y", y), dropped("x/y", y), dropped("x", x)), nil, api.OK, 1<<16+1)
}

// More than 2 * MaxStore bytes are too many behind any change; just as many are not.
func TestLayHeavyOnTheWay(t *testing.T) {
	if testing.Short() {
		t.Skip("it hashes some 500 MiB")
	}
	s := store(t, 32, 1<<26)
	l := heavy("", 1<<26)
	root := kept(t, s, l)
	x, y, z := dirAt("x", root), fileAt("y", put(t, s, 7)), fileAt("z", put(t, s))
	lays(t, "as many", s, l, row(added("x", x), added("z", z), dropped("x", x)), append(slices.Clone(l), file("z")), api.OK, 66)
	lays(t, "one more", s, l, row(added("x", x), added("y", y), dropped("y", y), dropped("x", x)), nil, api.ErrItems, 66)
	lays(t, "one more at the end", s, l, row(added("y", y)), nil, api.ErrItems, 1)
	lays(t, "too many in it", s, nil, row(added("x", x), added("x/y", y), dropped("x", dirAt("x", api.Digest{}))), nil, api.ErrEdit, 66)
}

// drawChanges are some, right and wrong, for the tree that l comes to; what they name lies in the Store, but for some of it.
func drawChanges(r *rand.Rand, s *cas.Store, l []api.Item) []api.Change {
	var all []api.Change
	for range 1 + r.IntN(5) {
		next := drawNext(r, l, 1)
		_, blobs, _ := tree.Build(s.Width(), next)
		for _, b := range blobs {
			if r.IntN(12) > 0 {
				s.Put(b)
			}
		}
		for _, c := range plainOf(s.Width(), l, next) {
			if r.IntN(8) == 0 {
				c = bend(r, c)
			}
			all = append(all, c)
		}
		l = next
	}
	if r.IntN(6) == 0 {
		r.Shuffle(len(all), func(i, j int) { all[i], all[j] = all[j], all[i] })
	}
	return all
}

// bend makes one thing of a change another.
func bend(r *rand.Rand, c api.Change) api.Change {
	x := &c.Was
	if r.IntN(2) == 0 {
		x = &c.Now
	}
	switch r.IntN(9) {
	case 0:
		c.Path = []string{"", "a", "a/a", "./a", "b/a", "a/-/a"}[r.IntN(6)]
	case 1:
		c.Kind = r.IntN(5)
	case 2:
		x.Name = names()[r.IntN(len(names()))]
	case 3:
		x.Kind = r.IntN(4)
	case 4:
		x.Digest[0]++
	case 5:
		*x = api.Entry{}
	case 6:
		c.Was, c.Now = c.Now, c.Was
	case 7:
		x.Digest = digestOf(32, contents()[r.IntN(len(contents()))])
	case 8:
		c = edited(c.Path, c.Now, c.Now)
	}
	return c
}

func TestLayDrawn(t *testing.T) {
	seen := map[api.Errno]int{}
	for n := range uint64(3000) {
		r := seeded(n)
		s := store(t, []int{1, 2, 32}[r.IntN(3)], 1<<20)
		l := drawTree(r, "", 2)
		changes := drawChanges(r, s, l)
		for range r.IntN(2) {
			s.Plant(s.Digest(contents()[r.IntN(len(contents()))]), []byte("spoilt"))
		}
		want, e, gets := layOf(s, l, changes)
		counts, was := s.Counts(), lying(s)
		got, f := diff.Lay(s, l, changes)
		if f != e {
			t.Fatalf("P703: drawn %d: %v, want %v\n%s\n%s", n, f, e, brief(l), brief(changes))
		}
		sameItems(t, fmt.Sprint("P703: drawn ", n), got, want)
		counts.Gets += gets
		is(t, "P703: drawn: Counts", s.Counts(), counts)
		is(t, "P703: drawn: the Store", lying(s), was)
		seen[e]++
	}
	for _, e := range []api.Errno{api.OK, api.ErrEdit, api.ErrMissing, api.ErrCorrupt} {
		if seen[e] < 100 {
			t.Errorf("%v was met %d times only: %v", e, seen[e], seen)
		}
	}
}
