package tree_test

import (
	"bytes"
	"slices"
	"strings"
	"testing"
	"unsafe"

	"retort/api"
	"retort/tree"
)

// roomyBytes has those bytes with spare room behind them, in which something lies too.
func roomyBytes(b []byte) []byte {
	more := append(append(make([]byte, 0, len(b)+8), b...), "spare"...)
	return more[:len(b)]
}

// roomy has those items, with spare room behind them and behind their bytes.
func roomy(l []api.Item) []api.Item {
	more := make([]api.Item, len(l)+3)
	for i := range more {
		more[i] = file("spare", 's')
	}
	for i, x := range l {
		more[i] = api.Item{Path: strings.Clone(x.Path), Dir: x.Dir, Data: roomyBytes(x.Data)}
	}
	return more[:len(l)]
}

// image is all of a list, its spare room and that of its bytes too, apart.
func image(l []api.Item) []api.Item {
	l = slices.Clone(l[:cap(l)])
	for i, x := range l {
		l[i].Data = bytes.Clone(x.Data[:cap(x.Data)])
	}
	return l
}

func spoilBytes(b []byte) {
	b = b[:cap(b)]
	for i := range b {
		b[i] ^= 0xff
	}
}

// spoil writes all of a list, its spare room and its bytes too.
func spoil(l []api.Item) {
	l = l[:cap(l)]
	for i := range l {
		spoilBytes(l[i].Data)
		l[i] = file("spoilt", 0)
	}
}

func spoilTexts(l []string) {
	l = l[:cap(l)]
	for i := range l {
		l[i] = "spoilt"
	}
}

func copyOf(l []api.Item) []api.Item {
	l = slices.Clone(l)
	for i, x := range l {
		l[i].Data = bytes.Clone(x.Data)
	}
	return l
}

// blobItems tells blobs as items, so that they are held against each other, and spoilt, as those are.
func blobItems(blobs [][]byte) []api.Item {
	var l []api.Item
	for _, b := range blobs {
		l = append(l, api.Item{Data: b})
	}
	return l
}

// calls are those that are handed items.
func calls(t *testing.T) map[string]func(l []api.Item) []api.Item {
	cut := func(keep ...string) func(l []api.Item) []api.Item {
		return func(l []api.Item) []api.Item {
			left, missing, _ := tree.Cut(l, keep)
			told := copyOf(left)
			spoilTexts(missing)
			sameItems(t, "P2: the lists of one answer", left, told)
			return left
		}
	}
	return map[string]func(l []api.Item) []api.Item{
		"Check": func(l []api.Item) []api.Item {
			tree.Check(l)
			return nil
		},
		"Build": func(l []api.Item) []api.Item {
			_, blobs, _ := tree.Build(32, l)
			return blobItems(blobs)
		},
		"Keep and Load": func(l []api.Item) []api.Item {
			s := store(t, 32, 1<<20)
			root, _ := tree.Keep(s, l)
			l, _ = tree.Load(s, root, greatest())
			return l
		},
		"Cut of all":  cut(""),
		"Cut of some": cut("a/x", "c"),
		"Cut of none": cut(),
		"Cut, wrong":  cut("b", "a"),
		"Find": func(l []api.Item) []api.Item {
			x, _ := tree.Find(l, "b")
			return list(x)
		},
	}
}

func TestListsStayApart(t *testing.T) {
	for _, was := range [][]api.Item{nil, example(), example()[1:], list(dir("a"), file("a/x", 1), file("b", 7, 8, 9), file("c", 1)), append(fan("", 20), file("b", 1))} {
		for what, call := range calls(t) {
			l := roomy(was)
			all := image(l)
			told := call(l)
			sameItems(t, "P2: handed in to "+what, image(l), all)
			want := copyOf(told)
			spoil(call(l))
			sameItems(t, "P2: two answers of "+what, told, want)
			sameItems(t, "P2: what is told by "+what, image(l), all)
			spoil(l)
			sameItems(t, "P2: kept by "+what, told, want)
		}
	}
}

// No two lists of one answer share memory: each is spoilt with the others looked at.
func TestToldApart(t *testing.T) {
	l := list(file("a", 1, 2), file("b", 1, 2), dir("c"), file("c/d", 1, 2), file("e"))
	for what, call := range calls(t) {
		told := call(l)
		for i := range told {
			want := copyOf(told)
			spoilBytes(told[i].Data)
			want[i].Data = told[i].Data
			sameItems(t, "P2: one answer of "+what, told, want)
		}
	}
	same := api.Item{Data: []byte{1, 2, 3}}
	shared := list(api.Item{Path: "a", Data: same.Data}, api.Item{Path: "b", Data: same.Data[:2]})
	left, _, _ := tree.Cut(shared, []string{""})
	spoilBytes(left[0].Data)
	is(t, "P2: bytes that were shared are not shared when told", string(left[1].Data), "\x01\x02")
}

// What lies in the Store is neither what was handed in nor what was told.
func TestStoreStaysApart(t *testing.T) {
	s := store(t, 32, 10000)
	l := roomy(example())
	root := kept(t, s, l)
	was := lying(s)
	spoil(l)
	is(t, "P2: handed in to Keep", lying(s), was)
	for range 3 {
		told, e := tree.Load(s, root, greatest())
		is(t, "P602", e, api.OK)
		sameItems(t, "P2: told by Load", told, example())
		spoil(told)
		is(t, "P2: told by Load", lying(s), was)
	}
}

func TestPathsStayApart(t *testing.T) {
	for _, was := range [][]string{nil, {""}, {"a/x", "c"}, {"c", "d"}, {"b", "a"}, paths(65)} {
		keep := append(slices.Clone(was), "spare", "spare")[:len(was)]
		all := slices.Clone(keep[:cap(keep)])
		tree.CheckKeep(keep)
		_, missing, _ := tree.Cut(example(), keep)
		want := slices.Clone(missing)
		_, again, _ := tree.Cut(example(), keep)
		spoilTexts(again)
		sameTexts(t, "P2: two answers", missing, want)
		sameTexts(t, "P2: paths that were handed in", keep[:cap(keep)], all)
		spoilTexts(keep)
		sameTexts(t, "P2: paths that are kept", missing, want)
	}
}

// Paths that are told share no memory with those that were handed in.
func TestTextsApart(t *testing.T) {
	l := roomy(example())
	keep := []string{strings.Clone("a/x"), strings.Clone("b"), strings.Clone("c")}
	left, missing, _ := tree.Cut(l, keep)
	found, _ := tree.Find(l, "a/x")
	told := slices.Clone(missing)
	for _, x := range append(left, found) {
		told = append(told, x.Path)
	}
	in := slices.Clone(keep)
	for _, x := range l {
		in = append(in, x.Path)
	}
	for _, p := range told {
		for _, q := range in {
			if unsafe.StringData(p) == unsafe.StringData(q) {
				t.Errorf("P2: the path %q is told in the memory in which it was handed in", q)
			}
		}
	}
	is(t, "the paths that are told", len(told), 5)
}

func TestNoneAndEmpty(t *testing.T) {
	bare := []api.Item{{Path: "a", Dir: true, Data: []byte{}}, {Path: "a/x", Data: []byte{}}}
	d, blobs, e := tree.Build(32, bare)
	root, want := buildOf(32, list(dir("a"), file("a/x")))
	if d != root || e != api.OK {
		t.Errorf("P2: Build: %x, %v", d, e)
	}
	sameBlobs(t, "P2: Build", blobs, want)
	for _, l := range [][]api.Item{nil, {}} {
		for _, keep := range [][]string{nil, {}} {
			left, missing, e := tree.Cut(l, keep)
			is(t, "P2: Cut", len(left)+len(missing)+int(e), 0)
			is(t, "P2: CheckKeep", tree.CheckKeep(keep), api.OK)
		}
		is(t, "P2: Check", tree.Check(l), api.OK)
	}
}

// P3: the same calls answer the same.
func TestSameAgain(t *testing.T) {
	r := seeded(3)
	for range 50 {
		l := drawTree(r, "", 3)
		one, ones, _ := tree.Build(32, l)
		for range 5 {
			d, blobs, _ := tree.Build(32, l)
			is(t, "P3: the root", d, one)
			sameBlobs(t, "P3: the blobs", blobs, ones)
		}
	}
}
