package diff_test

import (
	"strings"
	"testing"

	"retort/api"
	"retort/cas"
	"retort/diff"
	"retort/tree"
)

// read takes a line for each item: a directory's begins with a +; behind a path and a = stand a file's bytes.
func read(text string) []api.Item {
	var l []api.Item
	if text == "" {
		return nil
	}
	for line := range strings.SplitSeq(text, "\n") {
		p, data, _ := strings.Cut(line, "=")
		if rest, isDir := strings.CutPrefix(p, "+"); isDir {
			l = append(l, api.Item{Path: rest, Dir: true, Data: []byte(data)})
		} else {
			l = append(l, file(p, []byte(data)...))
		}
	}
	return l
}

func FuzzTrees(f *testing.F) {
	f.Add("+a\na/x=1\nb=2", "+a\na/x=1\nb=5", "+a\na/x=3\n+c", 32)
	f.Add("", "+d\nd/p", "+d\nd/q", 1)
	f.Add("", "d", "+d\nd/q", 2)
	f.Add("d=1", "+d\nd/e=1", "+d\nd/e=2", 33)
	f.Add("a/b", "a", "b\na", 0)
	f.Fuzz(func(t *testing.T, one, two, three string, width int) {
		x, o, u := read(one), read(two), read(three)
		e := api.OK
		for _, l := range [][]api.Item{x, o, u} {
			if tree.Check(l) != api.OK {
				e = api.ErrItems
			}
		}
		l, conflicts, got := diff.Merge(x, o, u)
		if e != api.OK {
			is(t, "P704: no tree", got, e)
			return
		}
		want, clashes := mergeOf(x, o, u)
		is(t, "P704", got, tree.Check(want))
		if got == api.OK {
			sameItems(t, "P704", l, want)
			sameConflicts(t, "P704", conflicts, clashes)
			followsMerge(t, "fuzz", x, o, u)
		}
		if width < 1 || width > 32 {
			_, e := diff.Plain(width, o, u)
			is(t, "P702: the width", e, api.ErrWidth)
			width = 32
		}
		plain(t, "fuzz", width, o, u, plainOf(width, o, u))
		s := store(t, width, api.MaxStore)
		a, e := tree.Keep(s, o)
		b, wrong := tree.Keep(s, u)
		if e != api.OK || wrong != api.OK {
			return // ErrClash
		}
		changes, e := diff.Between(s, a, b, greatest())
		is(t, "P701", e, api.OK)
		sameChanges(t, "P702", changes, plainOf(width, o, u))
		isFew(t, changes)
		there, e := diff.Lay(s, o, changes)
		is(t, "P705", e, api.OK)
		sameItems(t, "P705", there, u)
	})
}

// readChanges takes five texts for each change: its path; its kind, and those of its entries; their names, and the texts whose digests they have.
func readChanges(s *cas.Store, text string) []api.Change {
	var l []api.Change
	for line := range strings.SplitSeq(text, "\n") {
		parts := strings.Split(line+";;;;;;", ";")
		kinds := []byte(parts[1] + "000")
		entry := func(kind byte, name, data string) api.Entry {
			x := api.Entry{Name: name, Kind: int(kind) - '0'}
			if x.Kind == api.KDir {
				x.Digest = rootOf(s.Width(), nil)
			}
			if data != "" {
				x.Digest = s.Digest([]byte(data))
			}
			return x
		}
		l = append(l, api.Change{Path: parts[0], Kind: int(kinds[0]) - '0', Was: entry(kinds[1], parts[2], parts[3]), Now: entry(kinds[2], parts[4], parts[5])})
	}
	return l
}

func FuzzLay(f *testing.F) {
	f.Add("+a\na/x=1\nb=2", "a/x;311;x;1;x;3\nb;210;b;2\nc;102;;;c;", 32)
	f.Add("b=1", "b;312;b;1;b\nb/c;101;;;c;1\nb/c;210;c;1\nb;220;b", 1)
	f.Add("", "a;102;;;a\na/a;102;;;a\na/a/a;101;;;a;2", 2)
	f.Add("a", "a;101;;;a;1\n./a;1", 3)
	f.Fuzz(func(t *testing.T, text, changed string, width int) {
		l := read(text)
		if len(l) > 100 || tree.Check(l) != api.OK {
			return
		}
		s := store(t, 1+int(uint(width)%32), 1<<20)
		for _, b := range []string{"1", "2", "3", "\x01\x00"} {
			s.Put([]byte(b))
		}
		changes := readChanges(s, changed)
		want, e, gets := layOf(s, l, changes)
		lays(t, "fuzz", s, l, changes, want, e, gets)
	})
}
