package tree_test

import (
	"bytes"
	"math/rand/v2"
	"slices"
	"strings"
	"testing"

	"retort/api"
	"retort/tree"
)

// trees are such as may be.
func trees() map[string][]api.Item {
	long := strings.Repeat("n", 64)
	return map[string][]api.Item{
		"none":               nil,
		"empty":              {},
		"a file":             list(file("a")),
		"a directory":        list(dir("a")),
		"no bytes":           list(api.Item{Path: "a", Dir: true, Data: []byte{}}, api.Item{Path: "b", Data: []byte{}}),
		"the example":        example(),
		"the order of walks": list(dir("a"), file("a/b"), file("a-"), file("a."), dir("ab"), file("ab/a")),
		"fronts":             list(file("a"), file("aa"), file("aaa"), file("b")),
		"odd names":          list(file("\x01"), file(" "), file("..."), file("..a"), file(".a"), file("\xff"), file("\xff\xff")),
		"long names":         chain(long, 32),
		"as deep as may be":  append(chain("a", 31), file(strings.Repeat("a/", 31)+"a", 7)),
		"directories":        chain("a", 32),
		"as many at the root": append(fan("", 1023), dir("z"),
			file("z/a"), file("z/b")),
		"as many in one":    append(list(dir("a")), fan("a/", 1024)...),
		"as many in both":   append(append(list(dir("a")), append(fan("a/", 1024), dir("b"))...), fan("b/", 1024)...),
		"up and down":       list(dir("a"), dir("a/b"), file("a/b/c"), file("a/c"), dir("b"), dir("b/b"), file("b/b/c"), file("c")),
		"as long as may be": list(api.Item{Path: "a", Data: make([]byte, 1<<20)}),
		"as many items":     many(1<<16 - 1),
		"as many bytes":     heavy(1 << 26),
		"as many and no more": append(list(file("!")),
			heavy(1<<26)...),
	}
}

// wrongs are such as may not be.
func wrongs() map[string][]api.Item {
	below := strings.Repeat("a/", 32)
	return map[string][]api.Item{
		"out of order":              list(file("b"), file("a")),
		"out of order further on":   list(dir("a"), file("a/b"), file("a/c"), file("a/a")),
		"not in the walk's order":   list(dir("a"), file("a-"), file("a/b")),
		"below behind":              list(file("a/b"), dir("a")),
		"back into a directory":     list(dir("a"), file("a/a"), file("b"), file("a/b")),
		"a file twice":              list(file("a"), file("a")),
		"a directory twice":         list(dir("a"), dir("a")),
		"a file and a directory":    list(file("a"), dir("a")),
		"a directory and a file":    list(dir("a"), file("a")),
		"no directory":              list(file("a/b")),
		"no directory between":      list(dir("a"), file("a/b/c")),
		"another directory":         list(dir("a"), file("a/b"), file("b/b")),
		"a front of its name":       list(dir("a"), file("ab/c")),
		"below a file":              list(file("a"), file("a/b")),
		"below a file further down": list(dir("a"), file("a/b"), file("a/b/c")),
		"bytes in a directory":      list(api.Item{Path: "a", Dir: true, Data: []byte{0}}),
		"the root":                  list(dir("")),
		"the root as a file":        list(file("")),
		"the root among others":     list(dir(""), file("a")),
		"a / behind":                list(dir("a/")),
		"a / ahead":                 list(file("/a")),
		"two /":                     list(dir("a"), file("a//b")),
		"/":                         list(dir("/")),
		".":                         list(file(".")),
		"..":                        list(file("..")),
		"a/.":                       list(dir("a"), file("a/.")),
		"a/..":                      list(dir("a"), file("a/..")),
		"a 0":                       list(file("a\x00")),
		"a long name":               list(file(strings.Repeat("n", 65))),
		"a long path":               list(file(strings.Repeat("n", 4097))),
		"one deeper":                append(chain("a", 32), file(below+"a")),
		"a directory deeper":        chain("a", 33),
		"one more at the root":      fan("", 1025),
		"a directory more":          append(fan("", 1024), dir("z")),
		"one more in one":           append(list(dir("a")), fan("a/", 1025)...),
		"one more behind others":    append(list(dir("a"), file("a/+")), append(fan("a/", 1023), file("a/x"))...),
		"one longer":                list(api.Item{Path: "a", Data: make([]byte, 1<<20+1)}),
		"one item more":             many(1 << 16),
		"many items more":           many(3 << 16),
		"one byte more":             heavy(1<<26 + 1),
		"one byte more ahead":       append(list(file("!", 1)), heavy(1<<26)...),
	}
}

func TestCheckTakes(t *testing.T) {
	for what, l := range trees() {
		is(t, "P601: "+what, tree.Check(l), api.OK)
		is(t, "the oracle: "+what, checkOf(l), api.OK)
	}
}

func TestCheckRefuses(t *testing.T) {
	for what, l := range wrongs() {
		is(t, "P601: "+what, tree.Check(l), api.ErrItems)
		is(t, "the oracle: "+what, checkOf(l), api.ErrItems)
		is(t, "P601: again, "+what, tree.Check(l), api.ErrItems)
	}
}

// What is right alone may be wrong behind others, and the other way round.
func TestCheckAmongOthers(t *testing.T) {
	for what, l := range wrongs() {
		if len(l) > 100 {
			continue
		}
		ahead := append(list(dir("!"), file("!/a"), dir("!/b")), l...)
		behind := append(slices.Clone(l), file("\xff\xff\xff"))
		is(t, "P601: others ahead: "+what, tree.Check(ahead), api.ErrItems)
		is(t, "P601: others behind: "+what, tree.Check(behind), api.ErrItems)
	}
}

// spoilt is a tree with one thing about it changed, which may make it none.
func spoilt(r *rand.Rand, l []api.Item) []api.Item {
	l = slices.Clone(l)
	if len(l) == 0 {
		return l
	}
	i, j := r.IntN(len(l)), r.IntN(len(l))
	switch r.IntN(9) {
	case 0:
		l[i], l[j] = l[j], l[i]
	case 1:
		l = slices.Delete(l, i, i+1)
	case 2:
		l = slices.Insert(l, j, l[i])
	case 3:
		l[i].Dir = !l[i].Dir
	case 4:
		l[i].Data = []byte{1}
	case 5:
		l[i].Path = l[j].Path + "/" + names()[r.IntN(len(names()))]
	case 6:
		l[i].Path = names()[r.IntN(len(names()))]
	case 7:
		l[i].Path += []string{"", "/", "a", "\x00", "\x01", "/.", "/..", "//a"}[r.IntN(8)]
	case 8:
		slices.SortFunc(l, func(x, y api.Item) int { return strings.Compare(x.Path, y.Path) })
	}
	return l
}

func TestCheckDrawn(t *testing.T) {
	r := seeded(601)
	seen := map[api.Errno]int{}
	for range 20000 {
		l := drawTree(r, "", 3)
		for range r.IntN(3) {
			l = spoilt(r, l)
		}
		want := checkOf(l)
		if got := tree.Check(l); got != want {
			t.Fatalf("P601: %s: %v, want %v", brief(l), got, want)
		}
		seen[want]++
	}
	if seen[api.OK] < 1000 || seen[api.ErrItems] < 1000 {
		t.Error("too few of a kind:", seen)
	}
}

// P6: the faces that are handed items tell ErrItems wherever Check does, in their place among their errors.
func TestErrItemsEverywhere(t *testing.T) {
	for what, l := range wrongs() {
		s := store(t, 32, 1<<20)
		was := lying(s)
		d, e := tree.Keep(s, l)
		is(t, "P604: "+what, e, api.ErrItems)
		is(t, "P4: "+what, d, api.Digest{})
		is(t, "P4: the Store, "+what, lying(s), was)
		is(t, "P604: nothing is put, "+what, s.Counts(), api.Counts{})
		for _, width := range []int{1, 32} {
			d, b, e := tree.Build(width, l)
			if d != (api.Digest{}) || len(b) > 0 || e != api.ErrItems {
				t.Errorf("P603: %s: %x, %d blobs, %v", what, d, len(b), e)
			}
		}
		for _, width := range []int{-1 << 63, -1, 0, 33, 1<<63 - 1} {
			d, b, e := tree.Build(width, l)
			if d != (api.Digest{}) || len(b) > 0 || e != api.ErrWidth {
				t.Errorf("P603: %s: %x, %d blobs, %v", what, d, len(b), e)
			}
		}
		for _, keep := range [][]string{nil, {""}, {"b", "a"}} {
			left, missing, e := tree.Cut(l, keep)
			if len(left) > 0 || len(missing) > 0 || e != api.ErrItems {
				t.Errorf("P606: %s: %d items, %q, %v", what, len(left), missing, e)
			}
		}
	}
}

// The bytes of files are not looked at by what they say.
func TestCheckAnyBytes(t *testing.T) {
	for _, b := range [][]byte{{0}, {1, 0}, {1, 1}, bytes.Repeat([]byte{255}, 1000)} {
		is(t, "P601", tree.Check(list(file("a", b...))), api.OK)
	}
}
