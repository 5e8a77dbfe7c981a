package path_test

import (
	"iter"
	"math/rand/v2"
	"slices"
	"strings"
	"testing"

	"retort/path"
)

func plainLess(a, b string) bool { return slices.Compare(parts(a), parts(b)) < 0 }

func plainUnder(a, b string) bool {
	x, y := parts(a), parts(b)
	return len(x) <= len(y) && slices.Equal(x, y[:len(x)])
}

// orderTexts have bytes on both sides of / in them, and parts that are fronts of others.
func orderTexts() []string {
	return append(texts(4, "/", "a", "-"), "\x00", "\x00/a", "a\x00", "a\x00/b", "a.", "a.b", "a0", "a/0", "a/.", "A", "é", "\xc3", "\xc3/", "\xff", "a\xff", "/\xff", "//\x00", "a/\x00/b", "a/b/c", "ab/c", "ab")
}

func TestNames(t *testing.T) {
	all := append(texts(6, "/", "a", "é"), "a//b", "\x00/\xff", "./..", row(33, "a"), strings.Repeat("/", 4097))
	for _, s := range all {
		want := parts(s)
		if got := slices.Collect(path.Names(s)); !slices.Equal(got, want) {
			t.Errorf("P306: %q: %q, want %q", s, got, want)
		}
		if got := path.Depth(s); got != len(want) {
			t.Errorf("P306: %q: %d parts, want %d", s, got, len(want))
		}
	}
	for s, want := range map[string]int{"": 0, "/": 2, "//": 3, "a": 1, "a/b": 2, "a//b": 3, "/a/": 3} {
		if got := path.Depth(s); got != want {
			t.Errorf("P306: %q: %d parts, want %d", s, got, want)
		}
	}
}

func TestNamesLeftEarly(t *testing.T) {
	seq := path.Names("a/b//c")
	for most := range 5 {
		var got []string
		for n := range seq {
			if len(got) == most {
				break
			}
			got = append(got, n)
		}
		if want := []string{"a", "b", "", "c"}[:min(most, 4)]; !slices.Equal(got, want) {
			t.Errorf("P5: left behind %d: %q", most, got)
		}
	}
	calls := 0
	path.Names("a/b/c")(func(string) bool { calls++; return false })
	path.Names("")(func(string) bool { t.Error("P306: the root has a name"); return true })
	if calls != 1 {
		t.Errorf("P5: left at once, but called %d times", calls)
	}
}

func TestNamesAgain(t *testing.T) {
	for _, s := range []string{"", "/", "a", "a/b/c"} {
		seq := path.Names(s)
		for range 3 {
			if got := slices.Collect(seq); !slices.Equal(got, parts(s)) {
				t.Errorf("P5: %q anew: %q", s, got)
			}
		}
	}
}

func TestNamesWithinItself(t *testing.T) {
	seq := path.Names("a/b/c")
	var got []string
	for x := range seq {
		for y := range seq {
			got = append(got, x+y)
			if y == "b" && x == "b" {
				break
			}
		}
	}
	if want := []string{"aa", "ab", "ac", "ba", "bb", "ca", "cb", "cc"}; !slices.Equal(got, want) {
		t.Errorf("P5: within itself: %q", got)
	}
	one, stopOne := iter.Pull(seq)
	other, stopOther := iter.Pull(seq)
	defer stopOne()
	defer stopOther()
	for _, want := range []string{"a", "b", "c"} {
		x, _ := one()
		y, _ := other()
		if x != want || y != want {
			t.Errorf("P5: side by side: %q, %q, want %q", x, y, want)
		}
	}
}

func TestLess(t *testing.T) {
	rising := []string{"", "/", "/a", "\x00", "\x00/a", "a", "a/", "a/b", "a/b/", "a/b/c", "a/c", "a\x00", "a-", "a-/b", "a.", "a0", "ab", "ab/a", "b", "é", "\xff"}
	for i, a := range rising {
		for k, b := range rising {
			if path.Less(a, b) != (i < k) {
				t.Errorf("P307: %q, %q: %v", a, b, i >= k)
			}
		}
	}
	for c := range 256 {
		front, back := "a"+string([]byte{byte(c)}), "a/b"
		if c != '/' && (path.Less(front, back) || !path.Less(back, front)) {
			t.Errorf("P307: %q is ahead of %q", front, back)
		}
	}
}

func TestUnder(t *testing.T) {
	for _, c := range []struct {
		a, b string
		want bool
	}{
		{"a", "a/b", true}, {"", "x", true}, {"a", "ab", false}, {"", "", true}, {"", "/", true}, {"a", "a", true}, {"a/b", "a/b/c/d", true}, {"a", "a/", true}, {"a/", "a//b", true},
		{"x", "", false}, {"/", "", false}, {"a/b", "a", false}, {"a/b", "a/bc", false}, {"a/", "a", false}, {"a/", "a/b", false}, {"/", "/a", false}, {"a", "b/a", false}, {"b", "a/b", false}, {"/", "//", true},
	} {
		if path.Under(c.a, c.b) != c.want {
			t.Errorf("P308: %q, %q: %v", c.a, c.b, !c.want)
		}
	}
}

// TestOrderAll holds Less and Under against rows of parts, for all pairs.
func TestOrderAll(t *testing.T) {
	all := orderTexts()
	for _, a := range all {
		for _, b := range all {
			if path.Less(a, b) != plainLess(a, b) {
				t.Fatalf("P307: %q, %q: %v", a, b, path.Less(a, b))
			}
			if path.Under(a, b) != plainUnder(a, b) {
				t.Fatalf("P308: %q, %q: %v", a, b, path.Under(a, b))
			}
			if a != b && path.Less(a, b) == path.Less(b, a) || a == b && path.Less(a, b) {
				t.Fatalf("P311: %q, %q: %v both ways", a, b, path.Less(a, b))
			}
			if path.Under(a, b) && a != b && !path.Less(a, b) {
				t.Fatalf("P311: %q is Under %q, but not behind it", b, a)
			}
		}
	}
}

func TestOrderOfThree(t *testing.T) {
	all := orderTexts()
	r := rand.New(rand.NewPCG(3, 311))
	for range 300000 {
		a, b, c := all[r.IntN(len(all))], all[r.IntN(len(all))], all[r.IntN(len(all))]
		if path.Less(a, b) && path.Less(b, c) && !path.Less(a, c) {
			t.Fatalf("P311: %q, %q, %q rise one by one alone", a, b, c)
		}
		if path.Under(a, c) && path.Less(a, b) && path.Less(b, c) && !path.Under(a, b) {
			t.Fatalf("P311: %q stands between %q and %q", b, a, c)
		}
	}
	slices.SortFunc(all, func(a, b string) int {
		switch {
		case path.Less(a, b):
			return -1
		case path.Less(b, a):
			return 1
		}
		return 0
	})
	for i, a := range all {
		inside := true
		for _, b := range all[i:] {
			if path.Under(a, b) && !inside {
				t.Fatalf("P311: %q is not right behind all else that is Under %q", b, a)
			}
			inside = path.Under(a, b)
		}
	}
}

// TestOrderOfLongTexts: what is said of parts holds of any text, not of paths alone.
func TestOrderOfLongTexts(t *testing.T) {
	long := strings.Repeat("a/", 1<<20)
	if got := path.Depth(long); got != 1<<20+1 {
		t.Errorf("P306: %d parts", got)
	}
	n := 0
	for range path.Names(long) {
		n++
	}
	if n != 1<<20+1 {
		t.Errorf("P306: gone over %d parts", n)
	}
	if !path.Less(long, long+"a") || path.Less(long+"a", long) || path.Less(long, long) || !path.Less(long+"a/b", long+"a-") {
		t.Error("P307: long texts")
	}
	if !path.Under(long, long+"/a") || path.Under(long, long+"a") || path.Under(long+"a", long) || !path.Under(long, long) {
		t.Error("P308: long texts")
	}
}
