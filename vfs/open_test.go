package vfs_test

import (
	"fmt"
	"math"
	"strings"
	"testing"

	"retort/api"
)

func TestTheExamples(t *testing.T) {
	x := made(t, quota(10, 4, 2), dir("a"), file("a/x", 1, 2, 3))
	x.opens(t, "a//x", 0, 0, api.OK)
	x.reads(t, 0, 2, "\x01\x02")
	x.opens(t, "a/../a/x", 3, 1, api.OK)
	x.writes(t, 1, "\x09", api.OK)
	x.reads(t, 0, 5, "\x03\x09")
	x.opens(t, "a", 0, 0, api.ErrIsDir)

	is(t, "P906", x.shut(t, 0), api.OK)
	x.opens(t, "b/c/d", 5, 0, api.ErrFiles)
	x.opens(t, "b/c", 5, 0, api.OK)
	x.opens(t, "b/y", 1, 0, api.ErrFiles)

	x.writes(t, 0, "7 bytes", api.ErrQuota)
	x.writes(t, 0, "6 more", api.OK)
	x.writes(t, 0, "1", api.ErrQuota)
	l, e := x.list(t, "")
	sameTexts(t, "P905", l, []string{"a/", "b/"})
	is(t, "P905", e, api.OK)

	for _, mode := range []int{8, 4, -1} {
		x.opens(t, "x", mode, 0, api.ErrMode)
	}
	x.opens(t, "..", 0, 0, api.ErrRoot)
	is(t, "P906", x.shut(t, 7), api.ErrHandle)
}

// places is an FS in which there is each kind of thing that a path may come to.
func places(t testing.TB, q api.Quota) both {
	return made(t, q, dir("d"), dir("d/d"), text("d/f", "deep"), text("f", "flat"))
}

// paths are right and wrong ones, by what Clean answers.
func paths() map[string]api.Errno {
	long, deep := strings.Repeat("n", 64), strings.Repeat("n/", 32)
	return map[string]api.Errno{
		"": api.OK, "/": api.OK, ".": api.OK, "./": api.OK, "d/..": api.OK, "f/../": api.OK, "q/..": api.OK,
		"f": api.OK, "/f": api.OK, "f/": api.OK, "./f/.": api.OK, "d/../f": api.OK, "q/../f": api.OK, "f/q/..": api.OK,
		"d": api.OK, "d/": api.OK, "d/d": api.OK, "d//d": api.OK, "d/d/../d": api.OK,
		"d/f": api.OK, "/d/./f/": api.OK, "f/../d/f": api.OK,
		"q": api.OK, "q/": api.OK, "d/q": api.OK, "d/d/q": api.OK, "d/f/../q": api.OK, long: api.OK, "d/" + long: api.OK,
		"q/q": api.OK, "q/q/q": api.OK, "d/q/q": api.OK, "d/d/q/q": api.OK, "q/d": api.OK, "q/f": api.OK,
		"f/q": api.OK, "f/f": api.OK, "f/q/q": api.OK, "d/f/q": api.OK, "d/f/q/q/q": api.OK, "f/d": api.OK,
		deep: api.OK, strings.Repeat("n/../", 99) + "f": api.OK, strings.Repeat("/", 4095) + "f": api.OK,
		"..": api.ErrRoot, "/..": api.ErrRoot, "d/../..": api.ErrRoot, "f/../../f": api.ErrRoot, "../\x00": api.ErrRoot,
		"\x00": api.ErrName, "f\x00": api.ErrName, "d/\x00": api.ErrName, "f/\x00": api.ErrName, "q/q/" + long + "n": api.ErrName, "\x00/..": api.ErrName, "\x00/../..": api.ErrName,
		deep + "n": api.ErrDeep, "d/" + deep: api.ErrDeep, "f/" + deep: api.ErrDeep,
		strings.Repeat("/", 4096) + "f": api.ErrLong, strings.Repeat("\x00", 4097): api.ErrLong, strings.Repeat("../", 1366): api.ErrLong,
	}
}

// Each mode with each path, with room for nothing, for little, for much.
func TestOpenAll(t *testing.T) {
	seen := map[api.Errno]int{}
	for _, q := range []api.Quota{quota(8, 4, 0), quota(8, 4, 1), quota(8, 5, 0), quota(8, 5, 1), quota(8, 6, 1), quota(8, 99, 0), quota(8, 99, 1), greatest()} {
		for p, wrong := range paths() {
			for mode := -1; mode <= 8; mode++ {
				_, e := places(t, q).open(t, p, mode)
				seen[e]++
				switch right := mode >= 0 && mode <= 7 && mode != 4; {
				case !right:
					is(t, fmt.Sprintf("P902: the mode %d", mode), e, api.ErrMode)
				case wrong != api.OK:
					is(t, fmt.Sprintf("P902: Clean's error of %.20q", p), e, wrong)
				}
			}
		}
	}
	for _, e := range []api.Errno{api.OK, api.ErrMode, api.ErrLong, api.ErrName, api.ErrRoot, api.ErrDeep, api.ErrIsDir, api.ErrNotDir, api.ErrNoEnt, api.ErrFiles, api.ErrOpen} {
		if seen[e] == 0 {
			t.Errorf("%v was never met", e)
		}
	}
}

func TestOpenModes(t *testing.T) {
	x := places(t, greatest())
	for _, mode := range []int{math.MinInt, -8, -4, -1, 4, 8, 9, 15, 1<<32 + 1, 1 << 62, math.MaxInt} {
		for _, p := range []string{"f", "", "..", "\x00", "q/q", "f/q", "d"} {
			x.opens(t, p, mode, 0, api.ErrMode)
		}
	}
	for h, mode := range []int{0, 1, 2, 3, 5, 6, 7} {
		x.opens(t, "f", mode, h, api.OK)
	}
}

// What Open makes, by mode: MRead nothing; the others the file; with MMake the directories on the way, too.
func TestOpenMakes(t *testing.T) {
	for _, c := range []struct {
		p    string
		mode int
		e    api.Errno
		want string
	}{
		{"q", 0, api.ErrNoEnt, ""}, {"q", 1, api.OK, "q"}, {"q", 2, api.OK, "q"}, {"q", 3, api.OK, "q"},
		{"q", 5, api.OK, "q"}, {"q", 6, api.OK, "q"}, {"q", 7, api.OK, "q"},
		{"q/r", 0, api.ErrNoEnt, ""}, {"q/r", 1, api.ErrNoEnt, ""}, {"q/r", 2, api.ErrNoEnt, ""}, {"q/r", 3, api.ErrNoEnt, ""},
		{"q/r", 5, api.OK, "q/ q/r"}, {"q/r", 6, api.OK, "q/ q/r"}, {"q/r", 7, api.OK, "q/ q/r"},
		{"d/q/r/s", 5, api.OK, "d/q/ d/q/r/ d/q/r/s"}, {"d/q/r/s", 1, api.ErrNoEnt, ""},
		{"d/q", 1, api.OK, "d/q"}, {"d/d/q", 3, api.OK, "d/d/q"},
		{"f/q", 0, api.ErrNotDir, ""}, {"f/q", 1, api.ErrNotDir, ""}, {"f/q", 5, api.ErrNotDir, ""}, {"d/f/q/r", 7, api.ErrNotDir, ""},
		{"d", 0, api.ErrIsDir, ""}, {"d", 1, api.ErrIsDir, ""}, {"d/d", 6, api.ErrIsDir, ""}, {"", 0, api.ErrIsDir, ""}, {"", 7, api.ErrIsDir, ""},
	} {
		x := places(t, greatest())
		was := map[string]bool{}
		for _, y := range x.f.Items() {
			was[y.Path] = true
		}
		x.opens(t, c.p, c.mode, 0, c.e)
		var new []string
		for _, y := range x.f.Items() {
			if p := y.Path; !was[p] && y.Dir {
				new = append(new, p+"/")
			} else if !was[p] {
				new = append(new, p)
			}
		}
		is(t, fmt.Sprintf("P902: what Open(%q, %d) makes", c.p, c.mode), strings.Join(new, " "), c.want)
	}
}

// So many names are missing: room for just as many, and for one less.
func TestOpenLastFile(t *testing.T) {
	for missing := 1; missing <= 32; missing++ {
		p := strings.Repeat("n/", missing-1) + "n"
		x := made(t, quota(0, missing, 9))
		x.opens(t, p+"/n", 5, 0, map[bool]api.Errno{true: api.ErrDeep, false: api.ErrFiles}[missing == 32])
		x.opens(t, p, 5, 0, api.OK)
		x.opens(t, "m", 5, 0, api.ErrFiles)
		x.opens(t, p, 6, 1, api.OK)
		x = made(t, quota(0, missing-1, 9))
		x.opens(t, p, 5, 0, api.ErrFiles)
		is(t, "P4: nothing is made", x.f.Used().Files, 0)
	}
	x := places(t, quota(8, 6, 9))
	x.opens(t, "d/d/q/r/s", 5, 0, api.ErrFiles)
	x.opens(t, "d/d/q/r", 5, 0, api.OK)
	x.opens(t, "d/d/q/s", 5, 0, api.ErrFiles)
	x.opens(t, "d/d/q/s", 0, 0, api.ErrNoEnt)
	x.opens(t, "d/d/q/r", 0, 1, api.OK)
}

// MaxFan items right below a directory, and one more.
func TestOpenFan(t *testing.T) {
	x := made(t, greatest(), append(append(list(dir("a")), fan("a/", 1022)...), dir("b"))...)
	x.opens(t, "a/x", 1, 0, api.OK)
	x.opens(t, "a/d/e/f", 5, 1, api.OK)
	for _, mode := range []int{1, 2, 3, 5, 6, 7} {
		x.opens(t, "a/y", mode, 0, api.ErrFiles)
	}
	x.opens(t, "a/y", 0, 0, api.ErrNoEnt)
	x.opens(t, "a/y/z", 5, 0, api.ErrFiles)
	x.opens(t, "a/y/z", 1, 0, api.ErrNoEnt)
	x.opens(t, "a/d/e/g", 1, 2, api.OK)
	x.opens(t, "a/x", 1, 3, api.OK)
	x.opens(t, "a/00000", 6, 4, api.OK)
	x.opens(t, "b/y/z", 5, 5, api.OK)
	if l, e := x.list(t, "a"); len(l) != 1024 || e != api.OK {
		t.Errorf("P905: %d, %v", len(l), e)
	}
	x = made(t, greatest(), append(fan("", 1022), dir("d"))...)
	x.opens(t, "e/f", 5, 0, api.OK)
	x.opens(t, "g", 1, 0, api.ErrFiles)
	x.opens(t, "g/h", 5, 0, api.ErrFiles)
	x.opens(t, "d/g/h", 5, 1, api.OK)
	is(t, "P910: a tree", isTree(x.f.Items()), true)
}

// A directory is filled to the last item by Open alone.
func TestOpenFillsFan(t *testing.T) {
	x := made(t, quota(0, 5000, 1))
	for i := range 1025 {
		p := fmt.Sprintf("d/%d/f", i*7919%10000)
		h, e := x.f.Open(p, 5)
		if want := map[bool]api.Errno{true: api.ErrFiles, false: api.OK}[i == 1024]; h != 0 || e != want {
			t.Fatalf("P902: %s: %d, %v, want %v", p, h, e, want)
		}
		x.f.Close(0)
	}
	is(t, "P908", x.f.Used(), quota(0, 2049, 0))
	is(t, "P910: a tree", isTree(x.f.Items()), true)
}

// The errors of Open in their order: each mends what the one ahead of it refuses.
func TestOpenOrder(t *testing.T) {
	full := append(append(list(dir("d")), fan("d/", 1024)...), file("f", 1))
	x := made(t, quota(1, 1026, 0), full...)
	x.opens(t, "..", 4, 0, api.ErrMode)
	x.opens(t, "..", 5, 0, api.ErrRoot)
	x.opens(t, "", 5, 0, api.ErrIsDir)
	x.opens(t, "f/q", 5, 0, api.ErrNotDir)
	x.opens(t, "q/r", 1, 0, api.ErrNoEnt)
	x.opens(t, "d", 1, 0, api.ErrIsDir)
	x.opens(t, "d/q", 0, 0, api.ErrNoEnt)
	x.opens(t, "d/q", 1, 0, api.ErrFiles)
	x.opens(t, "q", 1, 0, api.ErrFiles)
	x.opens(t, "d/00000", 1, 0, api.ErrOpen)
	x = made(t, quota(1, 1099, 0), full...)
	x.opens(t, "d/q", 1, 0, api.ErrFiles)
	x.opens(t, "d/q/r", 5, 0, api.ErrFiles)
	x.opens(t, "q", 1, 0, api.ErrOpen)
	x.opens(t, "f", 2, 0, api.ErrOpen)
	x.has(t, "f", "\x01")
	x.opens(t, "q/q/q", 6, 0, api.ErrOpen)
	is(t, "P4: nothing is made", x.f.Used().Files, 1026)
}

// A file that is there is found in its directory, whatever lies close to its name.
func TestOpenClose(t *testing.T) {
	x := made(t, greatest(), dir("a"), text("a/b", "1"), text("a-", "2"), text("a.", "3"), dir("ab"), text("ab/a", "4"), text("abc", "5"))
	for h, c := range []string{"a/b1", "a-2", "a.3", "ab/a4", "abc5"} {
		p, want := c[:len(c)-1], c[len(c)-1:]
		x.opens(t, p, 0, h, api.OK)
		x.reads(t, h, 9, want)
	}
	x.opens(t, "a/", 0, 0, api.ErrIsDir)
	x.opens(t, "a-/b", 0, 0, api.ErrNotDir)
	x.opens(t, "a/b/c", 5, 0, api.ErrNotDir)
	x.opens(t, "b", 0, 0, api.ErrNoEnt)
	x.opens(t, "a/a", 0, 0, api.ErrNoEnt)
}

// The least number that is none, whichever were closed.
func TestLeastHandle(t *testing.T) {
	x := made(t, quota(9, 9, 8), file("a"))
	for h := range 8 {
		x.opens(t, "a", h%4, h, api.OK)
	}
	x.opens(t, "a", 0, 0, api.ErrOpen)
	for _, h := range []int{5, 2, 7} {
		is(t, "P906", x.shut(t, h), api.OK)
		is(t, "P906: again", x.shut(t, h), api.ErrHandle)
	}
	for _, h := range []int{2, 5, 7} {
		x.opens(t, "a", 0, h, api.OK)
	}
	x.opens(t, "a", 0, 0, api.ErrOpen)
	for h := range 8 {
		is(t, "P906", x.shut(t, h), api.OK)
	}
	x.opens(t, "a", 0, 0, api.OK)
	is(t, "P906", x.shut(t, 0), api.OK)
	x.opens(t, "a", 0, 0, api.OK)
}

func TestCloseWrong(t *testing.T) {
	x := places(t, quota(8, 9, 3))
	for _, h := range []int{math.MinInt, -1, 0, 1, 2, 3, 63, 64, 65, math.MaxInt} {
		is(t, "P906: none is open", x.shut(t, h), api.ErrHandle)
	}
	x.opens(t, "f", 0, 0, api.OK)
	for _, h := range []int{math.MinInt, -1, 1, 64, math.MaxInt} {
		is(t, "P906: another", x.shut(t, h), api.ErrHandle)
	}
	is(t, "P906", x.shut(t, 0), api.OK)
}

// MFresh cuts, with MMake too; MWrite and MAppend do not; the handle begins at place 0.
func TestOpenCuts(t *testing.T) {
	for _, mode := range []int{0, 1, 2, 3, 5, 6, 7} {
		x := places(t, quota(8, 9, 9))
		x.opens(t, "f", mode, 0, api.OK)
		want := "flat"
		if mode == 2 || mode == 6 {
			want = ""
		}
		x.has(t, "f", want)
		x.has(t, "d/f", "deep")
		is(t, "P908: bytes", x.f.Used().Bytes, 4+len(want))
		p, at, e := x.f.Place(0)
		if p != "f" || at != 0 || e != api.OK {
			t.Errorf("P908: mode %d: %q, %d, %v", mode, p, at, e)
		}
	}
}
