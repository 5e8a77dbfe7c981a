package path_test

import (
	"math/rand/v2"
	"slices"
	"strings"
	"testing"
	"unsafe"

	"retort/api"
	"retort/path"
)

// parts is the chapter's word, told by Go's own Split.
func parts(s string) []string {
	if s == "" {
		return nil
	}
	return strings.Split(s, "/")
}

func plainIsName(s string) bool {
	ok := len(s) >= 1 && len(s) <= 64 && s != "." && s != ".."
	for i := range len(s) {
		ok = ok && s[i] != 0 && s[i] != '/'
	}
	return ok
}

func plainClean(s string) (string, api.Errno) {
	if len(s) > 4096 {
		return "", api.ErrLong
	}
	var row []string
	for _, part := range parts(s) {
		if part == "" || part == "." {
			continue
		}
		if part != ".." {
			if !plainIsName(part) {
				return "", api.ErrName
			}
			row = append(row, part)
			continue
		}
		if len(row) == 0 {
			return "", api.ErrRoot
		}
		row = row[:len(row)-1]
	}
	if len(row) > 32 {
		return "", api.ErrDeep
	}
	return strings.Join(row, "/"), api.OK
}

// texts are all of up to most of these signs.
func texts(most int, signs ...string) []string {
	all := []string{""}
	from := 0
	for range most {
		upto := len(all)
		for _, s := range all[from:upto] {
			for _, c := range signs {
				all = append(all, s+c)
			}
		}
		from = upto
	}
	return all
}

// someText has many parts that are special, and few that are like others.
func someText(r *rand.Rand, most int) string {
	signs := []string{"", ".", "..", "...", "a", "b", "a", "ab", "-", "é", "\xc3", "\x00", "*", strings.Repeat("n", 64), strings.Repeat("n", 65)}
	row := make([]string, r.IntN(most+1))
	for i := range row {
		k := r.IntN(len(signs))
		if k >= 10 {
			k = r.IntN(len(signs))
		}
		row[i] = signs[k]
	}
	return strings.Join(row, "/")
}

// row is so many names with / between.
func row(names int, name string) string {
	return strings.TrimSuffix(strings.Repeat(name+"/", names), "/")
}

func TestIsName(t *testing.T) {
	for s, want := range map[string]bool{
		"": false, ".": false, "..": false, "...": true, ".a": true, "a.": true, "..a": true, " ": true, "*": true, "?": true, "\\": true, "\n": true, "\x01": true, "\xff": true, "é": true,
		"/": false, "a/": false, "/a": false, "a/b": false, "\x00": false, "a\x00": false, "\x00a": false, "a\x00b": false, "\xc3\x00": false, "\xc3/": false,
		strings.Repeat("x", 63): true, strings.Repeat("x", 64): true, strings.Repeat("x", 65): false, strings.Repeat("x", 64+256): false,
		strings.Repeat("é", 32): true, strings.Repeat("é", 32) + "x": false, strings.Repeat("é", 33): false, strings.Repeat("\xff", 64): true, strings.Repeat("\xff", 65): false,
		strings.Repeat(".", 64): true, strings.Repeat("x", 63) + "/": false, strings.Repeat("x", 63) + "\x00": false,
	} {
		if path.IsName(s) != want {
			t.Errorf("P301: %q: %v", s, !want)
		}
	}
	for c := range 256 {
		for _, s := range []string{string([]byte{byte(c)}), string([]byte{'a', byte(c)}), string([]byte{byte(c), 'a'})} {
			if path.IsName(s) != plainIsName(s) {
				t.Errorf("P301: %q: %v", s, path.IsName(s))
			}
		}
	}
}

func TestCleanExamples(t *testing.T) {
	for s, want := range map[string]string{
		"/a/./b/../c//": "a/c", "": "", "/": "", "//": "", ".": "", "./": "", "./.": "", "a/..": "", "a/../": "", "/a": "a", "a/b/../../c": "c", "...": "...", "a": "a", "a/b": "a/b", " / ": " / ",
		"\xff/é/\xc3": "\xff/é/\xc3", "*/?/**": "*/?/**", "a\\b": "a\\b",
	} {
		if p, e := path.Clean(s); p != want || e != api.OK {
			t.Errorf("P302: %q: %q, %v, want %q", s, p, e, want)
		}
	}
	for s, want := range map[string]api.Errno{
		"..": api.ErrRoot, "a/../..": api.ErrRoot, "/..": api.ErrRoot, "./..": api.ErrRoot, "../a": api.ErrRoot, "a/\x00": api.ErrName, "\x00": api.ErrName, "a/\x00/..": api.ErrName, "../\x00": api.ErrRoot, "\x00/../..": api.ErrName,
	} {
		if p, e := path.Clean(s); p != "" || e != want {
			t.Errorf("P302: %q: %q, %v, want %v", s, p, e, want)
		}
	}
}

func TestCleanEdges(t *testing.T) {
	x64, x65 := strings.Repeat("x", 64), strings.Repeat("x", 65)
	up := func(n int) string { return strings.Repeat("/..", n) }
	for _, c := range []struct {
		s, p string
		e    api.Errno
	}{
		{strings.Repeat("/", 4096), "", api.OK}, {strings.Repeat("/", 4097), "", api.ErrLong},
		{strings.Repeat("/", 4095) + "a", "a", api.OK}, {strings.Repeat("/", 4096) + "a", "", api.ErrLong},
		{"../" + strings.Repeat("/", 4093), "", api.ErrRoot}, {"../" + strings.Repeat("/", 4094), "", api.ErrLong},
		{strings.Repeat("x", 4096), "", api.ErrName}, {strings.Repeat("x", 4097), "", api.ErrLong}, {strings.Repeat("é", 2048) + "x", "", api.ErrLong},
		{x64, x64, api.OK}, {x65, "", api.ErrName}, {x65 + "/..", "", api.ErrName}, {"a/" + x65 + "/../..", "", api.ErrName},
		{row(32, "a"), row(32, "a"), api.OK}, {row(33, "a"), "", api.ErrDeep}, {row(32, x64), row(32, x64), api.OK}, {row(33, x64), "", api.ErrDeep},
		{row(33, "a") + up(1), row(32, "a"), api.OK}, {row(34, "a") + up(1), "", api.ErrDeep}, {row(700, "a") + up(699), "a", api.OK}, {row(700, "a") + up(700), "", api.OK}, {row(700, "a") + up(701), "", api.ErrRoot},
		{row(33, "a") + "/\x00", "", api.ErrName}, {row(33, "a") + up(34), "", api.ErrRoot}, {row(33, "."), "", api.OK}, {row(1300, ".."), "", api.ErrRoot},
		{row(32, "a") + "/./", row(32, "a"), api.OK}, {row(2048, "a"), "", api.ErrDeep},
	} {
		if p, e := path.Clean(c.s); p != c.p || e != c.e {
			t.Errorf("P302: %.40q of %d bytes: %q, %v, want %q, %v", c.s, len(c.s), p, e, c.p, c.e)
		}
	}
}

// TestCleanAll holds Clean and IsClean against the chapter's words, for all short texts and many longer ones.
func TestCleanAll(t *testing.T) {
	all := append(texts(8, "/", ".", "a"), texts(4, "/", ".", "a", "-", "\x00", "\xc3", "é")...)
	r := rand.New(rand.NewPCG(3, 302))
	for range 20000 {
		all = append(all, someText(r, 6), someText(r, 70))
	}
	for _, s := range all {
		want, wantErr := plainClean(s)
		p, e := path.Clean(s)
		if p != want || e != wantErr {
			t.Fatalf("P302: %q: %q, %v, want %q, %v", s, p, e, want, wantErr)
		}
		if path.IsClean(s) != (wantErr == api.OK && want == s) {
			t.Fatalf("P303: %q: %v", s, path.IsClean(s))
		}
		if e != api.OK {
			continue
		}
		if again, e := path.Clean(p); again != p || e != api.OK || !path.IsClean(p) {
			t.Fatalf("P310: %q, of %q: %q, %v", p, s, again, e)
		}
	}
}

func TestIsClean(t *testing.T) {
	x64 := strings.Repeat("x", 64)
	for s, want := range map[string]bool{
		"": true, "a": true, "a/b": true, ".a/..b/...": true, x64: true, row(32, x64): true, "\xff": true, "*": true,
		"/": false, ".": false, "..": false, "a/": false, "/a": false, "a//b": false, "a/.": false, "./a": false, "a/..": false, "a/../a": false, "a/\x00": false, x64 + "x": false, row(33, "a"): false, strings.Repeat("x", 4097): false,
	} {
		if path.IsClean(s) != want {
			t.Errorf("P303: %.40q: %v", s, !want)
		}
	}
}

func TestSplit(t *testing.T) {
	x64 := strings.Repeat("x", 64)
	for p, want := range map[string][2]string{
		"c": {"", "c"}, "a/b": {"a", "b"}, "a/b/c": {"a/b", "c"}, "é/\xc3": {"é", "\xc3"}, "a/...": {"a", "..."}, row(32, x64): {row(31, x64), x64},
	} {
		if dir, name, e := path.Split(p); dir != want[0] || name != want[1] || e != api.OK {
			t.Errorf("P304: %q: %q, %q, %v", p, dir, name, e)
		}
	}
	for p, want := range map[string]api.Errno{
		"": api.ErrRoot, "/": api.ErrName, "a/": api.ErrName, "/a": api.ErrName, "a//b": api.ErrName, ".": api.ErrName, "..": api.ErrName, "a/..": api.ErrName, "a/./b": api.ErrName, "\x00": api.ErrName, "\x00/a": api.ErrName, row(33, "a"): api.ErrName, strings.Repeat("a", 65): api.ErrName, strings.Repeat("a", 4097): api.ErrName,
	} {
		if dir, name, e := path.Split(p); dir != "" || name != "" || e != want {
			t.Errorf("P304: %.40q: %q, %q, %v, want %v", p, dir, name, e, want)
		}
	}
}

func TestJoin(t *testing.T) {
	x64, deep := strings.Repeat("x", 64), row(32, "a")
	for _, c := range []struct {
		dir, name, p string
		e            api.Errno
	}{
		{"", "c", "c", api.OK}, {"a", "b", "a/b", api.OK}, {"a/b", "c", "a/b/c", api.OK}, {"", x64, x64, api.OK}, {row(31, x64), x64, row(32, x64), api.OK}, {"\xc3", "\xa9", "\xc3/\xa9", api.OK},
		{"a/", "b", "", api.ErrName}, {"/", "b", "", api.ErrName}, {".", "b", "", api.ErrName}, {"..", "b", "", api.ErrName}, {"\x00", "b", "", api.ErrName}, {row(33, "a"), "b", "", api.ErrName}, {strings.Repeat("a", 4097), "b", "", api.ErrName},
		{"a", "", "", api.ErrName}, {"", "", "", api.ErrName}, {"a", ".", "", api.ErrName}, {"a", "..", "", api.ErrName}, {"a", "b/c", "", api.ErrName}, {"a", "b/", "", api.ErrName}, {"a", "\x00", "", api.ErrName}, {"a", x64 + "x", "", api.ErrName},
		{deep, "b", "", api.ErrDeep}, {deep, "..", "", api.ErrName}, {deep, "", "", api.ErrName}, {row(32, x64), x64, "", api.ErrDeep},
	} {
		if p, e := path.Join(c.dir, c.name); p != c.p || e != c.e {
			t.Errorf("P305: %.40q, %.40q: %q, %v, want %q, %v", c.dir, c.name, p, e, c.p, c.e)
		}
	}
}

func TestSplitAndJoin(t *testing.T) {
	r := rand.New(rand.NewPCG(3, 310))
	for range 50000 {
		dir, e := path.Clean(someText(r, 40))
		name := someText(r, 1)
		if e != api.OK || !plainIsName(name) || len(parts(dir)) == 32 {
			continue
		}
		p, e := path.Join(dir, name)
		if want := strings.Join(append(parts(dir), name), "/"); p != want || e != api.OK || !path.IsClean(p) {
			t.Fatalf("P305: %q, %q: %q, %v", dir, name, p, e)
		}
		if d, n, e := path.Split(p); d != dir || n != name || e != api.OK {
			t.Fatalf("P310: Split(%q) is %q, %q, %v", p, d, n, e)
		}
		if dir == "" {
			continue
		}
		d, n, e := path.Split(dir)
		if e != api.OK || d != strings.Join(parts(dir)[:len(parts(dir))-1], "/") {
			t.Fatalf("P304: %q: %q, %q, %v", dir, d, n, e)
		}
		if back, e := path.Join(d, n); back != dir || e != api.OK {
			t.Fatalf("P310: Join(%q, %q) is %q, %v", d, n, back, e)
		}
	}
}

// shares tells whether two texts lie in the same memory somewhere.
func shares(a, b string) bool {
	if a == "" || b == "" {
		return false
	}
	x, y := uintptr(unsafe.Pointer(unsafe.StringData(a))), uintptr(unsafe.Pointer(unsafe.StringData(b)))
	return x < y+uintptr(len(b)) && y < x+uintptr(len(a))
}

// TestNewMemory looks that what is answered keeps no text that was handed in.
func TestNewMemory(t *testing.T) {
	for _, s := range []string{"name", "name/other", "/name/./x/..", "a/b/c"} {
		s := strings.Clone(s)
		answers := slices.Collect(path.Names(s))
		p, _ := path.Clean(s)
		dir, name, _ := path.Split(s)
		front, _ := path.Join("", s)
		back, _ := path.Join(s, "x")
		for _, a := range append(answers, p, dir, name, front, back) {
			if shares(a, s) {
				t.Errorf("P2: %q lies in %q", a, s)
			}
		}
	}
}

func FuzzClean(f *testing.F) {
	for _, s := range []string{"", "/a/./b/../c//", "a/../..", "a/\x00", row(33, "a") + "/..", strings.Repeat("/", 4097)} {
		f.Add(s)
	}
	f.Fuzz(func(t *testing.T, s string) {
		want, wantErr := plainClean(s)
		if p, e := path.Clean(s); p != want || e != wantErr {
			t.Errorf("P302: %q: %q, %v, want %q, %v", s, p, e, want, wantErr)
		}
	})
}
