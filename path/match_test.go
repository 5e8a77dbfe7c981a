package path_test

import (
	"math/rand/v2"
	"slices"
	"strings"
	"testing"
	"unicode/utf8"

	"retort/api"
	"retort/path"
)

// plainPieces takes one rune, or one byte that begins none, after the other.
func plainPieces(s string) []string {
	var row []string
	for s != "" {
		_, n := utf8.DecodeRuneInString(s)
		row = append(row, s[:n])
		s = s[n:]
	}
	return row
}

func plainNameIs(part, name []string) bool {
	switch {
	case len(part) == 0:
		return len(name) == 0
	case part[0] == "*":
		return plainNameIs(part[1:], name) || len(name) > 0 && plainNameIs(part, name[1:])
	}
	return len(name) > 0 && (part[0] == "?" || part[0] == name[0]) && plainNameIs(part[1:], name[1:])
}

func plainPathIs(pattern, names []string) bool {
	switch {
	case len(pattern) == 0:
		return len(names) == 0
	case pattern[0] == "**":
		return plainPathIs(pattern[1:], names) || len(names) > 0 && plainPathIs(pattern, names[1:])
	}
	return len(names) > 0 && plainNameIs(plainPieces(pattern[0]), plainPieces(names[0])) && plainPathIs(pattern[1:], names[1:])
}

func plainMatch(pattern, p string) (bool, api.Errno) {
	if len(pattern) > 4096 || len(p) > 4096 {
		return false, api.ErrLong
	}
	for _, part := range parts(pattern) {
		if part == "" || part != "**" && strings.Contains(part, "**") {
			return false, api.ErrGlob
		}
	}
	if clean, e := plainClean(p); e != api.OK || clean != p {
		return false, api.ErrName
	}
	return plainPathIs(parts(pattern), parts(p)), api.OK
}

func sameMatch(t *testing.T, pattern, p string) {
	t.Helper()
	want, wantErr := plainMatch(pattern, p)
	if got, e := path.Match(pattern, p); got != want || e != wantErr {
		t.Fatalf("P309: %q, %q: %v, %v, want %v, %v", pattern, p, got, e, want, wantErr)
	}
}

func TestMatchExamples(t *testing.T) {
	for _, c := range []struct {
		pattern, p string
		want       bool
	}{
		{"a/**/c", "a/c", true}, {"a/**/c", "a/b/b/c", true}, {"?", "é", true}, {"?", "\xc3\xa9\xa9", false}, {"*b*", "aXb", true}, {"**", "", true},
		{"", "", true}, {"", "a", false}, {"a", "", false}, {"*", "", false}, {"?", "", false}, {"**/**", "", true}, {"**/a", "", false}, {"**/**", "a", true}, {"**/**/**", "a/b", true},
		{"**", "a/b/c", true}, {"**/c", "c", true}, {"**/c", "a/c/b/c", true}, {"**/c", "a/c/b", false}, {"a/**", "a", true}, {"a/**", "b/a", false}, {"**/b/**", "a/b", true}, {"**/a/**/a", "a", false}, {"**/a/**/a", "a/a", true}, {"a/**/a", "a", false},
		{"**/a/*/**/b", "a/a/x/b", true}, {"**/a/b/**/a/c", "a/b/a/b/a/c", true}, {"**/*/**", "", false}, {"**/*/*/**", "a", false}, {"**/*/*/**", "a/b", true},
		{"*", "abc", true}, {"*", "a/b", false}, {"*/*", "a", false}, {"*/*", "a/b", true}, {"a*", "a", true}, {"*a", "a", true}, {"*a*", "a", true}, {"*?", "a", true}, {"?*", "a", true}, {"?*?", "a", false}, {"?*?", "ab", true}, {"*?*", "a", true},
		{"a*b*c", "abbc", true}, {"a*b*c", "acb", false}, {"a*bc", "abbc", true}, {"*ab*ac", "abaabac", true}, {"*ab", "aab", true}, {"a*a", "a", false}, {"a?c", "abc", true}, {"a?c", "ac", false}, {"??", "a", false}, {"??", "ab", true}, {"??", "abc", false},
		{"a", "ab", false}, {"ab", "a", false}, {"a", "b", false}, {"a/b", "a", false}, {"a", "a/b", false}, {".", "a", false}, {"..", "a", false}, {"...", "...", true}, {"?.", "..a", false}, {"\x00", "a", false},
		{"*", "*", true}, {"?", "*", true}, {"?", "?", true}, {"*", "**", true}, {"a", "*", false}, {"a", "?", false}, {"**", "**", true}, {"[a]", "a", false}, {"[a]", "[a]", true}, {"\\*", "*", false}, {"\\*", "\\x", true}, {"A", "a", false},
	} {
		if got, e := path.Match(c.pattern, c.p); got != c.want || e != api.OK {
			t.Errorf("P309: %q, %q: %v, %v", c.pattern, c.p, got, e)
		}
	}
}

func TestMatchOfBytes(t *testing.T) {
	for _, c := range []struct {
		pattern, p string
		want       bool
	}{
		{"?", "日", true}, {"??", "日", false}, {"???", "日", false}, {"?", "\xff", true}, {"??", "\xff\xff", true}, {"?", "\xff\xff", false}, {"??", "\xc3\xa9\xa9", true}, {"???", "\xe6\x97a", true}, {"?", "\xe6\x97", false},
		{"é", "é", true}, {"é", "\xc3", false}, {"\xc3?", "é", false}, {"\xc3*", "é", false}, {"*\xa9", "é", false}, {"*\xa9", "é\xa9", true}, {"\xc3*", "\xc3", true}, {"\xc3*", "\xc3x", true}, {"\xc3*\xa9", "é", false}, {"\xc3*\xa9", "\xc3a\xa9", true},
		// All bytes that begin no rune are U+FFFD to range; their bytes are unlike.
		{"\xff", "\xfe", false}, {"\xff", "\uFFFD", false}, {"\uFFFD", "\xff", false}, {"\uFFFD", "\uFFFD", true}, {"?", "\uFFFD", true}, {"*\xff*", "a\uFFFDb", false}, {"*\xff*", "a\xffb", true}, {"\xef*", "\uFFFD", false},
		// Surrogates, and runes beyond the last one, or longer than need be, are none.
		{"?", "\xed\xa0\x80", false}, {"???", "\xed\xa0\x80", true}, {"??", "\xc0\x80", true}, {"????", "\xf4\x90\x80\x80", true}, {"?", "\U0010FFFF", true},
		{"\xc3/\xa9", "\xc3/\xa9", true}, {"?/?", "\xc3/\xa9", true},
	} {
		if got, e := path.Match(c.pattern, c.p); got != c.want || e != api.OK {
			t.Errorf("P309: %q, %q: %v, %v", c.pattern, c.p, got, e)
		}
	}
}

func TestMatchErrors(t *testing.T) {
	long := strings.Repeat("a", 4097)
	for _, c := range []struct {
		pattern, p string
		want       api.Errno
	}{
		{"a/", "a", api.ErrGlob}, {"a**", "a", api.ErrGlob}, {"**a", "a", api.ErrGlob}, {"a**b", "ab", api.ErrGlob}, {"***", "a", api.ErrGlob}, {"****", "a", api.ErrGlob}, {"?**", "a", api.ErrGlob}, {"/", "", api.ErrGlob}, {"/a", "a", api.ErrGlob}, {"a//b", "a/b", api.ErrGlob}, {"**/", "a", api.ErrGlob}, {"b/a**", "a", api.ErrGlob}, {"**/***", "a", api.ErrGlob},
		{"a", "..", api.ErrName}, {"a", "a/", api.ErrName}, {"a", "/a", api.ErrName}, {"**", ".", api.ErrName}, {"", "/", api.ErrName}, {"*", "\x00", api.ErrName}, {"\x00", "\x00", api.ErrName}, {"**", row(33, "a"), api.ErrName}, {"*", strings.Repeat("a", 65), api.ErrName}, {"*", long[1:], api.ErrName},
		{"a//b", "..", api.ErrGlob}, {"***", "/", api.ErrGlob}, {long, "a", api.ErrLong}, {"a", long, api.ErrLong}, {long, "..", api.ErrLong}, {"a//", long, api.ErrLong}, {strings.Repeat("/", 4097), "", api.ErrLong}, {long, long, api.ErrLong}, {strings.Repeat("*", 4097), "a", api.ErrLong}, {strings.Repeat("*", 4096), "a", api.ErrGlob}, {"", strings.Repeat("/", 4097), api.ErrLong}, {"", strings.Repeat("/", 4096), api.ErrName},
	} {
		if got, e := path.Match(c.pattern, c.p); got || e != c.want {
			t.Errorf("P309: %.20q, %.20q: %v, %v, want %v", c.pattern, c.p, got, e, c.want)
		}
	}
}

func TestMatchLong(t *testing.T) {
	x64 := strings.Repeat("x", 64)
	for _, c := range []struct {
		pattern, p string
		want       bool
	}{
		{strings.Repeat("a", 4096), "a", false}, {strings.Repeat("?", 64), x64, true}, {strings.Repeat("?", 65), x64, false}, {strings.Repeat("*x", 64), x64, true}, {strings.Repeat("*x", 65), x64, false}, {strings.Repeat("x*", 64) + "y", x64, false}, {strings.Repeat("*x", 2048), x64, false}, {"*" + strings.Repeat("x", 63) + "*", x64, true},
		{row(1365, "**"), row(32, x64), true}, {row(1365, "**"), "", true}, {row(32, "*"), row(32, x64), true}, {row(33, "*"), row(32, x64), false}, {row(819, "**/*"), row(32, "a"), false}, {row(32, "**/*"), row(32, x64), true}, {row(33, "**/*"), row(32, x64), false}, {row(32, "*/**"), row(32, "a"), true},
		{row(31, "**/x*") + "/y", row(32, "x"), false}, {row(20, "**/*x*x*x*x*y*"), row(32, x64), false}, {row(2048, "a"), row(32, "a"), false},
	} {
		if got, e := path.Match(c.pattern, c.p); got != c.want || e != api.OK {
			t.Errorf("P309: %.20q of %d bytes, %.20q: %v, %v", c.pattern, len(c.pattern), c.p, got, e)
		}
	}
}

// TestMatchAll holds Match against the chapter's words: all short patterns of names, all rows of a few parts, many patterns of odd bytes.
func TestMatchAll(t *testing.T) {
	names := texts(5, "a", "b")
	for _, pattern := range texts(6, "a", "b", "*", "?") {
		for _, p := range names {
			sameMatch(t, pattern, p)
		}
	}
	var rows, paths []string
	for _, s := range texts(5, "/a", "/**", "/*", "/b") {
		rows = append(rows, strings.TrimPrefix(s, "/"))
	}
	for _, s := range texts(5, "/a", "/b") {
		paths = append(paths, strings.TrimPrefix(s, "/"))
	}
	for _, pattern := range rows {
		for _, p := range paths {
			sameMatch(t, pattern, p)
		}
	}
	for _, pattern := range texts(5, "a", "*", "/", "?") {
		for _, p := range texts(4, "a", "/", ".") {
			sameMatch(t, pattern, p)
		}
	}
}

func TestMatchSome(t *testing.T) {
	r := rand.New(rand.NewPCG(3, 309))
	some := func(most int, signs ...string) string {
		var b strings.Builder
		for range r.IntN(most + 1) {
			b.WriteString(signs[r.IntN(len(signs))])
		}
		return b.String()
	}
	odd := []string{"\xc3", "\xa9", "é", "\uFFFD", "\xef", "\xbf\xbd", "日", "a", "a", "/"}
	for range 200000 {
		sameMatch(t, some(8, append(odd, "*", "?", "*", "?", "/**/", "a*")...), some(8, odd...))
		sameMatch(t, some(10, "**/", "*a/", "a/", "a?/", "*/", "ab/")+some(1, "**", "a", "b"), some(8, "a/", "b/", "ab/", "aa/")+some(1, "a", "b"))
	}
}

func TestMatchesItselfAlone(t *testing.T) {
	var pool []string
	for _, s := range append(orderTexts(), "é/\xc3", "\xa9", "\uFFFD", "\xff/a", row(32, strings.Repeat("x", 64)), "[a]", "\\a", "a\\") {
		if path.IsClean(s) && !slices.Contains(pool, s) {
			pool = append(pool, s)
		}
	}
	for _, a := range pool {
		for _, b := range pool {
			if got, e := path.Match(a, b); got != (a == b) || e != api.OK {
				t.Errorf("P312: %.40q, %.40q: %v, %v", a, b, got, e)
			}
		}
	}
}

func FuzzMatch(f *testing.F) {
	for _, c := range [][2]string{{"a/**/c", "a/b/b/c"}, {"?", "é"}, {"*\xa9", "\xc3\xa9\xa9"}, {"a**", "a"}, {"", ""}} {
		f.Add(c[0], c[1])
	}
	f.Fuzz(func(t *testing.T, pattern, p string) {
		if strings.Count(pattern, "*") < 12 { // the plain way tries all
			sameMatch(t, pattern, p)
		}
	})
}
