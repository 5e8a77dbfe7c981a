package shell_test

import (
	"fmt"
	"math/rand/v2"
	"strings"
	"testing"

	"retort/shell"
)

// drawer draws lines of a script, most of them in form.
type drawer struct{ *rand.Rand }

func newDrawer(seed uint64) drawer { return drawer{rand.New(rand.NewPCG(seed, 21))} }

func (r drawer) one(l ...string) string { return l[r.IntN(len(l))] }

func (r drawer) name() string { return r.one("a", "b", "c", "d", "e") }

// ref is most often a name of a kind: programs under p, q, trees under t, u, actions under x, y.
func (r drawer) ref(names string) string {
	switch n := r.IntN(20); {
	case n == 0:
		return hex64(r.one("", "01", "e3", "e3b0", "ffff"))
	case n == 1:
		return r.one("a", "p", "t", "x")
	}
	return string(names[r.IntN(len(names))])
}

func (r drawer) bytes() string {
	return r.one("x", "y", `""`, `"a b"`, `"\x00\n"`, `"#"`, `"\x01\x00"`, `"\x02"`, fmt.Sprint(r.IntN(9)), strings.Repeat("z", r.IntN(50)+1))
}

func (r drawer) path() string {
	return r.one("a", "b", "a/x", "a/y", "b/x", "a/x/z", "out", "/a/", "a/../b", `"c d"`, "..", `""`, `"\x00"`, "a//x")
}

func (r drawer) asm() string {
	return r.one(
		`"func m 0 0 1\nnum 7\nret"`, `"func m 0 0 1\nnum 2\nnum 3\nadd\nret"`, `"func m 0 0 1\nnum 5\nabort"`, `"func m 0 0 1\nl: jump l"`, `"func m 0 0 1\npop\nret"`, `"func m 0 0 1\nnum 1\nnum 0\ndiv\nret"`,
		`"memory 9\ndata \"out\"\nfunc m 0 0 1\nnum 0\nnum 3\nnum 6\nsys open\nnum 0\nnum 3\nsys write\nret"`, `""`, `"foo"`, `"func m 0 0 1\nnum 99999999999999999999"`, `"func m 0 0 1\njump x"`, `"func m 0 0 1\nget 64"`,
	)
}

func (r drawer) source() string {
	return r.one(
		`"func m() { return 1 + 2; }"`, `"text n = \"out\"; func m(; h) { h = open(&n, #n, 5); do write(h, 0, size); return h; }"`, `"text n = \"a/new\"; func m(; h) { h = open(&n, #n, 5); do write(h, 0, 4); return h; }"`, `"func m() { abort 3; }"`, `"text n = \"b\"; func m() { return open(&n, #n, 0); }"`,
		`"text n = \"a\"; func m() { return list(&n, #n, 1, 20); }"`, `"x"`, `""`, `"func m() { return x; }"`, `"func m() { break; }"`,
	)
}

func (r drawer) limits() string {
	fuel := r.one("1000", "1000", "1000", "5", "0", "1048577")
	depth := r.one("9", "9", "9", "9", "1", "0", "33")
	nodes := r.one("50", "50", "50", "3", "0")
	return fuel + " 100 50 1000 " + r.one("20", "20", "20", "1") + " 4 " + nodes + " " + depth + " " + r.one("0", "0", "1")
}

func (r drawer) keep() string {
	return r.one("", "a", "out", `""`, "a out", "a/x b out", "b a", "a a/x", "nothing", `"c d" nothing`)
}

func (r drawer) number() string {
	return r.one("0", "0", "0", "0", "1", "2", "3", "-1", "99", "-0", "x")
}

func (r drawer) line() string {
	switch r.IntN(28) {
	case 0:
		return r.one("", "  ", "# x", "frob", "\"a", "used x", "raw", `"used"`, "store 0 1 1", "put A x", "\tused # y", "a\"b")
	case 1:
		return "limit " + r.one("100000", "100000", "100000", "0", "300", "-1")
	case 2:
		return "sum " + r.bytes()
	case 3:
		return "put " + r.name() + " " + r.bytes()
	case 4:
		return "evict " + r.ref("abptx")
	case 5:
		return "plant " + r.ref("abptx") + " " + r.bytes()
	case 6, 7:
		return "dir " + r.path()
	case 8, 9:
		return "file " + r.path() + " " + r.bytes()
	case 10:
		return "drop " + r.path()
	case 11, 12:
		return "tree " + r.one("t", "u")
	case 13:
		return "asm " + r.one("p", "q") + " " + r.asm()
	case 14:
		return "comp " + r.one("p", "q") + " " + r.one("30", "30", "30", "1", "-1", "65537") + " " + r.source()
	case 15:
		return "opt " + r.one("p", "q") + " " + r.ref("pq")
	case 16, 17:
		return "act " + r.one("x", "y") + " " + r.ref("pq") + " " + r.ref("tu") + " " + r.limits() + " " + r.keep()
	case 18, 19:
		return "do " + r.ref("xy")
	case 20, 21:
		return "pick " + r.number()
	case 22:
		return "farm " + r.one("1", "2", "8", "0", "9")
	case 23:
		return "exec " + r.ref("xy")
	case 24:
		return r.one("answers", "queue", "cached", "used")
	case 25:
		return "show " + r.ref("tu")
	case 26:
		return "diff " + r.ref("tu") + " " + r.ref("tu")
	}
	return r.one("text "+r.ref("pq"), "raw "+r.ref("abptx"))
}

// script is lines behind which, most often, there is a worker, programs, a tree and actions.
func (r drawer) script() []string {
	lines := []string{"store " + r.one("32 100000 2", "2 100000 1", "1 100000 3", "32 500 0", "32 100000 64")}
	if r.IntN(8) > 0 {
		lines = append(lines, "asm p "+r.asm(), "comp q 30 "+r.source(), "dir a", "file a/x 1", "tree t", "file b 2", "tree u", "act x p t "+wide+" 0 a out", "act y q u "+wide+" 0 a b out", "do x", "do y", "do x")
	}
	for range 10 + r.IntN(60) {
		lines = append(lines, r.line())
		if r.IntN(150) == 0 {
			lines = append(lines, r.one("store 32 100000 2", "store 1 9999 0", "store 33 1 1"))
		}
	}
	return lines
}

func holdRun(t *testing.T, script string) []string {
	t.Helper()
	told := shell.Run(script)
	want, l := modelRun(script)
	if told != want {
		got := strings.Split(told, "\n")
		for i, line := range strings.Split(script, "\n") {
			if i >= len(l) || i >= len(got) || got[i] != l[i] {
				t.Fatalf("P2103: line %d: %.300s: %.300q, want %.300q\nof\n%.5000s", i, line, got[min(i, len(got)-1)], l[min(i, len(l)-1)], script)
			}
		}
		t.Fatalf("P2103: %.300q, want %.300q", told, want)
	}
	return l
}

func rounds(t *testing.T, many uint64) uint64 {
	if testing.Short() {
		return many / 10
	}
	return many
}

func TestDrawnScripts(t *testing.T) {
	met := map[string]int{}
	for n := range rounds(t, 4000) {
		r := newDrawer(n)
		script := r.script()
		for i, answer := range holdRun(t, strings.Join(script, "\n")) {
			name, _, _ := strings.Cut(script[i], " ")
			what, _, _ := strings.Cut(answer, " ")
			met[name+": "+what]++
		}
	}
	if testing.Short() {
		return
	}
	for _, what := range []string{
		"store: ok", "store: width", "sum: ok", "put: ok", "put: full", "put: clash", "put: word", "evict: ok", "evict: none", "plant: ok", "plant: full", "plant: arg", "limit: ok", "limit: arg", "dir: ok", "dir: root", "dir: name", "file: ok", "file: root", "drop: ok", "drop: root",
		"tree: ok", "tree: items", "tree: full", "asm: ok", "asm: line", "asm: prog", "asm: code", "asm: full", "comp: ok", "comp: at", "comp: big", "comp: arg", "opt: ok", "opt: verify", "opt: missing", "opt: corrupt", "opt: none", "act: ok", "act: limits", "act: keep", "act: none", "act: full",
		"do: ok", "pick: halt", "pick: trap", "pick: cached", "pick: missing", "pick: tag", "pick: arg", "pick: word", "pick: corrupt", "farm: ok", "farm: arg", "exec: halt", "exec: trap", "exec: full", "exec: nodes", "exec: deep", "exec: files", "answers: ok", "queue: ok", "cached: ok", "used: ok", "used: word", "show: ok", "show: missing", "show: corrupt", "show: tag", "diff: ok", "diff: missing", "text: ok", "text: tag", "raw: ok", "raw: missing", "raw: none",
	} {
		if met[what] < 3 {
			t.Errorf("%s was met %d times only", what, met[what])
		}
	}
}

// P2105: lines put behind change nothing of what the others are answered.
func TestFrontsOfScripts(t *testing.T) {
	for n := range rounds(t, 100) {
		script := newDrawer(1<<20 + n).script()
		whole := shell.Run(strings.Join(script, "\n"))
		for i := range script {
			if front := shell.Run(strings.Join(script[:i], "\n") + "\n"); i > 0 && !strings.HasPrefix(whole, front) {
				t.Fatalf("P2105: the first %d lines of\n%s", i, strings.Join(script, "\n"))
			}
		}
	}
}

// P2105: lines that are answered by `word`, `none`, or are empty may be left out.
func TestLinesThatChangeNothing(t *testing.T) {
	left := 0
	for n := range rounds(t, 1000) {
		script := newDrawer(1<<21 + n).script()
		all := strings.Split(shell.Run(strings.Join(script, "\n")), "\n")
		var lines, want []string
		for i, line := range script {
			if all[i] == "word" || all[i] == "none" || all[i] == "" {
				left++
				continue
			}
			lines = append(lines, line)
			want = append(want, all[i])
		}
		if told := shell.Run(strings.Join(lines, "\n")); told != strings.Join(want, "\n")+"\n" {
			t.Fatalf("P2105: without them\n%s\n%s\nwant\n%s", strings.Join(lines, "\n"), told, strings.Join(want, "\n"))
		}
	}
	if left < 50 {
		t.Error("few lines were left out:", left)
	}
}

// P3: again and again the same.
func TestTheSameAgain(t *testing.T) {
	for n := range rounds(t, 200) {
		script := strings.Join(newDrawer(1<<22+n).script(), "\n")
		told := shell.Run(script)
		for range 3 {
			if again := shell.Run(script); again != told {
				t.Fatalf("P3: %s\n%s\nthen\n%s", script, told, again)
			}
		}
	}
}

func FuzzRun(f *testing.F) {
	for n := range uint64(30) {
		f.Add(strings.Join(newDrawer(n).script(), "\n"))
	}
	f.Fuzz(func(t *testing.T, script string) { holdRun(t, script) })
}
