package shell_test

import (
	"fmt"
	"strings"
	"testing"

	"retort/shell"
)

// play plays lines, each with its answer behind ` => `; an answer that ends with `..` is the front of one. It tells all answers.
func play(t *testing.T, lines ...string) []string {
	t.Helper()
	var script, want []string
	for _, l := range lines {
		line, answer, is := strings.Cut(l, " => ")
		if !is {
			t.Fatalf("%q has no answer", l)
		}
		script = append(script, line)
		want = append(want, answer)
	}
	told := shell.Run(strings.Join(script, "\n") + "\n")
	got := strings.Split(strings.TrimSuffix(told, "\n"), "\n")
	if len(got) != len(want) || !strings.HasSuffix(told, "\n") {
		t.Fatalf("P2103: %d answers, want %d", len(got), len(want))
	}
	for i := range want {
		front, some := strings.CutSuffix(want[i], "..")
		if got[i] != want[i] && !(some && strings.HasPrefix(got[i], front)) {
			t.Errorf("P2103: %.200s: %.200s, want %.200s", script[i], got[i], want[i])
		}
	}
	if model, _ := modelRun(strings.Join(script, "\n")); model != told {
		t.Errorf("P2103: the model tells\n%.2000s\nRun\n%.2000s", model, told)
	}
	return got
}

// digestOf is the digest that an answer tells behind `ok`.
func digestOf(t *testing.T, answer string) string {
	t.Helper()
	d, is := strings.CutPrefix(answer, "ok ")
	if !is || len(d) != 64 {
		t.Fatalf("%q tells no digest", answer)
	}
	return d
}

func zeros(n int) string { return strings.Repeat("0", n) }

func TestExamples(t *testing.T) {
	play(t, "put a b => none", "store 2 1000 4 => ok", `put a "" => ok e3b0`+zeros(60), `raw a => ok ""`, "raw b => none", "put A x => word")
	l := play(t, "store 32 100000 2 => ok", `asm p "func m 0 0 1\nnum 7\nret" => ok ..`, "tree t => ok ..", "act x p t 9 9 9 9 9 9 9 9 0 a => ok ..", "do x => ok", "do x => ok", "pick 0 => halt 7 2 ..", "pick 0 => cached halt 7 2 ..", "answers => ok 2 1")
	root := digestOf(t, l[2])
	if want := "halt 7 2 " + root + ` "a"`; l[6] != want || l[7] != "cached "+want {
		t.Errorf("example 2: %s, %s, want %s", l[6], l[7], want)
	}
	play(t, "store 32 100000 2 => ok", "file a/b x => ok", "tree t => items", "dir /a => ok", "file a/b x => ok", "tree t => ok ..", `show t => ok "a" / "a/b" "x"`, "file .. x => root", `dir "" => root`)
	play(t, "store 32 100000 2 => ok", `asm p "func m 0 0 1\nfoo" => line 2 line`, `comp p 9 "x" => at 0 syntax`, "store 0 1 1 => width")
}

func TestLines(t *testing.T) {
	for script, want := range map[string]string{
		"":                 "",
		"\n":               "\n",
		"\n\n":             "\n\n",
		" ":                "\n",
		"x":                "word\n",
		"x\n":              "word\n",
		"\nx":              "\nword\n",
		"x\n\n":            "word\n\n",
		"#\nused\n \t\n\"": "\nnone\n\nword\n",
		"used\r\nused":     "word\nnone\n",
		"used\x00":         "word\n",
		"\"used\" # x":     "none\n",
		"\"used\"\nused x": "none\nword\n",
		"\"us\\x65d\"":     "none\n",
		"\"\"":             "word\n",
		"Used":             "word\n",
		"used#":            "word\n",
		"us ed":            "word\n",
	} {
		if told := shell.Run(script); told != want {
			t.Errorf("P2103: %q: %q, want %q", script, told, want)
		}
	}
}

func TestLongScripts(t *testing.T) {
	for _, x := range []struct {
		what, script, want string
	}{
		{"512 lines", strings.Repeat("\n", 512), strings.Repeat("\n", 512)},
		{"512 lines, the last without a line feed", strings.Repeat("\n", 511) + "x", strings.Repeat("\n", 511) + "word\n"},
		{"513 lines", strings.Repeat("\n", 513), "long\n"},
		{"513 lines, the last without a line feed", strings.Repeat("\n", 512) + " ", "long\n"},
		{"65536 bytes", strings.Repeat(" ", 65536), "\n"},
		{"65536 bytes with a line feed", strings.Repeat("x", 65535) + "\n", "word\n"},
		{"65537 bytes", strings.Repeat(" ", 65537), "long\n"},
		{"65537 bytes with a line feed", strings.Repeat("x", 65536) + "\n", "long\n"},
		{"65536 lines", strings.Repeat("\n", 65536), "long\n"},
		{"many bytes", strings.Repeat("store 1 1 1\n", 1<<18), "long\n"},
	} {
		if told := shell.Run(x.script); told != x.want {
			t.Errorf("P2103: %s: %.40q", x.what, told)
		}
	}
}

// raws are bytes that a script tells in one word, and that are told in n bytes, `ok`, blank and quotes among them.
func raws(n int) string {
	n -= len(`ok ""`)
	return `"` + strings.Repeat("\x01", n/4) + strings.Repeat("x", n%4) + `"`
}

func TestLongAnswers(t *testing.T) {
	for n := 131072 - 5; n <= 131072+5; n++ {
		script := "store 32 1000000 1\nput a " + raws(n) + "\nraw a\nused"
		l := strings.Split(shell.Run(script), "\n")
		switch {
		case n > 131072 && l[2] != "long":
			t.Errorf("P2103: an answer of %d bytes is told: %.20s", n, l[2])
		case n <= 131072 && (len(l[2]) != n || l[2][:3] != "ok "):
			t.Errorf("P2103: an answer of %d bytes: %.20s, %d", n, l[2], len(l[2]))
		}
		if !strings.HasPrefix(l[3], "ok 1 ") {
			t.Errorf("P2103: behind it: %s", l[3])
		}
		model, _ := modelRun(script)
		if model != strings.Join(l, "\n") {
			t.Errorf("P2103: an answer of %d bytes: the model tells otherwise", n)
		}
	}
}

// What is answered by `long` is done all the same: an action with long missing paths, cached then; many files in a tree.
func TestLongAnswersAreDone(t *testing.T) {
	name := strings.Repeat("\x02", 64)
	var keep []string
	for i := range 20 {
		keep = append(keep, fmt.Sprintf("%c", 'a'+i)+strings.Repeat("/"+name, 31))
	}
	act := "act x p t 9 9 9 9 9 9 9 9 0 " + strings.Join(keep, " ")
	play(t, "store 32 1000000 2 => ok", `asm p "func m 0 0 1\nnum 7\nret" => ok ..`, "tree t => ok ..", act+" => ok ..", "do x => ok", "do x => ok", "exec x => long", "pick 0 => long", "pick 0 => long", "answers => ok 2 1", "queue => ok", "cached => ok ..")
	lines := []string{"store 32 1000000 2 => ok", "dir d => ok", "file d/a " + raws(120000) + " => ok", "tree t => ok ..", "show t => ok ..", "file e \"\x01\x01\" => ok"}
	for i := range 5 {
		lines = append(lines, fmt.Sprintf("file d/%d %s => ok", i, strings.Repeat("\x03", 1000)))
	}
	play(t, append(lines, "tree u => ok ..", "show u => long", "diff t u => ok add \"d/0\"..", "tree v => ok ..", "diff u v => ok")...)
}

// Of a tree with many bytes, which a script of few can make, nothing is told but `long`.
func TestGreatTree(t *testing.T) {
	const signs = "0123456789abcdefghijklmnopqrstuv"
	l := []string{"store 2 1000000 0 => ok", "put f " + strings.Repeat("\x04", 40000) + " => ok .."}
	d := digestOf(t, play(t, l...)[1])
	node := `\x01\xf9\x04\x00` // 1024 entries
	for i := range 1024 {
		node += fmt.Sprintf(`\x01\x02%c%c\x02\x%s\x%s`, signs[i/32], signs[i%32], d[:2], d[2:4])
	}
	play(t, append(l, "put n \""+node+"\" => ok ..", "show n => long", "drop x => ok", "tree t => ok ..", `diff t n => ok add "00" add "01" ..`)...)
}

func TestNothingIsLeftOfARun(t *testing.T) {
	first := shell.Run("store 32 1000 1\nput a b\ndir x\ntree t\nput a c\n")
	for range 2 {
		if told := shell.Run("raw a"); told != "none\n" {
			t.Errorf("P2103: %q", told)
		}
		if told := shell.Run("store 32 1000 1\nraw a\nused\ntree t\nshow t"); !strings.HasPrefix(told, "ok\nnone\nok 0 0\nok ") || !strings.HasSuffix(told, "\nok\n") {
			t.Errorf("P2103: %q", told)
		}
		if told := shell.Run("store 32 1000 1\nput a b\ndir x\ntree t\nput a c\n"); told != first {
			t.Errorf("P3: %q, then %q", first, told)
		}
	}
}
