package shell_test

import (
	"fmt"
	"strings"
	"testing"

	"retort/shell"
)

// hex64 is a digest's text that begins so.
func hex64(front string) string { return front + zeros(64-len(front)) }

// right are lines that are all in form: one for each command. a is laid under, b is not.
func rightLines() []string {
	return []string{
		"sum x", "put a x", "evict a", "plant a x", "limit 1", "dir x", "file x y", "drop x", "tree a", "asm a x", "comp a 1 x", "opt a a", "act a a a 1 1 1 1 1 1 1 1 1", "act a a a 1 1 1 1 1 1 1 1 1 x y z",
		"do a", "pick 0", "farm 1", "exec a", "answers", "queue", "cached", "used", "show a", "diff a a", "text a", "raw a",
	}
}

func TestNoWorker(t *testing.T) {
	var lines []string
	for _, line := range rightLines() {
		lines = append(lines, line+" => none", "\t"+line+" # => none")
	}
	lines = append(lines, "store 0 1 1 => width", "store 1 -1 1 => arg", "store 1 1 65 => arg")
	for _, line := range rightLines() {
		lines = append(lines, line+" => none")
	}
	play(t, lines...)
}

// With a word more, or one less, no command is in form; whether there is a worker or not.
func TestNumberOfWords(t *testing.T) {
	for _, front := range [][]string{nil, {"store 32 1000 1 => ok", "put a x => ok .."}} {
		lines := front
		for _, line := range append(rightLines(), "store 1 1 1") {
			words := strings.Fields(line)
			for n := range words {
				if words[0] != "act" && n > 0 || words[0] == "act" && n > 0 && n < 13 {
					lines = append(lines, strings.Join(words[:n], " ")+" => word")
				}
			}
			if words[0] != "act" {
				lines = append(lines, line+" x => word", line+" 1 => word", line+` "" => word`, line+" a b => word")
			}
		}
		play(t, lines...)
	}
}

func TestNumbers(t *testing.T) {
	lines := []string{"store 32 1000 1 => ok"}
	for _, n := range []string{"0", "00", "000000000000000", "7", "007", "000000000000001", "67108864"} {
		lines = append(lines, "limit "+n+" => ok", `limit "`+n+`" => ok`)
	}
	for _, n := range []string{"-1", "-01", "-000000000000001", "67108865", "999999999999999", "-999999999999999"} {
		lines = append(lines, "limit "+n+" => arg")
	}
	for _, n := range []string{"-", "-0", "-00", "-000000000000000", "--1", "+1", "1-", "1.0", "1e3", "0x1", "a", `""`, `" 1"`, `"1 "`, `"1\n"`, `"-\x31a"`, "0000000000000001", "1000000000000000", "-1000000000000000", "9223372036854775808", "18446744073709551617", "1_0", "１", "\u0661", "1\x00"} {
		lines = append(lines, "limit "+n+" => word")
	}
	play(t, append(lines, "store 1 1 1 => ok", "store 32 0001000 -1 => arg", "store 32 1000 -0 => word", "store x 1 1 => word", "store 1 x 1 => word", "store 1 1 x => word")...)
}

func TestNames(t *testing.T) {
	lines := []string{"store 32 10000 1 => ok"}
	for _, name := range []string{"a", "z", "store", "abcdefgh", "zzzzzzzz", `"qu"`, `"\x61"`} {
		lines = append(lines, "put "+name+" x => ok ..", "raw "+name+` => ok "x"`, "evict "+name+" => ok", "raw "+name+" => missing")
	}
	for _, name := range []string{`""`, "A", "aB", "abcdefghi", "a1", "1", "a-", "a_b", "é", `"a b"`, `"a\x00"`, "`", "{", "a\x00", strings.Repeat("a", 64)} {
		lines = append(lines, "put "+name+" x => word", "tree "+name+" => word", "asm "+name+" x => word", "comp "+name+" 1 x => word")
	}
	// a digest's text is a REF, but no NAME
	lines = append(lines, "put "+hex64("ab")+" x => word", "tree "+strings.Repeat("a", 64)+" => word", "opt "+hex64("ab")+" a => word")
	play(t, lines...)
}

func TestRefs(t *testing.T) {
	lines := []string{"store 2 10000 1 => ok", "put a x => ok 2d71" + zeros(60)}
	for _, ref := range []string{"a", hex64("2d71"), `"` + hex64("2d71") + `"`} {
		lines = append(lines, "raw "+ref+` => ok "x"`)
	}
	lines = append(lines, "raw "+hex64("2d72")+" => missing", "raw "+zeros(64)+" => missing", "raw "+strings.Repeat("f", 64)+" => missing", "raw b => none", "raw abcdefgh => none")
	for _, ref := range []string{`""`, "A", "abcdefghi", "2d71", zeros(63), zeros(65), hex64("2D71"), hex64("g"), zeros(63) + " 0", "-", "a1"} {
		lines = append(lines, "raw "+ref+" => word", "evict "+ref+" => word", "show "+ref+" => word", "diff a "+ref+" => word", "diff "+ref+" b => word")
	}
	lines = append(lines, "diff a b => none", "diff b a => none", "diff b b => none", "opt b a => tag", "opt b b => none", "act b a b 1 1 1 1 1 1 1 1 1 => none", "act b b a 1 1 1 1 1 1 1 1 1 => none", "act b a a 1 1 1 1 1 1 1 1 x => word", "act b b b 1 1 1 1 1 1 1 1 x => word", "plant b x => none", "evict b => none", "do b => none", "exec b => none", "text b => none")
	play(t, lines...)
}

// `word` comes ahead of `none`, the worker ahead of the row.
func TestOrderOfLooks(t *testing.T) {
	play(t, "raw A => word", "raw a => none", "dir .. => none", "limit x => word", "limit -1 => none", "store 1 100 1 => ok", "raw A => word", "raw a => none", "plant a x => none", "dir .. => root", "limit -1 => arg")
}

func TestStore(t *testing.T) {
	play(t,
		"store 0 0 0 => width", "store 33 0 0 => width", "store -1 -1 -1 => width", "store 33 -1 65 => width", "store 32 -1 65 => arg", "store 1 67108865 0 => arg", "store 1 0 -1 => arg", "store 1 0 65 => arg", "used => none",
		"store 1 0 0 => ok", "used => ok 0 0", "store 32 67108864 64 => ok", "put a x => ok ..", "dir d => ok", "tree t => ok ..", "do t => ok", "do t => ok", "pick 0 => tag", "answers => ok 1 0",
		// what is refused leaves all as it is
		"store 0 1 1 => width", "store 1 -1 1 => arg", "store 1 1 65 => arg", `raw a => ok "x"`, "answers => ok 1 0", "queue => ok ..", `show t => ok "d" /`, "tree t => ok ..", `show t => ok "d" /`,
		// what is not begins all anew
		"store 32 1000 1 => ok", "raw a => none", "raw t => none", "used => ok 0 0", "answers => ok 0 0", "queue => ok", "cached => ok", "tree t => ok ..", "show t => ok",
	)
	play(t, "store 32 40 0 => ok", "put a 123456789 => full", "put a 12345678 => ok ..", "put b 1 => full", "used => ok 1 40")
}

func TestSumAndPut(t *testing.T) {
	const abc = "ba7816bf8f01cfea414140de5dae2223b00361a396177a9cb410ff61f20015ad"
	play(t, "store 1 1000 0 => ok", "sum abc => ok "+abc, `sum "a\x62c" => ok `+abc, "used => ok 0 0", "put a abc => ok ba"+zeros(62), "put b abc => ok ba"+zeros(62), "used => ok 1 35", `raw b => ok "abc"`, `put a "\x00\n\t\"\\\xff" => ok ..`, `raw a => ok "\x00\n\t\"\\\xff"`, `raw b => ok "abc"`, "put a abc => ok ..", `raw a => ok "abc"`)
	// unlike blobs of one digest; where Put is refused the name stays what it was
	other := ""
	for i := 0; other == ""; i++ {
		if s := fmt.Sprint(i); strings.HasPrefix(shell.Run("store 1 1000 0\nsum "+s), "ok\nok ba") {
			other = s
		}
	}
	play(t, "store 1 1000 0 => ok", "put a abc => ok ..", "put b x => ok ..", "put b "+other+" => clash", `raw b => ok "x"`, "put c "+other+" => clash", "raw c => none", "plant a zz => ok", "put c "+other+" => ok ba"+zeros(62), `raw a => ok "`+other+`"`, "limit 0 => ok", "put d y => full", "raw d => none", "put d x => ok ..", `raw d => ok "x"`)
}

func TestForeignHands(t *testing.T) {
	play(t,
		"store 2 200 0 => ok", "put a x => ok 2d71"+zeros(60), "evict a => ok", "evict a => ok", "raw a => missing", "used => ok 0 0",
		"plant a y => ok", `raw a => ok "y"`, "show a => corrupt", "text a => corrupt", "exec a => corrupt", "plant "+hex64("ffff")+` "" => ok`, "raw "+hex64("ffff")+` => ok ""`, "plant "+hex64("ffff01")+" x => arg", "plant "+hex64("00")+" x => ok", "used => ok 3 98",
		"plant a "+strings.Repeat("x", 200)+" => full", `raw a => ok "y"`, "limit 99 => ok", "put b zz => full", "limit 50 => ok", "used => ok 3 98", "plant a yy => full", "evict a => ok", "used => ok 2 65", "limit 67108864 => ok", "put b zz => ok ..", "limit 67108865 => arg", "limit -1 => arg",
	)
}

func TestTreeUnderWay(t *testing.T) {
	play(t,
		"store 32 100000 0 => ok", "tree t => ok ..", "show t => ok",
		`file b 1 => ok`, "dir a => ok", `file a/x "" => ok`, "dir a- => ok", "dir ab => ok", "file a/b 2 => ok", "dir a/b-c => ok", "tree t => ok ..", `show t => ok "a" / "a/b" "2" "a/b-c" / "a/x" "" "a-" / "ab" / "b" "1"`,
		// what is Under the path goes; what only begins like it stays
		"file a 3 => ok", "tree u => ok ..", `show u => ok "a" "3" "a-" / "ab" / "b" "1"`, "dir /a/ => ok", "file a//b/../y z => ok", "tree v => ok ..", `show v => ok "a" / "a/y" "z" "a-" / "ab" / "b" "1"`,
		"dir ./a => ok", "tree v => ok ..", `show v => ok "a" / "a-" / "ab" / "b" "1"`, "drop a => ok", "drop a => ok", "drop nothing/there => ok", "tree v => ok ..", `show v => ok "a-" / "ab" / "b" "1"`,
		// what has no directory above it is no tree; it stands there till it goes
		"file x/y 4 => ok", "tree w => items", "show w => none", "dir x => ok", "tree w => ok ..", `show w => ok "a-" / "ab" / "b" "1" "x" /`, "file x/y 4 => ok", "file x/y/z 5 => ok", "tree w => items", "drop x/y/z => ok", "tree w => ok ..", `show w => ok "a-" / "ab" / "b" "1" "x" / "x/y" "4"`, "drop x => ok", "tree w => ok ..", "diff v w => ok",
		// names stay what they were
		`show t => ok "a" / "a/b" "2" "a/b-c" / "a/x" "" "a-" / "ab" / "b" "1"`,
	)
	deep := strings.Repeat("d/", 32)
	for _, command := range []string{"dir %s", "file %s x", "drop %s"} {
		var lines []string
		for p, want := range map[string]string{"..": "root", ".": "root", "/": "root", `""`: "root", "a/..": "root", "a/../..": "root", "a/../../b": "root", `"\x00"`: "name", strings.Repeat("n", 65): "name", strings.Repeat("n", 64): "ok", deep: "ok", deep + "d": "deep", strings.Repeat("/", 4096): "root", strings.Repeat("/", 4097): "long", "a/" + strings.Repeat("./", 2046) + "..": "root", `"a b"`: "ok", `"\xff"`: "ok", "...": "ok"} {
			lines = append(lines, fmt.Sprintf(command, p)+" => "+want)
		}
		play(t, append([]string{"store 32 1000 0 => ok"}, lines...)...)
	}
}

// A tree's blobs are put up to the first error; those that were put stay.
func TestTreeIsRefused(t *testing.T) {
	play(t, "store 32 100 0 => ok", "file a 1 => ok", "file b 2 => ok", "file c 3 => ok", "tree t => full", "used => ok 3 99", "show t => none", "limit 1000 => ok", "tree t => ok ..", `show t => ok "a" "1" "b" "2" "c" "3"`, "used => ok 4 ..", "limit 0 => ok", "tree u => ok ..", "diff t u => ok", "file d 4 => ok", "tree u => full", "diff t u => ok", "drop d => ok", "put x 1 => ok ..", "plant x 9 => full", "evict x => ok", "tree v => full", "show v => none", "show t => missing")
}

func TestPrograms(t *testing.T) {
	const seven = `asm p "func m 0 0 1\nnum 7\nret"`
	const text = `ok "memory 0\nfunc f0 0 0 1\n\tnum 7\n\tret\n"`
	play(t,
		"store 32 100000 0 => ok", seven+" => ok ..", "text p => "+text, `asm p "memory 4\ndata \"a\\x00\"\nfunc m 0 0 1\nnum 7\nret" => ok ..`, `text p => ok "memory 4\ndata \"a\\x00\"\nfunc f0 0 0 1\n\tnum 7\n\tret\n"`,
		// faults leave the name as it was
		`asm p "" => prog`, `asm p "func" => line 1 line`, `asm p "\n\nfunc f 0 0 1\nnum 9223372036854775808" => line 4 number`, `asm p "func f 0 0 1\nx: x: ret" => line 2 label`, `asm p "func f 0 0 1\njump x" => line 2 label`, `asm p "func f 0 0 1\nget 64" => code`, `asm p "func f 0 0 0" => prog`, `text p => ok "memory 4\ndata..`,
		`asm q "foo" => line 1 line`, "text q => none", `raw p => ok "\x02\x04\x02a\x00\x01\x00\x00\x01\x03\x03\x0e\x12"`,
		`asm q "func m 0 0 1\npop\nret" => ok ..`, "text q => ok ..", "opt r q => verify", "opt r p => ok ..", "put x y => ok ..", "opt r x => tag", "text x => tag", `put x "" => ok ..`, "opt x x => cut", `raw x => ok ""`, "evict x => ok", "opt x x => missing", "text x => missing",
		"limit 0 => ok", `asm n "func m 0 0 1\nnum 8\nret" => full`, "text n => none", `comp n 9 "func m() { }" => full`, "opt n p => ok ..",
	)
	play(t, "store 32 100000 0 => ok", `asm p "func m 0 0 1\nnum 2\nnum 3\nmul\nret" => ok ..`, "opt q p => ok ..", `text q => ok "memory 0\nfunc f0 0 0 1\n\tnum 6\n\tret\n"`, "opt q q => ok ..", `text p => ok "memory 0\nfunc f0 0 0 1\n\tnum 2\n\tnum 3\n\tmul\n\tret\n"`, "opt p p => ok ..", `text p => ok "memory 0\nfunc f0 0 0 1\n\tnum 6\n\tret\n"`)
}

// A program whose text is too long: it is put as its bytes.
func TestTextIsTooLong(t *testing.T) {
	function := `\x00\x00\x01\xf9\x10\x00` + strings.Repeat("\x00", 4096) // all of it nop
	play(t, "store 32 100000 0 => ok", `put p "\x02\x00\x00\x03`+strings.Repeat(function, 3)+`" => ok ..`, "text p => ok ..", `put p "\x02\x00\x00\x04`+strings.Repeat(function, 4)+`" => ok ..`, "text p => long", "opt q p => verify")
}

func TestComp(t *testing.T) {
	play(t,
		"store 32 100000 0 => ok", `comp p 100 "text x = \"ab\"; func main() { return 1; }" => ok ..`, `text p => ok "memory 100\ndata \"ab\"\nfunc f0 0 0 1\n\tnum 1\n\tret\n\tnum 0\n\tret\n"`,
		`comp q 1 "text x = \"ab\"; func main() { return 1; }" => big`, `comp q -1 "func main() { }" => arg`, `comp q 65537 "func main() { }" => arg`, `comp q 65536 "func main() { }" => ok ..`,
		`comp r 9 "" => at 0 syntax`, `comp r 9 "func main() { return 1 }" => at 23 syntax`, `comp r 9 "func main() { x = 1; }" => at 14 unset`, `comp r 9 "func main() { return f(); }" => at 21 unset`, `comp r 9 "func main() { break; }" => at 0 syntax`, `comp r -9 "func m(a) { }" => at 0 syntax`, `comp r 9 "func m() { return 9223372036854775808; }" => at 18 number`, `comp r 9 "func m() { } func m() { }" => at 18 twice`, `comp r 9 "func m() { return n(); } func n(a) { }" => at 18 arity`, "text r => none",
	)
}

// wide are limits with room for all that is done here.
const wide = "1000 100 50 1000 20 4 50 9"

func TestActions(t *testing.T) {
	l := play(t,
		"store 32 100000 2 => ok", `asm p "func m 0 0 1\nnum -7\nret" => ok ..`, "dir d => ok", "file d/x 1 => ok", "tree t => ok ..",
		"act x p t "+wide+" 0 d e => ok ..", "act x p t "+wide+` 0 "d" "e" => ok ..`, "act y p t "+wide+" 0 => ok ..", "act z p t "+wide+` 1 "" => ok ..`, "act v p t "+wide+" -3 \"\" => ok ..",
		"act w p t "+wide+" 0 e d => keep", "act w p t "+wide+" 0 d/ => keep", "act w p t "+wide+" 0 d d/x => keep", "act w p t "+wide+" 0 .. => keep",
	)
	if l[5] != l[6] {
		t.Errorf("P2103: the same action: %s, %s", l[5], l[6])
	}
	if l[8] != l[9] {
		t.Errorf("P2103: any number but 0 is Fresh: %s, %s", l[8], l[9])
	}
	for i := range 8 {
		limits := strings.Fields(wide)
		limits[i] = "-1"
		play(t, "store 32 100000 2 => ok", "tree t => ok ..", "act x t t "+strings.Join(limits, " ")+" 0 => limits", "raw x => none", "act x t t "+wide+" 0 => ok ..", "exec x => tag")
	}
	// each number is the limit that it should be: their bytes, by mint
	l = play(t, "store 32 100000 2 => ok", "act x "+hex64("01")+" "+hex64("02")+" 1 2 3 4 5 6 7 8 0 a => ok ..", "raw x => ok ..", "act x "+hex64("01")+" "+hex64("02")+" 1 2 3 4 5 6 7 8 1 => ok ..", "raw x => ok ..")
	none := strings.Repeat(`\x00`, 31)
	front := `ok "\x03\x01` + none + `\x02` + none + `\x01\x02\x03\x04\x05\x06\x07\x08`
	if want := front + `\x01\x01a\x00"`; l[2] != want {
		t.Errorf("P2103: %s, want %s", l[2], want)
	}
	if want := front + `\x00\x01"`; l[4] != want {
		t.Errorf("P2103: %s, want %s", l[4], want)
	}
}

func TestDoings(t *testing.T) {
	l := play(t,
		"store 32 100000 2 => ok", `asm p "func m 0 0 1\nnum -7\nret" => ok ..`, "dir d => ok", "file d/x 1 => ok", "tree t => ok ..", "act x p t "+wide+" 0 a d/y e => ok ..", "act y p t "+wide+" 1 d => ok ..",
		"pick 0 => arg", "do x => ok", "do y => ok", "do x => ok", "do p => ok", "do "+hex64("07")+" => ok", "queue => ok ..", "pick 5 => arg", "pick -1 => arg", "pick 1 => halt -7 2 ..", "pick 3 => missing", "pick 2 => tag", "queue => ok ..", "answers => ok 3 0", "cached => ok", "pick 1 => halt -7 2 ..", "cached => ok ..", "pick 0 => cached halt -7 2 ..", "pick 0 => arg", "answers => ok 5 1", "queue => ok", "do y => ok", "pick 0 => halt -7 2 ..",
	)
	x, y, p := digestOf(t, l[5]), digestOf(t, l[6]), digestOf(t, l[1])
	for i, want := range map[int]string{
		13: "ok " + strings.Join([]string{x, y, x, p, hex64("07")}, " "),
		16: "halt -7 2 " + digestOf(t, l[4]),
		19: "ok " + x + " " + x,
		23: "ok " + x,
		24: "cached " + l[22],
		29: l[16],
	} {
		if l[i] != want {
			t.Errorf("P2103: line %d: %s, want %s", i, l[i], want)
		}
	}
	if !strings.HasSuffix(l[22], ` "a" "d/y" "e"`) {
		t.Errorf("P2104: the missing paths: %s", l[22])
	}
}

func TestQueueIsFull(t *testing.T) {
	lines := []string{"store 1 100 0 => ok", "put a x => ok .."}
	for range 256 {
		lines = append(lines, "do a => ok")
	}
	play(t, append(lines, "do a => queue", "pick 256 => arg", "pick 255 => tag", "do a => ok", "do a => queue", "farm 3 => ok 256", "answers => ok 257 0", "queue => ok", "farm 3 => ok 0")...)
}

func TestFarm(t *testing.T) {
	for crew := 1; crew <= 8; crew++ {
		play(t,
			"store 32 100000 2 => ok", `asm p "func m 0 0 1\nnum 7\nret" => ok ..`, "tree t => ok ..", "act x p t "+wide+" 0 a => ok ..", "act y p t "+wide+" 0 b => ok ..",
			"farm 0 => arg", "farm 9 => arg", "farm -1 => arg", fmt.Sprint("farm ", crew, " => ok 0"), "do x => ok", "do y => ok", "do x => ok", "do t => ok", "farm 0 => arg", "queue => ok ..", fmt.Sprint("farm ", crew, " => ok 4"), "queue => ok", "answers => ok 4 1", "cached => ok ..", "do y => ok", "pick 0 => cached halt ..", "answers => ok 5 2",
		)
	}
}

// exec leaves the Store, the queue, the answers and the cache alone.
func TestExec(t *testing.T) {
	program := `comp p 9 "text n = \"out\"; func main(; h) { h = open(&n, #n, 1); do write(h, 0, 3); return 5; }"`
	l := play(t,
		"store 32 100000 2 => ok", program+" => ok ..", "tree t => ok ..", "act x p t "+wide+" 0 out q => ok ..", "used => ok 3 ..",
		"exec x => halt 5 ..", "exec x => halt 5 ..", "used => ok 3 ..", "answers => ok 0 0", "cached => ok", "do x => ok", "exec x => halt 5 ..", "pick 0 => halt 5 ..", "used => ok 5 ..", "exec x => halt 5 ..", "do x => ok", "pick 0 => cached halt 5 ..",
		"exec p => tag", "exec "+hex64("01")+" => missing", "plant x x => ok", "exec x => corrupt", "evict x => ok", "exec x => missing",
	)
	for _, i := range []int{6, 11, 12, 14} {
		if l[i] != l[5] {
			t.Errorf("P2104: line %d: %s, want %s", i, l[i], l[5])
		}
	}
	if l[16] != "cached "+l[5] || !strings.HasSuffix(l[5], ` "q"`) || l[4] != l[7] {
		t.Errorf("P2104: %s, %s, %s, %s", l[16], l[5], l[4], l[7])
	}
	root := strings.Fields(l[5])[3]
	play(t, "store 32 100000 2 => ok", program+" => ok ..", "tree t => ok ..", "act x p t "+wide+" 0 out q => ok ..", "exec x => "+l[5], "show "+root+" => missing", "do x => ok", "pick 0 => "+l[5], "show "+root+` => ok "out" "out"`, "diff t "+root+` => ok add "out"`)
}

func TestTraps(t *testing.T) {
	for code, want := range map[string]string{
		`num -5\nabort`:                                  "abort -5 2",
		`num 1\nnum 0\ndiv\nret`:                         "divide 0 3",
		`num 9\nload\nret`:                               "bounds 0 2",
		`again: jump again`:                              "fuel 0 20",
		`num 0\nnum 0\nfdiv\ntoi\nret`:                   "float 0 4",
		`num 1\nnum 2\nnum 3\nnum 4\nadd\nadd\nadd\nret`: "stack 0 4",
	} {
		play(t, "store 32 100000 2 => ok", `asm p "memory 8\nfunc m 0 0 1\n`+code+`" => ok ..`, "tree t => ok ..", "act x p t 20 8 4 9 9 9 9 9 0 a => ok ..", "exec x => trap "+want, "do x => ok", "do x => ok", "pick 0 => trap "+want, "pick 0 => cached trap "+want, "act x p t 20 7 4 9 9 9 9 9 0 a => ok ..", "exec x => trap memory 0 0")
	}
}

// What is looked up is looked up in a Twin: it is the Store of that moment.
func TestLookUps(t *testing.T) {
	play(t,
		"store 32 100000 2 => ok", "dir a => ok", "file a/x 1 => ok", "tree t => ok ..", "put x 1 => ok ..", "evict x => ok", "show t => missing", "diff t t => ok", "put x 1 => ok ..", `show t => ok "a" / "a/x" "1"`,
		"file a/x 2 => ok", "file b 3 => ok", "tree u => ok ..", `diff t u => ok edit "a/x" add "b"`, `diff u t => ok edit "a/x" drop "b"`, "show x => tag", "diff t x => tag", "diff x t => tag", "diff x x => ok", "diff "+hex64("01")+" "+hex64("01")+" => ok", "diff "+hex64("01")+" t => missing", "plant u 4 => ok", "show u => corrupt", "diff t u => corrupt", "raw u => ok \"4\"",
	)
}

// The greatest Room lets a tree be as deep as it may be.
func TestDeepTree(t *testing.T) {
	lines := []string{"store 32 100000 2 => ok"}
	for i := range 31 {
		lines = append(lines, "dir "+strings.Repeat("d/", i+1)+" => ok")
	}
	last := strings.Repeat("d/", 31) + "x"
	play(t, append(lines, "tree t => ok ..", "file "+last+" 1 => ok", "tree u => ok ..", `show u => ok "d" / "d/d" / ..`, `diff t u => ok add "`+last+`"`)...)
}

// Each kind of change.
func TestDiff(t *testing.T) {
	play(t, "store 32 100000 2 => ok", "file a 1 => ok", "dir b => ok", `file "c d" 1 => ok`, "dir e => ok", "file e/f 1 => ok", "tree t => ok ..", "dir a => ok", "file b 1 => ok", `drop "c d" => ok`, "dir e/f => ok", `file "e/\n" "" => ok`, "tree u => ok ..", `diff t u => ok edit "a" edit "b" drop "c d" add "e/\n" edit "e/f"`, `diff u t => ok edit "a" edit "b" add "c d" drop "e/\n" edit "e/f"`)
}
