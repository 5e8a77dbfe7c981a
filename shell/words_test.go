package shell_test

import (
	"math/rand/v2"
	"slices"
	"strings"
	"testing"

	"retort/api"
	"retort/shell"
)

func TestWords(t *testing.T) {
	for _, x := range []struct {
		line string
		want []string
	}{
		{"", nil},
		{" ", nil},
		{"\t \t", nil},
		{"a", []string{"a"}},
		{" a\tb  c\t", []string{"a", "b", "c"}},
		{`""`, []string{""}},
		{`"" ""`, []string{"", ""}},
		{`"a b"`, []string{"a b"}},
		{"\"a\tb\"\tc", []string{"a\tb", "c"}},
		{`"\\" "\"" "\n" "\t" "\x00" "\xff" "\x5c"`, []string{`\`, `"`, "\n", "\t", "\x00", "\xff", `\`}},
		{`"\\n"`, []string{`\n`}},
		{`"\\\\"`, []string{`\\`}},
		{`"\\\""`, []string{`\"`}},
		{`"\\x41"`, []string{`\x41`}},
		{`"\x41\x42C"`, []string{"ABC"}},
		{`"\x411"`, []string{"A1"}},
		{"\"\n\r\x00\x01\x7f\xff\"", []string{"\n\r\x00\x01\x7f\xff"}},
		{"a\nb\rc\vd\u00a0e\u2003f", []string{"a\nb\rc\vd\u00a0e\u2003f"}},
		{"\x00 \xff\xfe", []string{"\x00", "\xff\xfe"}},
		{`\ \n a\ \x41`, []string{`\`, `\n`, `a\`, `\x41`}},
		{"'a b'", []string{"'a", "b'"}},
		{"#", nil},
		{" # a", nil},
		{`# "`, nil},
		{`a #"`, []string{"a"}},
		{"a #b c", []string{"a"}},
		{"a#b c#", []string{"a#b", "c#"}},
		{`"#" "a #b"`, []string{"#", "a #b"}},
		{`"a" #`, []string{"a"}},
		{`a "b" "c\" # " d`, []string{"a", "b", `c" # `, "d"}},
		{"ä \"ö\"", []string{"ä", "ö"}},
	} {
		l, e := shell.Words(x.line)
		if e != api.OK || !slices.Equal(l, x.want) {
			t.Errorf("P2101: %q: %q, %v, want %q", x.line, l, e, x.want)
		}
	}
}

func TestWordsThatAreNone(t *testing.T) {
	for _, line := range []string{
		`"`, ` "`, `"a`, `"a b`, `a "`, `"""`, `""a`, `"a"b`, `"a""b"`, `"a"#`, `"a"\`, `a"`, `a"b"`, `a""`, `a\"`,
		`"\`, `"\"`, `"\\\"`, `"\q"`, `"\N"`, `"\T"`, `"\X41"`, `"\x"`, `"\x4"`, `"\x4 "`, `"\xg0"`, `"\x0g"`, `"\xAB"`, `"\x4A"`, `"\xA4"`, `"\x`, `"\x4`, `"\x41`, `"\ "`, "\"\\\n\"", `"\0"`, `"\r"`, `"\'"`, `"\#"`, `"\u0041"`,
		"\"a\"\n", "\"a\"\r", "\"a\"\v", "\"a\"\x00", "\"a\"\u00a0",
		`a b "c`, `a b c"`, `"a" "b`, `a b" # c`, `"a # b`, `"\q" # a`,
	} {
		l, e := shell.Words(line)
		if e != api.ErrWord {
			t.Errorf("P2101: %q: %q, %v", line, l, e)
		}
		if len(l) != 0 {
			t.Errorf("P4: %q beside an error: %q", line, l)
		}
	}
}

func holdWords(t *testing.T, line string) {
	t.Helper()
	want, right := modelWords(line)
	l, e := shell.Words(line)
	if right != (e == api.OK) || !right && e != api.ErrWord || !slices.Equal(l, want) {
		t.Fatalf("P2101: %q: %q, %v, want %q, %v", line, l, e, want, right)
	}
}

// Every short line of the bytes that count.
func TestWordsOfAllShortLines(t *testing.T) {
	most := 7
	if testing.Short() {
		most = 5
	}
	signs := []byte(" \t\"\\#xn0")
	line := make([]byte, 0, most)
	var grow func()
	grow = func() {
		holdWords(t, string(line))
		if len(line) == most {
			return
		}
		for _, c := range signs {
			line = append(line, c)
			grow()
			line = line[:len(line)-1]
		}
	}
	grow()
}

// Each byte: alone, in a word, in a quoted one, behind a `\`, as a digit, behind a quoted word.
func TestWordsOfEachByte(t *testing.T) {
	for c := range 256 {
		s := string([]byte{byte(c)})
		for _, line := range []string{s, "a" + s, s + "a", "a" + s + "b", `"` + s + `"`, `"a` + s + `b"`, `"\` + s + `"`, `"\` + s + `00"`, `"\x` + s + `0"`, `"\x0` + s + `"`, `"a"` + s, `"a"` + s + `b`, s + `"a"`, "a" + s + `"b"`, "a " + s + " b", "# " + s} {
			holdWords(t, line)
		}
	}
}

func drawnLine(r *rand.Rand) string {
	pieces := []string{" ", "\t", `"`, `\`, `\\`, `\"`, `\n`, `\t`, `\x`, "4", "f", "g", "F", "#", "a", "\n", "\x00", "\xff", "é", `"a"`, `"\x4f" `}
	var line strings.Builder
	for range r.IntN(20) {
		line.WriteString(pieces[r.IntN(len(pieces))])
	}
	return line.String()
}

func TestWordsOfDrawnLines(t *testing.T) {
	r := rand.New(rand.NewPCG(21, 1))
	right := 0
	for range 200000 {
		line := drawnLine(r)
		holdWords(t, line)
		if _, e := shell.Words(line); e == api.OK {
			right++
		}
	}
	if right < 10000 {
		t.Error("few lines could be gone through:", right)
	}
}

func TestWordsOfLongLines(t *testing.T) {
	const many = 1 << 20
	for _, line := range []string{strings.Repeat("a", many), strings.Repeat(" ", many), strings.Repeat("a ", many), strings.Repeat(`"" `, many), `"` + strings.Repeat(`\x0a`, many) + `"`, `"` + strings.Repeat(`\`, many), "#" + strings.Repeat(`"`, many), strings.Repeat(`"`, many)} {
		l, e := shell.Words(line)
		want, right := modelShort(line)
		if e == api.OK != right || len(l) != want {
			t.Errorf("P2101: %.20q..: %d words, %v", line, len(l), e)
		}
	}
}

// modelShort tells how many words one of the long lines has.
func modelShort(line string) (int, bool) {
	switch {
	case line[:2] == "aa":
		return 1, true
	case line[:2] == `a ` || line[:3] == `"" `:
		return 1 << 20, true
	case line[:3] == `"\x`:
		return 1, true
	}
	return 0, line[0] != '"'
}

func TestQuote(t *testing.T) {
	for _, x := range []struct{ b, want string }{
		{"", `""`}, {"a b", `"a b"`}, {`\`, `"\\"`}, {`"`, `"\""`}, {"\n", `"\n"`}, {"\t", `"\t"`}, {"\r", `"\x0d"`}, {"\x00", `"\x00"`}, {"\x1f ~\x7f", `"\x1f ~\x7f"`}, {"\x80\xff", `"\x80\xff"`},
		{"é", `"\xc3\xa9"`}, {"#'`/", "\"#'`/\""}, {`\n`, `"\\n"`}, {`\x41`, `"\\x41"`}, {"\x0a0", `"\n0"`}, {"\x010", `"\x010"`},
	} {
		if s := shell.Quote([]byte(x.b)); s != x.want {
			t.Errorf("P2102: %q: %s, want %s", x.b, s, x.want)
		}
	}
	if s := shell.Quote(nil); s != `""` {
		t.Errorf("P2102: no list: %s", s)
	}
}

func holdQuote(t *testing.T, b []byte) {
	t.Helper()
	q := shell.Quote(b)
	if want := modelQuote(b); q != want {
		t.Fatalf("P2102: %q: %s, want %s", b, q, want)
	}
	l, e := shell.Words(q)
	if e != api.OK || len(l) != 1 || l[0] != string(b) {
		t.Fatalf("P2102: %q: Words of %s: %q, %v", b, q, l, e)
	}
	l, e = shell.Words("x " + q + "\t" + q + " # " + q)
	if e != api.OK || !slices.Equal(l, []string{"x", string(b), string(b)}) {
		t.Fatalf("P2102: %q among others: %q, %v", b, l, e)
	}
}

func TestQuoteOfAllShortBytes(t *testing.T) {
	holdQuote(t, nil)
	for c := range 256 {
		holdQuote(t, []byte{byte(c)})
		for d := range 256 {
			holdQuote(t, []byte{byte(c), byte(d)})
		}
	}
	r := rand.New(rand.NewPCG(21, 2))
	for range 10000 {
		b := make([]byte, r.IntN(40))
		for i := range b {
			b[i] = byte(r.Int())
		}
		holdQuote(t, b)
	}
}

func TestHandedInIsNotChangedNorKept(t *testing.T) {
	const was = "a\"\\\n\x00\xffz"
	b := []byte(was + "behind")[:len(was)]
	q := shell.Quote(b)
	if !same(b, was) || !same(b[:len(was)+6], was+"behind") {
		t.Errorf("P2: handed in: %q", b[:len(was)+6])
	}
	want := strings.Clone(q)
	for i := range b {
		b[i] = 'x'
	}
	if q != want {
		t.Errorf("P2: kept: %s", q)
	}
	one, _ := shell.Words("a b")
	two, _ := shell.Words("a b")
	one[0] = "x"
	if !slices.Equal(two, []string{"a", "b"}) {
		t.Errorf("P2: two answers: %q", two)
	}
}

func FuzzWords(f *testing.F) {
	r := rand.New(rand.NewPCG(21, 3))
	for range 40 {
		f.Add(drawnLine(r))
	}
	f.Fuzz(func(t *testing.T, line string) {
		holdWords(t, line)
		holdQuote(t, []byte(line))
	})
}
