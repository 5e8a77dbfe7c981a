package asm_test

import (
	"fmt"
	"strings"
	"testing"

	"retort/api"
	"retort/asm"
)

// rounds is how often something is drawn.
func rounds(n int) int {
	if testing.Short() {
		return n / 10
	}
	return n
}

func TestDrawnPrograms(t *testing.T) {
	r := seeded(1)
	texts := map[string]string{}
	for range rounds(5000) {
		p := drawn(r)
		text, e := back(t, p)
		is(t, "P1402: Print of a drawn program", e, api.OK)
		if was, is := texts[text]; is && was != fmt.Sprint(p) {
			t.Fatalf("P1404: two programs of one text: %s", brief(text))
		}
		texts[text] = fmt.Sprint(p)
	}
}

// Programs that have one thing unlike have unlike texts.
func TestUnlikeTexts(t *testing.T) {
	code := func(x ...api.Instr) api.Program { return plain(x...) }
	withData := func(b ...byte) api.Program {
		p := plain(one(0, 0))
		p.Memory, p.Data = 9, b
		return p
	}
	l := []api.Program{
		code(one(api.IJump, 0)), code(one(api.IJump, 1)), code(one(api.IJump, 2)), code(one(api.IZero, 0)), code(one(api.INum, 0)), code(one(api.INum, 1)), code(one(api.INum, -1)), code(one(api.ICall, 0)), code(one(api.ICall, 1)), code(one(api.ISys, 0)), code(one(api.ISys, 1)),
		code(one(api.INop, 0), one(api.IJump, 0)), code(one(api.INop, 0), one(api.IJump, 1)), code(one(api.INop, 0), one(api.IJump, 2)), code(one(api.IJump, 0), one(api.INop, 0)),
		withData(), withData(0), withData(0, 0), withData('0'), withData('\\'), withData('\\', 'x', '0', '0'), withData('"'), withData('\\', '"'), withData('x', '0', '0'), withData(255), withData(10), withData(';'),
		{Memory: 1, Funcs: plain(one(0, 0)).Funcs}, {Funcs: []api.Func{{Locals: 1, Code: list(one(0, 0))}}}, {Funcs: []api.Func{{Args: 1, Locals: 1, Code: list(one(0, 0))}}}, {Funcs: []api.Func{{Results: 1, Code: list(one(0, 0))}}},
		{Funcs: []api.Func{{Code: list(one(0, 0), one(0, 0))}}}, {Funcs: []api.Func{{Code: list(one(0, 0))}, {Code: list(one(0, 0))}}},
	}
	seen := map[string]int{}
	for i, p := range l {
		text, e := back(t, p)
		is(t, "P1402: Print", e, api.OK)
		if j, is := seen[text]; is {
			t.Errorf("P1404: the programs %d and %d have one text %q", i, j, text)
		}
		seen[text] = i
	}
}

// A text written otherwise says the same.
func TestWrittenOtherwise(t *testing.T) {
	r := seeded(2)
	for range rounds(5000) {
		p := drawn(r)
		text := otherwise(r, p)
		got := parse(t, text)
		if show(got) != show(told{p: p}) {
			t.Fatalf("P1404: %q: %s\nwant %s", text, show(got), show(told{p: p}))
		}
	}
}

// Each blank of Print's text more than once, a remark behind each line, another word for each of its own.
func TestPrintWrittenOtherwise(t *testing.T) {
	r := seeded(3)
	for range rounds(1000) {
		p := drawn(r)
		p.Data = nil
		text, e := asm.Print(p)
		is(t, "P1402: Print", e, api.OK)
		want := show(told{p: p})
		for what, other := range map[string]string{
			"tabs and ends":         strings.NewReplacer("\t", "", " ", "\t", "\n", "\r\n").Replace(text),
			"many blanks":           strings.NewReplacer("\t", "  \t", " ", " \r  ", "\n", "   \n", ":", " \t:").Replace(text),
			"remarks":               strings.ReplaceAll(text, "\n", " ; \x00\xff: \"nop\n"),
			"remarks with no blank": strings.ReplaceAll(text, "\n", ";;\n"),
			"labels ahead":          strings.ReplaceAll(text, ":\n\t", ": "),
			"lines of nothing":      strings.ReplaceAll(text, "\n", "\n\n;\n \t\n"),
			"other labels":          strings.ReplaceAll(text, "L", "lead_"),
			"other functions":       strings.NewReplacer("func f", "func Fun", "call f", "call Fun").Replace(text),
			"no last end":           strings.TrimSuffix(text, "\n"),
		} {
			if got := show(said1(t, other)); got != want {
				t.Fatalf("P1404: %s: %q: %s, want %s", what, other, got, want)
			}
		}
	}
}

func TestBentTexts(t *testing.T) {
	r := seeded(4)
	seen := map[api.Errno]int{}
	for range rounds(20000) {
		text := otherwise(r, drawn(r))
		if r.IntN(2) == 0 {
			text, _ = textOf(drawn(r))
		}
		seen[parse(t, bent(r, text)).e]++
	}
	for _, e := range []api.Errno{api.OK, api.ErrLine, api.ErrLabel, api.ErrNumber, api.ErrProg, api.ErrCode} {
		if seen[e] == 0 {
			t.Errorf("no bent text has %v", e)
		}
	}
}

func TestWildTexts(t *testing.T) {
	r := seeded(5)
	for range rounds(50000) {
		parse(t, wild(r))
	}
}

// A fault of a line stays what it is, whatever lines stand behind.
func TestLinesBehind(t *testing.T) {
	r := seeded(6)
	held := 0
	for range rounds(20000) {
		text := bent(r, otherwise(r, drawn(r)))
		if r.IntN(2) == 0 {
			text = wild(r)
		}
		got := programOf(text)
		if !got.early {
			continue
		}
		held++
		for _, more := range []string{"\n", "\nnop", "\n\x00\n\"", "\na: a:\n", "\nfunc f 0 0 0\na: nop", "\nnum 99999999999999999999", "\n" + otherwise(r, drawn(r))} {
			is(t, "P1405: "+brief(text)+" and lines behind", show(said1(t, text+more)), show(got))
		}
		if held%100 == 1 {
			is(t, "P1405: as many lines behind as may be", show(said1(t, text+strings.Repeat("\n", 65536-len(text)))), show(got))
			is(t, "P1405: one too many", show(said1(t, text+strings.Repeat("\n", 65537-len(text)))), show(fault(0, api.ErrLong)))
		}
		l := strings.Split(text, "\n")
		is(t, "P1405: none behind", show(said1(t, strings.Join(l[:got.line], "\n"))), show(got))
	}
	if held < 100 {
		t.Errorf("only %d texts had such a fault", held)
	}
	// A word that was nothing's may be something's then.
	tells(t, begin+"jump a\na:", plain(one(api.IJump, 1)))
	refused(t, begin+"jump a\nfrob", 3, api.ErrLine)
}

func FuzzParse(f *testing.F) {
	r := seeded(7)
	f.Add("")
	f.Add("memory 4\ndata \"a\\x00\"\nfunc main 0 0 1\nagain: num -3 ; three\nzero again\nnum 7\nret")
	f.Add(begin + "jump: jump jump\nnum 0xffffffffffffffff\nsys open\ncall f")
	for range 20 {
		f.Add(otherwise(r, drawn(r)))
	}
	f.Fuzz(func(t *testing.T, text string) { parse(t, text) })
}

func FuzzPrint(f *testing.F) {
	f.Add(4, []byte("a\x00"), 3, -3, 15, 0)
	f.Add(0, []byte{}, 14, 2, 17, 1)
	f.Fuzz(func(t *testing.T, memory int, data []byte, n, a, m, b int) {
		back(t, api.Program{Memory: memory, Data: data, Funcs: []api.Func{{Code: list(one(n, a), one(m, b))}}})
	})
}
