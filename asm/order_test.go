package asm_test

import (
	"go/ast"
	"go/build"
	"go/importer"
	"go/parser"
	"go/token"
	"go/types"
	"os/exec"
	"path/filepath"
	"slices"
	"strings"
	"testing"

	"retort/api"
	"retort/asm"
	"retort/prog"
)

// Go puts only calls, method calls and channel operations of one statement into order. Whether a variable, a field, an element is read ahead of a call of that statement or behind it is left open: so no statement may read what a call in it writes. No run shows that, as one compiler takes one order; here the program's text is looked at.

// program is packages by their paths, with what their words mean.
type program struct {
	fset  *token.FileSet
	info  *types.Info
	std   types.Importer
	texts func(path string) ([]*ast.File, error)
	packs map[string]*types.Package
	files []*ast.File
}

func newProgram(t *testing.T) *program {
	t.Helper()
	if build.Default.GOROOT == "" {
		o, err := exec.Command("go", "env", "GOROOT").Output()
		if err != nil {
			t.Fatal(err)
		}
		build.Default.GOROOT = strings.TrimSpace(string(o))
	}
	p := &program{fset: token.NewFileSet(), packs: map[string]*types.Package{}}
	p.info = &types.Info{Types: map[ast.Expr]types.TypeAndValue{}, Uses: map[*ast.Ident]types.Object{}, Defs: map[*ast.Ident]types.Object{}, Selections: map[*ast.SelectorExpr]*types.Selection{}, Instances: map[*ast.Ident]types.Instance{}}
	p.std = importer.ForCompiler(p.fset, "source", nil)
	return p
}

func (p *program) Import(path string) (*types.Package, error) {
	if !strings.HasPrefix(path, "retort/") {
		return p.std.Import(path)
	}
	if p.packs[path] != nil {
		return p.packs[path], nil
	}
	files, err := p.texts(path)
	if err != nil {
		return nil, err
	}
	c := types.Config{Importer: p}
	pack, err := c.Check(path, p.fset, files, p.info)
	p.packs[path] = pack
	p.files = append(p.files, files...)
	return pack, err
}

// folder reads the files of a package of the program, its tests left out.
func (p *program) folder(path string) ([]*ast.File, error) {
	names, err := filepath.Glob(filepath.Join("..", strings.TrimPrefix(path, "retort/"), "*.go"))
	var files []*ast.File
	for _, name := range names {
		if strings.HasSuffix(name, "_test.go") {
			continue
		}
		f, err := parser.ParseFile(p.fset, name, nil, 0)
		if err != nil {
			return nil, err
		}
		files = append(files, f)
	}
	return files, err
}

// Each kind of piece as the last one of its line: with nothing, a blank, a comment behind it.
func TestLastPieceOfALine(t *testing.T) {
	want := api.Program{Memory: 2, Data: []byte("a"), Funcs: []api.Func{{Results: 1, Code: []api.Instr{{Op: api.INum, A: 7}, {Op: api.IJump, A: 2}, {Op: api.IRet}}}}}
	for _, behind := range []string{"", " ", ";", " ; x", "\r"} {
		text := strings.ReplaceAll("memory 2|data \"a\"|func main 0 0 1|num 7|jump x|x:|ret|", "|", behind+"\n")
		for _, end := range []string{text, strings.TrimSuffix(text, "\n")} {
			p, err := asm.Parse(end)
			if err != nil || !prog.Same(p, want) {
				t.Errorf("P1401: %q: %v, %v", end, p, err)
			}
		}
	}
	p, err := asm.Parse("func main 0 0 1\nret")
	if err != nil || !prog.Same(p, api.Program{Funcs: []api.Func{{Results: 1, Code: []api.Instr{{Op: api.IRet}}}}}) {
		t.Errorf("P1401: %v, %v", p, err)
	}
}

func TestNothingHangsOnWhenItIsRead(t *testing.T) {
	p := newProgram(t)
	p.texts = p.folder
	names, err := filepath.Glob("../*/*.go")
	if err != nil {
		t.Fatal(err)
	}
	for _, name := range names {
		if _, err := p.Import("retort/" + filepath.Base(filepath.Dir(name))); err != nil {
			t.Fatal(err)
		}
	}
	if len(p.packs) < 22 {
		t.Fatalf("%d packages only", len(p.packs))
	}
	for _, x := range p.mixed() {
		t.Errorf("%s: %s is read in one statement with the call of %s, which may write it", p.fset.Position(x.read.Pos()), types.ExprString(x.read), types.ExprString(x.call.Fun))
	}
}

// sample has statements that read what a call in them writes: all that have `// !` behind them, and no other.
const sample = `package sample

import "slices"

type pair struct{ a, b int }

type inner struct{ n int }

func (i *inner) up() int { i.n++; return i.n }

type teller interface{ tell() int }

type thing struct {
	inner
	n    int
	l    []int
	m    map[string]int
	p    pair
	next *thing
	f    func() int
}

func (t *thing) more() int   { t.n++; return 1 }
func (t *thing) deep() int   { return t.more() }
func (t *thing) pure() int   { return t.n + len(t.l) }
func (t *thing) grow() bool  { t.l = append(t.l, 1); return true }
func (t *thing) lay() int    { t.l[0] = 1; return 1 }
func (t *thing) forget() int { delete(t.m, "a"); return 1 }
func (t *thing) pairs() int  { t.p = pair{1, 2}; return 1 }
func (t *thing) tell() int   { return t.more() }
func (t *thing) step() int   { t.next = nil; return 1 }
func (p pair) sum() int      { return p.a + p.b }

func two(x, y int) int { return x + y }

func hand(t *thing) { t.f = t.more }

func fields(t *thing) (int, int) {
	if t.n > 0 {
		return t.n, t.more() // !
	}
	x := two(t.n, t.deep()) // !
	x = t.n + t.more()      // !
	t.n += t.more()         // !
	t.l = append(t.l, two(1, t.pure()))
	x = two(t.more(), t.pure())
	x = two(t.n, t.pure())
	x = two(t.p.a, t.pairs()) // !
	x = two(t.p.sum(), t.pairs()) + t.p.sum() // !
	x = t.next.n + t.step() // !
	if t.n > 0 && t.more() > 0 || t.n > 1 {
		x++
	}
	if (t.n > 0) == (t.more() > 0) { // !
		x++
	}
	x = two(t.more(), 1)
	x = t.inner.n + t.up() // !
	x = two(x, t.more())
	return x, t.more()
}

func lists(t *thing, other []int) ([]int, bool) {
	t.l[t.n] = t.more() // !
	t.l[0] = t.lay()
	t.l[0] += t.lay()       // !
	x := other[0] + t.lay() // !
	x = t.m["a"] + t.forget() // !
	l := []int{t.n, t.more()} // !
	p := pair{a: t.n, b: t.more()} // !
	p.a = two(l[0], x)
	slices.SortFunc(t.l, func(a, b int) int { return a - b })
	return t.l, t.grow() // !
}

func through(t *thing, i teller) int {
	x := two(t.n, i.tell()) // !
	x = two(t.n, t.f())     // !
	x += i.tell()
	return x
}

func functions() int {
	n, kept := 0, 0
	more := func() int { n++; return n }
	x := n + more() // !
	n += more()     // !
	x = kept + more()
	each := slices.IndexFunc([]int{n}, func(int) bool { n++; return true }) // the list is there ahead of the call
	x = n + slices.IndexFunc([]int(nil), func(int) bool { n++; return true }) // !
	var walk func(int) int
	walk = func(d int) int {
		at := d
		if d == 0 {
			return 0
		}
		at += walk(d - 1)
		return at
	}
	return two(each, walk(3)) + kept + x
}

func own(n int) int {
	var l [4]byte
	at := n
	if n > 0 {
		at = two(at, own(n-1))
	}
	copy(l[:], "ab")
	return at + int(l[0]) + own(at-1)
}
`

// The look itself: it tells of the sample just what is marked.
func TestLookForReads(t *testing.T) {
	p := newProgram(t)
	p.texts = func(string) ([]*ast.File, error) {
		f, err := parser.ParseFile(p.fset, "sample.go", sample, 0)
		return []*ast.File{f}, err
	}
	if _, err := p.Import("retort/sample"); err != nil {
		t.Fatal(err)
	}
	var told []int
	for _, x := range p.mixed() {
		told = append(told, p.fset.Position(x.read.Pos()).Line)
	}
	for i, line := range strings.Split(sample, "\n") {
		if marked, is := strings.HasSuffix(line, "// !"), slices.Contains(told, i+1); marked != is {
			t.Errorf("line %d is told: %v: %s", i+1, is, line)
		}
	}
}
