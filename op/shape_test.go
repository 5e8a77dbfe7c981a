package op_test

import (
	"math"
	"slices"
	"strings"
	"testing"

	"retort/api"
	"retort/op"
)

// numbers are the instructions in the order of the chapter's table.
func numbers() []int {
	return []int{
		api.INop, api.IHalt, api.IAbort, api.INum, api.IPop, api.ICopy, api.ISwap, api.IGet, api.ISet,
		api.ILoad, api.IStore, api.ILoad8, api.IStore8, api.ISize, api.IJump, api.IZero, api.INotZero,
		api.ICall, api.IRet, api.ISys,
		api.IAdd, api.ISub, api.IMul, api.IDiv, api.IRem,
		api.IAnd, api.IOr, api.IXor, api.IShl, api.IShr, api.IUshr,
		api.IEq, api.ILt, api.IUlt, api.INeg, api.INot,
		api.IFadd, api.IFsub, api.IFmul, api.IFdiv, api.IFeq, api.IFlt,
		api.IFneg, api.IFroot, api.IToF, api.IToI,
	}
}

func TestOperandsAreNumbered(t *testing.T) {
	same(t, "P1101: operands", []int{op.ONone, op.ONum, op.OLocal, op.OJump, op.OFunc, op.OSys, op.OStack}, []int{0, 1, 2, 3, 4, 5, 6})
}

func TestInstructions(t *testing.T) {
	is(t, "P1101: ICount", api.ICount, 46)
	for n, want := range rowsOf(instructions) {
		is(t, "P1101: the number of "+want.Name, numbers()[n], n)
		s, ok := op.Of(n)
		is(t, "P1102: Of "+want.Name, s, want)
		is(t, "P1102: Of "+want.Name, ok, true)
		k, ok := op.Named(want.Name)
		is(t, "P1106: Named "+want.Name, k, n)
		is(t, "P1106: Named "+want.Name, ok, true)
	}
}

func TestCallsOfFiles(t *testing.T) {
	same(t, "P1101: the calls of files", []int{api.SOpen, api.SRead, api.SWrite, api.SList, api.SClose, api.SCount}, []int{0, 1, 2, 3, 4, 5})
	for n, want := range rowsOf(callsOfFiles) {
		s, ok := op.Sys(n)
		is(t, "P1102: Sys "+want.Name, s, want)
		is(t, "P1102: Sys "+want.Name, ok, true)
		k, ok := op.SysNamed(want.Name)
		is(t, "P1106: SysNamed "+want.Name, k, n)
		is(t, "P1106: SysNamed "+want.Name, ok, true)
	}
}

func TestExamples(t *testing.T) {
	s, ok := op.Of(api.INum)
	is(t, "P1102: Of(INum)", s, op.Shape{Name: "num", Operand: op.ONum, Takes: 0, Gives: 1})
	is(t, "P1102: Of(INum)", ok, true)
	s, ok = op.Sys(api.SList)
	is(t, "P1102: Sys(SList)", s, op.Shape{Name: "list", Operand: op.ONone, Takes: 4, Gives: 1})
	is(t, "P1102: Sys(SList)", ok, true)
	n, ok := op.Named("ushr")
	is(t, "P1102: Named ushr", n, api.IUshr)
	is(t, "P1102: Named ushr", ok, true)
	n, ok = op.Named("Add")
	is(t, "P1102: Named Add", n, 0)
	is(t, "P1102: Named Add", ok, false)
}

// strangers are numbers that none of so many rows has; some would be one, were it not for their upper bits.
func strangers(rows int) []int {
	row := edges()
	for n := range rows {
		row = append(row, -n, ^n, n+rows, n-rows)
		for _, k := range []int{6, 7, 8, 15, 16, 31, 32, 62, 63} {
			row = append(row, n+1<<k, n-1<<k)
		}
	}
	row = append(row, -1, rows, rows+1, math.MinInt, math.MaxInt)
	return slices.DeleteFunc(row, func(n int) bool { return 0 <= n && n < rows })
}

func TestNoSuchNumber(t *testing.T) {
	for _, n := range strangers(46) {
		if s, ok := op.Of(n); ok || s != (op.Shape{}) {
			t.Errorf("P1102: Of(%d): %v, %v", n, s, ok)
		}
	}
	for _, n := range strangers(5) {
		if s, ok := op.Sys(n); ok || s != (op.Shape{}) {
			t.Errorf("P1102: Sys(%d): %v, %v", n, s, ok)
		}
	}
}

// beside are texts that are near a name, and the name itself.
func beside(name string) []string {
	great := strings.ToUpper(name)
	l := []string{name, great, great[:1] + name[1:], name[:len(name)-1] + great[len(name)-1:], name + name, "i" + name, "I" + name, name + "8"}
	for c := range 256 {
		l = append(l, name+string([]byte{byte(c)}), string([]byte{byte(c)})+name)
	}
	for i := range name {
		l = append(l, name[:i], name[i+1:], name[:i]+name[i+1:], name[:i]+" "+name[i:])
	}
	return l
}

// asked holds a call that tells the number of a name against the rows.
func asked(t *testing.T, what string, rows []op.Shape, call func(string) (int, bool), name string) {
	t.Helper()
	want := slices.IndexFunc(rows, func(s op.Shape) bool { return s.Name == name })
	n, ok := call(name)
	if ok != (want >= 0) || n != max(0, want) {
		t.Errorf("P1102: %s(%q): %d, %v", what, name, n, ok)
	}
}

func TestNames(t *testing.T) {
	ops, calls := rowsOf(instructions), rowsOf(callsOfFiles)
	texts := []string{"", " ", "\x00", "0", "3", "-1", "INop", "SOpen", "ICount", "é", "\xff", strings.Repeat("a", 1<<20)}
	for _, s := range slices.Concat(ops, calls) {
		texts = append(texts, beside(s.Name)...)
	}
	for _, s := range ops {
		for _, x := range ops {
			texts = append(texts, s.Name+x.Name, s.Name+" "+x.Name)
		}
	}
	for _, name := range texts {
		asked(t, "Named", ops, op.Named, name)
		asked(t, "SysNamed", calls, op.SysNamed, name)
	}
}

// All short texts of small letters and digits, so that no name is told that the tables do not have.
func TestAllShortNames(t *testing.T) {
	const signs = "abcdefghijklmnopqrstuvwxyz0123456789"
	ops, calls := rowsOf(instructions), rowsOf(callsOfFiles)
	var grow func(name string)
	grow = func(name string) {
		asked(t, "Named", ops, op.Named, name)
		asked(t, "SysNamed", calls, op.SysNamed, name)
		if len(name) == 3 {
			return
		}
		for _, c := range signs {
			grow(name + string(c))
		}
	}
	grow("")
}

// A name of the one table is none of the other.
func TestNamesOfTheOther(t *testing.T) {
	for _, s := range rowsOf(instructions) {
		if n, ok := op.SysNamed(s.Name); ok || n != 0 {
			t.Errorf("P1102: SysNamed(%q): %d, %v", s.Name, n, ok)
		}
	}
	for _, s := range rowsOf(callsOfFiles) {
		if n, ok := op.Named(s.Name); ok || n != 0 {
			t.Errorf("P1102: Named(%q): %d, %v", s.Name, n, ok)
		}
	}
}

// told are the names of a table, as its call tells them.
func told(of func(int) (op.Shape, bool)) []string {
	var names []string
	for n := 0; ; n++ {
		s, ok := of(n)
		if !ok {
			return names
		}
		names = append(names, s.Name)
	}
}

func isWord(name string) bool {
	for i, c := range []byte(name) {
		letter, digit := 'a' <= c && c <= 'z', '0' <= c && c <= '9'
		if !letter && (!digit || i == 0) {
			return false
		}
	}
	return name != ""
}

func TestNamesAreUnlikeWords(t *testing.T) {
	for what, names := range map[string][]string{"Of": told(op.Of), "Sys": told(op.Sys)} {
		for i, name := range names {
			if !isWord(name) {
				t.Errorf("P1106: %s: the name %q", what, name)
			}
			is(t, "P1106: the first place of "+name, slices.Index(names, name), i)
		}
	}
	is(t, "P1106: names of instructions", len(told(op.Of)), 46)
	is(t, "P1106: names of calls", len(told(op.Sys)), 5)
}
