package asm_test

import (
	"fmt"
	"strings"
	"testing"

	"retort/api"
)

func TestParseExamples(t *testing.T) {
	tells(t, "memory 4\ndata \"a\\x00\"\nfunc main 0 0 1\nagain: num -3 ; three\nzero again\nnum 7\nret", example())
	refused(t, "nop", 1, api.ErrLine)
	refused(t, "nop\n"+begin, 1, api.ErrLine)
	refused(t, begin+"num 9223372036854775808", 2, api.ErrNumber)
	tells(t, begin+"num 0xffffffffffffffff", plain(one(api.INum, -1)))
	for _, s := range []string{"num 1x", "num", "num 1 2", "num0"} {
		refused(t, begin+s, 2, api.ErrLine)
	}
	refused(t, begin+"a: a:", 2, api.ErrLabel)
	refused(t, begin+"jump b", 2, api.ErrLabel)
	refused(t, begin+"get 64", 0, api.ErrCode)
	refused(t, "", 0, api.ErrProg)
	refused(t, "func f 0 0 0", 0, api.ErrProg)
	tells(t, begin+"jump: jump jump", plain(one(api.IJump, 0)))
}

// Texts without a function, whatever else they say.
func TestNoFunctions(t *testing.T) {
	for _, s := range []string{"", "\n", "\n\n\n", " ", "\t\r ", ";", "; a\n;b", "memory 1", "data \"\"", "memory 1\ndata \"a\"", "data \"a\"", "memory 99999999"} {
		refused(t, s, 0, api.ErrProg)
	}
}

func TestMemory(t *testing.T) {
	for _, c := range []struct {
		text string
		want int
	}{{"", 0}, {"memory 0", 0}, {"memory -0", 0}, {"memory 1", 1}, {"memory 65536", 65536}, {"memory 0x10000", 65536}, {" memory 5 ; five", 5}, {"\n\nmemory 6\n", 6}} {
		want := plain(one(api.IRet, 0))
		want.Memory = c.want
		tells(t, c.text+"\n"+begin+"ret", want)
	}
	for _, s := range []string{"memory 65537", "memory -1", "memory 0xffffffffffffffff", "memory 9223372036854775807", "data \"a\"", "memory 1\ndata \"ab\""} {
		refused(t, s+"\n"+begin+"ret", 0, api.ErrProg)
	}
	refused(t, "memory 1\nmemory 1\n"+begin+"ret", 2, api.ErrLine)
	refused(t, "memory 0\n\nmemory 0\n"+begin+"ret", 3, api.ErrLine)
	refused(t, "memory 1\nmemory 99999999999999999999\n"+begin+"ret", 2, api.ErrLine)
	refused(t, begin+"memory 1\nret", 2, api.ErrLine)
	refused(t, "memory 1\n"+begin+"ret\nmemory 1", 4, api.ErrLine)
	refused(t, begin+"a: memory 1\nret", 2, api.ErrLine)
	refused(t, "a: memory 1\n"+begin+"ret", 1, api.ErrLine)
}

func TestData(t *testing.T) {
	want := plain(one(api.IRet, 0))
	want.Memory, want.Data = 9, []byte("oxen")
	for _, s := range []string{"memory 9\ndata \"oxen\"", "data \"oxen\"\nmemory 9", "data \"ox\"\nmemory 9\ndata \"en\"", "memory 9\ndata \"o\"\ndata \"\"\n\ndata \"xe\"\ndata \"\\x6e\"", "data \"\"\ndata \"oxen\"\nmemory 9"} {
		tells(t, s+"\n"+begin+"ret", want)
	}
	want.Data = nil
	tells(t, "memory 9\ndata \"\"\n"+begin+"ret", want)
	refused(t, begin+"data \"\"\nret", 2, api.ErrLine)
	refused(t, begin+"ret\n"+"data \"a\"", 3, api.ErrLine)
	refused(t, "data \"a\" \"b\"\n"+begin+"ret", 1, api.ErrLine)
	refused(t, begin+"a: data \"a\"\nret", 2, api.ErrLine)
	want.Memory, want.Data = 65536, []byte(strings.Repeat("a", 65000))
	text := "memory 65536\ndata \"" + string(want.Data) + "\"\n" + begin + "ret"
	tells(t, text, want)
}

func TestFunctions(t *testing.T) {
	f, g := api.Func{Args: 1, Locals: 2, Results: 1, Code: list(one(api.IRet, 0))}, api.Func{Args: 16, Locals: 64, Code: list(one(api.INop, 0), one(api.IRet, 0))}
	tells(t, "func f 1 2 1\nret\nfunc g 16 64 0\nnop\nret", api.Program{Funcs: []api.Func{f, g}})
	tells(t, "func f 0x1 0x2 01\nret\n;\nfunc F 0x10 0x40 -0\nnop\nret", api.Program{Funcs: []api.Func{f, g}})
	tells(t, "func func 1 2 1\nret\nfunc memory 16 64 0\nnop\nret", api.Program{Funcs: []api.Func{f, g}})
	tells(t, "func data 1 2 1\nret\nfunc nop 16 64 0\nnop\nret", api.Program{Funcs: []api.Func{f, g}})
	for _, name := range []string{"_", "__", "a_1", "Z9", "f0", "x", "_0", strings.Repeat("long", 9000)} {
		tells(t, "func "+name+" 1 2 1\nret", api.Program{Funcs: []api.Func{f}})
	}
	for _, head := range []string{"17 17 0", "-1 0 0", "2 1 0", "0 65 0", "0 0 2", "0 0 -1", "0xffffffffffffffff 0 0"} {
		refused(t, "func f "+head+"\nret", 0, api.ErrProg)
	}
	refused(t, "func f 0 0 0\nret\nfunc g 0 0 0", 0, api.ErrProg)
	refused(t, "func f 0 0 0\nfunc g 0 0 0\nret", 0, api.ErrProg)
	refused(t, "func f 0 0 0\nret\nfunc f 0 0 0\nret", 3, api.ErrLabel)
	refused(t, "func f 0 0 0\nret\nfunc g 0 0 0\nret\nfunc f 1 1 1\nret", 5, api.ErrLabel)
	refused(t, "func f 0 0 0\na: func g 0 0 0\nret", 2, api.ErrLine)
	refused(t, "func f 0 0 0\nfunc: func :\nret", 2, api.ErrLabel)
	refused(t, "func f 0 0 0\nnop func g 0 0 0", 2, api.ErrLine)
}

// As many functions, as much code as there may be, and one more.
func TestManyFunctions(t *testing.T) {
	text := ""
	for i := range 65 {
		text += fmt.Sprintf("func f%d 0 0 0\nret\n", i)
		got := parse(t, text)
		is(t, fmt.Sprintf("P1401: %d functions", i+1), got.e == api.OK, i < 64)
	}
	tells(t, begin+strings.Repeat("nop\n", 4096), plain(many(one(api.INop, 0), 4096)...))
	refused(t, begin+strings.Repeat("nop\n", 4097), 0, api.ErrProg)
	tells(t, begin+"jump end\n"+strings.Repeat("nop\n", 4094)+"end: ret", plain(append(append(list(one(api.IJump, 4095)), many(one(api.INop, 0), 4094)...), one(api.IRet, 0))...))
	refused(t, begin+"jump end\n"+strings.Repeat("nop\n", 4095)+"end:", 0, api.ErrCode)
}

// Each instruction with each form of operand.
func TestInstructions(t *testing.T) {
	for n, s := range strings.Fields(names) {
		name, operand, has := strings.Cut(s, "/")
		want := api.ErrLine
		if !has {
			want = api.OK
		}
		is(t, "P1401: "+name, parse(t, begin+name).e, want)
		for _, a := range []string{"0", "1", "-0", "0x1"} {
			want := api.OK
			if !has {
				want = api.ErrLine
			}
			got := parse(t, begin+name+" "+a)
			is(t, "P1401: "+name+" "+a, got.e, want)
			if has {
				v, _ := valueOf(a)
				tells(t, begin+name+" "+a, plain(one(n, v)))
			}
		}
		for _, a := range []string{"f", "end", "open", "close", "nop", "g", "f0"} {
			got := parse(t, begin+"end: nop\n"+name+" "+a)
			want := api.ErrLine
			switch {
			case operand == "j" && a == "end", operand == "f" && a == "f", operand == "s" && (a == "open" || a == "close"):
				want = api.OK
			case operand == "j", operand == "f":
				want = api.ErrLabel
			}
			is(t, "P1401: "+name+" "+a, got.e, want)
		}
		for _, a := range []string{"\"a\"", "::", ": :", "0 0", "f f", "end end", "open open", "0 f", "f 0", "0:", "f:", "0 :", "end :", "nop: nop", "-", "0x", "1x"} {
			refused(t, begin+"end: nop\n"+name+" "+a, 3, api.ErrLine)
		}
		tells(t, begin+name+" :\njump "+name, plain(one(api.IJump, 0)))
		for _, wrong := range []string{strings.ToUpper(name), name + "_", name + "1", "_" + name, name[:len(name)-1] + "q", name + " " + name + " " + name} {
			if n, _ := named(wrong); n < 0 {
				got := parse(t, begin+wrong)
				is(t, "P1401: "+wrong, got.e, api.ErrLine)
				is(t, "P1401: "+wrong+" 1", parse(t, begin+wrong+" 1").e, api.ErrLine)
			}
		}
	}
}

// What an operand may not be is the program's fault, not a line's.
func TestOperandsBeyond(t *testing.T) {
	for _, c := range []struct {
		name string
		most int
	}{{"get", 63}, {"set", 63}, {"jump", 4095}, {"zero", 4095}, {"notzero", 4095}, {"call", 63}, {"sys", 4}, {"copy", 255}} {
		n, _ := named(c.name)
		tells(t, fmt.Sprintf("%s%s %d", begin, c.name, c.most), plain(one(n, c.most)))
		tells(t, fmt.Sprintf("%s%s %#x", begin, c.name, c.most), plain(one(n, c.most)))
		refused(t, fmt.Sprintf("%s%s %d", begin, c.name, c.most+1), 0, api.ErrCode)
		refused(t, fmt.Sprintf("%snop\n%s -1", begin, c.name), 0, api.ErrCode)
		refused(t, fmt.Sprintf("%snop\n%s 0x8000000000000000", begin, c.name), 0, api.ErrCode)
	}
}

func TestCallsOfFiles(t *testing.T) {
	for n, name := range strings.Fields(callNames) {
		tells(t, begin+"sys "+name, plain(one(api.ISys, n)))
		tells(t, fmt.Sprint(begin, "sys ", n), plain(one(api.ISys, n)))
		refused(t, begin+"sys "+strings.ToUpper(name), 2, api.ErrLine)
		refused(t, begin+name, 2, api.ErrLine)
		refused(t, begin+name+": sys "+name+"x", 2, api.ErrLine)
		tells(t, begin+name+": sys "+name+"\njump "+name, plain(one(api.ISys, n), one(api.IJump, 0)))
	}
	for _, name := range []string{"frob", "f", "sys", "nop", "opened", "_"} {
		refused(t, begin+name+": sys "+name, 2, api.ErrLine)
	}
}

func TestLabels(t *testing.T) {
	jump := func(a int) api.Instr { return one(api.IJump, a) }
	nop := one(api.INop, 0)
	for _, c := range []struct {
		text string
		want []api.Instr
	}{
		{"a: jump a", list(jump(0))},
		{"jump a\na:", list(jump(1))},
		{"a:\njump a", list(jump(0))},
		{"a:\n\n;\n\nnop\njump a", list(nop, jump(0))},
		{"nop\na:\nb:\nc: d: nop\nzero a\nnotzero b\njump c\njump d", list(nop, nop, one(api.IZero, 1), one(api.INotZero, 1), jump(1), jump(1))},
		{"x:y : z:jump z", list(jump(0))},
		{"x:y\t:\r z:jump x", list(jump(0))},
		{"jump later\nnop\nlater: nop\njump later\nend: last:", list(jump(2), nop, nop, jump(2))},
		{"jump end\nzero last\nend: last:", list(jump(2), one(api.IZero, 2))},
		{"func: memory : data:nop: num: jump func\njump memory\njump data\njump nop\njump num", list(jump(0), jump(0), jump(0), jump(0), jump(0))},
		{"nop: nop\nnop\njump nop", list(nop, nop, jump(0))},
		{"f: nop\njump f\ncall f", list(nop, jump(0), one(api.ICall, 0))},
		{"a: A: _: jump A\njump _", list(jump(0), jump(0))},
		{"sys: open: sys open\njump open\njump sys", list(one(api.ISys, 0), jump(0), jump(0))},
		{"a: nop\nb: nop\na1: nop\nL0: jump a\njump b\njump a1\njump L0", list(nop, nop, nop, jump(0), jump(1), jump(2), jump(3))},
		{"jump 7\nzero 0\nnotzero 4095", list(jump(7), one(api.IZero, 0), one(api.INotZero, 4095))},
	} {
		tells(t, begin+c.text, plain(c.want...))
		tells(t, begin+c.text+"\n", plain(c.want...))
	}
	long := strings.Repeat("l", 20000)
	tells(t, begin+long+": jump "+long, plain(jump(0)))
	refused(t, begin+long+": jump "+long+"l", 2, api.ErrLabel)
}

// Labels are of their function alone, functions' words of the whole text.
func TestLabelsOfFunctions(t *testing.T) {
	f := func(code ...api.Instr) api.Func { return api.Func{Code: code} }
	nop := one(api.INop, 0)
	tells(t, "func a 0 0 0\nx: jump x\nfunc b 0 0 0\nnop\nx: jump x", api.Program{Funcs: []api.Func{f(one(api.IJump, 0)), f(nop, one(api.IJump, 1))}})
	tells(t, "func a 0 0 0\njump x\nx:\nfunc b 0 0 0\nx: nop\njump x", api.Program{Funcs: []api.Func{f(one(api.IJump, 1)), f(nop, one(api.IJump, 0))}})
	tells(t, "func a 0 0 0\ncall b\ncall a\ncall c\nfunc b 0 0 0\ncall a\ncall b\nfunc c 0 0 0\ncall 9", api.Program{Funcs: []api.Func{f(one(api.ICall, 1), one(api.ICall, 0), one(api.ICall, 2)), f(one(api.ICall, 0), one(api.ICall, 1)), f(one(api.ICall, 9))}})
	tells(t, "func a 0 0 0\nb: call b\njump b\nfunc b 0 0 0\na: jump a\ncall a", api.Program{Funcs: []api.Func{f(one(api.ICall, 1), one(api.IJump, 0)), f(one(api.IJump, 0), one(api.ICall, 0))}})
	refused(t, "func a 0 0 0\njump x\nfunc b 0 0 0\nx: nop", 2, api.ErrLabel)
	refused(t, "func a 0 0 0\nx: nop\nfunc b 0 0 0\njump x", 4, api.ErrLabel)
	refused(t, "func a 0 0 0\njump b\nfunc b 0 0 0\nnop", 2, api.ErrLabel)
	refused(t, "func a 0 0 0\njump a", 2, api.ErrLabel)
	refused(t, "func a 0 0 0\nx: call x", 2, api.ErrLabel)
	refused(t, "func a 0 0 0\ncall A", 2, api.ErrLabel)
	refused(t, "func a 0 0 0\nx: jump X", 2, api.ErrLabel)
	refused(t, "func a 0 0 0\nx: nop\nx: nop", 3, api.ErrLabel)
	refused(t, "func a 0 0 0\nx: nop\nnop\ny: x:", 4, api.ErrLabel)
	refused(t, "func a 0 0 0\nx:\nx:", 3, api.ErrLabel)
	refused(t, "func a 0 0 0\nx: y: x: nop", 2, api.ErrLabel)
	refused(t, "func a 0 0 0\nx: nop\nfunc b 0 0 0\nx: nop\nfunc c 0 0 0\nx: nop\nx: nop", 7, api.ErrLabel)
}

// Of one line the first kind of fault is told, of two lines the first line's; words that are nothing's behind all of them; the program's behind all.
func TestFirstFault(t *testing.T) {
	const big = "99999999999999999999"
	kinds := []struct {
		name string
		line string
		e    api.Errno
	}{
		{"wrong", "nop 1", api.ErrLine}, {"wrong", "x: x: num " + big + " 1", api.ErrLine}, {"wrong", "\x01", api.ErrLine}, {"wrong", "func f " + big, api.ErrLine}, {"wrong", "x: x: frob", api.ErrLine},
		{"far", "num " + big, api.ErrNumber}, {"far", "x: x: num " + big, api.ErrNumber}, {"far", "func f 0 " + big + " 0", api.ErrNumber}, {"far", "x: x: jump " + big, api.ErrNumber},
		{"twice", "x: x:", api.ErrLabel}, {"twice", "func f 0 0 0", api.ErrLabel}, {"twice", "x: x: jump nowhere", api.ErrLabel}, {"twice", "once: call nobody", api.ErrLabel},
		{"unknown", "jump nowhere", api.ErrLabel}, {"unknown", "call nobody", api.ErrLabel}, {"unknown", "zero nowhere", api.ErrLabel},
		{"program", "get 64", api.ErrCode}, {"program", "func g 17 17 0", api.ErrProg},
	}
	for _, a := range kinds {
		for _, b := range kinds {
			text := begin + "once: nop\n" + a.line + "\nnop\n" + b.line + "\nnop"
			line, want := 3, a.e
			late := func(name string) bool { return name == "unknown" || name == "program" }
			if late(a.name) && (!late(b.name) || a.name == "program" && b.name == "unknown") {
				line, want = 5, b.e
			} else if a.name == "program" {
				line = 0
			}
			if strings.HasPrefix(a.line, "func g") && (b.line == "once: call nobody" || b.line == "func g 17 17 0") {
				continue // a new function has labels of its own, and is one more of that word
			}
			refused(t, text, line, want)
		}
	}
	refused(t, "func f 0 0 0\njump a\ncall b\nx: nop\nx:", 5, api.ErrLabel)
	refused(t, "func f 0 0 0\ncall b\njump a", 2, api.ErrLabel)
	refused(t, "func f 0 0 0\njump a\nnop 1", 3, api.ErrLine)
	refused(t, "func f 0 0 0\nget 64\njump a", 3, api.ErrLabel)
	refused(t, "memory -1\nfunc f 0 0 0\njump a", 3, api.ErrLabel)
	refused(t, "memory 1\nmemory "+big, 2, api.ErrLine)
	refused(t, "func f 0 0 0\nret\nfunc f "+big+" 0 0", 3, api.ErrNumber)
	refused(t, "func f 0 0 0\nret\nfunc f "+big+" 0 x", 3, api.ErrLine)
	refused(t, "num "+big, 1, api.ErrLine)
	refused(t, "x: x: nop", 1, api.ErrLine)
	refused(t, "\n\n; a\n\nfrob", 5, api.ErrLine)
	refused(t, begin+"get 64\nfunc g 0 0 0", 0, api.ErrCode)
	refused(t, begin+"nop\nfunc g 0 0 0\nfunc h 0 0 0\nget 64", 0, api.ErrProg)
}

// Texts of as many bytes as there may be, and of one more.
func TestLongTexts(t *testing.T) {
	for _, c := range []struct {
		front, pad string
		line       int
		e          api.Errno
	}{
		{begin + "nop", " ", 0, api.OK}, {begin + "nop\n", "\n", 0, api.OK}, {begin + "nop;", "\xff", 0, api.OK}, {begin + "nop\n;", ";", 0, api.OK},
		{"", " ", 0, api.ErrProg}, {"", "\n", 0, api.ErrProg}, {";", "a", 0, api.ErrProg}, {begin, "\r", 0, api.ErrProg},
		{"frob\n", " ", 1, api.ErrLine}, {"", "\x00", 1, api.ErrLine}, {"", "a", 1, api.ErrLine}, {begin + "nop\na: a:\n", " ", 3, api.ErrLabel}, {begin + "num ", "9", 2, api.ErrNumber}, {begin + "jump ", "a", 2, api.ErrLabel}, {"data \"", "a", 1, api.ErrLine}, {begin, ":", 2, api.ErrLine}, {begin, "\"", 2, api.ErrLine}, {begin, "-", 2, api.ErrLine}, {begin, "0", 2, api.ErrLine},
	} {
		for _, n := range []int{65535, 65536} {
			text := c.front + strings.Repeat(c.pad, n-len(c.front))
			if c.e == api.OK {
				tells(t, text, plain(one(api.INop, 0)))
			} else {
				refused(t, text, c.line, c.e)
			}
		}
		for _, n := range []int{65537, 65538, 1 << 20} {
			refused(t, c.front+strings.Repeat(c.pad, n-len(c.front)), 0, api.ErrLong)
		}
	}
	refused(t, strings.Repeat("\n", 65535)+"a", 65536, api.ErrLine)
}
