package asm_test

import (
	"bytes"
	"fmt"
	"math"
	"strings"
	"testing"

	"retort/api"
	"retort/asm"
)

// prints looks that a program has that text.
func prints(t *testing.T, p api.Program, want string) {
	t.Helper()
	text, e := back(t, p)
	is(t, "P1402: Print", e, api.OK)
	is(t, "P1402: Print", text, want)
}

// unprinted looks that a program has no text, by that error.
func unprinted(t *testing.T, what string, p api.Program, want api.Errno) {
	t.Helper()
	text, e := back(t, p)
	is(t, "P1402: "+what, e, want)
	is(t, "P4: a text beside an error: "+what, text, "")
}

const head = "memory 0\nfunc f0 0 0 0\n"

func TestPrintExamples(t *testing.T) {
	prints(t, example(), "memory 4\ndata \"a\\x00\"\nfunc f0 0 0 1\nL0:\n\tnum -3\n\tzero L0\n\tnum 7\n\tret\n")
	prints(t, plain(one(api.INop, 0)), head+"\tnop\n")
}

func TestPrintFaults(t *testing.T) {
	unprinted(t, "no functions", api.Program{}, api.ErrProg)
	unprinted(t, "no code", plain(), api.ErrProg)
	unprinted(t, "no such instruction", plain(one(46, 0)), api.ErrOp)
	unprinted(t, "below all instructions", plain(one(-1, 0)), api.ErrOp)
	unprinted(t, "an operand where there is none", plain(one(api.IAdd, 1)), api.ErrCode)
	unprinted(t, "a jump below 0", plain(one(api.IJump, -1)), api.ErrCode)
	unprinted(t, "a jump beyond all code", plain(one(api.IZero, 4096)), api.ErrCode)
	unprinted(t, "a call beyond all functions", plain(one(api.ICall, 64)), api.ErrCode)
	unprinted(t, "a call of files that is none", plain(one(api.ISys, 5)), api.ErrCode)
	unprinted(t, "more Data than Memory", api.Program{Data: []byte{1}, Funcs: plain(one(0, 0)).Funcs}, api.ErrProg)
	unprinted(t, "the least Memory", api.Program{Memory: math.MinInt, Funcs: plain(one(0, 0)).Funcs}, api.ErrProg)
	unprinted(t, "too much code", plain(many(one(0, 0), 4097)...), api.ErrProg)
	long := api.Program{Memory: 65536, Data: make([]byte, 65536), Funcs: plain(one(99, 0)).Funcs}
	unprinted(t, "both wrong and long", long, api.ErrOp)
	long.Funcs = plain(one(0, 0)).Funcs
	unprinted(t, "long", long, api.ErrLong)
	long.Memory = 65535
	unprinted(t, "more Data than Memory, and long", long, api.ErrProg)
}

// Jumps of each kind to every place, the place behind the last one, and beyond it.
func TestPrintJumps(t *testing.T) {
	for _, op := range []int{api.IJump, api.IZero, api.INotZero} {
		name, _, _ := strings.Cut(strings.Fields(names)[op], "/")
		for n := 1; n <= 5; n++ {
			for from := range n {
				for to := range 8 {
					code := many(one(api.INop, 0), n)
					code[from] = one(op, to)
					want := head
					for at := range n + 1 {
						if at == to {
							want += fmt.Sprintf("L%d:\n", at)
						}
						switch {
						case at == from && to <= n:
							want += fmt.Sprintf("\t%s L%d\n", name, to)
						case at == from:
							want += fmt.Sprintf("\t%s %d\n", name, to)
						case at < n:
							want += "\tnop\n"
						}
					}
					prints(t, plain(code...), want)
				}
			}
		}
	}
	prints(t, plain(one(api.IJump, 4095)), head+"\tjump 4095\n")
	prints(t, plain(one(api.IJump, 1), one(api.IZero, 1), one(api.INotZero, 3), one(api.IJump, 1)), head+"\tjump L1\nL1:\n\tzero L1\n\tnotzero L3\nL3:\n\tjump L1\n")
	code := many(one(api.INop, 0), 4096)
	code[9] = one(api.IJump, 4095)
	text, e := back(t, plain(code...))
	is(t, "P1402: a jump to the last place of all", e, api.OK)
	is(t, "P1402: a jump to the last place of all", strings.HasSuffix(text, "\tnop\nL4095:\n\tnop\n"), true)
}

// Only a jump makes a label, and only in its own function.
func TestPrintOtherOperands(t *testing.T) {
	for _, c := range []struct {
		x    api.Instr
		want string
	}{
		{one(api.INum, 0), "num 0"}, {one(api.INum, 1), "num 1"}, {one(api.INum, -1), "num -1"}, {one(api.INum, 10), "num 10"}, {one(api.INum, math.MinInt), "num -9223372036854775808"}, {one(api.INum, math.MaxInt), "num 9223372036854775807"},
		{one(api.IGet, 0), "get 0"}, {one(api.IGet, 63), "get 63"}, {one(api.ISet, 1), "set 1"}, {one(api.ICopy, 0), "copy 0"}, {one(api.ICopy, 255), "copy 255"},
		{one(api.ICall, 0), "call f0"}, {one(api.ICall, 1), "call f1"}, {one(api.ICall, 2), "call 2"}, {one(api.ICall, 63), "call 63"},
		{one(api.ISys, api.SOpen), "sys open"}, {one(api.ISys, api.SRead), "sys read"}, {one(api.ISys, api.SWrite), "sys write"}, {one(api.ISys, api.SList), "sys list"}, {one(api.ISys, api.SClose), "sys close"},
	} {
		p := api.Program{Funcs: []api.Func{{Code: list(c.x)}, {Code: list(one(api.IJump, 0))}}}
		prints(t, p, head+"\t"+c.want+"\nfunc f1 0 0 0\nL0:\n\tjump L0\n")
	}
	for n, s := range strings.Fields(names) {
		if name, _, has := strings.Cut(s, "/"); !has {
			prints(t, plain(one(n, 0)), head+"\t"+name+"\n")
		}
	}
	p := api.Program{Funcs: []api.Func{{Code: list(one(api.IJump, 1), one(api.IJump, 2))}, {Code: list(one(api.INop, 0), one(api.INop, 0))}}}
	prints(t, p, head+"\tjump L1\nL1:\n\tjump L2\nL2:\nfunc f1 0 0 0\n\tnop\n\tnop\n")
}

func TestPrintHeads(t *testing.T) {
	var p api.Program
	want := "memory 65536\n"
	p.Memory = 65536
	for i := range 64 {
		f := api.Func{Args: i % 17, Locals: 64 - i%48, Results: i % 2, Code: list(one(api.ICall, 63-i))}
		p.Funcs = append(p.Funcs, f)
		want += fmt.Sprintf("func f%d %d %d %d\n\tcall f%d\n", i, f.Args, f.Locals, f.Results, 63-i)
	}
	prints(t, p, want)
}

func TestPrintData(t *testing.T) {
	p := plain(one(api.IRet, 0))
	p.Memory = 256
	for c := range 256 {
		p.Data = append(p.Data, byte(c))
	}
	low, high := "", ""
	for c := range 32 {
		low += fmt.Sprintf("\\x%02x", c)
	}
	for c := 127; c < 256; c++ {
		high += fmt.Sprintf("\\x%02x", c)
	}
	shown := " !\\\"#$%&'()*+,-./0123456789:;<=>?@ABCDEFGHIJKLMNOPQRSTUVWXYZ[\\\\]^_`abcdefghijklmnopqrstuvwxyz{|}~"
	prints(t, p, "memory 256\ndata \""+low+shown+high+"\"\nfunc f0 0 0 0\n\tret\n")
	for _, none := range [][]byte{nil, {}, make([]byte, 0, 5)} {
		p.Data = none
		prints(t, p, "memory 256\nfunc f0 0 0 0\n\tret\n")
	}
	for c := range 256 {
		p.Data = []byte{byte(c)}
		text, _ := back(t, p)
		is(t, fmt.Sprintf("P1402: the byte %d", c), strings.Contains(text, "\ndata "+quotedOf(p.Data)+"\n"), true)
	}
	p.Data = make([]byte, 256)
	text, _ := back(t, p)
	is(t, "P1402: Data in one string", strings.Count(text, "data "), 1)
}

// filled has a text of so many bytes: Data of that byte, which takes each of them, and of an `a` for each that is left.
func filled(size int, c byte, each int) api.Program {
	p := plain(one(api.IRet, 0))
	p.Memory = 65536
	room := size - len("memory 65536\ndata \"\"\nfunc f0 0 0 0\n\tret\n")
	p.Data = append(bytes.Repeat([]byte{c}, room/each), bytes.Repeat([]byte{'a'}, room%each)...)
	return p
}

func TestLongPrints(t *testing.T) {
	for _, c := range []struct {
		c    byte
		each int
	}{{'a', 1}, {7, 4}} {
		for n := 65530; n <= 65545; n++ {
			text, e := back(t, filled(n, c.c, c.each))
			is(t, fmt.Sprintf("P1402: a text of %d bytes", n), e == api.OK, n <= 65536)
			if e == api.OK {
				is(t, "P1402: its bytes", len(text), n)
			} else {
				is(t, "P1402: why", e, api.ErrLong)
			}
		}
	}
	p := plain(many(one(api.INum, -1000), 4096)...)
	text, e := back(t, p)
	is(t, "P1402: 4096 numbers", e, api.OK)
	room := 65536 - len(text)
	for i := range p.Funcs[0].Code {
		grow := min(room, 10)
		p.Funcs[0].Code[i].A = -1000
		for range grow {
			p.Funcs[0].Code[i].A *= 10
		}
		room -= grow
	}
	text, e = back(t, p)
	is(t, "P1402: a text of code", e, api.OK)
	is(t, "P1402: its bytes", len(text), 65536)
	p.Funcs[0].Code[4095].A *= 10
	unprinted(t, "a digit more", p, api.ErrLong)
	p.Funcs[0].Code[4095] = one(api.IJump, 4096-1)
	text, e = back(t, p)
	is(t, "P1402: a label at the end", e, api.ErrLong)
	is(t, "P1402: a label at the end", text, "")
	all := api.Program{Memory: 65536, Data: make([]byte, 65536)}
	for range 64 {
		all.Funcs = append(all.Funcs, api.Func{Code: many(one(api.INum, math.MinInt), 4096)})
	}
	text, e = asm.Print(all)
	is(t, "P1402: the greatest program", e, api.ErrLong)
	is(t, "P1402: the greatest program", text, "")
}
