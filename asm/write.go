package asm

import (
	"strconv"

	"retort/api"
	"retort/op"
)

// written is the text of a right program, however long.
func written(p api.Program) []byte {
	b := numberBehind([]byte("memory"), p.Memory)
	b = append(b, '\n')
	if len(p.Data) > 0 {
		b = append(b, "data "...)
		b = stringBehind(b, p.Data)
		b = append(b, '\n')
	}
	for k, f := range p.Funcs {
		b = functionBehind(b, k, f, len(p.Funcs))
	}
	return b
}

func numberBehind(b []byte, n int) []byte {
	return strconv.AppendInt(append(b, ' '), int64(n), 10)
}

// nameBehind lays down a word of a letter and a number.
func nameBehind(b []byte, letter byte, n int) []byte {
	return strconv.AppendInt(append(b, letter), int64(n), 10)
}

func stringBehind(b, data []byte) []byte {
	b = append(b, '"')
	for _, c := range data {
		switch {
		case c == '"' || c == '\\':
			b = append(b, '\\', c)
		case c < ' ' || c > '~':
			b = append(b, '\\', 'x', hexDigits[c>>4], hexDigits[c&15])
		default:
			b = append(b, c)
		}
	}
	return append(b, '"')
}

// functionBehind lays down the function k of a program that has so many.
func functionBehind(b []byte, k int, f api.Func, funcs int) []byte {
	b = nameBehind(append(b, "func "...), 'f', k)
	for _, n := range [...]int{f.Args, f.Locals, f.Results} {
		b = numberBehind(b, n)
	}
	b = append(b, '\n')
	named := aims(f.Code)
	for at, x := range f.Code {
		b = labelBehind(b, named, at)
		b = instructionBehind(b, x, len(f.Code), funcs)
	}
	return labelBehind(b, named, len(f.Code))
}

// aims tells of each place, and of that behind the last one, whether a jump names it.
func aims(code []api.Instr) []bool {
	l := make([]bool, len(code)+1)
	for _, x := range code {
		if operandOf(x) == op.OJump && x.A < len(l) {
			l[x.A] = true
		}
	}
	return l
}

func operandOf(x api.Instr) int {
	shape, _ := op.Of(x.Op)
	return shape.Operand
}

func labelBehind(b []byte, named []bool, at int) []byte {
	if !named[at] {
		return b
	}
	return append(nameBehind(b, 'L', at), ":\n"...)
}

// instructionBehind lays down an instruction of a function that has so many, in a program of so many functions.
func instructionBehind(b []byte, x api.Instr, places, funcs int) []byte {
	shape, _ := op.Of(x.Op)
	b = append(append(b, '\t'), shape.Name...)
	switch {
	case shape.Operand == op.ONone:
	case shape.Operand == op.OJump && x.A <= places:
		b = nameBehind(append(b, ' '), 'L', x.A)
	case shape.Operand == op.OFunc && x.A < funcs:
		b = nameBehind(append(b, ' '), 'f', x.A)
	case shape.Operand == op.OSys:
		call, _ := op.Sys(x.A)
		b = append(append(b, ' '), call.Name...)
	default:
		b = numberBehind(b, x.A)
	}
	return append(b, '\n')
}
