package asm_test

import (
	"fmt"
	"math/rand/v2"
	"slices"
	"strings"

	"retort/api"
)

// pick is one of a list.
func pick[T any](r *rand.Rand, l ...T) T { return l[r.IntN(len(l))] }

// drawnInstr is an instruction that may be, in a function of so many, in a program of so many functions.
func drawnInstr(r *rand.Rand, places, funcs int) api.Instr {
	x := one(r.IntN(api.ICount), 0)
	if r.IntN(2) == 0 {
		x.Op = pick(r, api.INum, api.IJump, api.IZero, api.INotZero, api.ICall, api.ISys, api.IGet, api.ICopy)
	}
	_, operand, _ := strings.Cut(strings.Fields(names)[x.Op], "/")
	switch {
	case x.Op == api.INum:
		x.A = int(r.Uint64()) >> r.IntN(64)
	case operand == "j":
		x.A = pick(r, r.IntN(places+1), r.IntN(places+1), r.IntN(places+1), places+1, r.IntN(4096))
	case operand == "f":
		x.A = pick(r, r.IntN(funcs), r.IntN(funcs), min(63, funcs), r.IntN(64))
	case operand == "s":
		x.A = r.IntN(5)
	case operand == "n":
		x.A = r.IntN(64)
	}
	return x
}

// drawn is a program that may be.
func drawn(r *rand.Rand) api.Program {
	p := api.Program{Memory: pick(r, 0, r.IntN(9), r.IntN(65537), 65536)}
	for range pick(r, 0, r.IntN(min(p.Memory, 40)+1)) {
		p.Data = append(p.Data, pick(r, byte(r.Uint32()), byte(32+r.IntN(95)), '"', '\\', ';', 'x', ' '))
	}
	funcs := 1 + r.IntN(pick(r, 1, 3, 9))
	for range funcs {
		args := r.IntN(17)
		f := api.Func{Args: args, Locals: args + r.IntN(65-args), Results: r.IntN(2)}
		places := 1 + r.IntN(pick(r, 1, 4, 14))
		for range places {
			f.Code = append(f.Code, drawnInstr(r, places, funcs))
		}
		p.Funcs = append(p.Funcs, f)
	}
	return p
}

// hand writes a program's text in any other way that says the same.
type hand struct {
	r *rand.Rand
	w strings.Builder
}

func (h *hand) some(most int) string {
	s := ""
	for range h.r.IntN(most + 1) {
		s += pick(h.r, " ", "\t", "\r", "  ")
	}
	return s
}

func (h *hand) gap() string { return pick(h.r, " ", "\t", "\r") + h.some(2) }

func (h *hand) remark() string {
	if h.r.IntN(3) > 0 {
		return ""
	}
	s := ";"
	for range h.r.IntN(9) {
		s += pick(h.r, string([]byte{byte(11 + h.r.IntN(245))}), ";", "\"", ":", "func f 0 0 0", "\\")
	}
	return s
}

// row is one line, and perhaps lines of nothing behind it.
func (h *hand) row(pieces ...string) {
	h.w.WriteString(h.some(2) + strings.Join(pieces, h.gap()) + h.some(1) + h.remark() + "\n")
	for range h.r.IntN(3) / 2 {
		h.w.WriteString(h.some(2) + h.remark() + "\n")
	}
}

func (h *hand) number(n int) string {
	s := fmt.Sprintf("%d", n)
	front := ""
	if n < 0 {
		front, s = "-", s[1:]
	}
	switch h.r.IntN(4) {
	case 0:
		return fmt.Sprintf("0x%x", uint64(n))
	case 1:
		return fmt.Sprintf("0x%016x", uint64(n))
	case 2:
		return front + strings.Repeat("0", h.r.IntN(30)) + s
	}
	return front + s
}

func (h *hand) quoted(b []byte) string {
	s := ""
	for _, c := range b {
		piece := quotedOf([]byte{c})
		s += pick(h.r, piece[1:len(piece)-1], fmt.Sprintf(`\x%02x`, c))
	}
	return `"` + s + `"`
}

// words are so many unlike ones, those among them that stand for something else too.
func (h *hand) words(n int) []string {
	all := strings.Fields("func memory data nop num jump call ret sys open close a b c A B _ __ x1 f0 f1 L0 L1 L2 main end add")
	for i := range n {
		all = append(all, fmt.Sprintf("%s%d", pick(h.r, "q", "_", "Q_"), i))
	}
	h.r.Shuffle(len(all), func(i, j int) { all[i], all[j] = all[j], all[i] })
	return all[:n]
}

func otherwise(r *rand.Rand, p api.Program) string {
	h := &hand{r: r}
	data, sized := p.Data, p.Memory == 0 && r.IntN(2) == 0
	for !sized || len(data) > 0 || r.IntN(4) == 0 {
		if !sized && r.IntN(2) == 0 {
			h.row("memory", h.number(p.Memory))
			sized = true
			continue
		}
		n := r.IntN(len(data) + 1)
		h.row("data", h.quoted(data[:n]))
		data = data[n:]
	}
	funcs := h.words(len(p.Funcs))
	for k, f := range p.Funcs {
		h.row("func", funcs[k], h.number(f.Args), h.number(f.Locals), h.number(f.Results))
		h.code(f.Code, funcs)
	}
	return strings.TrimRight(h.w.String(), pick(r, "", "\n"))
}

func (h *hand) code(code []api.Instr, funcs []string) {
	labels := h.words(len(code) + 3)
	at := make([]int, len(labels)) // a place may have more labels than one
	for i := range at {
		at[i] = i
		if i > len(code) {
			at[i] = h.r.IntN(len(code) + 1)
		}
	}
	for i := range len(code) + 1 {
		front := ""
		for j, label := range labels {
			if at[j] != i {
				continue
			}
			front += label + h.some(1) + ":" + h.some(1)
			if h.r.IntN(2) == 0 {
				h.row(front)
				front = ""
			}
		}
		if i == len(code) {
			if front != "" {
				h.row(front)
			}
			return
		}
		pieces := h.pieces(code[i], labels, at, funcs)
		pieces[0] = front + pieces[0]
		h.row(pieces...)
	}
}

// pieces are an instruction's name and operand.
func (h *hand) pieces(x api.Instr, labels []string, at []int, funcs []string) []string {
	name, operand, _ := strings.Cut(strings.Fields(names)[x.Op], "/")
	word := ""
	switch {
	case operand == "":
		return []string{name}
	case operand == "j" && slices.Contains(at, x.A):
		for word == "" {
			if j := h.r.IntN(len(at)); at[j] == x.A {
				word = labels[j]
			}
		}
	case operand == "f" && x.A < len(funcs):
		word = funcs[x.A]
	case operand == "s":
		word = strings.Fields(callNames)[x.A]
	}
	if word == "" || h.r.IntN(4) == 0 {
		word = h.number(x.A)
	}
	return []string{name, word}
}

// bent has a few bytes or lines of a text changed.
func bent(r *rand.Rand, text string) string {
	for range 1 + r.IntN(3) {
		if r.IntN(3) == 0 {
			text = bentLines(r, text)
			continue
		}
		at := r.IntN(len(text) + 1)
		till := min(len(text), at+r.IntN(3))
		text = text[:at] + pick(r, "", " ", "\n", ":", ";", "\"", "\\", "-", "0", "x", "a", "_", "\x00", "\xff", "99999999999999999999", "0x", " 1", " a", "a:", "\\x41") + text[till:]
	}
	return text
}

func bentLines(r *rand.Rand, text string) string {
	l := strings.Split(text, "\n")
	i, j := r.IntN(len(l)), r.IntN(len(l))
	switch r.IntN(4) {
	case 0:
		l[i], l[j] = l[j], l[i]
	case 1:
		l[i] = l[j]
	case 2:
		l = slices.Insert(l, i, l[j])
	case 3:
		l = slices.Delete(l, i, i+1)
	}
	return strings.Join(l, "\n")
}

// wild is a text of lines of pieces that may stand in lines, in any order.
func wild(r *rand.Rand) string {
	all := []string{"memory", "data", "func", "nop", "num", "jump", "zero", "call", "sys", "get", "ret", "open", "a", "b", "f", "g", ":", ":", ":", "a:", "b :", "0", "1", "-1", "0x1", "64", "99999999999999999999", "\"\"", "\"a;\"", ";", "\"", "-", "1x", "\x01", "é"}
	s := pick(r, "", "func f 0 0 0\n", "memory 5\ndata \"a\"\nfunc f 0 0 0\nnop\n")
	for range 1 + r.IntN(5) {
		for range r.IntN(6) {
			s += pick(r, all...) + pick(r, " ", " ", " ", "\t", "")
		}
		s += "\n"
	}
	return s
}
