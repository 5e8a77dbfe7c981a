package opt

import (
	"slices"

	"retort/api"
)

// row is what begins at a place: of a kind, and what stands instead of it.
type row struct {
	kind    kind
	instead []api.Instr
}

// longest is how many instructions a row has at most.
const longest = 3

// rowAt tells the first row of the table that begins at a place.
func (b *body) rowAt(begin int) (row, bool) {
	var found row
	fits := false
rows:
	for _, k := range b.begins[b.code[begin].Op] {
		var in [longest]api.Instr
		at := begin
		for i, ops := range k.ops {
			if at == b.behind() || i > 0 && b.named[at] > 0 || !slices.Contains(ops, b.code[at].Op) {
				continue rows
			}
			in[i] = b.code[at]
			at = b.next[at]
		}
		if found.instead, fits = k.instead(sight{in[:len(k.ops)], at, b.code}); fits {
			found.kind = k
			break rows
		}
	}
	return found, fits
}

// rowFrom tells the first place from one on at which a row begins, and that row.
func (b *body) rowFrom(at int) (int, row, bool) {
	for ; at != b.behind(); at = b.next[at] {
		if r, fits := b.rowAt(at); fits {
			return at, r, true
		}
	}
	return 0, row{}, false
}

func (b *body) firstRow() (int, int, bool) {
	at, r, some := b.rowFrom(b.first())
	return at, r.kind.what, some
}

// put lets stand instead of a row what its kind says, and tells the place at which that stands, or what lay behind.
func (b *body) put(at int, r row) int {
	for range len(r.kind.ops) - 1 {
		b.drop(b.next[at])
	}
	if len(r.instead) > 0 {
		b.set(at, r.instead[0])
		return at
	}
	next := b.next[at]
	b.turn(at, next)
	b.drop(at)
	return next
}

// finish does all that is left, as if all were looked at again behind each row. But what a row does is mostly seen only by rows that reach to its place: those that begin a little ahead. Only where it turns the way, or where jumps come to its place, may more be left: something dead, a thread, a row anywhere.
func (b *body) finish() {
	b.clean()
	at, r, some := b.rowFrom(b.first())
	for some {
		at = b.put(at, r)
		if r.kind.turns || b.named[at] > 0 {
			b.clean()
			at = b.first()
		} else {
			at = b.back(at)
		}
		at, r, some = b.rowFrom(at)
	}
}

// clean does all that is left but rows.
func (b *body) clean() {
	for b.dropDead() || b.tie() {
	}
}

// back is the first place at which a row may begin that reaches to a place.
func (b *body) back(at int) int {
	for range longest - 1 {
		if at != b.first() {
			at = b.prev[at]
		}
	}
	return at
}
