package tongue

import "retort/api"

// row is a part and all of its own, one behind the other, as a chain: a sign of two is met behind its first one, but stands ahead of it.
type row struct {
	first, last *link
}

type link struct {
	part api.Part
	next *link
}

// rowOf is a part with those kids.
func rowOf(kind, n int, kids ...row) row {
	head := &link{part: api.Part{Kind: kind, N: n, Kids: len(kids)}}
	r := row{head, head}
	for _, k := range kids {
		r.last.next = k.first
		r.last = k.last
	}
	return r
}

// list is the parts of a row.
func (r row) list() []api.Part {
	var l []api.Part
	for at := r.first; at != nil; at = at.next {
		l = append(l, at.part)
	}
	return l
}
