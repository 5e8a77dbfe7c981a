package opt

import (
	"iter"
	"slices"

	"retort/api"
)

// passes tells whether a jump that comes to a place goes on from there at once.
func (b *body) passes(at int) bool {
	return b.code[at].Op == api.INop || b.code[at].Op == api.IJump
}

// pass is the place at which it goes on then.
func (b *body) pass(at int) int {
	if b.code[at].Op == api.IJump {
		return b.code[at].A
	}
	return b.next[at]
}

// What is known of a place while it is looked for where jumps end.
const (
	unknown = -1
	onWay   = -2
)

// endOf finds where a jump that names a place ends, and of all places on its way, too.
func (b *body) endOf(at int, end []int) int {
	var way []int
	here := at
	for end[here] == unknown && b.passes(here) {
		end[here] = onWay
		way = append(way, here)
		here = b.pass(here)
	}
	switch end[here] {
	case unknown:
		end[here] = here
	case onWay:
		// The way has come round: each place of the ring is the first that comes a second time to who begins there.
		ring := slices.Index(way, here)
		for _, x := range way[ring:] {
			end[x] = x
		}
		way = way[:ring]
	}
	for _, x := range way {
		end[x] = end[here]
	}
	return end[at]
}

// loose tells the places of the jumps that do not name the place where they end, rising, and where they end. What it tells may be done on the way: a jump that names its end leads those that come to it to no other one.
func (b *body) loose() iter.Seq2[int, int] {
	return func(yield func(at, end int) bool) {
		var end []int
		for at := b.first(); at != b.behind(); at = b.next[at] {
			x := b.code[at]
			if !jumps(x) || !b.passes(x.A) {
				continue
			}
			if end == nil {
				end = slices.Repeat([]int{unknown}, len(b.code))
			}
			if to := b.endOf(x.A, end); to != x.A && !yield(at, to) {
				return
			}
		}
	}
}

func (b *body) firstLoose() (int, int, bool) {
	for at := range b.loose() {
		return at, LThread, true
	}
	return 0, 0, false
}

// tie lets all jumps name the places where they end, and tells whether one did not.
func (b *body) tie() bool {
	some := false
	for at, to := range b.loose() {
		b.set(at, api.Instr{Op: b.code[at].Op, A: to})
		some = true
	}
	return some
}
