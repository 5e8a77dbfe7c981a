package opt

import "retort/api"

// reached tells the places to which a run may come, which are those that have a height: check looks at each place to which going on leads, and takes none else.
func (b *body) reached() []bool {
	is := make([]bool, len(b.code))
	wait := []int{b.first()}
	for len(wait) > 0 {
		at := wait[len(wait)-1]
		wait = wait[:len(wait)-1]
		for !is[at] {
			is[at] = true
			x := b.code[at]
			if ends(x) {
				break
			}
			if jumps(x) {
				wait = append(wait, x.A)
			}
			if x.Op != api.IJump {
				at = b.next[at]
			}
		}
	}
	return is
}

// dead are the places to which no run comes, rising.
func (b *body) dead() []int {
	if b.first() == b.behind() {
		return nil
	}
	is := make([]bool, len(b.code))
	if b.live {
		is = b.reached()
	}
	var l []int
	for at := b.first(); at != b.behind(); at = b.next[at] {
		if !is[at] {
			l = append(l, at)
		}
	}
	return l
}

func (b *body) firstDead() (int, int, bool) {
	if l := b.dead(); len(l) > 0 {
		return l[0], LDead, true
	}
	return 0, 0, false
}

// dropDead drops all that is dead, and tells whether anything was. Nothing that is left names it.
func (b *body) dropDead() bool {
	l := b.dead()
	for _, at := range l {
		b.drop(at)
	}
	return len(l) > 0
}
