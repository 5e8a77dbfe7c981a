package diff

import "retort/api"

// merger puts things together, and notes where it can't.
type merger struct {
	conflicts []api.Conflict
}

// Merge puts together what two sides have made of one tree.
func Merge(base, ours, theirs []api.Item) ([]api.Item, []api.Conflict, api.Errno) {
	if e := checkAll(base, ours, theirs); e != api.OK {
		return nil, nil, e
	}
	m := &merger{}
	l, e := treeOf(m.merged("", grown(base), grown(ours), grown(theirs)))
	if e != api.OK {
		return nil, nil, e
	}
	return l, m.conflicts, api.OK
}

// merged is what comes out at a path at which x stood, and now o and t stand.
func (m *merger) merged(p string, x, o, t thing) thing {
	switch {
	case o.alike(t):
		return o
	case o.alike(x):
		return t
	case t.alike(x):
		return o
	case o.kind == api.KDir && t.kind == api.KDir:
		return m.mergedBelow(p, x, o, t)
	}
	m.conflicts = append(m.conflicts, api.Conflict{Path: p, Base: x.item(p), Ours: o.item(p), Theirs: t.item(p)})
	return o
}

// mergedBelow is the directory that two make. (What x alone has both have dropped.)
func (m *merger) mergedBelow(p string, x, o, t thing) thing {
	y := newDir()
	for _, name := range names(o, t) {
		z := m.merged(joined(p, name), x.below[name], o.below[name], t.below[name])
		if z.kind != api.KNone {
			y.below[name] = z
		}
	}
	return y
}
