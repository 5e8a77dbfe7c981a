package diff

import (
	"retort/api"
	"retort/cas"
	"retort/path"
	"retort/tree"
)

// layer lays changes on what stands at a root: so many items, so many bytes.
type layer struct {
	s            *cas.Store
	root         thing
	items, bytes int
}

// Lay lays changes on a tree; what a file is to be is got out of a Store.
func Lay(s *cas.Store, l []api.Item, changes []api.Change) ([]api.Item, api.Errno) {
	if e := tree.Check(l); e != api.OK {
		return nil, e
	}
	y := &layer{s: s, root: grown(l), items: -1} // the root is no item
	y.count(y.root, 1)
	for _, c := range changes {
		if e := y.lay(c); e != api.OK {
			return nil, e
		}
	}
	return treeOf(y.root)
}

// treeOf tells the items below a root, if they are a tree.
func treeOf(root thing) ([]api.Item, api.Errno) {
	l := root.listed("", nil)
	if e := tree.Check(l); e != api.OK {
		return nil, e
	}
	return l, api.OK
}

func (y *layer) lay(c api.Change) api.Errno {
	dir, name, e := path.Split(c.Path)
	if e != api.OK || !isRight(c, name) {
		return api.ErrEdit
	}
	up := y.root.at(dir)
	was := up.below[name]
	if up.kind != api.KDir || !y.has(was, c.Was) {
		return api.ErrEdit
	}
	now, e := y.got(c.Now)
	if e != api.OK {
		return e
	}
	if now.kind == api.KNone {
		delete(up.below, name)
	} else {
		up.below[name] = now
	}
	y.count(was, -1)
	y.count(now, 1)
	if y.items >= 2*api.MaxItems || y.bytes > 2*api.MaxStore {
		return api.ErrItems
	}
	return api.OK
}

// isRight tells whether a change, at a path with that last name, is one that changeOf could tell.
func isRight(c api.Change, name string) bool {
	if c == (api.Change{Path: c.Path, Kind: c.Kind}) {
		return false // nothing was, nothing is
	}
	return mayBe(c.Was, name) && mayBe(c.Now, name) && c == changeOf(c.Path, c.Was, c.Now)
}

// mayBe tells whether x is no entry, or one of that name.
func mayBe(x api.Entry, name string) bool {
	return x == (api.Entry{}) || x.Name == name && (x.Kind == api.KFile || x.Kind == api.KDir)
}

// has tells whether the entry of what stands somewhere is that one (of its name).
func (y *layer) has(x thing, want api.Entry) bool {
	d, e := api.Digest{}, api.OK
	switch {
	case x.kind != want.Kind:
		return false
	case x.kind == api.KFile:
		d = digestOf(y.s.Width(), x.data)
	case x.kind == api.KDir:
		d, _, e = tree.Build(y.s.Width(), x.listed("", nil))
	}
	return e == api.OK && d == want.Digest
}

// got is what an entry names, out of the Store.
func (y *layer) got(x api.Entry) (thing, api.Errno) {
	switch x.Kind {
	case api.KFile:
		b, e := y.s.Get(x.Digest)
		if e != api.OK {
			return thing{}, e
		}
		return newFile(b), api.OK
	case api.KDir:
		l, e := tree.Load(y.s, x.Digest, api.Room{Nodes: api.MaxItems, Depth: api.MaxDepth, Bytes: api.MaxStore})
		if e != api.OK {
			return thing{}, e
		}
		return grown(l), api.OK
	}
	return thing{}, api.OK
}

// count counts what came (1) or went (-1).
func (y *layer) count(x thing, sign int) {
	items, bytes := x.size()
	y.items += sign * items
	y.bytes += sign * bytes
}
