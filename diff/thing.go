package diff

import (
	"bytes"
	"maps"
	"slices"

	"retort/api"
	"retort/path"
)

// thing is what stands at a path: nothing (the zero thing), a file with its bytes, or a directory with what stands at the names in it.
type thing struct {
	kind  int
	data  []byte
	below map[string]thing
}

func newDir() thing { return thing{kind: api.KDir, below: map[string]thing{}} }

func newFile(b []byte) thing { return thing{kind: api.KFile, data: b} }

// grown is the root of a tree.
func grown(l []api.Item) thing {
	root := newDir()
	dirs := map[string]thing{"": root} // by their paths: each stands in the list ahead of what is in it
	for _, x := range l {
		dir, name, _ := path.Split(x.Path)
		y := newFile(x.Data)
		if x.Dir {
			y = newDir()
			dirs[x.Path] = y
		}
		dirs[dir].below[name] = y
	}
	return root
}

// at tells what stands at a path that begins at x.
func (x thing) at(p string) thing {
	for name := range path.Names(p) {
		x = x.below[name]
	}
	return x
}

// names are those in some directories, each once, in their order.
func names(dirs ...thing) []string {
	var l []string
	for _, x := range dirs {
		l = slices.AppendSeq(l, maps.Keys(x.below))
	}
	slices.Sort(l)
	return slices.Compact(l)
}

// joined puts a name behind a path. It may be one that is too deep for path.Join: while changes are laid on, a tree may be deeper than one may be.
func joined(dir, name string) string {
	if dir == "" {
		return name
	}
	return dir + "/" + name
}

// item is what stands at a path, without what is under it, in memory of its own.
func (x thing) item(p string) api.Item {
	if x.kind == api.KNone {
		return api.Item{}
	}
	return api.Item{Path: p, Dir: x.kind == api.KDir, Data: bytes.Clone(x.data)}
}

// listed puts what stands below a path behind a list, as trees have it.
func (x thing) listed(dir string, l []api.Item) []api.Item {
	for _, name := range names(x) {
		p, y := joined(dir, name), x.below[name]
		l = y.listed(p, append(l, y.item(p)))
	}
	return l
}

// size tells how many items x is, with all that is under it, and how many bytes its files have.
func (x thing) size() (items, bytes int) {
	if x.kind == api.KNone {
		return 0, 0
	}
	items, bytes = 1, len(x.data)
	for _, y := range x.below {
		n, b := y.size()
		items, bytes = items+n, bytes+b
	}
	return items, bytes
}

func (x thing) alike(y thing) bool {
	return x.kind == y.kind && bytes.Equal(x.data, y.data) && maps.EqualFunc(x.below, y.below, thing.alike)
}
