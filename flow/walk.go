package flow

import (
	"slices"

	"retort/api"
	"retort/node"
)

// row is what is still to be done. What was put last is taken first, and of things that were put together the first one: so all that one of them leads to is done ahead of the next.
type row[T any] struct{ things []T }

func (r *row[T]) put(l ...T) {
	for _, x := range slices.Backward(l) {
		r.things = append(r.things, x)
	}
}

func (r *row[T]) empty() bool { return len(r.things) == 0 }

func (r *row[T]) take() T {
	last := len(r.things) - 1
	x := r.things[last]
	r.things = r.things[:last]
	return x
}

// rest is what of a Room is left to a walk.
type rest api.Room

func restOf(room api.Room) *rest {
	return &rest{
		Nodes: min(room.Nodes, api.MaxItems),
		Depth: min(room.Depth, api.MaxDepth),
		Bytes: min(room.Bytes, api.MaxStore),
	}
}

// enter takes one node at a depth.
func (r *rest) enter(depth int) api.Errno {
	if depth > r.Depth {
		return api.ErrDeep
	}
	if r.Nodes < 1 {
		return api.ErrNodes
	}
	r.Nodes--
	return api.OK
}

// take takes a file's bytes.
func (r *rest) take(n int) api.Errno {
	if n > r.Bytes {
		return api.ErrBytes
	}
	r.Bytes -= n
	return api.OK
}

// standing is a place of a tree, to which a walk goes.
type standing struct {
	digest api.Digest
	kind   int
	depth  int
}

// found is what lies under a digest, at whatever places that stands.
type found struct {
	blob  []byte
	parts []api.Digest // none, if it stands nowhere as a directory
}

// haul is what a walk came to.
type haul struct {
	order []api.Digest // as they were met first: the root ahead
	met   map[api.Digest]found
}

// meet notes a standing of a digest. One as a file takes no parts from a digest that stands as a directory too.
func (h *haul) meet(d api.Digest, x found) {
	old, there := h.met[d]
	if !there {
		h.order = append(h.order, d)
	}
	if len(x.parts) == 0 {
		x.parts = old.parts
	}
	h.met[d] = x
}

// meetDir notes a standing as a directory, and tells those right below it.
func (h *haul) meetDir(at standing, blob []byte) ([]standing, api.Errno) {
	entries, e := node.Decode(blob)
	if e != api.OK {
		return nil, e
	}
	x := found{blob: blob}
	var below []standing
	for _, y := range entries {
		x.parts = append(x.parts, y.Digest)
		below = append(below, standing{y.Digest, y.Kind, at.depth + 1})
	}
	h.meet(at.digest, x)
	return below, api.OK
}

// getter tells what lies under a digest, as a Store's Get does.
type getter func(d api.Digest) ([]byte, api.Errno)

// walk goes to all that stands in the tree of a root, up to the first error.
func walk(get getter, root api.Digest, room api.Room) (*haul, api.Errno) {
	h := &haul{met: map[api.Digest]found{}}
	left := restOf(room)
	todo := &row[standing]{}
	todo.put(standing{digest: root, kind: api.KDir})
	e := api.OK
	var blob []byte
	var below []standing
walk:
	for !todo.empty() {
		at := todo.take()
		if e = left.enter(at.depth); e != api.OK {
			break walk
		}
		if blob, e = get(at.digest); e != api.OK {
			break walk
		}
		switch at.kind {
		case api.KFile:
			if e = left.take(len(blob)); e != api.OK {
				break walk
			}
			h.meet(at.digest, found{blob: blob})
		case api.KDir:
			if below, e = h.meetDir(at, blob); e != api.OK {
				break walk
			}
			todo.put(below...)
		}
	}
	return h, e
}

// step is to go to a digest, or, behind its parts, away from it.
type step struct {
	digest api.Digest
	away   bool
}

// behindParts tells the digests that a walk came to, each behind its parts. They are not gone through by calls within calls: a digest that is a file here and a directory there makes the way longer than any tree is deep.
func (h *haul) behindParts() []api.Digest {
	var l []api.Digest
	gone := map[api.Digest]struct{}{}
	todo := &row[step]{}
	todo.put(step{digest: h.order[0]})
	for !todo.empty() {
		x := todo.take()
		if x.away {
			l = append(l, x.digest)
			continue
		}
		if _, there := gone[x.digest]; there {
			continue
		}
		gone[x.digest] = struct{}{}
		todo.put(step{digest: x.digest, away: true})
		todo.put(toAll(h.met[x.digest].parts)...)
	}
	return l
}

func toAll(parts []api.Digest) []step {
	var l []step
	for _, d := range parts {
		l = append(l, step{digest: d})
	}
	return l
}
