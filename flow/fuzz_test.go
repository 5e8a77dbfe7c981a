package flow_test

import (
	"bytes"
	"testing"

	"retort/api"
)

func FuzzUnpack(f *testing.F) {
	dir := []byte{1, 0}
	f.Add(packed(32, dir), 32, 1000)
	f.Add(packed(1, []byte{1, 2}, []byte{1, 1, 1, 1, 97, 1, 161}), 1, 1000)
	f.Add(packed(2, dir, dir), 2, 40)
	f.Add([]byte{5, 3, 250, 1, 0, 1}, 3, 0)
	f.Fuzz(func(t *testing.T, b []byte, width, capacity int) {
		s := store(t, 1+int(uint(width)%32), int(uint(capacity)%(1<<20)))
		then := s.Twin()
		d, e := unpackOf(then, b)
		unpacks(t, "fuzz", s, b, d, e, then.Counts().Puts)
		if e == api.OK {
			packs(t, "fuzz", s, d, greatest(), b, api.OK, walkOf(s, d, greatest()).gets)
		}
	})
}

// FuzzStores takes the blobs of a pack, whatever they are, as what lies in a Store, and does all calls to each of their digests.
func FuzzStores(f *testing.F) {
	for n := range uint64(20) {
		s, _ := nest(f, seeded(n))
		var blobs [][]byte
		for _, b := range s.All() {
			blobs = append(blobs, b)
		}
		f.Add(packed(1, blobs...), 1, 30, 9, 900, int(n)*50)
	}
	f.Fuzz(func(t *testing.T, b []byte, width, nodes, depth, size, capacity int) {
		width = 1 + int(uint(width)%32)
		if b = bytes.Clone(b); len(b) > 1 {
			b[1] = byte(width)
		}
		blobs, e := readOf(width, b)
		if e != api.OK || len(blobs) > 50 {
			return
		}
		s := store(t, width, api.MaxStore)
		var roots []api.Digest
		for _, x := range blobs {
			if d, e := s.Put(x); e == api.OK {
				roots = append(roots, d)
			}
		}
		room := api.Room{Nodes: min(nodes, 2000), Depth: depth, Bytes: size}
		for _, root := range roots {
			w := walkOf(s, root, room)
			if w.e != api.OK {
				fails(t, "fuzz", s, root, room, w.e, w.gets)
				continue
			}
			reaches(t, "fuzz", s, root, room, w.met, api.OK, w.gets)
			want, e, gets := packOf(s, root, room)
			packs(t, "fuzz", s, root, room, want, e, gets)
			if e == api.OK {
				followsPack(t, s, root, room, want)
			}
			to := store(t, width, int(uint(capacity)%(1<<16)))
			then, was := to.Twin(), to.Twin()
			n, e, gets := copyOf(s, then, root, room)
			copies(t, "fuzz", s, to, root, room, n, e, gets, then.Counts().Puts)
			is(t, "P802: to", lying(to), lying(then))
			followsCopy(t, s, was, to, root, room)
			n, e, gets = sweepOf(s.Twin(), digests(root, root), room)
			few := s.Twin()
			sweeps(t, "fuzz", few, digests(root, root), room, n, e, gets)
			followsSweep(t, s, few, digests(root), room)
		}
	})
}
