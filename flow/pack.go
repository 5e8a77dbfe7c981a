package flow

import (
	"slices"

	"retort/api"
	"retort/cas"
	"retort/mint"
)

// Pack tells a tree's blobs as one; Unpack puts them, and tells the root.
func Pack(s *cas.Store, root api.Digest, room api.Room) ([]byte, api.Errno) {
	h, e := walk(s.Get, root, room)
	if e != api.OK {
		return nil, e
	}
	w := mint.New()
	w.Num(api.BPack)
	w.Num(s.Width())
	w.Num(len(h.met))
	for _, d := range h.behindParts() {
		w.Bytes(h.met[d].blob)
	}
	return w.Done()
}

func Unpack(s *cas.Store, b []byte) (api.Digest, api.Errno) {
	if len(b) > api.MaxMint {
		return api.Digest{}, api.ErrLong
	}
	var blobs [][]byte
	e := mint.Read(b, func(r *mint.Reader) { blobs = blobsOf(r, s.Width()) })
	if e != api.OK {
		return api.Digest{}, e
	}
	if !isPack(s, blobs) {
		return api.Digest{}, api.ErrPack
	}
	return putAll(s, blobs)
}

// blobsOf looks at each part as soon as it is read, so that the first fault from the left is the one that is met.
func blobsOf(r *mint.Reader, width int) [][]byte {
	if r.Num() != api.BPack {
		r.Fail(api.ErrTag)
	}
	if r.Num() != width {
		r.Fail(api.ErrWidth)
	}
	n := r.Num()
	if n == 0 || n > api.MaxItems {
		r.Fail(api.ErrPack)
	}
	var blobs [][]byte
	for range n {
		b := r.Bytes()
		if len(b) > api.MaxBlob {
			r.Fail(api.ErrLong)
		}
		blobs = append(blobs, b)
	}
	return blobs
}

// isPack tells whether blobs, of which there are some, are those of the last one's tree, each once and behind its parts.
func isPack(s *cas.Store, blobs [][]byte) bool {
	lies := map[api.Digest]found{}
	var digests []api.Digest
	for _, b := range blobs {
		d := s.Digest(b)
		lies[d] = found{blob: b}
		digests = append(digests, d)
	}
	root := digests[len(digests)-1]
	h, e := walk(getFrom(lies), root, greatest())
	// Where two blobs have one digest, that stands in digests twice, and is told once.
	return e == api.OK && slices.Equal(h.behindParts(), digests)
}

// getFrom tells what a Store would tell in which just this lies.
func getFrom(lies map[api.Digest]found) getter {
	return func(d api.Digest) ([]byte, api.Errno) {
		x, there := lies[d]
		if !there {
			return nil, api.ErrMissing
		}
		return x.blob, api.OK
	}
}

func greatest() api.Room {
	return api.Room{Nodes: api.MaxItems, Depth: api.MaxDepth, Bytes: api.MaxStore}
}

// putAll puts blobs in their order, up to the first error, and tells the last one's digest.
func putAll(s *cas.Store, blobs [][]byte) (api.Digest, api.Errno) {
	var last api.Digest
	for _, b := range blobs {
		d, e := s.Put(b)
		if e != api.OK {
			return api.Digest{}, e
		}
		last = d
	}
	return last, api.OK
}
