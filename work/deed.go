package work

import (
	"slices"

	"retort/act"
	"retort/api"
	"retort/cas"
	"retort/flow"
)

func greatest() api.Room {
	return api.Room{Nodes: api.MaxItems, Depth: api.MaxDepth, Bytes: api.MaxStore}
}

// deed is what an action came to that was done anew.
type deed struct {
	result []byte
	err    api.Errno
	hangs  func() []api.Digest // to find them takes Gets: so it is asked only if the answer is to be held
}

// exec does an action in the Store itself.
func exec(s *cas.Store, d api.Digest) deed {
	b, e := act.Exec(s, d)
	return deed{b, e, func() []api.Digest {
		reach, _ := act.Reach(s, d)
		return slices.Concat(reach, outputs(s, b))
	}}
}

// outputs are the digests that a result's root reaches, in a Store in which the action was done.
func outputs(s *cas.Store, result []byte) []api.Digest {
	r, _ := act.DecodeResult(result)
	if r.End != api.EHalt {
		return nil
	}
	l, _ := flow.Reach(s, r.Root, greatest()) // what was put by that action is all there
	return l
}

// answer answers an action, from the cache or by doing it anew.
func (w *Worker) answer(d api.Digest, do func() deed) {
	x := api.Answer{Action: d}
	if h, right := w.cache.right(w.own(), d); right {
		x.Result, x.Cached = h.result, true
		w.cache.use(h)
	} else {
		w.cache.drop(d)
		y := do()
		x.Result, x.Err = y.result, y.err
		if y.err == api.OK && w.mayHold(d) {
			w.cache.use(held{d, y.result, marksOf(w.own(), y.hangs())})
		}
	}
	w.answers = append(w.answers, x)
}

// mayHold tells whether the answer to an action that was done may be held.
func (w *Worker) mayHold(d api.Digest) bool {
	if w.cache.most == 0 {
		return false
	}
	b, _ := w.own().Raw(d)
	a, _ := act.Decode(b)
	return !a.Fresh
}
