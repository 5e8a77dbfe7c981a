package work

import (
	"cmp"
	"slices"

	"retort/act"
	"retort/api"
	"retort/cas"
)

// run is an action that was run ahead of its turn, over a bench: a Store apart in which just what it reaches lies. It is right as long as that is as it was.
type run struct {
	action api.Digest
	reach  []mark
	result []byte
	err    api.Errno
	blobs  [][]byte     // what it laid down on the bench, in that order
	hangs  []api.Digest // what hangs on the answer
	open   bool         // it could not lay all down even there: what it comes to shows in its turn
}

// weight is about how many bytes it takes to keep a run.
func (r *run) weight() int64 {
	n := len(r.result)
	for _, b := range r.blobs {
		n += len(b)
	}
	return int64(n + (len(r.reach)+len(r.hangs))*len(api.Digest{}))
}

// fetch notes what the action reaches, and tells the bench; none, if the action can't be done.
func (r *run) fetch(s *cas.Store) *cas.Store {
	l, e := act.Reach(s, r.action)
	r.reach, r.hangs, r.err = marksOf(s, l), l, e
	if e != api.OK {
		return nil
	}
	bench, _ := cas.New(s.Width(), api.MaxStore)
	for _, d := range l {
		b, _ := s.Raw(d)
		bench.Plant(d, b)
	}
	return bench
}

// exec does the action on its bench, and notes what it has laid down there: that has a greater stamp than all that was fetched.
func (r *run) exec(bench *cas.Store) {
	r.result, r.err = act.Exec(bench, r.action)
	r.open = r.err == api.ErrFull || r.err == api.ErrClash
	made := outputs(bench, r.result)
	r.hangs = slices.Concat(r.hangs, made)
	slices.SortFunc(made, func(x, y api.Digest) int { return cmp.Compare(bench.Stamp(x), bench.Stamp(y)) })
	for _, d := range made {
		if bench.Stamp(d) > len(r.reach) {
			b, _ := bench.Raw(d)
			r.blobs = append(r.blobs, b)
		}
	}
}

// take does in the Store itself what the run has done on its bench: it puts the blobs, as far as that goes. The others that Exec would put are among what was reached: they lie there.
func (r *run) take(s *cas.Store) deed {
	if r.open {
		return exec(s, r.action)
	}
	for _, b := range r.blobs {
		if _, e := s.Put(b); e != api.OK {
			return deed{err: e}
		}
	}
	return deed{r.result, r.err, func() []api.Digest { return r.hangs }}
}
