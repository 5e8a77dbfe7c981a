package work

import (
	"slices"
	"sync"
	"sync/atomic"

	"retort/api"
	"retort/cas"
)

// farm is a crew that runs actions ahead of their turn. The Store is changed only between two calls of runAhead, when no one of the crew is at work.
type farm struct {
	crew   int
	mutex  sync.Mutex // holds the Store while the crew is at work: to get is to count
	store  *cas.Store
	hired  sync.Once
	joined sync.WaitGroup
	todo   chan *run
	came   chan *run
	runs   map[api.Digest]*run // those that came out, for actions that still wait
	weight atomic.Int64        // of the runs that were made and not dropped yet
	most   int64               // with more weight than this no further run is begun
}

func newFarm(s *cas.Store, crew int) *farm {
	return &farm{
		crew:  crew,
		store: s,
		todo:  make(chan *run),
		came:  make(chan *run),
		runs:  map[api.Digest]*run{},
		most:  api.MaxStore,
	}
}

func (f *farm) hire() {
	for range f.crew {
		f.joined.Add(1)
		go f.help()
	}
}

// help is what one of the crew does.
func (f *farm) help() {
	defer f.joined.Done()
	for r := range f.todo {
		f.do(r)
		f.weight.Add(r.weight())
		f.came <- r
	}
}

func (f *farm) dismiss() {
	close(f.todo)
	f.joined.Wait()
}

// do runs an action over a bench, so that the Store is held no longer than it takes to fetch what it needs.
func (f *farm) do(r *run) {
	f.mutex.Lock()
	bench := r.fetch(f.store)
	f.mutex.Unlock()
	if r.err == api.OK {
		r.exec(bench)
	}
}

// runAhead has the crew run actions; all of them, unless what came out weighs too much. The first one is run whatever that weighs.
func (f *farm) runAhead(l []api.Digest) {
	handed, heard := 0, 0
	for {
		var todo chan<- *run // as long as it is nil nothing is handed out
		var next *run
		if handed < len(l) && (handed == 0 || f.weight.Load() <= f.most) {
			f.hired.Do(f.hire)
			todo, next = f.todo, &run{action: l[handed]}
		} else if heard == handed {
			return
		}
		select {
		case todo <- next:
			handed++
		case r := <-f.came:
			heard++
			f.runs[r.action] = r
		}
	}
}

// right tells the run of an action, if all that it reached is still as it was; else it is dropped.
func (f *farm) right(d api.Digest) (*run, bool) {
	r, there := f.runs[d]
	if there && !stand(f.store, r.reach) {
		f.drop(d)
		return nil, false
	}
	return r, there
}

func (f *farm) drop(d api.Digest) {
	if r, there := f.runs[d]; there {
		f.weight.Add(-r.weight())
		delete(f.runs, d)
	}
}

// Farm does all that waits, by so many goroutines, as VPick of 0, one behind the other, would.
func (w *Worker) Farm(crew int) ([]api.Answer, api.Errno) {
	if crew < 1 || crew > api.MaxCrew {
		return nil, api.ErrArg
	}
	return w.farm(newFarm(w.own(), crew)), api.OK
}

// farm runs ahead what it can, and takes turns as far as that goes, again and again: what an action puts may be what the next one could not find.
func (w *Worker) farm(f *farm) []api.Answer {
	defer f.dismiss()
	first := len(w.answers)
	for len(w.queue) > 0 {
		f.runAhead(w.wanted(f))
		w.takeTurns(f)
	}
	return apart(w.answers[first:])
}

// wanted are the actions that wait and would have to be done, as things are: each once, without those whose run is right.
func (w *Worker) wanted(f *farm) []api.Digest {
	var l []api.Digest
	met := map[api.Digest]struct{}{}
	for _, d := range w.queue {
		if _, there := met[d]; there {
			continue
		}
		met[d] = struct{}{}
		_, isHeld := w.cache.right(f.store, d)
		_, isRun := f.right(d)
		if !isHeld && !isRun {
			l = append(l, d)
		}
	}
	return l
}

// takeTurns answers the actions that wait, from the first on, up to one that has to be run (again).
func (w *Worker) takeTurns(f *farm) {
	for len(w.queue) > 0 {
		d := w.queue[0]
		_, isHeld := w.cache.right(f.store, d)
		r, isRun := f.right(d)
		if !isHeld && !isRun {
			return
		}
		w.queue = w.queue[1:]
		w.answer(d, func() deed { return r.take(f.store) })
		if !slices.Contains(w.queue, d) {
			f.drop(d)
		}
	}
}
