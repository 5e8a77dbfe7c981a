package check

import (
	"container/heap"
	"slices"
	"sort"

	"retort/api"
)

// none is the height of a place that has none.
const none = -1

// waiting are the places that wait, as a heap: the least one is at hand.
type waiting struct{ sort.IntSlice }

func (w *waiting) Push(x any) { w.IntSlice = append(w.IntSlice, x.(int)) }

func (w *waiting) Pop() any {
	last := w.Len() - 1
	x := w.IntSlice[last]
	w.IntSlice = w.IntSlice[:last]
	return x
}

// heightsOf tells the height of each place, or the first fault and the place that was taken then.
func heightsOf(steps []step) ([]int, int, api.Errno) {
	heights := slices.Repeat([]int{none}, len(steps))
	heights[0] = 0
	wait := &waiting{sort.IntSlice{0}}
	at, e := 0, api.OK
places:
	for wait.Len() > 0 {
		at = heap.Pop(wait).(int)
		s, h := steps[at], heights[at]
		switch e = s.fault(h, len(steps)); {
		case e != api.OK:
			goto end
		case len(s.next) == 0:
			continue places
		}
		for _, n := range s.next {
			switch heights[n] {
			case none:
				heights[n] = s.behind(h)
				heap.Push(wait, n)
			case s.behind(h):
			default:
				e = api.ErrJoin
				goto end
			}
		}
	}
	return heights, 0, api.OK
end:
	return nil, at, e
}
