package check

import (
	"slices"

	"retort/api"
)

// unbound stands in the place of a number that has no bound.
const unbound = -1

// mostCost is the greatest cost that is told.
const mostCost = 1 << 40

// body is what is found of one function by itself.
type body struct {
	steps   []step
	heights []int
	loops   []int
	order   []int // the places that have a height, each behind all that it leads to, but for loops
}

func bodyOf(p api.Program, i int) (body, api.Fault) {
	steps := stepsOf(p, p.Funcs[i])
	heights, at, e := heightsOf(steps)
	if e != api.OK {
		return body{}, api.Fault{Err: e, At: api.Spot{Func: i, At: at}}
	}
	t := tourOf(len(steps), func(at int) []int { return steps[at].next })
	b := body{steps: steps, heights: heights, order: t.order}
	for at, again := range t.again {
		if again {
			b.loops = append(b.loops, at)
		}
	}
	return b, api.Fault{}
}

func (b body) top() int {
	top := 0
	for _, at := range b.order {
		top = max(top, b.heights[at], b.steps[at].behind(b.heights[at]))
	}
	return top
}

// calls tells the places of the ICalls that have a height.
func (b body) calls() []int {
	var l []int
	for _, at := range b.order {
		if b.steps[at].Op == api.ICall {
			l = append(l, at)
		}
	}
	return l
}

// named tells the functions that these calls name, each once.
func (b body) named() []int {
	var l []int
	for _, at := range b.calls() {
		if f := b.steps[at].A; !slices.Contains(l, f) {
			l = append(l, f)
		}
	}
	return l
}

// cells tells how many the function takes at most, by what the others take.
func (b body) cells(locals int, others []int) int {
	most := b.top()
	for _, at := range b.calls() {
		s := b.steps[at]
		most = max(most, b.heights[at]-s.takes+others[s.A])
	}
	return 1 + locals + most
}

// cost tells how many steps the function has at most, by what the others have; it has no loops.
func (b body) cost(others []int) int {
	costs := make([]int, len(b.steps))
	for _, at := range b.order {
		s := b.steps[at]
		cost := 0
		for _, n := range s.next {
			cost = max(cost, costs[n])
		}
		if s.Op == api.ICall {
			cost += others[s.A]
		}
		costs[at] = 1 + cost
	}
	return costs[0]
}

func factsOf(p api.Program, bodies []body) api.Facts {
	facts := api.Facts{Live: make([]bool, len(bodies))}
	leads := map[int][]int{}
	for i, b := range bodies {
		facts.Heights = append(facts.Heights, b.heights)
		facts.Tops = append(facts.Tops, b.top())
		facts.Loops = append(facts.Loops, b.loops)
		leads[i] = b.named()
	}
	t := tourOf(len(bodies), func(f int) []int { return leads[f] })
	for _, f := range t.order {
		facts.Live[f] = true
	}
	facts.Cells, facts.Cost = unbound, unbound
	if !slices.Contains(t.again, true) {
		facts.Cells = cellsOf(p, bodies, t.order)
		facts.Cost = costOf(bodies, t.order)
	}
	return facts
}

// cellsOf tells how many the first function takes; order has each function behind those that it calls.
func cellsOf(p api.Program, bodies []body, order []int) int {
	cells := make([]int, len(bodies))
	for _, f := range order {
		cells[f] = bodies[f].cells(p.Funcs[f].Locals, cells)
	}
	return cells[0]
}

// costOf likewise tells how many steps it has. A function that has more than are told ends it, so no sum wraps.
func costOf(bodies []body, order []int) int {
	costs := make([]int, len(bodies))
	for _, f := range order {
		if len(bodies[f].loops) > 0 {
			return unbound
		}
		costs[f] = bodies[f].cost(costs)
		if costs[f] > mostCost {
			return unbound
		}
	}
	return costs[0]
}
