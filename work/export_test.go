package work

import "retort/api"

// FarmOf is Farm with another bound for what runs ahead may weigh; and what of them was left behind it.
func (w *Worker) FarmOf(crew int, most int64) (l []api.Answer, weight int64, runs int) {
	f := newFarm(w.own(), crew)
	f.most = most
	l = w.farm(f)
	return l, f.weight.Load(), len(f.runs)
}
