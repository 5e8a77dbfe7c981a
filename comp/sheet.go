package comp

import "retort/api"

// sheet is what code is written on, one instruction behind the other.
type sheet interface {
	// place tells where the next instruction will stand.
	place() int
	// put writes an instruction that stands for a part.
	put(part int, x api.Instr)
	// leap writes a jump that stands for a part, to a place that is not known yet: that at which the sheet is when the answer is called.
	leap(part, op int) func()
}

// tally only counts: code may be more than any program holds.
type tally struct{ n int }

func (s *tally) place() int { return s.n }

func (s *tally) put(part int, x api.Instr) { s.n++ }

func (s *tally) leap(part, op int) func() {
	s.n++
	return func() {}
}

// codes keeps the instructions.
type codes struct{ list []api.Instr }

func (s *codes) place() int { return len(s.list) }

func (s *codes) put(part int, x api.Instr) { s.list = append(s.list, x) }

func (s *codes) leap(part, op int) func() {
	at := s.place()
	s.put(part, api.Instr{Op: op})
	return func() { s.list[at].A = s.place() }
}

// origins keeps the parts.
type origins struct{ list []int }

func (s *origins) place() int { return len(s.list) }

func (s *origins) put(part int, x api.Instr) { s.list = append(s.list, part) }

func (s *origins) leap(part, op int) func() {
	s.list = append(s.list, part)
	return func() {}
}
