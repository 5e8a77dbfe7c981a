package work_test

import (
	"bytes"
	"crypto/sha256"
	"fmt"
	"math/rand/v2"
	"slices"
	"strings"
	"testing"

	"retort/act"
	"retort/api"
	"retort/asm"
	"retort/cas"
	"retort/node"
	"retort/prog"
	"retort/tree"
	"retort/work"
)

// The chapter said once more, in the plainest way: one action behind the other, no goroutine; what hangs on an answer is found by going through what lies there.

// kept is an answer in the model's cache.
type kept struct {
	action api.Digest
	result []byte
	stamps map[api.Digest]int
}

type model struct {
	s       *cas.Store
	most    int
	queue   []api.Digest
	answers []api.Answer
	cache   []kept // from the one used longest ago on
}

func newModel(s *cas.Store, most int) *model { return &model{s: s.Twin(), most: most} }

func (m *model) do(e api.Event) api.Errno {
	switch e.Kind {
	case 1:
		if len(m.queue) == 256 {
			return api.ErrQueue
		}
		m.queue = append(m.queue, e.D)
	case 2:
		if e.N < 0 || e.N >= len(m.queue) {
			return api.ErrArg
		}
		d := m.queue[e.N]
		m.queue = slices.Concat(m.queue[:e.N], m.queue[e.N+1:])
		m.done(d)
	case 3:
		_, err := m.s.Put(e.B)
		return err
	case 4:
		m.s.Evict(e.D)
	case 5:
		return m.s.Plant(e.D, e.B)
	case 6, 7:
	case 8:
		return m.s.Limit(e.N)
	default:
		return api.ErrArg
	}
	return api.OK
}

// farm is P2005.
func (m *model) farm() []api.Answer {
	first := len(m.answers)
	for len(m.queue) > 0 {
		m.do(api.Event{Kind: 2})
	}
	return m.answers[first:]
}

// found is the place of an action in the cache; -1: it is not there.
func (m *model) found(d api.Digest) int {
	return slices.IndexFunc(m.cache, func(k kept) bool { return k.action == d })
}

// isRight tells whether an action would be answered from the cache.
func (m *model) isRight(d api.Digest) bool {
	i := m.found(d)
	if i < 0 {
		return false
	}
	for x, stamp := range m.cache[i].stamps {
		if m.s.Stamp(x) != stamp {
			return false
		}
	}
	return true
}

// done is P2003.
func (m *model) done(d api.Digest) {
	right, i := m.isRight(d), m.found(d)
	var k kept
	if i >= 0 {
		k = m.cache[i]
		m.cache = slices.Concat(m.cache[:i], m.cache[i+1:])
	}
	if right {
		m.cache = append(m.cache, k)
		m.answers = append(m.answers, api.Answer{Action: d, Result: k.result, Cached: true})
		return
	}
	b, e := act.Exec(m.s, d)
	m.answers = append(m.answers, api.Answer{Action: d, Err: e, Result: b})
	if e != api.OK || m.most == 0 || isFresh(m.s, d) {
		return
	}
	m.cache = append(m.cache, kept{d, b, m.hangs(d, b)})
	if len(m.cache) > m.most {
		m.cache = m.cache[1:]
	}
}

// isFresh looks at the last byte of an action that was done.
func isFresh(s *cas.Store, d api.Digest) bool {
	b, _ := s.Raw(d)
	return b[len(b)-1] == 1
}

// hangs are the stamps of what hangs on an answer.
func (m *model) hangs(d api.Digest, result []byte) map[api.Digest]int {
	b, _ := m.s.Raw(d)
	met := map[api.Digest]int{d: m.s.Stamp(d)}
	program := api.Digest(b[1:33])
	met[program] = m.s.Stamp(program)
	m.below(met, api.Digest(b[33:65]))
	if r, _ := act.DecodeResult(result); r.End == 1 {
		m.below(met, r.Root)
	}
	return met
}

func (m *model) below(met map[api.Digest]int, dir api.Digest) {
	met[dir] = m.s.Stamp(dir)
	b, _ := m.s.Raw(dir)
	l, e := node.Decode(b)
	if e != api.OK {
		panic("what was done is all there")
	}
	for _, x := range l {
		met[x.Digest] = m.s.Stamp(x.Digest)
		if x.Kind == api.KDir {
			m.below(met, x.Digest)
		}
	}
}

func (m *model) cached() []api.Digest {
	var l []api.Digest
	for _, k := range m.cache {
		l = append(l, k.action)
	}
	return l
}

// pair is a worker and the model of it, to which the same happens.
type pair struct {
	t testing.TB
	w *work.Worker
	m *model
}

func newPair(t testing.TB, s *cas.Store, cache int) *pair {
	t.Helper()
	p := &pair{t, nil, newModel(s, cache)}
	w, e := work.New(s.Twin(), cache)
	is(t, "P2001: New", e, api.OK)
	p.w = w
	return p
}

// same looks at all that can be asked.
func (p *pair) same(what string) {
	p.t.Helper()
	sameAnswers(p.t, "P2004: Answers: "+what, p.w.Answers(), p.m.answers)
	sameDigests(p.t, "P2004: Queue: "+what, p.w.Queue(), p.m.queue)
	sameDigests(p.t, "P2004: Cached: "+what, p.w.Cached(), p.m.cached())
	is(p.t, "P2004: Store: "+what, lying(p.w.Store()), lying(p.m.s))
}

// do is one event, with all that the chapter says of it.
func (p *pair) do(e api.Event) api.Errno {
	p.t.Helper()
	what := fmt.Sprintf("event %d %x %d, %d bytes", e.Kind, e.D[:2], e.N, len(e.B))
	before, was := p.w.Store(), p.m.s.Counts()
	cached := false
	if e.Kind == 2 && e.N >= 0 && e.N < len(p.m.queue) {
		cached = p.m.isRight(p.m.queue[e.N])
	}
	wasSaid := p.said()
	got, want := p.w.Do(e), p.m.do(e)
	is(p.t, "P2002: "+what, got, want)
	p.same(what)
	if want != api.OK {
		is(p.t, "P2002: an error changes nothing: "+what, p.said(), wasSaid)
	}
	asked, due := counted(p.w.Store(), before.Counts()), counted(p.m.s, was)
	switch {
	case e.Kind != 2 || cached:
		is(p.t, "P2003: Counts: "+what, asked, due)
	case asked.Gets < due.Gets || asked.Puts != due.Puts:
		p.t.Fatalf("P2003: Counts: %s: %v, want %v", what, asked, due)
	}
	if e.Kind == 2 && want == api.OK {
		p.follows(what, before, cached)
	}
	return got
}

// said is all of a worker but its Store's Counts.
func (p *pair) said() string {
	return fmt.Sprint(p.w.Answers(), p.w.Queue(), p.w.Cached(), lying(p.w.Store()))
}

// follows is P2006: twin is the Store as it was right ahead of the action that was answered last.
func (p *pair) follows(what string, twin *cas.Store, cached bool) {
	p.t.Helper()
	l := p.w.Answers()
	x := l[len(l)-1]
	is(p.t, "P2003: Cached: "+what, x.Cached, cached)
	b, e := act.Exec(twin, x.Action)
	is(p.t, "P2006: Err: "+what, x.Err, e)
	sameBytes(p.t, "P2006: Result: "+what, x.Result, b)
	is(p.t, "P2006: what lies there: "+what, lying(p.w.Store()), lying(twin))
}

// farm is Farm, held against one action behind the other.
func (p *pair) farm(crew int) {
	p.t.Helper()
	what := fmt.Sprintf("Farm(%d) of %d", crew, len(p.m.queue))
	l, e := p.w.Farm(crew)
	is(p.t, "P2005: "+what, e, api.OK)
	sameAnswers(p.t, "P2005: "+what, l, p.m.farm())
	p.same(what)
}

// What the tests hand in.

func seeded(n uint64) *rand.Rand { return rand.New(rand.NewPCG(n, 20)) }

func ask(d api.Digest) api.Event { return api.Event{Kind: api.VDo, D: d} }

func pick(n int) api.Event { return api.Event{Kind: api.VPick, N: n} }

func evict(d api.Digest) api.Event { return api.Event{Kind: api.VEvict, D: d} }

func plant(d api.Digest, b ...byte) api.Event { return api.Event{Kind: api.VPlant, D: d, B: b} }

func lay(b ...byte) api.Event { return api.Event{Kind: api.VPut, B: b} }

func limit(n int) api.Event { return api.Event{Kind: api.VLimit, N: n} }

// program reads one from its text, whose lines are parted by |.
func program(s string) api.Program {
	p, err := asm.Parse(strings.ReplaceAll(s, "|", "\n"))
	if err != nil {
		panic(s + ": " + err.Error())
	}
	return p
}

func seven() api.Program { return program("func f 0 0 1 | num 7 | ret") }

// aborts ends by a trap.
func aborts(code int) api.Program {
	return program(fmt.Sprintf("func f 0 0 1 | num %d | abort", code))
}

// writing makes a file with these bytes at a path, and halts with 7.
func writing(p string, b ...byte) api.Program { return writingAll(file(p, b...)) }

// writingAll makes all of these files.
func writingAll(l ...api.Item) api.Program {
	n := func(a int) api.Instr { return api.Instr{Op: api.INum, A: a} }
	var code []api.Instr
	var data []byte
	for i, x := range l {
		at, from := len(data), len(data)+len(x.Path)
		data = slices.Concat(data, []byte(x.Path), x.Data)
		code = append(code,
			n(at), n(len(x.Path)), n(api.MFresh|api.MMake), api.Instr{Op: api.ISys, A: api.SOpen}, api.Instr{Op: api.IPop},
			n(i), n(from), n(len(x.Data)), api.Instr{Op: api.ISys, A: api.SWrite}, api.Instr{Op: api.IPop})
	}
	code = append(code, n(7), api.Instr{Op: api.IRet})
	return api.Program{Memory: len(data), Data: data, Funcs: []api.Func{{Results: 1, Code: code}}}
}

// wide are limits with room for all that small programs do.
func wide() api.Limits {
	return api.Limits{Fuel: 1000, Memory: 1000, Stack: 50, Bytes: 1000, Files: 20, Open: 4, Nodes: 50, Depth: 9}
}

func file(p string, b ...byte) api.Item { return api.Item{Path: p, Data: b} }

func dir(p string) api.Item { return api.Item{Path: p, Dir: true} }

func list(l ...api.Item) []api.Item { return l }

func digests(l ...api.Digest) []api.Digest { return l }

func store(t testing.TB, width, capacity int) *cas.Store {
	t.Helper()
	s, e := cas.New(width, capacity)
	if e != api.OK {
		t.Fatal(e)
	}
	return s
}

// put puts what must find room.
func put(t testing.TB, s *cas.Store, b ...byte) api.Digest {
	t.Helper()
	d, e := s.Put(b)
	if e != api.OK {
		t.Fatal(e)
	}
	return d
}

// programBytes, dirBytes, actionBytes are those of things that may be.
func programBytes(p api.Program) []byte {
	b, e := prog.Encode(p)
	if e != api.OK {
		panic(e)
	}
	return b
}

func dirBytes(l ...api.Entry) []byte {
	b, e := node.Encode(l)
	if e != api.OK {
		panic(e)
	}
	return b
}

func actionBytes(a api.Action) []byte {
	b, e := act.Encode(a)
	if e != api.OK {
		panic(e)
	}
	return b
}

func putTree(t testing.TB, s *cas.Store, l ...api.Item) api.Digest {
	t.Helper()
	root, e := tree.Keep(s, l)
	if e != api.OK {
		t.Fatal(e)
	}
	return root
}

// action puts a program, a tree and an action with them.
func action(t testing.TB, s *cas.Store, p api.Program, l []api.Item, keep ...string) api.Digest {
	t.Helper()
	a := api.Action{Program: put(t, s, programBytes(p)...), Input: putTree(t, s, l...), Limits: wide(), Keep: keep}
	return put(t, s, actionBytes(a)...)
}

// fresh is likewise an action, which is not to be answered from a cache.
func fresh(t testing.TB, s *cas.Store, p api.Program, l []api.Item, keep ...string) api.Digest {
	t.Helper()
	a := api.Action{Program: put(t, s, programBytes(p)...), Input: putTree(t, s, l...), Limits: wide(), Keep: keep, Fresh: true}
	return put(t, s, actionBytes(a)...)
}

func worker(t testing.TB, s *cas.Store, cache int) *work.Worker {
	t.Helper()
	w, e := work.New(s, cache)
	if e != api.OK || w == nil {
		t.Fatal(e)
	}
	return w
}

// How things are held against each other.

// lying is all that a Store has, with its stamps, but for its Counts.
func lying(s *cas.Store) string {
	var all strings.Builder
	for d, b := range s.All() {
		fmt.Fprintf(&all, "%x %d %x\n", d, s.Stamp(d), sha256.Sum256(b))
	}
	return fmt.Sprintf("%d %d %d\n%s", s.Len(), s.Used(), s.Cap(), all.String())
}

// counted is how often a Store was asked since.
func counted(s *cas.Store, since api.Counts) api.Counts {
	now := s.Counts()
	return api.Counts{Gets: now.Gets - since.Gets, Puts: now.Puts - since.Puts}
}

func brief(x any) string {
	s := fmt.Sprintf("%v", x)
	if len(s) > 1500 {
		return s[:1500] + ".."
	}
	return s
}

func is[T comparable](t testing.TB, what string, got, want T) {
	t.Helper()
	if got != want {
		t.Fatalf("%s: %s, want %s", what, brief(got), brief(want))
	}
}

func sameBytes(t testing.TB, what string, got, want []byte) {
	t.Helper()
	if !bytes.Equal(got, want) {
		t.Fatalf("%s: %s\nwant %s", what, brief(got), brief(want))
	}
}

func sameDigests(t testing.TB, what string, got, want []api.Digest) {
	t.Helper()
	if !slices.Equal(got, want) {
		t.Fatalf("%s: %x\nwant %x", what, got, want)
	}
}

func sameAnswer(x, y api.Answer) bool {
	return x.Action == y.Action && x.Err == y.Err && x.Cached == y.Cached && bytes.Equal(x.Result, y.Result)
}

func sameAnswers(t testing.TB, what string, got, want []api.Answer) {
	t.Helper()
	if !slices.EqualFunc(got, want, sameAnswer) {
		for i := range min(len(got), len(want)) {
			if !sameAnswer(got[i], want[i]) {
				t.Fatalf("%s: answer %d: %s\nwant %s", what, i, brief(got[i]), brief(want[i]))
			}
		}
		t.Fatalf("%s: %d answers, want %d", what, len(got), len(want))
	}
}
