package act_test

import (
	"bytes"
	"crypto/sha256"
	"fmt"
	"math"
	"math/rand/v2"
	"slices"
	"strings"
	"testing"

	"retort/api"
	"retort/asm"
	"retort/cas"
	"retort/check"
	"retort/node"
	"retort/prog"
	"retort/tree"
	"retort/vfs"
	"retort/vm"
)

// The chapter said once more, in another way: bytes by hand, without mint; the lines of Exec one behind the other over what lies in a Store, each Get noted; the machine step by step.

func form(u uint64) []byte {
	if u < 248 {
		return []byte{byte(u)}
	}
	var b []byte
	for ; u > 0; u >>= 8 {
		b = append([]byte{byte(u)}, b...)
	}
	return append([]byte{byte(247 + len(b))}, b...)
}

func num(n int) []byte { return form(uint64(n)) }

func folded(n int) []byte {
	if n < 0 {
		return form(2*uint64(-(n+1)) + 1)
	}
	return form(2 * uint64(n))
}

// paths are their number, and each with its own number of bytes ahead.
func paths(l ...string) []byte {
	b := num(len(l))
	for _, p := range l {
		b = append(append(b, num(len(p))...), p...)
	}
	return b
}

func numbersOf(l api.Limits) []int {
	return []int{l.Fuel, l.Memory, l.Stack, l.Bytes, l.Files, l.Open, l.Nodes, l.Depth}
}

// limitsOf is the other way round.
func limitsOf(n []int) api.Limits {
	return api.Limits{Fuel: n[0], Memory: n[1], Stack: n[2], Bytes: n[3], Files: n[4], Open: n[5], Nodes: n[6], Depth: n[7]}
}

// The words of P1901 for the numbers, in their order.
func leastLimits() []int { return []int{0, 0, 0, 0, 0, 0, 1, 0} }

func mostLimits() []int { return []int{1048576, 65536, 65536, 67108864, 4096, 64, 65536, 32} }

func faultOfLimits(l api.Limits) api.Errno {
	for i, n := range numbersOf(l) {
		if n < leastLimits()[i] || n > mostLimits()[i] {
			return api.ErrLimits
		}
	}
	return api.OK
}

func namesOf(p string) []string {
	if p == "" {
		return nil
	}
	return strings.Split(p, "/")
}

func isClean(p string) bool {
	for _, s := range namesOf(p) {
		if len(s) == 0 || len(s) > 64 || strings.Contains(s, "\x00") || s == "." || s == ".." {
			return false
		}
	}
	return len(namesOf(p)) <= 32
}

func under(a, b string) bool {
	x, y := namesOf(a), namesOf(b)
	return len(x) <= len(y) && slices.Equal(x, y[:len(x)])
}

// mayKeep is P605, pair by pair.
func mayKeep(l []string) bool {
	for i, p := range l {
		for j, q := range l {
			if i < j && slices.Compare(namesOf(p), namesOf(q)) >= 0 || i != j && under(p, q) {
				return false
			}
		}
		if !isClean(p) || i >= 64 {
			return false
		}
	}
	return true
}

// faultOf is P1901.
func faultOf(a api.Action) api.Errno {
	if e := faultOfLimits(a.Limits); e != api.OK {
		return e
	}
	if !mayKeep(a.Keep) {
		return api.ErrKeep
	}
	return api.OK
}

// laid are the bytes of any action whose numbers are from 0 on.
func laid(a api.Action) []byte {
	b := slices.Concat([]byte{3}, a.Program[:], a.Input[:])
	for _, n := range numbersOf(a.Limits) {
		b = append(b, num(n)...)
	}
	b = append(b, paths(a.Keep...)...)
	if a.Fresh {
		return append(b, 1)
	}
	return append(b, 0)
}

// isRight is P1904, case by case.
func isRight(r api.Result) bool {
	none := r.Root == api.Digest{} && len(r.Missing) == 0
	switch {
	case r.Fuel < 0 || r.Fuel > 1048576:
		return false
	case r.End == 1:
		return r.Trap == 0 && mayKeep(r.Missing)
	case r.End == 2 && r.Trap == 7:
		return none
	case r.End == 2:
		return none && slices.Contains([]api.Trap{1, 2, 3, 4, 5, 6}, r.Trap) && r.Code == 0
	}
	return false
}

// laidResult are the bytes of any result whose numbers, but for its Code, are from 0 on.
func laidResult(r api.Result) []byte {
	return slices.Concat([]byte{4}, num(r.End), folded(r.Code), num(int(r.Trap)), num(r.Fuel), r.Root[:], paths(r.Missing...))
}

// source is what is left to read, and the first fault that was met; behind a fault it reads zeros.
type source struct {
	b     []byte
	fault api.Errno
}

func (s *source) fail(e api.Errno) {
	if s.fault == api.OK {
		s.fault = e
	}
	s.b = nil
}

func (s *source) take(n int) []byte {
	if n > len(s.b) {
		s.fail(api.ErrCut)
		return make([]byte, min(n, 32))
	}
	b := s.b[:n]
	s.b = s.b[n:]
	return b
}

func (s *source) wide() uint64 {
	first := s.take(1)[0]
	if first < 248 {
		return uint64(first)
	}
	u := uint64(0)
	k := int(first) - 247
	for _, c := range s.take(k) {
		u = u*256 + uint64(c)
	}
	if s.fault == api.OK && len(form(u)) != 1+k {
		s.fail(api.ErrForm)
	}
	return u
}

func (s *source) number() int {
	u := s.wide()
	if u > math.MaxInt {
		s.fail(api.ErrForm)
		return 0
	}
	return int(u)
}

func (s *source) int() int {
	u := s.wide()
	if u%2 == 1 {
		return -int(u/2) - 1
	}
	return int(u / 2)
}

func (s *source) kind(want int) {
	if n := s.number(); s.fault == api.OK && n != want {
		s.fail(api.ErrTag)
	}
}

func (s *source) digest() api.Digest { return api.Digest(s.take(32)) }

func (s *source) paths(tooMany api.Errno) []string {
	n := s.number()
	if n > 64 {
		s.fail(tooMany)
	}
	var l []string
	for i := 0; i < n && s.fault == api.OK; i++ {
		l = append(l, string(s.take(s.number())))
	}
	return l
}

func (s *source) end() {
	if len(s.b) > 0 {
		s.fail(api.ErrTail)
	}
}

// actionOf is P1903.
func actionOf(b []byte) (api.Action, api.Errno) {
	s := &source{b: b}
	s.kind(3)
	a := api.Action{Program: s.digest(), Input: s.digest()}
	var n []int
	for range 8 {
		n = append(n, s.number())
	}
	a.Limits = limitsOf(n)
	a.Keep = s.paths(api.ErrKeep)
	fresh := s.take(1)[0]
	if fresh > 1 {
		s.fail(api.ErrForm)
	}
	a.Fresh = fresh == 1
	s.end()
	if s.fault == api.OK {
		s.fault = faultOf(a)
	}
	if s.fault != api.OK {
		return api.Action{}, s.fault
	}
	return a, api.OK
}

// resultOf is what P1904 says of bytes.
func resultOf(b []byte) (api.Result, api.Errno) {
	s := &source{b: b}
	s.kind(4)
	r := api.Result{End: s.number(), Code: s.int(), Trap: api.Trap(s.number()), Fuel: s.number(), Root: s.digest()}
	r.Missing = s.paths(api.ErrResult)
	s.end()
	if s.fault == api.OK && !isRight(r) {
		s.fault = api.ErrResult
	}
	if s.fault != api.OK {
		return api.Result{}, s.fault
	}
	return r, api.OK
}

// cutOf is P606 of a tree and paths that may be kept.
func cutOf(l []api.Item, keep []string) (left []api.Item, missing []string) {
	isKept := func(x api.Item) bool {
		return slices.ContainsFunc(keep, func(p string) bool { return under(p, x.Path) })
	}
	for _, x := range l {
		if isKept(x) || x.Dir && slices.ContainsFunc(l, func(y api.Item) bool { return isKept(y) && under(x.Path, y.Path) }) {
			left = append(left, x)
		}
	}
	for _, p := range keep {
		if p != "" && !slices.ContainsFunc(l, func(x api.Item) bool { return x.Path == p }) {
			missing = append(missing, p)
		}
	}
	return left, missing
}

// runOf is P1905, look by look.
func runOf(p api.Program, l []api.Item, lim api.Limits, keep []string) (api.Outcome, api.Errno) {
	if _, fault := check.Run(p); prog.Check(p) != api.OK || fault.Err != api.OK {
		return api.Outcome{}, api.ErrVerify
	}
	if faultOfLimits(lim) != api.OK {
		return api.Outcome{}, api.ErrLimits
	}
	if !mayKeep(keep) {
		return api.Outcome{}, api.ErrKeep
	}
	if tree.Check(l) != api.OK {
		return api.Outcome{}, api.ErrItems
	}
	size := 0
	for _, x := range l {
		size += len(x.Data)
	}
	if size > lim.Bytes {
		return api.Outcome{}, api.ErrQuota
	}
	if len(l) > lim.Files {
		return api.Outcome{}, api.ErrFiles
	}
	f, _ := vfs.New(l, api.Quota{Bytes: lim.Bytes, Files: lim.Files, Open: lim.Open})
	m, _ := vm.New(p, f, lim)
	for m.Step() {
	}
	o := m.End()
	o.Fuel = m.Used()
	if o.End == api.EHalt {
		o.Keep, o.Missing = cutOf(m.Files(), keep)
	}
	return o, api.OK
}

// tour is what the lines of Exec come to: each Get's digest; and the needs that they got.
type tour struct {
	s       *cas.Store
	gets    []api.Digest
	action  api.Action
	program api.Program
	input   []api.Item
}

func digestOf(width int, b []byte) api.Digest {
	full := sha256.Sum256(b)
	var d api.Digest
	copy(d[:width], full[:])
	return d
}

func (w *tour) get(d api.Digest) ([]byte, api.Errno) {
	w.gets = append(w.gets, d)
	b, there := w.s.Raw(d)
	if !there {
		return nil, api.ErrMissing
	}
	if digestOf(w.s.Width(), b) != d {
		return nil, api.ErrCorrupt
	}
	return b, api.OK
}

// walk is W7.
func (w *tour) walk(at []string, d api.Digest, isDir bool, nodes, size *int) api.Errno {
	l := w.action.Limits
	if len(at) > l.Depth {
		return api.ErrDeep
	}
	if *nodes++; *nodes > l.Nodes {
		return api.ErrNodes
	}
	b, e := w.get(d)
	if e != api.OK {
		return e
	}
	x := api.Item{Path: strings.Join(at, "/"), Dir: isDir}
	if !isDir {
		x.Data = b
	}
	if len(at) > 0 {
		w.input = append(w.input, x)
	}
	if !isDir {
		if *size += len(b); *size > l.Bytes {
			return api.ErrBytes
		}
		return api.OK
	}
	entries, e := node.Decode(b)
	for _, y := range entries {
		if e == api.OK {
			e = w.walk(append(slices.Clone(at), y.Name), y.Digest, y.Kind == api.KDir, nodes, size)
		}
	}
	return e
}

// fetch is the lines 1 to 3 of P1906.
func (w *tour) fetch(d api.Digest) api.Errno {
	b, e := w.get(d)
	if e != api.OK {
		return e
	}
	if w.action, e = actionOf(b); e != api.OK {
		return e
	}
	if b, e = w.get(w.action.Program); e != api.OK {
		return e
	}
	if w.program, e = prog.Decode(b); e != api.OK {
		return e
	}
	if _, fault := check.Run(w.program); fault.Err != api.OK {
		return fault.Err
	}
	nodes, size := 0, 0
	return w.walk(nil, w.action.Input, true, &nodes, &size)
}

// reachOf is P1907; and how often Get is called.
func reachOf(s *cas.Store, d api.Digest) (l []api.Digest, e api.Errno, gets int) {
	w := &tour{s: s}
	e = w.fetch(d)
	for _, x := range w.gets {
		if !slices.Contains(l, x) {
			l = append(l, x)
		}
	}
	return l, e, len(w.gets)
}

// done is what Exec has to answer; how often it calls Get and Put; and how the run came out, if there was one.
type done struct {
	b      []byte
	e      api.Errno
	counts api.Counts
	o      api.Outcome
	a      api.Action
}

// execOf is P1906. What is to be put is put into s.
func execOf(s *cas.Store, d api.Digest) (x done) {
	w := &tour{s: s}
	x.e = w.fetch(d)
	x.counts.Gets = len(w.gets)
	x.a = w.action
	if x.e != api.OK {
		return x
	}
	if x.o, x.e = runOf(w.program, w.input, w.action.Limits, w.action.Keep); x.e != api.OK {
		return x
	}
	r := api.Result{End: x.o.End, Code: x.o.Code, Trap: x.o.Trap, Fuel: x.o.Fuel, Missing: x.o.Missing}
	if x.o.End == api.EHalt {
		root, blobs, _ := tree.Build(s.Width(), x.o.Keep)
		r.Root = root
		for _, b := range blobs {
			x.counts.Puts++
			if _, x.e = s.Put(b); x.e != api.OK {
				return x
			}
		}
	}
	x.b = laidResult(r)
	return x
}

// What the tests hand in.

func seeded(n uint64) *rand.Rand { return rand.New(rand.NewPCG(n, 19)) }

// program reads one from its text, whose lines are parted by |.
func program(s string) api.Program {
	p, err := asm.Parse(strings.ReplaceAll(s, "|", "\n"))
	if err != nil {
		panic(s + ": " + err.Error())
	}
	return p
}

// body is a program of one function, with the bytes "abc/d" in its memory of 20.
func body(s string) api.Program { return program(`memory 20 | data "abc/d" | func f 0 1 1 |` + s) }

// seven is that of the chapter's second example.
func seven() api.Program { return program("func f 0 0 1 | num 7 | ret") }

// The paths in body's memory: a, b, c/d.
func openAs(at, n, mode int) string {
	return fmt.Sprintf("num %d | num %d | num %d | sys open |", at, n, mode)
}

// writing makes a file of n bytes of body's memory at each of these paths, and halts with 7.
func writing(n int, at ...[2]int) api.Program {
	s := ""
	for _, x := range at {
		s += openAs(x[0], x[1], api.MFresh|api.MMake) + fmt.Sprintf("set 0 | get 0 | num 0 | num %d | sys write | pop | get 0 | sys close | pop |", n)
	}
	return body(s + "num 7 | ret")
}

// wide are limits with room for all that small programs do.
func wide() api.Limits {
	return api.Limits{Fuel: 1000, Memory: 100, Stack: 50, Bytes: 1000, Files: 20, Open: 4, Nodes: 50, Depth: 9}
}

func file(p string, b ...byte) api.Item { return api.Item{Path: p, Data: b} }

func dir(p string) api.Item { return api.Item{Path: p, Dir: true} }

func list(l ...api.Item) []api.Item { return l }

func keep(l ...string) []string { return l }

func greatest() api.Room { return api.Room{Nodes: 1 << 16, Depth: 32, Bytes: 1 << 26} }

func fileAt(name string, d api.Digest) api.Entry {
	return api.Entry{Name: name, Kind: api.KFile, Digest: d}
}

func dirAt(name string, d api.Digest) api.Entry {
	return api.Entry{Name: name, Kind: api.KDir, Digest: d}
}

func store(t testing.TB, width, capacity int) *cas.Store {
	t.Helper()
	s, e := cas.New(width, capacity)
	if e != api.OK {
		t.Fatal(e)
	}
	return s
}

// put puts what must find room.
func put(t testing.TB, s *cas.Store, b ...byte) api.Digest {
	t.Helper()
	d, e := s.Put(b)
	if e != api.OK {
		t.Fatal(e)
	}
	return d
}

// plant lays any bytes anywhere.
func plant(t testing.TB, s *cas.Store, d api.Digest, b string) {
	t.Helper()
	if e := s.Plant(d, []byte(b)); e != api.OK {
		t.Fatal(e)
	}
}

func putDir(t testing.TB, s *cas.Store, l ...api.Entry) api.Digest {
	t.Helper()
	b, e := node.Encode(l)
	if e != api.OK {
		t.Fatal(e)
	}
	return put(t, s, b...)
}

func putProgram(t testing.TB, s *cas.Store, p api.Program) api.Digest {
	t.Helper()
	b, e := prog.Encode(p)
	if e != api.OK {
		t.Fatal(e)
	}
	return put(t, s, b...)
}

func putTree(t testing.TB, s *cas.Store, l ...api.Item) api.Digest {
	t.Helper()
	root, e := tree.Keep(s, l)
	if e != api.OK {
		t.Fatal(e)
	}
	return root
}

// putAction puts one; its bytes are laid by hand, so that it need not be right.
func putAction(t testing.TB, s *cas.Store, a api.Action) api.Digest {
	t.Helper()
	return put(t, s, laid(a)...)
}

// action puts a program, a tree and an action with them.
func action(t testing.TB, s *cas.Store, p api.Program, l []api.Item, lim api.Limits, keep ...string) api.Digest {
	t.Helper()
	return putAction(t, s, api.Action{Program: putProgram(t, s, p), Input: putTree(t, s, l...), Limits: lim, Keep: keep})
}

// How things are held against each other.

// lying is all that a Store has, with its stamps, but for its Counts.
func lying(s *cas.Store) string {
	var all strings.Builder
	for d, b := range s.All() {
		fmt.Fprintf(&all, "%x %d %x\n", d, s.Stamp(d), sha256.Sum256(b))
	}
	return fmt.Sprintf("%d %d %d\n%s", s.Len(), s.Used(), s.Cap(), all.String())
}

// counted is how often a Store was asked since.
func counted(s *cas.Store, since api.Counts) api.Counts {
	now := s.Counts()
	return api.Counts{Gets: now.Gets - since.Gets, Puts: now.Puts - since.Puts}
}

func brief(x any) string {
	s := fmt.Sprintf("%v", x)
	if _, is := x.(string); is {
		s = fmt.Sprintf("%q", x)
	}
	if len(s) > 1000 {
		return s[:1000] + ".."
	}
	return s
}

// text says all of a thing; no list and an empty one have the same.
func text(x any) string { return fmt.Sprintf("%+v", x) }

func is[T comparable](t testing.TB, what string, got, want T) {
	t.Helper()
	if got != want {
		t.Fatalf("%s: %s, want %s", what, brief(got), brief(want))
	}
}

func sameBytes(t testing.TB, what string, got, want []byte) {
	t.Helper()
	if !bytes.Equal(got, want) {
		t.Fatalf("%s: %s\nwant %s", what, brief(got), brief(want))
	}
}

func sameDigests(t testing.TB, what string, got, want []api.Digest) {
	t.Helper()
	if !slices.Equal(got, want) {
		t.Fatalf("%s: %x\nwant %x", what, got, want)
	}
}

func TestTheOracle(t *testing.T) {
	is(t, "form", fmt.Sprint(num(0), num(247), num(248), num(65536), form(math.MaxUint64)), "[0] [247] [248 248] [250 1 0 0] [255 255 255 255 255 255 255 255 255]")
	is(t, "folded", fmt.Sprint(folded(0), folded(-1), folded(1), folded(-124), folded(124), folded(math.MinInt)), "[0] [1] [2] [247] [248 248] [255 255 255 255 255 255 255 255 255]")
	for _, n := range []int{0, 1, -1, 123, -124, 124, 1 << 40, math.MaxInt, math.MinInt} {
		s := &source{b: folded(n)}
		is(t, "an int there and back", s.int(), n)
		is(t, "no fault", s.fault, api.OK)
	}
	is(t, "paths", string(paths("a", "", "b/c")), "\x03\x01a\x00\x03b/c")
	for _, e := range []struct {
		l    []string
		want bool
	}{{nil, true}, {keep(""), true}, {keep("a", "b"), true}, {keep("a", "a/b"), false}, {keep("", "a"), false}, {keep("b", "a"), false}, {keep("a/"), false}} {
		is(t, brief(e.l), mayKeep(e.l), e.want)
	}
	_, fault := check.Run(writing(3, [2]int{0, 1}, [2]int{2, 3}))
	is(t, "writing", fault.Err, api.OK)
}
