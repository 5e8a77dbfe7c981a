package act

import (
	"iter"

	"retort/api"
	"retort/cas"
	"retort/check"
	"retort/node"
	"retort/prog"
	"retort/tree"
	"retort/vfs"
	"retort/vm"
)

// Run does a program over a tree, under limits: nothing but what is handed in.
func Run(p api.Program, l []api.Item, lim api.Limits, keep []string) (api.Outcome, api.Errno) {
	if _, fault := check.Run(p); fault.Err != api.OK { // its first look is prog.Check
		return api.Outcome{}, api.ErrVerify
	}
	if e := checkLimits(lim); e != api.OK {
		return api.Outcome{}, e
	}
	if e := tree.CheckKeep(keep); e != api.OK {
		return api.Outcome{}, e
	}
	files, e := vfs.New(l, api.Quota{Bytes: lim.Bytes, Files: lim.Files, Open: lim.Open}) // its first look is tree.Check
	if e != api.OK {
		return api.Outcome{}, e
	}
	m, e := vm.New(p, files, lim)
	if e != api.OK {
		return api.Outcome{}, e
	}
	m.Run(lim.Fuel + 1) // every step but the one that ends the run costs fuel
	return harvest(m, keep)
}

// harvest tells how a run that has ended did so, and what of its files is kept.
func harvest(m *vm.Machine, keep []string) (api.Outcome, api.Errno) {
	o := m.End()
	if o.End != api.EHalt {
		return o, api.OK
	}
	kept, missing, e := tree.Cut(m.Files(), keep)
	if e != api.OK {
		return api.Outcome{}, e
	}
	o.Keep, o.Missing = kept, missing
	return o, api.OK
}

// line is one thing that is done for an action, or why it can't be.
type line func() api.Errno

// inTurn does lines up to the first error.
func inTurn(lines ...line) api.Errno {
	for _, do := range lines {
		if e := do(); e != api.OK {
			return e
		}
	}
	return api.OK
}

// needs is what an action is done with, all of it got ahead of the first step.
type needs struct {
	action  api.Action
	program api.Program
	input   []api.Item
}

// get tells what the blob of a digest says.
func get[T any](s *cas.Store, d api.Digest, decode func(b []byte) (T, api.Errno)) (T, api.Errno) {
	b, e := s.Get(d)
	if e != api.OK {
		var none T
		return none, e
	}
	return decode(b)
}

// fetch is the lines that get what the action of a digest needs, and look at it.
func (n *needs) fetch(s *cas.Store, d api.Digest) line {
	getAction := func() (e api.Errno) {
		n.action, e = get(s, d, Decode)
		return e
	}
	getProgram := func() (e api.Errno) {
		n.program, e = get(s, n.action.Program, prog.Decode)
		return e
	}
	verify := func() api.Errno {
		_, fault := check.Run(n.program)
		return fault.Err
	}
	getInput := func() (e api.Errno) {
		l := n.action.Limits
		n.input, e = tree.Load(s, n.action.Input, api.Room{Nodes: l.Nodes, Depth: l.Depth, Bytes: l.Bytes})
		return e
	}
	return func() api.Errno { return inTurn(getAction, getProgram, verify, getInput) }
}

// Exec does the action of a digest: the result's bytes, or an error.
func Exec(s *cas.Store, d api.Digest) ([]byte, api.Errno) {
	var n needs
	var o api.Outcome
	var root api.Digest
	var b []byte
	run := func() (e api.Errno) {
		o, e = Run(n.program, n.input, n.action.Limits, n.action.Keep)
		return e
	}
	keep := func() (e api.Errno) {
		if o.End == api.EHalt {
			root, e = tree.Keep(s, o.Keep)
		}
		return e
	}
	tell := func() (e api.Errno) {
		b, e = EncodeResult(api.Result{End: o.End, Code: o.Code, Trap: o.Trap, Fuel: o.Fuel, Root: root, Missing: o.Missing})
		return e
	}
	e := inTurn(n.fetch(s, d), run, keep, tell)
	return b, e
}

// Reach tells the digests that an action hangs on, each once, as Exec gets them; beside an error too, up to it. The lines themselves are done, so that it meets what they meet; how many Gets that took says how far they came.
func Reach(s *cas.Store, d api.Digest) ([]api.Digest, api.Errno) {
	before := s.Counts().Gets
	var n needs
	e := n.fetch(s, d)()
	gets := s.Counts().Gets - before // one at least: that of d
	var l []api.Digest
	met := map[api.Digest]struct{}{}
	for x := range asked(s, d, n.action) {
		if _, there := met[x]; !there {
			met[x] = struct{}{}
			l = append(l, x)
		}
		if gets--; gets == 0 {
			break
		}
	}
	return l, e
}

// asked goes over the digests in the order in which an action's needs are got. It is to be left where the lines ended: behind that there may be no end, of a directory that has itself below itself.
func asked(s *cas.Store, d api.Digest, a api.Action) iter.Seq[api.Digest] {
	return func(yield func(d api.Digest) bool) {
		if yield(d) && yield(a.Program) {
			standings(s, api.Entry{Kind: api.KDir, Digest: a.Input}, yield)
		}
	}
}

// standings goes to what stands under an entry and all below it, as a walk does, without a Get that would count; whether to go on.
func standings(s *cas.Store, x api.Entry, yield func(d api.Digest) bool) bool {
	if !yield(x.Digest) {
		return false
	}
	if x.Kind != api.KDir {
		return true
	}
	blob, _ := s.Raw(x.Digest)
	entries, _ := node.Decode(blob) // the lines went on behind it: so it is a directory
	for _, y := range entries {
		if !standings(s, y, yield) {
			return false
		}
	}
	return true
}

// Class tells the class of an error of Exec.
func Class(e api.Errno) int {
	switch e {
	case api.OK:
		return api.GNone
	case api.ErrMissing:
		return api.GMissing
	case api.ErrCorrupt:
		return api.GCorrupt
	case api.ErrDeep, api.ErrNodes, api.ErrBytes, api.ErrFiles:
		return api.GOver
	case api.ErrFull:
		return api.GFull
	case api.ErrClash:
		return api.GClash
	}
	return api.GMalformed
}
