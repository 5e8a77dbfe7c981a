package shell

import (
	"slices"

	"retort/api"
	"retort/cas"
	"retort/path"
	"retort/sum"
	"retort/work"
)

// session is what a script has come to.
type session struct {
	worker *work.Worker // nil: there is none yet
	width  int          // of the worker's Store
	items  []api.Item   // the tree under way
	names  map[string]api.Digest
}

// opening is the one command that needs no worker.
const opening = "store"

// commands are all that there are, each with what it does for this session.
func (s *session) commands() []command {
	return []command{
		{name: opening, signs: "nnn", do: s.open},
		{name: "sum", signs: "w", do: s.sum},
		{name: "put", signs: "aw", do: s.put},
		{name: "evict", signs: "r", do: s.evict},
		{name: "plant", signs: "rw", do: s.plant},
		{name: "limit", signs: "n", do: s.limit},
		{name: "dir", signs: "w", do: s.dir},
		{name: "file", signs: "ww", do: s.file},
		{name: "drop", signs: "w", do: s.drop},
		{name: "tree", signs: "a", do: s.tree},
		{name: "asm", signs: "aw", do: s.asm},
		{name: "comp", signs: "anw", do: s.comp},
		{name: "opt", signs: "ar", do: s.opt},
		{name: "act", signs: "arrnnnnnnnnn", more: true, do: s.act},
		{name: "do", signs: "r", do: s.ask},
		{name: "pick", signs: "n", do: s.pick},
		{name: "farm", signs: "n", do: s.farm},
		{name: "exec", signs: "r", do: s.exec},
		{name: "answers", do: s.answers},
		{name: "queue", do: s.queue},
		{name: "cached", do: s.cached},
		{name: "used", do: s.used},
		{name: "show", signs: "r", do: s.show},
		{name: "diff", signs: "rr", do: s.diff},
		{name: "text", signs: "r", do: s.text},
		{name: "raw", signs: "r", do: s.raw},
	}
}

// answer plays one line.
func (s *session) answer(line string) string {
	words, e := Words(line)
	if e != api.OK {
		return e.Error()
	}
	if len(words) == 0 {
		return ""
	}
	commands := s.commands()
	i := slices.IndexFunc(commands, func(c command) bool { return c.name == words[0] })
	if i < 0 {
		return api.ErrWord.Error()
	}
	c := commands[i]
	g, right := c.read(words[1:])
	switch {
	case !right:
		return api.ErrWord.Error()
	case s.worker == nil && c.name != opening:
		return none
	case !s.find(&g):
		return none
	}
	return c.do(g).line()
}

// find fills in the digests of refs, and tells whether there are such.
func (s *session) find(g *given) bool {
	for _, ref := range g.refs {
		d, e := sum.Parse(ref)
		if e != api.OK {
			named, there := s.names[ref]
			if !there {
				return false
			}
			d = named
		}
		g.digests = append(g.digests, d)
	}
	return true
}

// open begins anew, with an empty Store.
func (s *session) open(g given) *reply {
	width := g.numbers[0]
	store, e := cas.New(width, g.numbers[1])
	if e != api.OK {
		return status(e)
	}
	worker, e := work.New(store, g.numbers[2])
	if e != api.OK {
		return status(e)
	}
	s.worker, s.width = worker, width
	s.items = nil
	s.names = map[string]api.Digest{}
	return status(api.OK)
}

// label lays a digest under a name.
func (s *session) label(name string, d api.Digest) *reply {
	s.names[name] = d
	return status(api.OK).digest(d)
}

// putBytes is VPut of bytes; their digest is laid under a name.
func (s *session) putBytes(name string, b []byte) *reply {
	if e := s.worker.Do(api.Event{Kind: api.VPut, B: b}); e != api.OK {
		return status(e)
	}
	d, _ := sum.Cut(sum.Of(b), s.width)
	return s.label(name, d)
}

func (s *session) dir(g given) *reply { return s.place(g.words[0], api.Item{Dir: true}) }

func (s *session) file(g given) *reply {
	return s.place(g.words[0], api.Item{Data: []byte(g.words[1])})
}

func (s *session) drop(g given) *reply { return s.place(g.words[0]) }

// place takes out of the tree under way what is Under a path; if there is an item it stands there then.
func (s *session) place(at string, item ...api.Item) *reply {
	p, e := path.Clean(at)
	if e == api.OK && p == "" {
		e = api.ErrRoot
	}
	if e != api.OK {
		return status(e)
	}
	s.items = slices.DeleteFunc(s.items, func(x api.Item) bool { return path.Under(p, x.Path) })
	for _, x := range item {
		x.Path = p
		s.insert(x)
	}
	return status(api.OK)
}

// insert lets an item stand at its place by W4.
func (s *session) insert(x api.Item) {
	i := slices.IndexFunc(s.items, func(y api.Item) bool { return path.Less(x.Path, y.Path) })
	if i < 0 {
		i = len(s.items)
	}
	s.items = slices.Insert(s.items, i, x)
}
