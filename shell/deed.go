package shell

import (
	"errors"

	"retort/act"
	"retort/api"
	"retort/asm"
	"retort/comp"
	"retort/diff"
	"retort/opt"
	"retort/prog"
	"retort/sum"
	"retort/tongue"
	"retort/tree"
)

func greatest() api.Room {
	return api.Room{Nodes: api.MaxItems, Depth: api.MaxDepth, Bytes: api.MaxStore}
}

// happen is an event of which nothing is told but whether it could be.
func (s *session) happen(e api.Event) *reply { return status(s.worker.Do(e)) }

func (s *session) evict(g given) *reply {
	return s.happen(api.Event{Kind: api.VEvict, D: g.digests[0]})
}

func (s *session) plant(g given) *reply {
	return s.happen(api.Event{Kind: api.VPlant, D: g.digests[0], B: []byte(g.words[0])})
}

func (s *session) limit(g given) *reply {
	return s.happen(api.Event{Kind: api.VLimit, N: g.numbers[0]})
}

func (s *session) ask(g given) *reply {
	return s.happen(api.Event{Kind: api.VDo, D: g.digests[0]})
}

func (s *session) pick(g given) *reply {
	if e := s.worker.Do(api.Event{Kind: api.VPick, N: g.numbers[0]}); e != api.OK {
		return status(e)
	}
	l := s.worker.Answers()
	return came(l[len(l)-1])
}

func (s *session) farm(g given) *reply {
	l, e := s.worker.Farm(g.numbers[0])
	if e != api.OK {
		return status(e)
	}
	return status(api.OK).number(len(l))
}

func (s *session) exec(g given) *reply {
	b, e := act.Exec(s.worker.Store(), g.digests[0])
	return came(api.Answer{Err: e, Result: b})
}

func (s *session) sum(g given) *reply {
	return status(api.OK).digest(sum.Of([]byte(g.words[0])))
}

func (s *session) put(g given) *reply { return s.putBytes(g.name, []byte(g.words[0])) }

func (s *session) tree(g given) *reply {
	root, blobs, e := tree.Build(s.width, s.items)
	if e != api.OK {
		return status(e)
	}
	for _, b := range blobs {
		if e := s.worker.Do(api.Event{Kind: api.VPut, B: b}); e != api.OK {
			return status(e)
		}
	}
	return s.label(g.name, root)
}

func (s *session) asm(g given) *reply {
	p, err := asm.Parse(g.words[0])
	if err != nil {
		return misread(err)
	}
	return s.putProgram(g.name, p)
}

// misread tells an error of asm.Parse: its line, if it is one line's, and its word.
func misread(err error) *reply {
	r := new(reply)
	var at *asm.LineError
	if errors.As(err, &at) && at.Line != 0 {
		r.word("line").number(at.Line)
	}
	var e api.Errno
	errors.As(err, &e)
	return r.word(e.Error())
}

func (s *session) comp(g given) *reply {
	u, e, at := tongue.Parse(g.words[0])
	if e != api.OK {
		return said("at").number(at).word(e.Error())
	}
	p, e := comp.Compile(u, g.numbers[0])
	if e != api.OK {
		return status(e)
	}
	return s.putProgram(g.name, p)
}

func (s *session) opt(g given) *reply {
	p, e := s.program(g.digests[0])
	if e != api.OK {
		return status(e)
	}
	best, e := opt.Run(p)
	if e != api.OK {
		return status(e)
	}
	return s.putProgram(g.name, best)
}

func (s *session) putProgram(name string, p api.Program) *reply {
	b, e := prog.Encode(p)
	if e != api.OK {
		return status(e)
	}
	return s.putBytes(name, b)
}

// program is the one that lies under a digest.
func (s *session) program(d api.Digest) (api.Program, api.Errno) {
	b, e := s.worker.Store().Get(d)
	if e != api.OK {
		return api.Program{}, e
	}
	return prog.Decode(b)
}

func (s *session) act(g given) *reply {
	n := g.numbers
	b, e := act.Encode(api.Action{
		Program: g.digests[0],
		Input:   g.digests[1],
		Limits:  api.Limits{Fuel: n[0], Memory: n[1], Stack: n[2], Bytes: n[3], Files: n[4], Open: n[5], Nodes: n[6], Depth: n[7]},
		Keep:    g.words,
		Fresh:   n[8] != 0,
	})
	if e != api.OK {
		return status(e)
	}
	return s.putBytes(g.name, b)
}

func (s *session) answers(g given) *reply {
	l := s.worker.Answers()
	cached := 0
	for _, x := range l {
		if x.Cached {
			cached++
		}
	}
	return status(api.OK).number(len(l)).number(cached)
}

func (s *session) queue(g given) *reply { return status(api.OK).allDigests(s.worker.Queue()) }

func (s *session) cached(g given) *reply { return status(api.OK).allDigests(s.worker.Cached()) }

func (s *session) used(g given) *reply {
	store := s.worker.Store()
	return status(api.OK).number(store.Len()).number(store.Used())
}

func (s *session) show(g given) *reply {
	l, e := tree.Load(s.worker.Store(), g.digests[0], greatest())
	if e != api.OK {
		return status(e)
	}
	r := status(api.OK)
	for _, x := range l {
		r.quoteText(x.Path)
		if x.Dir {
			r.word("/")
		} else {
			r.quote(x.Data)
		}
	}
	return r
}

func (s *session) diff(g given) *reply {
	l, e := diff.Between(s.worker.Store(), g.digests[0], g.digests[1], greatest())
	if e != api.OK {
		return status(e)
	}
	r := status(api.OK)
	for _, c := range l {
		r.word(changed(c.Kind)).quoteText(c.Path)
	}
	return r
}

// changed is the word of a change.
func changed(kind int) string {
	switch kind {
	case api.CAdd:
		return "add"
	case api.CDrop:
		return "drop"
	}
	return "edit"
}

func (s *session) text(g given) *reply {
	p, e := s.program(g.digests[0])
	if e != api.OK {
		return status(e)
	}
	text, e := asm.Print(p)
	if e != api.OK {
		return status(e)
	}
	return status(api.OK).quoteText(text)
}

func (s *session) raw(g given) *reply {
	b, there := s.worker.Store().Raw(g.digests[0])
	if !there {
		return status(api.ErrMissing)
	}
	return status(api.OK).quote(b)
}
