package work

import (
	"slices"

	"retort/api"
	"retort/cas"
)

// mark is a digest, and the stamp of what lies under it: as long as that is the same, so are the bytes.
type mark struct {
	digest api.Digest
	stamp  int
}

func marksOf(s *cas.Store, l []api.Digest) []mark {
	var marks []mark
	for _, d := range l {
		marks = append(marks, mark{d, s.Stamp(d)})
	}
	return marks
}

// stand tells whether all is as it was marked.
func stand(s *cas.Store, l []mark) bool {
	for _, m := range l {
		if s.Stamp(m.digest) != m.stamp {
			return false
		}
	}
	return true
}

// held is an answer that the cache holds.
type held struct {
	action api.Digest
	result []byte
	hangs  []mark
}

// shelf is a cache: the answer that was used longest ago stands first.
type shelf struct {
	most int
	row  []held
}

func (c *shelf) place(d api.Digest) int {
	return slices.IndexFunc(c.row, func(h held) bool { return h.action == d })
}

// right tells the answer for an action, if nothing that hangs on it has changed.
func (c *shelf) right(s *cas.Store, d api.Digest) (held, bool) {
	i := c.place(d)
	if i < 0 || !stand(s, c.row[i].hangs) {
		return held{}, false
	}
	return c.row[i], true
}

func (c *shelf) drop(d api.Digest) {
	if i := c.place(d); i >= 0 {
		c.row = slices.Delete(c.row, i, i+1)
	}
}

// use lays an answer behind all others, in the place of what was held for its action.
func (c *shelf) use(h held) {
	c.drop(h.action)
	c.row = append(c.row, h)
	if len(c.row) > c.most {
		c.row = slices.Delete(c.row, 0, 1)
	}
}

func (c *shelf) actions() []api.Digest {
	var l []api.Digest
	for _, h := range c.row {
		l = append(l, h.action)
	}
	return l
}
