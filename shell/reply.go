package shell

import (
	"strconv"

	"retort/act"
	"retort/api"
	"retort/sum"
)

// reply is an answer under way: its pieces, with a blank between.
type reply struct {
	text []byte
}

func said(word string) *reply { return new(reply).word(word) }

// status is `ok`, or an error's word.
func status(e api.Errno) *reply { return said(e.Error()) }

func (r *reply) word(s string) *reply {
	if len(r.text) > 0 {
		r.text = append(r.text, ' ')
	}
	r.text = append(r.text, s...)
	return r
}

func (r *reply) number(n int) *reply { return r.word(strconv.Itoa(n)) }

func (r *reply) digest(d api.Digest) *reply { return r.word(sum.Text(d)) }

func (r *reply) allDigests(l []api.Digest) *reply {
	for _, d := range l {
		r.digest(d)
	}
	return r
}

func (r *reply) isLong() bool { return len(r.text) > api.MaxAnswer }

// quote leaves alone what is too long as it is: a tree has up to MaxStore bytes, of which nothing would be told.
func (r *reply) quote(b []byte) *reply {
	if r.isLong() {
		return r
	}
	return r.word(Quote(b))
}

func (r *reply) quoteText(s string) *reply { return r.quote([]byte(s)) }

// line is the answer as it is told.
func (r *reply) line() string {
	if r.isLong() {
		return long
	}
	return string(r.text)
}

// came tells what an action came to.
func came(x api.Answer) *reply {
	if x.Err != api.OK {
		return status(x.Err)
	}
	r := new(reply)
	if x.Cached {
		r.word("cached")
	}
	y, _ := act.DecodeResult(x.Result) // what an action is answered without an error is a result
	if y.End != api.EHalt {
		return r.word("trap").word(y.Trap.Word()).number(y.Code).number(y.Fuel)
	}
	r.word("halt").number(y.Code).number(y.Fuel).digest(y.Root)
	for _, p := range y.Missing {
		r.quoteText(p)
	}
	return r
}
