package tongue

import "retort/api"

// doing is a part that is done: it knows what it does.
type doing interface {
	do(r *run) way
}

// reckoned is a part that stands for a word: it knows which. False: the run is over.
type reckoned interface {
	reckon(r *run) (int, bool)
}

// What is done.
type (
	block struct {
		doings []doing
	}
	set struct {
		local int
		value reckoned
	}
	put struct {
		bytes     int // of the word, or of the byte
		at, value reckoned
	}
	choice struct {
		is     reckoned
		blocks []*block // the second one may be wanting
	}
	loop struct {
		is   reckoned
		body *block
	}
	leave struct {
		loops int // further out
		again bool
	}
	giveBack struct{ value reckoned }
	drop     struct{ value reckoned }
	abort    struct{ code reckoned }
)

// What is reckoned.
type (
	num      struct{ n int }
	local    struct{ n int }
	textAt   struct{ n int }
	textLong struct{ n int }
	size     struct{}
	load     struct {
		bytes int
		at    reckoned
	}
	one struct {
		op int
		of reckoned
	}
	two struct {
		op          int
		left, right reckoned
	}
	turn struct{ two } // the two the other way round
	not  struct{ of reckoned }
	and  struct{ left, right reckoned }
	or   struct{ left, right reckoned }
	call struct {
		f    int
		args []reckoned
	}
	sys struct {
		call int
		args []reckoned
	}
)

const (
	wordBytes = 8
	byteBytes = 1
)

// grower makes values of the parts of a right unit.
type grower struct {
	left []api.Part
}

// grown is the block of a function.
func grown(f api.Fn) *block {
	g := &grower{f.Parts}
	return g.block()
}

func (g *grower) take() api.Part {
	x := g.left[0]
	g.left = g.left[1:]
	return x
}

func (g *grower) block() *block {
	b := &block{}
	for range g.take().Kids {
		x := g.doing()
		b.doings = append(b.doings, x)
	}
	return b
}

func (g *grower) doing() doing {
	if g.left[0].Kind == api.PBlock {
		return g.block()
	}
	x := g.take()
	switch x.Kind {
	case api.PSet:
		return set{x.N, g.reckoned()}
	case api.PPut:
		return put{wordBytes, g.reckoned(), g.reckoned()}
	case api.PPut8:
		return put{byteBytes, g.reckoned(), g.reckoned()}
	case api.PIf:
		c := choice{is: g.reckoned()}
		for range x.Kids - 1 {
			c.blocks = append(c.blocks, g.block())
		}
		return c
	case api.PWhile:
		return loop{g.reckoned(), g.block()}
	case api.PBreak:
		return leave{x.N, false}
	case api.PContinue:
		return leave{x.N, true}
	case api.PReturn:
		return giveBack{g.reckoned()}
	case api.PDo:
		return drop{g.reckoned()}
	}
	return abort{g.reckoned()}
}

func (g *grower) reckoned() reckoned {
	x := g.take()
	switch x.Kind {
	case api.PNum:
		return num{x.N}
	case api.PVar:
		return local{x.N}
	case api.PAt:
		return textAt{x.N}
	case api.PLen:
		return textLong{x.N}
	case api.PSize:
		return size{}
	case api.PLoad:
		return load{wordBytes, g.reckoned()}
	case api.PLoad8:
		return load{byteBytes, g.reckoned()}
	case api.POne:
		return one{x.N, g.reckoned()}
	case api.PTwo:
		return g.two(x.N)
	case api.PTurn:
		return turn{g.two(x.N)}
	case api.PNot:
		return not{g.reckoned()}
	case api.PAnd:
		return and{g.reckoned(), g.reckoned()}
	case api.POr:
		return or{g.reckoned(), g.reckoned()}
	case api.PCall:
		return call{x.N, g.args(x.Kids)}
	}
	return sys{x.N, g.args(x.Kids)}
}

func (g *grower) two(op int) two {
	return two{op, g.reckoned(), g.reckoned()}
}

func (g *grower) args(n int) []reckoned {
	var l []reckoned
	for range n {
		l = append(l, g.reckoned())
	}
	return l
}
