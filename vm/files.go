package vm

import (
	"retort/api"
	"retort/op"
	"retort/vfs"
)

// Call does one call of files over a memory, which it may write: what is answered, how many bytes were moved; most: how many may be.
func Call(f *vfs.FS, memory []byte, call int, args []int, most int) (answer, moved int, t api.Trap) {
	d := desk{files: f, memory: memory, most: max(most, 0)}
	touch, moved, t := d.ask(call, args)
	return touch.Answer, moved, t
}

// desk is where calls of files are done: over files and a memory, with so many bytes moved at most.
type desk struct {
	files  *vfs.FS
	memory []byte
	most   int
}

// filing does one call of files: what is to be told of it, and how many bytes it moved. With a trap it has done nothing.
type filing func(d desk, args []int) (api.Touch, int, api.Trap)

// filings are what the calls do, by their numbers.
func filings() [api.SCount]filing {
	return [api.SCount]filing{
		api.SOpen:  desk.open,
		api.SRead:  desk.read,
		api.SWrite: desk.write,
		api.SList:  desk.list,
		api.SClose: desk.close,
	}
}

func (d desk) ask(call int, args []int) (api.Touch, int, api.Trap) {
	s, there := op.Sys(call)
	if !there || len(args) != s.Takes {
		return refused(api.TOp)
	}
	return filings()[call](d, args)
}

func refused(t api.Trap) (api.Touch, int, api.Trap) { return api.Touch{}, 0, t }

// answerOf is what the program is answered: an error as a number below 0.
func answerOf(n int, e api.Errno) int {
	if e != api.OK {
		return -int(e)
	}
	return n
}

func (d desk) open(args []int) (api.Touch, int, api.Trap) {
	at, n, mode := args[0], args[1], args[2]
	if !holds(d.memory, at, n) {
		return refused(api.TBounds)
	}
	if n > d.most {
		return refused(api.TFuel)
	}
	p := string(d.memory[at : at+n])
	h, e := d.files.Open(p, mode)
	return api.Touch{Call: api.SOpen, Path: p, N: mode, Answer: answerOf(h, e)}, n, api.TNone
}

func (d desk) read(args []int) (api.Touch, int, api.Trap) {
	h, at, n := args[0], args[1], args[2]
	if !holds(d.memory, at, n) {
		return refused(api.TBounds)
	}
	x := api.Touch{Call: api.SRead, Handle: h, N: n}
	many, e := d.files.Peek(h, n)
	x.Answer = answerOf(many, e)
	if e != api.OK {
		return x, 0, api.TNone
	}
	if many > d.most {
		return refused(api.TFuel)
	}
	x.Data, _ = d.files.Read(h, n)
	copy(d.memory[at:], x.Data)
	return x, many, api.TNone
}

func (d desk) write(args []int) (api.Touch, int, api.Trap) {
	h, at, n := args[0], args[1], args[2]
	if !holds(d.memory, at, n) {
		return refused(api.TBounds)
	}
	x := api.Touch{Call: api.SWrite, Handle: h, N: n}
	e := d.files.May(h, n)
	x.Answer = answerOf(n, e)
	if e != api.OK {
		return x, 0, api.TNone
	}
	if n > d.most {
		return refused(api.TFuel)
	}
	x.Data = append(x.Data, d.memory[at:at+n]...)
	d.files.Write(h, x.Data)
	return x, n, api.TNone
}

func (d desk) list(args []int) (api.Touch, int, api.Trap) {
	at, n, to, room := args[0], args[1], args[2], args[3]
	if !holds(d.memory, at, n) || !holds(d.memory, to, room) {
		return refused(api.TBounds)
	}
	if n > d.most {
		return refused(api.TFuel)
	}
	x := api.Touch{Call: api.SList, Path: string(d.memory[at : at+n]), N: room}
	b, e := d.names(x.Path, room)
	x.Answer = answerOf(len(b), e)
	if e != api.OK {
		return x, n, api.TNone
	}
	if len(b) > d.most-n {
		return refused(api.TFuel)
	}
	x.Data = b
	copy(d.memory[to:], b)
	return x, n + len(b), api.TNone
}

// names are those in a directory, a byte 0 behind each, if they fit into the room.
func (d desk) names(p string, room int) ([]byte, api.Errno) {
	l, e := d.files.List(p)
	if e != api.OK {
		return nil, e
	}
	var b []byte
	for _, name := range l {
		b = append(append(b, name...), 0)
	}
	if len(b) > room {
		return nil, api.ErrRange
	}
	return b, api.OK
}

func (d desk) close(args []int) (api.Touch, int, api.Trap) {
	h := args[0]
	e := d.files.Close(h)
	return api.Touch{Call: api.SClose, Handle: h, Answer: answerOf(0, e)}, 0, api.TNone
}
