package node_test

import (
	"bytes"
	"slices"
	"strings"
	"testing"
	"unsafe"

	"retort/api"
	"retort/node"
)

// roomy has those entries with spare room behind them, in which something lies too.
func roomy(l []api.Entry) []api.Entry {
	more := append(make([]api.Entry, 0, len(l)+3), l...)
	for i := len(l); i < cap(more); i++ {
		more[:cap(more)][i] = dir("spare", byte(i))
	}
	return more
}

// spoil writes all of a list, its spare room too.
func spoil(l []api.Entry) {
	l = l[:cap(l)]
	for i := range l {
		l[i] = api.Entry{Name: "spoilt", Kind: -1, Digest: full()}
	}
}

// calls are those that tell lists, or bytes of them.
func calls() map[string]func(l []api.Entry) []api.Entry {
	return map[string]func(l []api.Entry) []api.Entry{
		"With the first":      func(l []api.Entry) []api.Entry { return node.With(l, dir("\x01", 8)) },
		"With one between":    func(l []api.Entry) []api.Entry { return node.With(l, dir("b-", 8)) },
		"With the last":       func(l []api.Entry) []api.Entry { return node.With(l, dir("z", 8)) },
		"With in a place":     func(l []api.Entry) []api.Entry { return node.With(l, dir("b", 8)) },
		"Without the first":   func(l []api.Entry) []api.Entry { return node.Without(l, "a") },
		"Without one between": func(l []api.Entry) []api.Entry { return node.Without(l, "b") },
		"Without the last":    func(l []api.Entry) []api.Entry { return node.Without(l, "c") },
		"Without none":        func(l []api.Entry) []api.Entry { return node.Without(l, "d") },
		"Find": func(l []api.Entry) []api.Entry {
			x, _ := node.Find(l, "b")
			return list(x)
		},
		"Encode": func(l []api.Entry) []api.Entry {
			b, _ := node.Encode(l)
			l, _ = node.Decode(b)
			return l
		},
		"Check": func(l []api.Entry) []api.Entry {
			node.Check(l)
			return nil
		},
	}
}

func TestListsStayApart(t *testing.T) {
	for _, was := range [][]api.Entry{nil, list(file("b", 1)), list(file("a", 1), dir("b", 2), file("c", 3)), fan(20)} {
		for what, call := range calls() {
			l := roomy(was)
			all := slices.Clone(l[:cap(l)])
			told := call(l)
			same(t, "P2: handed in to "+what, l[:cap(l)], all)
			want := slices.Clone(told)
			again := call(l)
			spoil(again)
			same(t, "P2: two answers of "+what, told, want)
			spoil(l)
			same(t, "P2: kept by "+what, told, want)
			l = roomy(was)
			spoil(call(l))
			same(t, "P2: what is told by "+what, l[:cap(l)], all)
		}
	}
}

func TestBytesStayApart(t *testing.T) {
	for _, l := range [][]api.Entry{nil, list(file("a", 1), dir("b", 2)), fan(300)} {
		b := append(bytesOf(l), "spare"...)
		all := bytes.Clone(b)
		b = b[:len(b)-5]
		told, _ := node.Decode(b)
		same(t, "P2: handed in to Decode", b[:len(all)], all)
		for i := range b {
			b[i] = 'x'
		}
		same(t, "P2: kept by Decode", told, l)
		b, _ = node.Encode(l)
		again, _ := node.Encode(l)
		for i := range b[:cap(b)] {
			b[:cap(b)][i] = 'x'
		}
		same(t, "P2: two answers of Encode", again, bytesOf(l))
	}
}

func TestNoneAndEmpty(t *testing.T) {
	for _, l := range [][]api.Entry{nil, {}} {
		same(t, "P2: With", node.With(l, file("a")), list(file("a")))
		is(t, "P2: Without", len(node.Without(l, "a")), 0)
		is(t, "P2: Check", node.Check(l), api.OK)
		b, e := node.Encode(l)
		is(t, "P2: Encode", e, api.OK)
		same(t, "P2: Encode", b, []byte{1, 0})
	}
	for _, b := range [][]byte{nil, {}} {
		_, e := node.Decode(b)
		is(t, "P2: Decode", e, api.ErrCut)
	}
}

// Names that are told share no memory with those that were handed in.
func TestNamesApart(t *testing.T) {
	x := file(strings.Clone("x"), 1)
	l := list(file(strings.Clone("a"), 1), file(strings.Clone("m"), 1), file(strings.Clone("z"), 1))
	found, _ := node.Find(l, "m")
	told := slices.Concat(node.With(l, x), node.With(l, file("m")), node.Without(l, "m"), node.Without(l, "none"), list(found))
	for _, y := range told {
		for _, z := range append(slices.Clone(l), x) {
			if unsafe.StringData(y.Name) == unsafe.StringData(z.Name) {
				t.Errorf("P2: the name %q is told in the memory in which it was handed in", z.Name)
			}
		}
	}
}
