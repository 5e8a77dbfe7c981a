package tree_test

import (
	"strings"
	"testing"

	"retort/api"
	"retort/tree"
)

// read takes a line for each item: a directory's begins with a +; behind a path and a = stand a file's bytes.
func read(text string) []api.Item {
	var l []api.Item
	if text == "" {
		return nil
	}
	for line := range strings.SplitSeq(text, "\n") {
		p, data, _ := strings.Cut(line, "=")
		if rest, isDir := strings.CutPrefix(p, "+"); isDir {
			l = append(l, api.Item{Path: rest, Dir: true, Data: []byte(data)})
		} else {
			l = append(l, file(p, []byte(data)...))
		}
	}
	return l
}

func FuzzItems(f *testing.F) {
	f.Add("+a\na/x=12\nb=12", "a/x\nc")
	f.Add("+a\na/b\na-\nab", "a")
	f.Add("+a\na-\na/b", "")
	f.Add("+a=1", "b\na")
	f.Add("", "a\na/b")
	f.Fuzz(func(t *testing.T, text, paths string) {
		l, keep := read(text), strings.Split(paths, "\n")
		e := checkOf(l)
		is(t, "P601", tree.Check(l), e)
		is(t, "P605", tree.CheckKeep(keep), checkKeepOf(keep))
		if e != api.OK {
			return
		}
		root, blobs := buildOf(2, l)
		builds(t, "fuzz", 2, l, root, blobs)
		s := store(t, 32, 1<<26)
		is(t, "P604", puts(t, "fuzz", s, l), api.OK)
		thereAndBack(t, s, l)
		if checkKeepOf(keep) == api.OK {
			left, missing := cutOf(l, keep)
			cuts(t, l, keep, left, missing)
		}
	})
}
