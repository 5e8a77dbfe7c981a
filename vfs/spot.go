package vfs

import (
	"bytes"
	"slices"
	"strings"

	"retort/api"
	"retort/path"
)

// spot is what a file and a directory both have: where it stands, and as which of the two.
type spot struct {
	path  string
	name  string // the last of the path's
	isDir bool
}

func spotAt(p string, isDir bool) spot {
	_, name, _ := path.Split(p)
	return spot{path: p, name: name, isDir: isDir}
}

// above is the path of the directory in which it lies.
func (s spot) above() string {
	dir, _, _ := path.Split(s.path)
	return dir
}

// label is what List tells of it.
func (s spot) label() string {
	if s.isDir {
		return s.name + "/"
	}
	return s.name
}

// item is what Items tells of it, but for bytes.
func (s spot) item() api.Item { return api.Item{Path: s.path, Dir: s.isDir} }

// file is a spot with bytes.
type file struct {
	spot
	data []byte
}

// item is the spot's, with the bytes.
func (x file) item() api.Item {
	y := x.spot.item()
	y.Data = bytes.Clone(x.data)
	return y
}

// apart is the file in memory of its own.
func (x file) apart() file { return file{spot: x.spot, data: bytes.Clone(x.data)} }

// lay puts bytes at a place, zeros ahead of them where there was nothing.
func (x *file) lay(at int, b []byte) {
	if gap := at - len(x.data); gap > 0 {
		x.data = append(x.data, make([]byte, gap)...)
	}
	n := copy(x.data[at:], b)
	x.data = append(x.data, b[n:]...)
}

// directory is a spot with others right below it.
type directory struct {
	spot
	below []spot // by name
}

// apart is the directory in memory of its own.
func (d directory) apart() directory { return directory{spot: d.spot, below: slices.Clone(d.below)} }

// take puts one more spot right below it.
func (d *directory) take(s spot) {
	at, _ := slices.BinarySearchFunc(d.below, s, func(a, b spot) int { return strings.Compare(a.name, b.name) })
	d.below = slices.Insert(d.below, at, s)
}

// labels are those of what lies right below it.
func (d directory) labels() []string {
	var l []string
	for _, s := range d.below {
		l = append(l, s.label())
	}
	return l
}

func (f *FS) isFile(p string) bool {
	_, there := f.files[p]
	return there
}

// isDir tells it of a clean path; the root always is one.
func (f *FS) isDir(p string) bool {
	_, there := f.dirs[p]
	return there || p == ""
}

// nearest is the deepest path on the way to a clean one at which there is something, and how many names behind it are missing.
func (f *FS) nearest(p string) (string, int) {
	missing := 0
	for !f.isFile(p) && !f.isDir(p) {
		p, _, _ = path.Split(p)
		missing++
	}
	return p, missing
}

// enter puts a spot into the directory above it.
func (f *FS) enter(s spot) {
	dir := s.above()
	d := f.dirs[dir]
	d.take(s)
	f.dirs[dir] = d
	f.used.Files++
}

// makeDir makes a directory, and those on the way to it, where they are not there.
func (f *FS) makeDir(p string) {
	if f.isDir(p) {
		return
	}
	d := directory{spot: spotAt(p, true)}
	f.makeDir(d.above())
	f.enter(d.spot)
	f.dirs[p] = d
}

// makeFile makes a file without bytes, and the directories on the way to it.
func (f *FS) makeFile(p string) {
	x := file{spot: spotAt(p, false)}
	f.makeDir(x.above())
	f.enter(x.spot)
	f.files[p] = x
}

// fill lays bytes into a file, for which there is room.
func (f *FS) fill(p string, at int, b []byte) {
	x := f.files[p]
	f.used.Bytes -= len(x.data)
	x.lay(at, b)
	f.used.Bytes += len(x.data)
	f.files[p] = x
}

// cut takes a file's bytes away, and the memory in which they lay.
func (f *FS) cut(p string) {
	x := f.files[p]
	f.used.Bytes -= len(x.data)
	x.data = nil
	f.files[p] = x
}
