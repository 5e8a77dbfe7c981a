package vfs_test

import (
	"bytes"
	"fmt"
	"maps"
	"math/rand/v2"
	"slices"
	"strings"
	"testing"

	"retort/api"
	"retort/vfs"
)

// The chapter said once more, in another way: over one list of items that is gone through from end to end at each question, name by name; each call makes what it answers out of a copy of all.

func namesOf(p string) []string {
	if p == "" {
		return nil
	}
	return strings.Split(p, "/")
}

func isName(s string) bool {
	return len(s) >= 1 && len(s) <= 64 && !strings.ContainsAny(s, "/\x00") && s != "." && s != ".."
}

// cleanOf is P302.
func cleanOf(s string) ([]string, api.Errno) {
	if len(s) > 4096 {
		return nil, api.ErrLong
	}
	var row []string
	for _, part := range namesOf(s) {
		switch {
		case part == "" || part == ".":
		case part == ".." && len(row) == 0:
			return nil, api.ErrRoot
		case part == "..":
			row = row[:len(row)-1]
		case !isName(part):
			return nil, api.ErrName
		default:
			row = append(row, part)
		}
	}
	if len(row) > 32 {
		return nil, api.ErrDeep
	}
	return row, api.OK
}

func order(a, b string) int { return slices.Compare(namesOf(a), namesOf(b)) }

func dirOf(p string) string {
	names := namesOf(p)
	return strings.Join(names[:len(names)-1], "/")
}

// isTree is W5, line by line.
func isTree(l []api.Item) bool {
	dirs, fans, size := map[string]bool{"": true}, map[string]int{}, 0
	for _, x := range l {
		names, e := cleanOf(x.Path)
		if e != api.OK || len(names) == 0 || strings.Join(names, "/") != x.Path || x.Dir && len(x.Data) > 0 || len(x.Data) > 1<<20 {
			return false
		}
		dirs[x.Path] = dirs[x.Path] || x.Dir
		fans[dirOf(x.Path)]++
		size += len(x.Data)
	}
	for i, x := range l {
		if i > 0 && order(l[i-1].Path, x.Path) >= 0 || !dirs[dirOf(x.Path)] || fans[x.Path] > 1024 {
			return false
		}
	}
	return fans[""] <= 1024 && len(l) < 1<<16 && size <= 1<<26
}

// hand is a handle of the model.
type hand struct {
	path     string
	at, mode int
}

// model is what an FS is, told anew.
type model struct {
	q     api.Quota
	items []api.Item
	hands map[int]hand
}

func copied(l []api.Item) []api.Item {
	l = slices.Clone(l)
	for i, x := range l {
		l[i].Data = bytes.Clone(x.Data)
	}
	return l
}

func (m *model) twin() *model { return &model{m.q, copied(m.items), maps.Clone(m.hands)} }

func sizeOf(l []api.Item) int {
	n := 0
	for _, x := range l {
		n += len(x.Data)
	}
	return n
}

// newOf is P901.
func newOf(l []api.Item, q api.Quota) (*model, api.Errno) {
	switch {
	case !isTree(l):
		return nil, api.ErrItems
	case sizeOf(l) > q.Bytes:
		return nil, api.ErrQuota
	case len(l) > q.Files:
		return nil, api.ErrFiles
	}
	return &model{q, copied(l), map[int]hand{}}, api.OK
}

func (m *model) find(p string) *api.Item {
	for i := range m.items {
		if m.items[i].Path == p {
			return &m.items[i]
		}
	}
	return nil
}

// add puts an item behind the others, and all in order.
func (m *model) add(x api.Item) {
	m.items = append(m.items, x)
	slices.SortFunc(m.items, func(a, b api.Item) int { return order(a.Path, b.Path) })
}

func (m *model) fan(dir string) int {
	n := 0
	for _, x := range m.items {
		if dirOf(x.Path) == dir {
			n++
		}
	}
	return n
}

// open is P902.
func (m *model) open(p string, mode int) (int, api.Errno) {
	if !slices.Contains([]int{0, 1, 2, 3, 5, 6, 7}, mode) {
		return 0, api.ErrMode
	}
	names, e := cleanOf(p)
	if e != api.OK {
		return 0, e
	}
	if len(names) == 0 {
		return 0, api.ErrIsDir
	}
	then := m.twin()
	for i := 1; i < len(names); i++ {
		ahead := strings.Join(names[:i], "/")
		switch x := then.find(ahead); {
		case x != nil && !x.Dir:
			return 0, api.ErrNotDir
		case x == nil && mode < 4:
			return 0, api.ErrNoEnt
		case x == nil:
			then.add(api.Item{Path: ahead, Dir: true})
		}
	}
	p = strings.Join(names, "/")
	switch x := then.find(p); {
	case x != nil && x.Dir:
		return 0, api.ErrIsDir
	case x == nil && mode == 0:
		return 0, api.ErrNoEnt
	case x == nil:
		then.add(api.Item{Path: p})
		if len(then.items) > m.q.Files || len(then.items) >= 1<<16 {
			return 0, api.ErrFiles
		}
		for i := range names {
			if then.fan(strings.Join(names[:i], "/")) > 1024 {
				return 0, api.ErrFiles
			}
		}
	}
	if len(m.hands) >= m.q.Open || len(m.hands) >= 64 {
		return 0, api.ErrOpen
	}
	if mode == 2 || mode == 6 {
		then.find(p).Data = nil
	}
	*m = *then
	for h := 0; ; h++ {
		if _, there := m.hands[h]; !there {
			m.hands[h] = hand{p, 0, mode}
			return h, api.OK
		}
	}
}

// read is P903.
func (m *model) read(h, n int) ([]byte, api.Errno) {
	x, there := m.hands[h]
	switch {
	case !there:
		return nil, api.ErrHandle
	case x.mode != 0:
		return nil, api.ErrMode
	case n < 0:
		return nil, api.ErrArg
	}
	var b []byte
	data := m.find(x.path).Data
	for ; len(b) < n && x.at < len(data); x.at++ {
		b = append(b, data[x.at])
	}
	m.hands[h] = x
	return b, api.OK
}

func (m *model) peek(h, n int) (int, api.Errno) {
	b, e := m.twin().read(h, n)
	return len(b), e
}

// write is P904.
func (m *model) write(h int, b []byte) api.Errno {
	x, there := m.hands[h]
	switch {
	case !there:
		return api.ErrHandle
	case x.mode == 0:
		return api.ErrMode
	case len(b) == 0:
		return api.OK
	}
	then := m.twin()
	y := then.find(x.path)
	if x.mode == 3 || x.mode == 7 {
		x.at = len(y.Data)
	}
	for _, c := range b {
		for x.at >= len(y.Data) {
			y.Data = append(y.Data, 0)
		}
		y.Data[x.at] = c
		x.at++
	}
	if len(y.Data) > 1<<20 || sizeOf(then.items) > m.q.Bytes || sizeOf(then.items) > 1<<26 {
		return api.ErrQuota
	}
	then.hands[h] = x
	*m = *then
	return api.OK
}

func (m *model) may(h, n int) api.Errno {
	x, there := m.hands[h]
	switch {
	case !there:
		return api.ErrHandle
	case x.mode == 0:
		return api.ErrMode
	case n < 0:
		return api.ErrArg
	case n > 1<<20:
		return api.ErrQuota
	}
	return m.twin().write(h, make([]byte, n))
}

// list is P905.
func (m *model) list(p string) ([]string, api.Errno) {
	names, e := cleanOf(p)
	if e != api.OK {
		return nil, e
	}
	for i := 1; i <= len(names); i++ {
		x := m.find(strings.Join(names[:i], "/"))
		if x == nil {
			return nil, api.ErrNoEnt
		}
		if !x.Dir {
			return nil, api.ErrNotDir
		}
	}
	var l []string
	for _, x := range m.items {
		if dirOf(x.Path) != strings.Join(names, "/") {
			continue
		}
		name := namesOf(x.Path)[len(names)]
		if x.Dir {
			name += "/"
		}
		l = append(l, name)
	}
	return l, api.OK
}

// shut is P906.
func (m *model) shut(h int) api.Errno {
	if _, there := m.hands[h]; !there {
		return api.ErrHandle
	}
	delete(m.hands, h)
	return api.OK
}

// used and place are P908.
func (m *model) used() api.Quota {
	return api.Quota{Bytes: sizeOf(m.items), Files: len(m.items), Open: len(m.hands)}
}

func (m *model) place(h int) (string, int, api.Errno) {
	x, there := m.hands[h]
	if !there {
		return "", 0, api.ErrHandle
	}
	return x.path, x.at, api.OK
}

// What the tests hand in.

func file(p string, b ...byte) api.Item { return api.Item{Path: p, Data: b} }

func text(p, s string) api.Item { return api.Item{Path: p, Data: []byte(s)} }

func dir(p string) api.Item { return api.Item{Path: p, Dir: true} }

func list(l ...api.Item) []api.Item { return l }

func quota(bytes, files, open int) api.Quota {
	return api.Quota{Bytes: bytes, Files: files, Open: open}
}

// greatest is more than any FS may take.
func greatest() api.Quota { return quota(1<<40, 1<<40, 1<<40) }

// fan has n files, in order, right below a directory (or the root).
func fan(ahead string, n int) []api.Item {
	var l []api.Item
	for i := range n {
		l = append(l, file(fmt.Sprintf("%s%05d", ahead, i)))
	}
	return l
}

// chain has n directories, one in the other, each of that name.
func chain(name string, n int) []api.Item {
	var l []api.Item
	for i := range n {
		l = append(l, dir(strings.Repeat(name+"/", i)+name))
	}
	return l
}

// many has n items with not too many in one place.
func many(n int) []api.Item {
	var l []api.Item
	for i := range n {
		p := fmt.Sprintf("%03d", i/1000)
		if i%1000 == 0 {
			l = append(l, dir(p))
		} else {
			l = append(l, file(fmt.Sprintf("%s/%03d", p, i%1000)))
		}
	}
	return l
}

// heavy has files of so many bytes in all, which lie in one place of the memory.
func heavy(size int) []api.Item {
	var l []api.Item
	data := bytes.Repeat([]byte("x"), 1<<20)
	for ; size > 0; size -= 1 << 20 {
		l = append(l, api.Item{Path: fmt.Sprintf("%03d", len(l)), Data: data[:min(size, 1<<20)]})
	}
	return l
}

// names that may be, in order, with those that are one another's front, and those that `/` would put elsewhere.
func names() []string {
	return []string{"\x01", "-", "...", "a", "a\x01", "a-", "a.", "aa", "b", strings.Repeat("b", 64), "é", "\xff"}
}

// drawTree is one with few items in each directory, and few bytes.
func drawTree(r *rand.Rand, ahead string, depth int) []api.Item {
	all, contents := names(), []string{"", "\x00", "ox", "bytes"}
	picked := r.Perm(len(all))[:r.IntN(5)]
	slices.Sort(picked)
	var l []api.Item
	for _, i := range picked {
		p := ahead + all[i]
		if r.IntN(2) == 0 {
			l = append(l, text(p, contents[r.IntN(len(contents))]))
			continue
		}
		l = append(l, dir(p))
		if depth > 0 {
			l = append(l, drawTree(r, p+"/", depth-1)...)
		}
	}
	return l
}

func seeded(n uint64) *rand.Rand { return rand.New(rand.NewPCG(n, 9)) }

// How things are held against each other.

func sameItem(x, y api.Item) bool {
	return x.Path == y.Path && x.Dir == y.Dir && bytes.Equal(x.Data, y.Data)
}

func brief[T any](l []T) string {
	s := fmt.Sprintf("%q", fmt.Sprint(l))
	if len(s) > 300 {
		s = s[:300] + ".."
	}
	return fmt.Sprintf("%d: %s", len(l), s)
}

func sameItems(t testing.TB, what string, got, want []api.Item) {
	t.Helper()
	if !slices.EqualFunc(got, want, sameItem) {
		t.Fatalf("%s: %s\nwant %s", what, brief(got), brief(want))
	}
}

func sameTexts(t testing.TB, what string, got, want []string) {
	t.Helper()
	if !slices.Equal(got, want) {
		t.Fatalf("%s: %q\nwant %q", what, got, want)
	}
}

func is[T comparable](t testing.TB, what string, got, want T) {
	t.Helper()
	if got != want {
		t.Errorf("%s: %v, want %v", what, got, want)
	}
}

// both is an FS, and the model of it.
type both struct {
	f *vfs.FS
	m *model
}

// made makes both, of what must be right.
func made(t testing.TB, q api.Quota, l ...api.Item) both {
	t.Helper()
	f, e := vfs.New(l, q)
	m, want := newOf(l, q)
	if f == nil || e != api.OK || want != api.OK {
		t.Fatalf("P901: %v, want %v", e, want)
	}
	return both{f, m}
}

// alike holds all that is to be seen of an FS against its model.
func (x both) alike(t testing.TB, what string) {
	t.Helper()
	sameItems(t, "P907: "+what, x.f.Items(), x.m.items)
	if u := x.f.Used(); u != x.m.used() {
		t.Fatalf("P908: %s: %v, want %v", what, u, x.m.used())
	}
	for h := -1; h <= 65; h++ {
		p, at, e := x.f.Place(h)
		if q, there, want := x.m.place(h); p != q || at != there || e != want {
			t.Fatalf("P908: %s: Place(%d): %q, %d, %v, want %q, %d, %v", what, h, p, at, e, q, there, want)
		}
	}
	// P910: what is used is within the quota, and Items is a tree.
	u, q := x.f.Used(), x.m.q
	if u.Bytes > q.Bytes || u.Files > q.Files || u.Open > max(q.Open, 0) || u.Bytes > 1<<26 || u.Files >= 1<<16 || u.Open > 64 {
		t.Fatalf("P910: %s: %v of %v", what, u, q)
	}
}

// open opens in both, and holds answer and all else against each other.
func (x both) open(t testing.TB, p string, mode int) (int, api.Errno) {
	t.Helper()
	h, e := x.f.Open(p, mode)
	if want, wrong := x.m.open(p, mode); h != want || e != wrong {
		t.Fatalf("P902: Open(%.40q, %d): %d, %v, want %d, %v", p, mode, h, e, want, wrong)
	}
	x.alike(t, fmt.Sprintf("behind Open(%.40q, %d)", p, mode))
	return h, e
}

// read reads in both, with a Peek ahead.
func (x both) read(t testing.TB, h, n int) ([]byte, api.Errno) {
	t.Helper()
	many, ahead := x.f.Peek(h, n)
	if want, wrong := x.m.peek(h, n); many != want || ahead != wrong {
		t.Fatalf("P903: Peek(%d, %d): %d, %v, want %d, %v", h, n, many, ahead, want, wrong)
	}
	b, e := x.f.Read(h, n)
	if want, wrong := x.m.read(h, n); !bytes.Equal(b, want) || e != wrong || len(b) != many || e != ahead {
		t.Fatalf("P903: Read(%d, %d): %s, %v, want %s, %v", h, n, brief(b), e, brief(want), wrong)
	}
	x.alike(t, fmt.Sprintf("behind Read(%d, %d)", h, n))
	return b, e
}

// write writes in both, with a May ahead.
func (x both) write(t testing.TB, h int, b []byte) api.Errno {
	t.Helper()
	may := x.may(t, h, len(b))
	e := x.f.Write(h, b)
	if want := x.m.write(h, b); e != want || e != may {
		t.Fatalf("P904: Write(%d, %s): %v, want %v; May: %v", h, brief(b), e, want, may)
	}
	x.alike(t, fmt.Sprintf("behind Write(%d, %s)", h, brief(b)))
	return e
}

func (x both) may(t testing.TB, h, n int) api.Errno {
	t.Helper()
	e := x.f.May(h, n)
	if want := x.m.may(h, n); e != want {
		t.Fatalf("P904: May(%d, %d): %v, want %v", h, n, e, want)
	}
	return e
}

func (x both) list(t testing.TB, p string) ([]string, api.Errno) {
	t.Helper()
	l, e := x.f.List(p)
	if want, wrong := x.m.list(p); !slices.Equal(l, want) || e != wrong {
		t.Fatalf("P905: List(%.40q): %q, %v, want %q, %v", p, l, e, want, wrong)
	}
	return l, e
}

func (x both) shut(t testing.TB, h int) api.Errno {
	t.Helper()
	e := x.f.Close(h)
	if want := x.m.shut(h); e != want {
		t.Fatalf("P906: Close(%d): %v, want %v", h, e, want)
	}
	x.alike(t, fmt.Sprintf("behind Close(%d)", h))
	return e
}

func (x both) twin() both { return both{x.f.Twin(), x.m.twin()} }

// opens is open with what is wanted said aloud.
func (x both) opens(t testing.TB, p string, mode, want int, wrong api.Errno) {
	t.Helper()
	if h, e := x.open(t, p, mode); h != want || e != wrong {
		t.Fatalf("P902: Open(%.40q, %d): %d, %v, want %d, %v", p, mode, h, e, want, wrong)
	}
}

func (x both) reads(t testing.TB, h, n int, want string) {
	t.Helper()
	if b, e := x.read(t, h, n); string(b) != want || e != api.OK {
		t.Fatalf("P903: Read(%d, %d): %q, %v, want %q", h, n, b, e, want)
	}
}

func (x both) writes(t testing.TB, h int, s string, wrong api.Errno) {
	t.Helper()
	if e := x.write(t, h, []byte(s)); e != wrong {
		t.Fatalf("P904: Write(%d, %.40q): %v, want %v", h, s, e, wrong)
	}
}

func (x both) has(t testing.TB, p, want string) {
	t.Helper()
	for _, y := range x.f.Items() {
		if y.Path == p && string(y.Data) == want {
			return
		}
	}
	t.Fatalf("P907: %q has not %.60q: %s", p, want, brief(x.f.Items()))
}

func TestTheOracle(t *testing.T) {
	if !slices.IsSorted(names()) {
		t.Error("names are not in order")
	}
	r := seeded(1)
	for range 300 {
		is(t, "drawn", isTree(drawTree(r, "", 4)), true)
	}
	for what, l := range map[string][]api.Item{"fan": fan("", 1024), "chain": chain("a", 32), "many": many(1<<16 - 1), "heavy": heavy(1 << 26)} {
		is(t, what, isTree(l), true)
	}
	for what, l := range map[string][]api.Item{"fan": fan("", 1025), "chain": chain("a", 33), "many": many(1 << 16), "heavy": heavy(1<<26 + 1)} {
		is(t, what, isTree(l), false)
	}
}
