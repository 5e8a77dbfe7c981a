package flow_test

import (
	"bytes"
	"fmt"
	"slices"
	"testing"

	"retort/api"
	"retort/cas"
	"retort/flow"
	"retort/node"
)

// packs holds Pack against what is wanted, and nothing of the Store is touched but by the walk's Gets.
func packs(t testing.TB, what string, s *cas.Store, root api.Digest, room api.Room, want []byte, e api.Errno, gets int) {
	t.Helper()
	was, counts := lying(s), s.Counts()
	b, got := flow.Pack(s, root, room)
	if got != e {
		t.Fatalf("P804: %s: %v, want %v", what, got, e)
	}
	sameBytes(t, "P804: "+what, b, want)
	is(t, "P804: how often the Store is asked: "+what, asked(s, counts), api.Counts{Gets: gets})
	is(t, "P804: the Store: "+what, lying(s), was)
}

// unpacks holds Unpack against what is wanted, and the Store against what P805 says of it.
func unpacks(t testing.TB, what string, s *cas.Store, b []byte, want api.Digest, e api.Errno, puts int) {
	t.Helper()
	then, counts := s.Twin(), s.Counts()
	unpackOf(then, b)
	d, got := flow.Unpack(s, b)
	if got != e || d != want {
		t.Fatalf("P805: %s: %x, %v, want %x, %v", what, d[:4], got, want[:4], e)
	}
	is(t, "P805: how often the Store is asked: "+what, asked(s, counts), api.Counts{Puts: puts})
	is(t, "P805: the Store: "+what, lying(s), lying(then))
}

// refuses holds Unpack against an error ahead of the first Put.
func refuses(t testing.TB, what string, b []byte, e api.Errno) {
	t.Helper()
	s := store(t, 32, 10000)
	unpacks(t, what, s, b, api.Digest{}, e, 0)
	is(t, "P805: nothing is put: "+what, s.Len(), 0)
}

func TestPackTheExamples(t *testing.T) {
	x := example(t)
	blob := raw(x.s, x.d1)
	want := append([]byte{5, 32, 2, 2, 1, 2, byte(len(blob))}, blob...)
	packs(t, "example 4", x.s, x.d1, greatest(), want, api.OK, 2)
	unpacks(t, "example 4", store(t, 32, 10000), want, x.d1, api.OK, 2)
	refuses(t, "D1 ahead of x", packed(32, blob, []byte{1, 2}), api.ErrPack)
	refuses(t, "a third blob", packed(32, []byte{1, 2}, []byte{3}, blob), api.ErrPack)
	refuses(t, "a third blob", packed(32, []byte{3}, []byte{1, 2}, blob), api.ErrPack)
	refuses(t, "x twice", packed(32, []byte{1, 2}, []byte{1, 2}, blob), api.ErrPack)
	packs(t, "D2", x.s, x.d2, greatest(), packed(32, []byte{1, 2}, blob, raw(x.s, x.d2)), api.OK, 6)
	packs(t, "just enough", x.s, x.d2, api.Room{Nodes: 6, Depth: 2, Bytes: 6}, packed(32, []byte{1, 2}, blob, raw(x.s, x.d2)), api.OK, 6)
	packs(t, "an empty directory", x.s, putDir(t, x.s), api.Room{Nodes: 1}, []byte{5, 32, 1, 2, 1, 0}, api.OK, 1)
}

// Each width stands in the pack, and is asked for.
func TestPackWidths(t *testing.T) {
	for width := 1; width <= 32; width++ {
		s := store(t, width, 1000)
		empty := putDir(t, s)
		b := []byte{5, byte(width), 1, 2, 1, 0}
		packs(t, "a width", s, empty, greatest(), b, api.OK, 1)
		for other := 1; other <= 32; other++ {
			if other == width {
				unpacks(t, "a width", store(t, other, 1000), b, empty, api.OK, 1)
			} else {
				unpacks(t, "another width", store(t, other, 1000), b, api.Digest{}, api.ErrWidth, 0)
			}
		}
	}
}

// What is read from the left: the first error is told, whatever is wrong behind it.
func TestUnpackReading(t *testing.T) {
	dir := []byte{1, 0}
	long := make([]byte, 1<<20+1)
	for what, x := range map[string]struct {
		b []byte
		e api.Errno
	}{
		"no bytes":                       {nil, api.ErrCut},
		"a number that is cut":           {[]byte{249, 5}, api.ErrCut},
		"no one form":                    {[]byte{248, 5, 32, 1}, api.ErrForm},
		"above the greatest int":         {[]byte{255, 255, 255, 255, 255, 255, 255, 255, 255}, api.ErrForm},
		"a directory":                    {dir, api.ErrTag},
		"another tag, nothing behind it": {[]byte{4}, api.ErrTag},
		"tag 0":                          {[]byte{0, 32, 1, 2, 1, 0}, api.ErrTag},
		"a great tag":                    {[]byte{248, 255}, api.ErrTag},
		"the tag alone":                  {[]byte{5}, api.ErrCut},
		"no one form of the width":       {[]byte{5, 248, 32}, api.ErrForm},
		"width 0":                        {[]byte{5, 0}, api.ErrWidth},
		"width 31":                       {[]byte{5, 31, 1, 2, 1, 0}, api.ErrWidth},
		"width 33":                       {[]byte{5, 33, 0}, api.ErrWidth},
		"width 288":                      {[]byte{5, 249, 1, 32}, api.ErrWidth},
		"no number of blobs":             {[]byte{5, 32}, api.ErrCut},
		"no one form of it":              {[]byte{5, 32, 248, 1}, api.ErrForm},
		"no blob":                        {[]byte{5, 32, 0}, api.ErrPack},
		"no blob, and something behind":  {[]byte{5, 32, 0, 2, 1, 0}, api.ErrPack},
		"MaxItems blobs":                 {[]byte{5, 32, 250, 1, 0, 0}, api.ErrCut},
		"one blob more":                  {[]byte{5, 32, 250, 1, 0, 1}, api.ErrPack},
		"far more blobs":                 {[]byte{5, 32, 255, 127, 255, 255, 255, 255, 255, 255, 255}, api.ErrPack},
		"more blobs than an int tells":   {[]byte{5, 32, 255, 255, 255, 255, 255, 255, 255, 255, 255}, api.ErrForm},
		"a blob that is not there":       {[]byte{5, 32, 1}, api.ErrCut},
		"a blob without its end":         {[]byte{5, 32, 1, 2, 1}, api.ErrCut},
		"a blob's number in no form":     {[]byte{5, 32, 1, 248, 2, 1, 0}, api.ErrForm},
		"a blob of all bytes there are":  {[]byte{5, 32, 1, 255, 127, 255, 255, 255, 255, 255, 255, 255, 1}, api.ErrCut},
		"the second one is not there":    {[]byte{5, 32, 2, 2, 1, 0}, api.ErrCut},
		"something behind the end":       {[]byte{5, 32, 1, 2, 1, 0, 0}, api.ErrTail},
		"behind the end of no pack":      {[]byte{5, 32, 1, 2, 1, 2, 0}, api.ErrTail},
		"the same twice, with a tail":    {append(packed(32, dir, dir), 0), api.ErrTail},
		"a long blob":                    {packed(32, long), api.ErrLong},
		"a long blob, without its end":   {packed(32, long)[:1<<20+1], api.ErrCut},
		"a long blob, and a tail":        {append(packed(32, long), 0), api.ErrLong},
		"a long blob, and one cut":       {append(packed(32, long, nil), 249)[:1<<20+9], api.ErrLong},
		"a blob that is just long":       {packed(32, long[1:]), api.ErrPack},
		"more than MaxMint":              {make([]byte, 1<<22+1), api.ErrLong},
		"MaxMint":                        {make([]byte, 1<<22), api.ErrTag},
		"a directory in the end":         {packed(32, dir), api.OK},
	} {
		_, e := readOf(32, x.b)
		if e == api.OK && !arePack(32, must(readOf(32, x.b))) {
			e = api.ErrPack
		}
		is(t, "the test itself: "+what, e, x.e)
		if e != api.OK {
			refuses(t, what, x.b, x.e)
		}
	}
}

func must(l [][]byte, _ api.Errno) [][]byte { return l }

// A pack that is cut at any byte is cut; with any byte changed it is what the promise says.
func TestUnpackCutAndChanged(t *testing.T) {
	x := example(t)
	all, _ := flow.Pack(x.s, x.d2, greatest())
	for i := range all {
		refuses(t, fmt.Sprint("cut at ", i), all[:i], api.ErrCut)
		for _, by := range []byte{1, 2, 7, 128, 255} {
			b := bytes.Clone(all)
			b[i] ^= by
			s := store(t, 32, 10000)
			then := s.Twin()
			d, e := unpackOf(then, b)
			unpacks(t, fmt.Sprint("changed at ", i), s, b, d, e, then.Counts().Puts)
			if d == x.d2 {
				t.Errorf("P805: changed at %d, it is the same root", i)
			}
		}
	}
	for _, b := range [][]byte{{0}, {5}, all} {
		refuses(t, "something behind the end", slices.Concat(all, b), api.ErrTail)
	}
}

// Of all rows of a tree's blobs one is its pack.
func TestUnpackExchanged(t *testing.T) {
	x := example(t)
	blobs := [][]byte{{1, 2}, raw(x.s, x.d1), raw(x.s, x.d2), {1, 0}}
	var row [][]byte
	var draw func(left int)
	draw = func(left int) {
		if len(row) > 0 {
			e := api.ErrPack
			var root api.Digest
			switch b := packed(32, row...); {
			case bytes.Equal(b, packed(32, blobs[3])), bytes.Equal(b, packed(32, blobs[0], blobs[1])), bytes.Equal(b, packed(32, blobs[0], blobs[1], blobs[2])):
				e, root = api.OK, digestOf(32, row[len(row)-1])
			}
			s := store(t, 32, 10000)
			puts := 0
			if e == api.OK {
				puts = len(row)
			}
			unpacks(t, brief(row), s, packed(32, row...), root, e, puts)
		}
		if left > 0 {
			for _, b := range blobs {
				row = append(row, b)
				draw(left - 1)
				row = row[:len(row)-1]
			}
		}
	}
	draw(4)
}

// What the walk of the last one's digest says is no pack either.
func TestUnpackWalks(t *testing.T) {
	dirOf := func(l ...api.Entry) []byte { return blobOf(t, l...) }
	at := func(b []byte) api.Digest { return digestOf(32, b) }
	text := []byte{7}
	chain := [][]byte{text, dirOf(fileAt("f", at(text)))}
	for range 31 {
		chain = append(chain, dirOf(dirAt("d", at(chain[len(chain)-1]))))
	}
	last := chain[len(chain)-1]
	unpacks(t, "as deep as may be", store(t, 32, 1<<16), packed(32, chain...), at(last), api.OK, 33)
	refuses(t, "one deeper", packed(32, append(chain, dirOf(dirAt("d", at(last))))...), api.ErrPack)
	refuses(t, "a part is missing", packed(32, chain[1:]...), api.ErrPack)
	refuses(t, "no directory", packed(32, text), api.ErrPack)
	refuses(t, "a file as a directory", packed(32, text, dirOf(dirAt("d", at(text)))), api.ErrPack)
	refuses(t, "two trees", packed(32, text, chain[1], []byte{8}, dirOf(fileAt("f", at([]byte{8})))), api.ErrPack)

	var files, dirs []api.Entry
	for i := range 1024 {
		files = append(files, fileAt(fmt.Sprintf("%04d", i), at(nil)))
	}
	whole, less := dirOf(files...), dirOf(files[:959]...)
	for i := range 63 {
		dirs = append(dirs, dirAt(fmt.Sprintf("%02d", i), at(whole)))
	}
	most := dirOf(append(slices.Clone(dirs), dirAt("last", at(less)))...)
	unpacks(t, "as many nodes as may be", store(t, 32, 1<<20), packed(32, nil, whole, less, most), at(most), api.OK, 4)
	less = dirOf(files[:960]...)
	most = dirOf(append(slices.Clone(dirs), dirAt("last", at(less)))...)
	refuses(t, "one node more", packed(32, nil, whole, less, most), api.ErrPack)
}

// As many bytes as a walk may come to, and one more, in a pack that is short.
func TestUnpackMostBytes(t *testing.T) {
	if testing.Short() {
		t.Skip("it hashes many MiB")
	}
	s := store(t, 32, 1<<22)
	root, more, long, one := longFiles(t, s)
	b := packed(32, raw(s, long), raw(s, root))
	d, e := flow.Unpack(store(t, 32, 1<<22), b)
	is(t, "P805: as many bytes as may be", e, api.OK)
	is(t, "P805: as many bytes as may be", d, root)
	_, e = flow.Unpack(store(t, 32, 1<<22), packed(32, raw(s, long), raw(s, one), raw(s, more)))
	is(t, "P805: one byte more", e, api.ErrPack)
}

// bulk is a tree whose pack has so many bytes.
func bulk(t testing.TB, s *cas.Store, size int) api.Digest {
	t.Helper()
	var files []api.Entry
	left := size - 3
	add := func(n int) {
		b := bytes.Repeat([]byte{byte(len(files))}, n)
		files = append(files, fileAt(fmt.Sprint(len(files)), put(t, s, b...)))
		left -= 4 + n
	}
	for range 3 {
		add(1 << 20)
	}
	entries := slices.Concat(files, []api.Entry{fileAt("3", api.Digest{31: 1})})
	add(left - 4 - 1 - len(blobOf(t, entries...)))
	return putDir(t, s, files...)
}

// Packs of just MaxMint bytes, and of one more.
func TestPackMostBytes(t *testing.T) {
	s := store(t, 32, 1<<24)
	root := bulk(t, s, 1<<22)
	want := packed(32, walkOf(s, root, greatest()).blobsOf()...)
	is(t, "the test itself", len(want), 1<<22)
	packs(t, "MaxMint bytes", s, root, greatest(), want, api.OK, 5)
	unpacks(t, "MaxMint bytes", store(t, 32, 1<<24), want, root, api.OK, 5)
	refuses(t, "one byte more", append(want, 0), api.ErrLong)
	root = bulk(t, s, 1<<22+1)
	is(t, "the test itself", len(packed(32, walkOf(s, root, greatest()).blobsOf()...)), 1<<22+1)
	packs(t, "one byte more", s, root, greatest(), nil, api.ErrLong, 5)
	packs(t, "one byte more, and no Room", s, root, api.Room{Nodes: 4, Depth: 1, Bytes: 1 << 26}, nil, api.ErrNodes, 4)
	is(t, "P802: what is too long for a pack is copied", fmt.Sprint(flow.Copy(s, store(t, 32, 1<<24), root, greatest())), fmt.Sprint(5, api.OK))
}

// As many blobs as there may be.
func TestPackMostBlobs(t *testing.T) {
	s := store(t, 32, 1<<23)
	root := crowd(t, s, 1<<16, true)
	b, e := flow.Pack(s, root, greatest())
	is(t, "P804: MaxItems blobs", e, api.OK)
	sameBytes(t, "P804: MaxItems blobs", b[:6], []byte{5, 32, 250, 1, 0, 0})
	to := store(t, 32, 1<<23)
	d, e := flow.Unpack(to, b)
	is(t, "P805: MaxItems blobs", e, api.OK)
	is(t, "P805: MaxItems blobs", d, root)
	is(t, "P805: MaxItems blobs", to.Len(), 1<<16)
	again, _ := flow.Pack(to, root, greatest())
	sameBytes(t, "P809: MaxItems blobs", again, b)
}

// Blobs are put in their order; the first error of Put ends it, and what was put stays.
func TestUnpackPuts(t *testing.T) {
	x := example(t)
	all, _ := flow.Pack(x.s, x.d2, greatest())
	used := 0
	for i, d := range digests(x.x, x.d1, x.d2) {
		s := store(t, 32, used+31+len(raw(x.s, d)))
		unpacks(t, "a byte less", s, all, api.Digest{}, api.ErrFull, i+1)
		is(t, "P805: what was put stays", s.Len(), i)
		used += 32 + len(raw(x.s, d))
	}
	s := store(t, 32, used)
	unpacks(t, "just enough", s, all, x.d2, api.OK, 3)
	is(t, "P805: their order", fmt.Sprint(s.Stamp(x.x), s.Stamp(x.d1), s.Stamp(x.d2)), "1 2 3")
	s.Limit(0)
	unpacks(t, "again", s, all, x.d2, api.OK, 3)
	s.Limit(10000)
	plant(t, s, x.d1, 7)
	unpacks(t, "in the place of a spoilt one", s, all, x.d2, api.OK, 3)
	is(t, "P805: whole again", s.Whole(x.d1), true)
	refuses(t, "nothing but ErrPack, however full", packed(32, []byte{1, 2}), api.ErrPack)
	full := store(t, 32, 0)
	unpacks(t, "ErrPack ahead of ErrFull", full, packed(32, []byte{1, 2}, []byte{1, 0}), api.Digest{}, api.ErrPack, 0)
}

// At a small width: a clash on the way; blobs of one digest; ways round.
func TestUnpackNarrow(t *testing.T) {
	one, two, three := api.Digest{1}, api.Digest{2}, api.Digest{3}
	s := store(t, 1, 10000)
	tiedFile(t, s, one)
	tied(t, s, two, fileAt("", one))
	tied(t, s, three, dirAt("", two), fileAt("a", one))
	all, _ := flow.Pack(s, three, greatest())
	sameBytes(t, "P804: narrow", all, packed(1, raw(s, one), raw(s, two), raw(s, three)))
	for i, d := range digests(one, two, three) {
		to := store(t, 1, 10000)
		put(t, to, fileOf(d, 1)...)
		unpacks(t, fmt.Sprint("a clash at ", i), to, all, api.Digest{}, api.ErrClash, i+1)
		is(t, "P805: what was put stays", to.Len(), i+1)
	}
	for _, row := range [][][]byte{
		{raw(s, one), fileOf(one, 1), raw(s, two)},
		{fileOf(one, 1), raw(s, one), raw(s, two)},
		{raw(s, one), fileOf(two, 1), raw(s, two)},
		{raw(s, one), raw(s, two), fileOf(two, 1), raw(s, three)},
		{raw(s, three), raw(s, one), raw(s, two), raw(s, three)},
	} {
		unpacks(t, "two of one digest", store(t, 1, 10000), packed(1, row...), api.Digest{}, api.ErrPack, 0)
	}
	// Another file of that digest is another tree, which has the same root.
	unpacks(t, "another's", store(t, 1, 10000), packed(1, fileOf(one, 1), raw(s, two)), two, api.OK, 2)

	s = store(t, 1, 10000)
	tied(t, s, one, dirAt("", two))
	tied(t, s, two, fileAt("", one), fileAt("a", three))
	tied(t, s, three, fileAt("", one))
	all, _ = flow.Pack(s, one, greatest())
	sameBytes(t, "P804: round", all, packed(1, raw(s, three), raw(s, two), raw(s, one)))
	unpacks(t, "round", store(t, 1, 10000), all, one, api.OK, 3)
	unpacks(t, "round, in another order", store(t, 1, 10000), packed(1, raw(s, two), raw(s, three), raw(s, one)), api.Digest{}, api.ErrPack, 0)
	unpacks(t, "round, from another side", store(t, 1, 10000), packed(1, raw(s, three), raw(s, one), raw(s, two)), api.Digest{}, api.ErrPack, 0)
	all, _ = flow.Pack(s, two, greatest())
	sameBytes(t, "P804: as files alone", all, packed(1, raw(s, one), raw(s, three), raw(s, two)))
	unpacks(t, "as files alone", store(t, 1, 10000), all, two, api.OK, 3)
	s = store(t, 1, 10000)
	tied(t, s, one, dirAt("", one))
	unpacks(t, "round by directories", store(t, 1, 10000), packed(1, raw(s, one)), api.Digest{}, api.ErrPack, 0)
	s = store(t, 1, 10000)
	tied(t, s, one, fileAt("", one))
	unpacks(t, "itself as a file", store(t, 1, 10000), packed(1, raw(s, one)), one, api.OK, 1)
	unpacks(t, "itself as a file, twice", store(t, 1, 10000), packed(1, raw(s, one), raw(s, one)), api.Digest{}, api.ErrPack, 0)
}

func TestPackDrawn(t *testing.T) {
	seen := map[api.Errno]int{}
	for n := range uint64(600) {
		r := seeded(n)
		s, l := nest(t, r)
		if n%3 == 0 {
			s = store(t, 32, 1<<20)
			l = digests(kept(t, s, drawTree(r, "", 3)))
		}
		root, room := l[len(l)-1], drawRoom(r)
		want, e, gets := packOf(s, root, room)
		packs(t, fmt.Sprint("drawn ", n), s, root, room, want, e, gets)
		seen[e]++
		if e != api.OK {
			continue
		}
		followsPack(t, s, root, room, want)
		blobs, _ := readOf(s.Width(), want)
		to := drawTo(t, r, s, l)
		switch i, j := r.IntN(len(blobs)), r.IntN(len(blobs)); r.IntN(6) {
		case 0:
			blobs[i], blobs[j] = blobs[j], blobs[i]
		case 1:
			blobs = slices.Delete(blobs, i, i+1)
		case 2:
			blobs = slices.Insert(blobs, i, blobs[j])
		case 3:
			blobs = slices.Insert(blobs, i, fileOf(api.Digest{byte(r.Int())}, 1))
		}
		b := packed(s.Width(), blobs...)
		then := to.Twin()
		counts := then.Counts()
		d, e := unpackOf(then, b)
		unpacks(t, fmt.Sprint("drawn ", n), to, b, d, e, asked(then, counts).Puts)
		seen[e]++
	}
	for _, e := range []api.Errno{api.OK, api.ErrPack, api.ErrFull, api.ErrClash, api.ErrDeep, api.ErrNodes, api.ErrBytes, api.ErrMissing} {
		if seen[e] < 8 {
			t.Errorf("%v was met %d times only", e, seen[e])
		}
	}
}

// followsPack is P809.
func followsPack(t testing.TB, s *cas.Store, root api.Digest, room api.Room, b []byte) {
	t.Helper()
	to := store(t, s.Width(), 1<<26)
	d, e := flow.Unpack(to, b)
	is(t, "P809: Unpack of Pack", e, api.OK)
	is(t, "P809: the root", d, root)
	loadsAlike(t, "P809: its tree", s, to, root, room)
	again, e := flow.Pack(to, root, room)
	is(t, "P809: Pack there", e, api.OK)
	sameBytes(t, "P809: Pack there", again, b)
	wide, _ := flow.Pack(s, root, greatest())
	sameBytes(t, "P809: one pack of one root", wide, b)
	is(t, "P809: nothing else", to.Len(), len(walkOf(s, root, room).met))
}

// A pack is a blob of its own kind: no directory.
func TestPackIsNoDirectory(t *testing.T) {
	x := example(t)
	b, _ := flow.Pack(x.s, x.d2, greatest())
	_, e := node.Decode(b)
	is(t, "P804: the tag", e, api.ErrTag)
}
