package runs_test

import (
	"bytes"
	"crypto/sha256"
	"math"
	"math/rand"
	"slices"
	"testing"

	"incipit/api"
	"incipit/runs"
	"incipit/seal"
)

// P7.1, P7.3, P7.5: the chapter's rows.
func TestExamples(t *testing.T) {
	ends := func(l []api.Chunk) (out [][]uint32) {
		for _, c := range l {
			row := []uint32{c.From, c.To}
			for _, e := range c.List {
				row = append(row, e.Id)
			}
			out = append(out, row)
		}
		return out
	}
	if l := ends(runs.Chunks(entries(1, 7, 8, 30)...)); !slices.EqualFunc(l, [][]uint32{{1, 7, 1, 7}, {8, 15, 8}, {16, maxId, 30}}, slices.Equal) {
		t.Errorf("of the Ids 1, 7, 8, 30: %v", l)
	}
	if l := ends(runs.Chunks()); !slices.EqualFunc(l, [][]uint32{{1, maxId}}, slices.Equal) {
		t.Errorf("of none: %v", l)
	}
	if l := runs.Chunks(entries(3, 3)...); len(l) != 0 {
		t.Errorf("of the Ids 3, 3: %v", l)
	}
	r := runs.New()
	a, b, c := r.Set(9, []byte("a")), r.Set(2, []byte("b")), r.Drop(9)
	if x, y, z := r.Which(2), r.Which(100), r.Which(0); a != api.OK || b != api.OK || c != api.OK || x != 0 || y != 0 || z >= 0 {
		t.Errorf("Which: %d, %d, %d", x, y, z)
	}
	l := entries(1, 7, 8, 30)
	for at := range 3 {
		p, e := runs.Show(nil, at, l...)
		if e != api.OK || runs.Look(nil, runs.Root(nil, l...), p) != api.OK {
			t.Errorf("chunk %d: %v, %d", at, p, e)
		}
		p.List[0].Body[0]++
		if e := runs.Look(nil, runs.Root(nil, l...), p); e != api.ErrProof {
			t.Errorf("chunk %d, with one byte of a Body changed: %d", at, e)
		}
	}
}

// P7.1: the chunks of entries of many kinds.
func TestChunks(t *testing.T) {
	for _, l := range rows() {
		if got, want := runs.Chunks(l...), chunks(l); !slices.EqualFunc(got, want, sameChunk) {
			t.Errorf("%v: %v, not %v", l, got, want)
		}
	}
}

// P7.1: ends, written out.
func TestEndsOfChunks(t *testing.T) {
	for _, c := range []struct {
		ids  []uint32
		ends []uint32 // From, To, and so on
	}{
		{nil, []uint32{1, maxId}},
		{[]uint32{1}, []uint32{1, maxId}},
		{[]uint32{maxId}, []uint32{1, maxId}},
		{[]uint32{7, 8}, []uint32{1, 7, 8, maxId}},
		{[]uint32{6, 7}, []uint32{1, maxId}},
		{[]uint32{8, 15}, []uint32{1, maxId}},
		{[]uint32{8, 16}, []uint32{1, 15, 16, maxId}},
		{[]uint32{9, 40, 50}, []uint32{1, 15, 16, 47, 48, maxId}},
		{[]uint32{20, maxId}, []uint32{1, 23, 24, maxId}},
		{[]uint32{maxId - 8, maxId - 7}, []uint32{1, maxId - 8, maxId - 7, maxId}},
		{[]uint32{2, maxId - 8, maxId}, []uint32{1, 7, 8, maxId - 8, maxId - 7, maxId}},
	} {
		var ends []uint32
		for _, x := range runs.Chunks(entries(c.ids...)...) {
			ends = append(ends, x.From, x.To)
		}
		if !slices.Equal(ends, c.ends) {
			t.Errorf("%v: %v, not %v", c.ids, ends, c.ends)
		}
	}
}

// P7.7: chunks stand from 1 to MaxId without a gap, and each has just the entries within, at most eight.
func TestChunksAreTheWholeAxis(t *testing.T) {
	r := rand.New(rand.NewSource(77))
	all := rows()
	for range 300 {
		by := map[uint32]bool{}
		for range r.Intn(60) {
			by[uint32(r.Intn(maxId)>>r.Intn(31))+1] = true
		}
		var ids []uint32
		for id := range by {
			ids = append(ids, id)
		}
		slices.Sort(ids)
		all = append(all, entries(ids...))
	}
	for _, l := range all {
		from, rest := uint64(1), l
		for _, c := range runs.Chunks(l...) {
			n := 0
			for n < len(rest) && rest[n].Id <= c.To {
				n++
			}
			if uint64(c.From) != from || c.To < c.From || n > 8 || !sameEntries(c.List, rest[:n]) {
				t.Errorf("%v: %v", l, c)
			}
			from, rest = uint64(c.To)+1, rest[n:]
		}
		if from != maxId+1 || len(rest) > 0 {
			t.Errorf("%v: chunks to %d, %d entries in none", l, from-1, len(rest))
		}
	}
}

// mayNot is entries that may not be.
func mayNot() [][]api.Entry {
	long := func(id uint32) api.Entry { return api.Entry{Id: id, Body: make([]byte, 513)} }
	out := [][]api.Entry{
		entries(0), {{}}, entries(0, 1), entries(3, 3), entries(4, 3), entries(1, 2, 2), entries(1, 3, 2), entries(8, 7), entries(16, 8), entries(1, 0), entries(5, 6, 7, 1), entries(1, 9, 17, 9),
		entries(maxId + 1), entries(math.MaxUint32), entries(1, maxId+1), entries(maxId, maxId+1), entries(maxId, math.MaxUint32), entries(maxId, maxId), entries(math.MaxUint32, 0), entries(maxId, 0),
		{long(1)}, {long(maxId)}, append(entries(1), long(2)), append([]api.Entry{long(1)}, entries(2)...), append(entries(1, 9), long(17)), {{Id: 1, Body: make([]byte, 70000)}},
		append(many(100), many(1)...), append(entries(0), many(100)...),
	}
	same := many(50)
	same[49].Id = same[48].Id
	return append(out, same)
}

// P7.1, P7.2: entries that may not be have no chunks, the sum of noughts, no part whatever is asked for, and nothing is hashed.
func TestEntriesThatMayNotBe(t *testing.T) {
	for _, l := range mayNot() {
		k := &seal.Book{}
		if c := runs.Chunks(l...); len(c) != 0 {
			t.Errorf("%.5v: chunks %v", l, c)
		}
		if s := runs.Root(k, l...); s != (api.Sum{}) || runs.Root(nil, l...) != s {
			t.Errorf("%.5v: root %x", l, s)
		}
		for _, at := range []int{0, 1, -1, 99, math.MinInt, math.MaxInt} {
			for _, k := range []*seal.Book{nil, k} {
				if p, e := runs.Show(k, at, l...); e != api.ErrArg || !isZero(p) {
					t.Errorf("%.5v: Show(%d): %v, %d", l, at, p, e)
				}
			}
		}
		if k.Calls() != 0 || len(k.All()) != 0 {
			t.Errorf("%.5v: hashed %d times", l, k.Calls())
		}
	}
}

// P7.1: roots, by a book and by none; the book has noted what they are made of, and nothing else.
func TestRoot(t *testing.T) {
	for _, l := range rows() {
		w, k := &maker{}, &seal.Book{}
		want := w.root(l)
		if s := runs.Root(k, l...); s != want || runs.Root(nil, l...) != want {
			t.Errorf("%v: %x, not %x", l, s, want)
		}
		if !slices.Equal(once(k.All()), once(w.hashed)) || k.Calls() != len(w.hashed) {
			t.Errorf("%v: hashed %d times, not %d, or other bytes", l, k.Calls(), len(w.hashed))
		}
	}
}

// P7.1: the roots of few entries, written out.
func TestRootOfFew(t *testing.T) {
	hash := func(l ...[]byte) api.Sum { return sha256.Sum256(slices.Concat(l...)) }
	none := hash([]byte{3, 1, 8, 1, 1, 4, 0x7f, 0xff, 0xff, 0xff, 0})
	want := hash([]byte{5, 1, 2, 1, 1, 1, 32}, none[:])
	for _, l := range [][]api.Entry{nil, {}} {
		if s := runs.Root(nil, l...); s != want {
			t.Errorf("no entries: %x, not %x", s, want)
		}
	}
	one := hash([]byte{3, 1, 15, 1, 1, 4, 0x7f, 0xff, 0xff, 0xff, 1, 1, 1, 5, 1, 2, 'a', 'b'})
	want = hash([]byte{5, 1, 2, 1, 1, 1, 32}, one[:])
	if s := runs.Root(nil, api.Entry{Id: 5, Body: []byte("ab")}); s != want {
		t.Errorf("one entry: %x, not %x", s, want)
	}
	first := hash([]byte{3, 1, 9, 1, 1, 1, 7, 1, 1, 1, 7, 0})
	second := hash([]byte{3, 1, 12, 1, 8, 4, 0x7f, 0xff, 0xff, 0xff, 1, 1, 1, 8, 0})
	node := hash([]byte{2, 1, 32}, first[:], []byte{1, 32}, second[:])
	want = hash([]byte{5, 1, 2, 1, 2, 1, 32}, node[:])
	if s := runs.Root(nil, api.Entry{Id: 7}, api.Entry{Id: 8, Body: []byte{}}); s != want {
		t.Errorf("two entries of nothing: %x, not %x", s, want)
	}
}

// P7.1: unlike entries have unlike roots.
func TestRootsAreUnlike(t *testing.T) {
	by := map[api.Sum][]api.Entry{}
	for _, l := range append(rows()[1:], entries(2), entries(2, 3), entries(1, 8), entries(1, 9), []api.Entry{{Id: 1}}, []api.Entry{{Id: 1}, {Id: 2}}, []api.Entry{{Id: 1, Body: []byte("\x01\x02\x00")}}) {
		s := runs.Root(nil, l...)
		if first, there := by[s]; there {
			t.Errorf("%v: %x, as of %v", l, s, first)
		}
		by[s] = l
	}
}

// P7.2: each chunk's part, by a book and by none; what is hashed for it is hashed for the root, too, and the path is hashed by the book.
func TestShow(t *testing.T) {
	for _, l := range rows() {
		whole := &seal.Book{}
		runs.Root(whole, l...)
		for at := range chunks(l) {
			k, want := &seal.Book{}, shown(l, at)
			if p, e := runs.Show(k, at, l...); !same(p, want) || e != api.OK {
				t.Errorf("%v: %v, %d, not %v", l, p, e, want)
			}
			if p, e := runs.Show(nil, at, l...); !same(p, want) || e != api.OK {
				t.Errorf("%v, without a book: %v, %d, not %v", l, p, e, want)
			}
			for _, b := range k.All() {
				if _, there := whole.Find(sha256.Sum256(b)); !there {
					t.Errorf("%v: %x is hashed, and not for the root", l, b)
				}
			}
			for _, s := range want.Path {
				if _, there := k.Find(s); !there {
					t.Errorf("%v: %x is not hashed by the book", l, s)
				}
			}
		}
	}
}

// P7.2: where there is no chunk of that number.
func TestShowNone(t *testing.T) {
	for _, l := range rows() {
		n := len(chunks(l))
		for _, at := range []int{-1, -n, n, n + 1, 2 * n, math.MinInt, math.MaxInt, -1 << 32, 1 << 32} {
			for _, k := range []*seal.Book{nil, {}} {
				if p, e := runs.Show(k, at, l...); e != api.ErrNone || !isZero(p) || k.Calls() != 0 {
					t.Errorf("%v: Show(%d): %v, %d, hashed %d times", l, at, p, e, k.Calls())
				}
			}
		}
	}
}

// P7.3, P7.9: what is shown is right for the root; the book has noted just what leads there.
func TestShown(t *testing.T) {
	for _, l := range rows() {
		r := runs.Root(nil, l...)
		for at := range chunks(l) {
			p, _ := runs.Show(nil, at, l...)
			looks(t, r, p)
			k, w := &seal.Book{}, &maker{}
			runs.Look(k, r, p)
			if w.look(p) != r || !slices.Equal(once(k.All()), once(w.hashed)) || k.Calls() != len(w.hashed) {
				t.Errorf("%v: chunk %d: hashed %d times, not %d, or other bytes", l, at, k.Calls(), len(w.hashed))
			}
		}
	}
}

// right holds that a part, which may be of no entries at all, is right for the root to which it leads.
func right(t *testing.T, p api.Part) {
	t.Helper()
	looks(t, (&maker{}).look(p), p)
}

// wrong holds that a part is refused though it leads to the root.
func wrong(t *testing.T, p api.Part) {
	t.Helper()
	refuses(t, (&maker{}).look(p), p)
}

// P7.3: Count up to 2^28, and every place below it.
func TestLookAtPlaces(t *testing.T) {
	const most = 1 << 28
	c := api.Chunk{From: 16, To: 23, List: entries(17, 20)}
	part := func(count, at int) api.Part {
		return api.Part{Count: count, At: at, Chunk: c, Path: sums(depth(count, at))}
	}
	for _, count := range []int{1, 2, 3, 5, 8, 1000, most - 1, most} {
		for _, at := range []int{0, 1, count / 2, count - 2, count - 1} {
			if 0 <= at && at < count {
				right(t, part(count, at))
			}
		}
		for _, at := range []int{-1, -count, count, count + 1, math.MinInt, math.MaxInt} {
			for _, like := range []int{0, count - 1} {
				p := part(count, like)
				r := (&maker{}).look(p)
				p.At = at
				refuses(t, r, p)
			}
		}
	}
	for _, count := range []int{most + 1, most + 2, 2 * most, 1 << 31, 1 << 40, math.MaxInt - 1, math.MaxInt} {
		for _, at := range []int{0, 1, most, count - 1} {
			wrong(t, part(count, at))
		}
	}
	for _, count := range []int{0, -1, -2, -most, math.MinInt} {
		for _, at := range []int{0, -1, 1, count, count - 1, math.MinInt, math.MaxInt} {
			for _, path := range [][]api.Sum{nil, sums(1)} {
				p := api.Part{Count: count, At: at, Chunk: c, Path: path}
				refuses(t, sha256.Sum256(rootText(uint64(count), sha256.Sum256(leafText(c)))), p)
				refuses(t, root(c.List), p)
			}
		}
	}
}

// P7.3: chunks that look right, be there such ones or not, and chunks that do not, though all leads to the root.
func TestLookAtChunks(t *testing.T) {
	good := append(looksRight(), api.Chunk{From: 1, To: maxId})
	bad := looksWrong()
	for _, place := range [][2]int{{1, 0}, {3, 1}, {7, 6}} {
		for _, c := range good {
			right(t, api.Part{Count: place[0], At: place[1], Chunk: c, Path: sums(depth(place[0], place[1]))})
		}
		for _, c := range bad {
			wrong(t, api.Part{Count: place[0], At: place[1], Chunk: c, Path: sums(depth(place[0], place[1]))})
		}
	}
}

// looksRight is chunks that look right, up to the ends of what may be.
func looksRight() []api.Chunk {
	long := bytes.Repeat([]byte("b"), 512)
	return []api.Chunk{
		{From: 1, To: 1}, {From: 1, To: 1, List: entries(1)}, {From: maxId, To: maxId}, {From: maxId, To: maxId, List: entries(maxId)}, {From: 1, To: maxId, List: entries(1, maxId)},
		{From: 5, To: 6, List: entries(5, 6)}, {From: 5, To: 6, List: entries(5)}, {From: 5, To: 6, List: entries(6)}, {From: 3, To: 1000, List: entries(3, 50, 1000)},
		{From: 1, To: 100, List: entries(1, 2, 3, 4, 5, 6, 7, 8)}, {From: 8, To: 15, List: entries(8, 9, 10, 11, 12, 13, 14, 15)}, {From: 1, To: maxId, List: entries(10, 20, 30, 40, 50, 60, 70, 80)},
		{From: 1, To: 9, List: []api.Entry{{Id: 2}}}, {From: 1, To: 9, List: []api.Entry{{Id: 2, Body: long}, {Id: 9, Body: long}}}, {From: 1, To: 9, List: []api.Entry{}},
	}
}

// looksWrong is chunks that do not look right, each by one thing.
func looksWrong() []api.Chunk {
	long := bytes.Repeat([]byte("b"), 513)
	return []api.Chunk{
		{}, {From: 0, To: 7}, {From: 0, To: 7, List: entries(1)}, {From: 0, To: maxId}, {From: 0, To: 7, List: entries(0)},
		{From: 2, To: 1}, {From: 8, To: 7}, {From: 8, To: 7, List: entries(8)}, {From: 8, To: 7, List: entries(7)}, {From: 8, To: 0}, {From: maxId, To: 1}, {From: math.MaxUint32, To: 0},
		{From: 1, To: maxId + 1}, {From: 1, To: maxId + 1, List: entries(1)}, {From: 1, To: math.MaxUint32}, {From: maxId + 1, To: maxId + 1}, {From: math.MaxUint32, To: math.MaxUint32}, {From: maxId + 1, To: math.MaxUint32, List: entries(maxId + 2)}, {From: maxId, To: maxId + 1, List: entries(maxId)},
		{From: 8, To: 15, List: entries(7)}, {From: 8, To: 15, List: entries(16)}, {From: 8, To: 15, List: entries(7, 8)}, {From: 8, To: 15, List: entries(15, 16)}, {From: 8, To: 15, List: entries(1)}, {From: 8, To: 15, List: entries(9, maxId)}, {From: 8, To: 15, List: entries(7, 16)}, {From: 1, To: 7, List: entries(0)}, {From: 1, To: 7, List: entries(0, 1)}, {From: 1, To: 7, List: entries(math.MaxUint32)},
		{From: 8, To: 15, List: entries(9, 9)}, {From: 8, To: 15, List: entries(10, 9)}, {From: 8, To: 15, List: entries(9, 11, 10)}, {From: 8, To: 15, List: entries(9, 16, 10)}, {From: 8, To: 15, List: entries(9, 7, 10)}, {From: 8, To: 15, List: entries(15, 8)},
		{From: 1, To: 100, List: entries(1, 2, 3, 4, 5, 6, 7, 8, 9)}, {From: 1, To: maxId, List: many(9)}, {From: 1, To: maxId, List: many(3000)},
		{From: 1, To: 9, List: []api.Entry{{Id: 2, Body: long}}}, {From: 1, To: 9, List: append(entries(1, 2), api.Entry{Id: 3, Body: long})}, {From: 1, To: 9, List: append([]api.Entry{{Id: 1, Body: long}}, entries(2)...)},
	}
}

// P7.3: another root, and paths of another length.
func TestLookRefuses(t *testing.T) {
	for _, l := range rows() {
		r := root(l)
		for at := range chunks(l) {
			p := shown(l, at)
			for _, other := range []api.Sum{{}, {1}, sha256.Sum256(leafText(p.Chunk)), (&maker{}).tree((&maker{}).leaves(l)), root(many(77)), sha256.Sum256(rootText(uint64(p.Count)+1, (&maker{}).tree((&maker{}).leaves(l))))} {
				refuses(t, other, p)
			}
			changed := r
			changed[31] ^= 1
			refuses(t, changed, p)
			for _, path := range [][]api.Sum{append(slices.Clone(p.Path), api.Sum{}), append(sums(1), p.Path...), sums(32), sums(33), sums(10000)} {
				long := copyPart(p)
				long.Path = path
				refuses(t, r, long)
			}
			for n := range p.Path {
				short := copyPart(p)
				short.Path = p.Path[:n]
				refuses(t, r, short)
				short.Path = p.Path[n+1:]
				refuses(t, r, short)
			}
		}
	}
	refuses(t, api.Sum{}, api.Part{})
	refuses(t, root(nil), api.Part{})
}

// P7.3: what leads nowhere is refused by the root of noughts, too.
func TestLookThatLeadsNowhere(t *testing.T) {
	for _, count := range []int{1, 2, 5, 1 << 28} {
		nowhere := sha256.Sum256(rootText(uint64(count), api.Sum{}))
		for _, n := range []int{0, 1, 2, 27, 28, 29, 32} {
			refuses(t, nowhere, api.Part{Count: count, Chunk: chunks(nil)[0], Path: sums(n)})
			refuses(t, nowhere, api.Part{Count: count, Chunk: chunks(nil)[0], Path: make([]api.Sum, n)})
		}
	}
}

// P7.6: what is handed in stays, with the room behind its end.
func TestHandedInStays(t *testing.T) {
	for n := range 40 {
		room := many(n + 5)
		l := room[:n]
		for i := range room {
			room[i].Body = append(bytes.Clone(room[i].Body), "room"...)[:len(room[i].Body)]
		}
		k := &seal.Book{}
		runs.Chunks(l...)
		r := runs.Root(k, l...)
		for at := range chunks(l) {
			p, _ := runs.Show(k, at, l...)
			before := copyPart(p)
			runs.Look(k, r, p)
			runs.Put(nil, p)
			if !same(p, before) {
				t.Errorf("%d entries: a part has changed", n)
			}
		}
		for i, e := range room {
			if !sameEntry(e, many(n + 5)[i]) || string(e.Body[len(e.Body):len(e.Body)+4]) != "room" {
				t.Errorf("%d entries: entry %d is %v", n, i, e)
			}
		}
	}
}

// spoil writes over all of some entries, with the room behind their ends.
func spoil(l []api.Entry) {
	for i := range l {
		clear(l[i].Body[:cap(l[i].Body)])
	}
	clear(l[:cap(l)])
}

// P7.6: what is answered is new memory, of which no two pieces share any.
func TestAnswersAreNew(t *testing.T) {
	for n := range 40 {
		l := many(n)
		got, want := runs.Chunks(l...), chunks(l)
		for i, c := range got {
			spoil(c.List)
			if !slices.EqualFunc(got[i+1:], want[i+1:], sameChunk) {
				t.Fatalf("%d entries: chunk %d and one behind it share memory", n, i)
			}
		}
		clear(got[:cap(got)])
		for at := range want {
			p, _ := runs.Show(nil, at, l...)
			other, _ := runs.Show(nil, at, l...)
			spoil(p.List)
			if !slices.Equal(p.Path, other.Path) {
				t.Fatalf("%d entries: a part's entries and path share memory", n)
			}
			clear(p.Path[:cap(p.Path)])
			if !same(other, shown(l, at)) {
				t.Fatalf("%d entries: two parts share memory", n)
			}
		}
		if !sameEntries(l, many(n)) {
			t.Fatalf("%d entries: they share memory with an answer", n)
		}
	}
}

// P7.6: what a book has noted stays, whatever is done with what was handed in.
func TestBookKeepsNothingHandedIn(t *testing.T) {
	l, k := many(30), &seal.Book{}
	r := runs.Root(k, l...)
	p, _ := runs.Show(k, 2, l...)
	runs.Look(k, r, p)
	before := once(k.All())
	spoil(l)
	spoil(p.List)
	clear(p.Path)
	if !slices.Equal(before, once(k.All())) {
		t.Error("the book's notes have changed")
	}
}
