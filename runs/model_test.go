package runs_test

import (
	"bytes"
	"crypto/sha256"
	"slices"
	"testing"

	"incipit/api"
	"incipit/runs"
	"incipit/seal"
)

// What stands here is written out by the words of the chapters 2 to 4 and 7, with nothing of the program.

const maxId = 2147483647

func number(x uint64) []byte {
	var b []byte
	for ; x > 0; x /= 256 {
		b = append([]byte{byte(x % 256)}, b...)
	}
	return append([]byte{byte(len(b))}, b...)
}

func blob(b []byte) []byte { return slices.Concat(number(uint64(len(b))), b) }

func preimage(kind byte, parts ...[]byte) []byte {
	b := []byte{kind}
	for _, part := range parts {
		b = append(b, blob(part)...)
	}
	return b
}

// chunkText is a chunk's bytes.
func chunkText(c api.Chunk) []byte {
	b := slices.Concat(number(uint64(c.From)), number(uint64(c.To)), number(uint64(len(c.List))))
	for _, e := range c.List {
		b = append(append(b, number(uint64(e.Id))...), blob(e.Body)...)
	}
	return b
}

// text is a part's bytes.
func text(p api.Part) []byte {
	b := slices.Concat(number(uint64(p.Count)), number(uint64(p.At)), chunkText(p.Chunk), number(uint64(len(p.Path))))
	for _, s := range p.Path {
		b = append(b, s[:]...)
	}
	return b
}

func leafText(c api.Chunk) []byte { return preimage(3, chunkText(c)) }

func nodeText(l ...api.Sum) []byte {
	var parts [][]byte
	for _, s := range l {
		parts = append(parts, slices.Clone(s[:]))
	}
	return preimage(2, parts...)
}

func rootText(count uint64, s api.Sum) []byte { return preimage(5, number(count), s[:]) }

// chunks is the chunks of entries that may be.
func chunks(l []api.Entry) []api.Chunk {
	if len(l) == 0 {
		return []api.Chunk{{From: 1, To: maxId}}
	}
	by := map[uint32][]api.Entry{}
	var blocks []uint32
	for _, e := range l {
		block := e.Id / 8
		if by[block] == nil {
			blocks = append(blocks, block)
		}
		by[block] = append(by[block], e)
	}
	var out []api.Chunk
	from := uint32(1)
	for _, block := range blocks {
		out = append(out, api.Chunk{From: from, To: 8*block + 7, List: copyEntries(by[block])})
		from = 8*block + 7 + 1
	}
	out[len(out)-1].To = maxId
	return out
}

// maker hashes, and keeps what it has hashed.
type maker struct{ hashed [][]byte }

func (w *maker) of(b []byte) api.Sum {
	w.hashed = append(w.hashed, b)
	return sha256.Sum256(b)
}

// half is the greatest power of two below n, found by going up to it.
func half(n int) int {
	h := 1
	for h <= (n-1)/2 {
		h *= 2
	}
	return h
}

func (w *maker) tree(l []api.Sum) api.Sum {
	if len(l) == 1 {
		return l[0]
	}
	h := half(len(l))
	return w.of(nodeText(w.tree(l[:h]), w.tree(l[h:])))
}

func (w *maker) leaves(l []api.Entry) []api.Sum {
	var sums []api.Sum
	for _, c := range chunks(l) {
		sums = append(sums, w.of(leafText(c)))
	}
	return sums
}

func (w *maker) root(l []api.Entry) api.Sum {
	sums := w.leaves(l)
	return w.of(rootText(uint64(len(sums)), w.tree(sums)))
}

// path is the path of a leaf that there is.
func (w *maker) path(l []api.Sum, at int) []api.Sum {
	if len(l) == 1 {
		return nil
	}
	if h := half(len(l)); at < h {
		return append(w.path(l[:h], at), w.tree(l[h:]))
	} else {
		return append(w.path(l[h:], at-h), w.tree(l[:h]))
	}
}

// lead is where a leaf at a place that there is leads, with a path that is as long as the place is deep.
func (w *maker) lead(n, at int, leaf api.Sum, path []api.Sum) api.Sum {
	if n == 1 {
		return leaf
	}
	last := len(path) - 1
	if h := half(n); at < h {
		return w.of(nodeText(w.lead(h, at, leaf, path[:last]), path[last]))
	} else {
		return w.of(nodeText(path[last], w.lead(n-h, at-h, leaf, path[:last])))
	}
}

// look is where a part leads that has a place, with a path that is as long as the place is deep: the root that would be its own.
func (w *maker) look(p api.Part) api.Sum {
	return w.of(rootText(uint64(p.Count), w.lead(p.Count, p.At, w.of(leafText(p.Chunk)), p.Path)))
}

// depth is how many steps the way to a place that there is has.
func depth(n, at int) int {
	if n == 1 {
		return 0
	}
	if h := half(n); at < h {
		return 1 + depth(h, at)
	} else {
		return 1 + depth(n-h, at-h)
	}
}

func root(l []api.Entry) api.Sum { return (&maker{}).root(l) }

// shown is the part that shows a chunk that there is.
func shown(l []api.Entry, at int) api.Part {
	w, all := &maker{}, chunks(l)
	return api.Part{Count: len(all), At: at, Chunk: all[at], Path: w.path(w.leaves(l), at)}
}

// entries is an entry at each of some Ids, with unlike bodies.
func entries(ids ...uint32) []api.Entry {
	var l []api.Entry
	for _, id := range ids {
		l = append(l, api.Entry{Id: id, Body: bodyOf(id)})
	}
	return l
}

func bodyOf(id uint32) []byte { return bytes.Repeat(number(uint64(id)), 1+int(id%3)) }

// many is entries at n Ids, of which some blocks have all, some have few, and some have none.
func many(n int) []api.Entry {
	var ids []uint32
	for id := uint32(1); len(ids) < n; id++ {
		if id%13 != 3 && id%7 < 5 && id/8%5 != 2 {
			ids = append(ids, id)
		}
	}
	return entries(ids...)
}

// rows is entries that may be, of many kinds.
func rows() [][]api.Entry {
	out := [][]api.Entry{
		nil, {}, entries(1), entries(5), entries(7), entries(8), entries(15), entries(16), entries(maxId), entries(maxId - 7), entries(maxId - 8),
		entries(1, 7), entries(7, 8), entries(8, 15), entries(15, 16), entries(1, 7, 8, 30), entries(20, maxId), entries(1, maxId), entries(maxId-7, maxId), entries(maxId-8, maxId-7), entries(1, 1000, 1000000, 1000000000), entries(256, 65536, 16777216),
		entries(1, 2, 3, 4, 5, 6, 7), entries(8, 9, 10, 11, 12, 13, 14, 15), entries(maxId-7, maxId-6, maxId-5, maxId-4, maxId-3, maxId-2, maxId-1, maxId),
		{{Id: 3}}, {{Id: 3, Body: []byte{}}, {Id: 4, Body: []byte{0}}}, {{Id: 9, Body: bytes.Repeat([]byte("b"), 512)}},
	}
	for n := 2; n < 300; n += n/3 + 1 {
		out = append(out, many(n))
	}
	return out
}

func sums(n int) []api.Sum {
	var l []api.Sum
	for i := range n {
		l = append(l, sha256.Sum256([]byte{byte(i), byte(i >> 8), 'x'}))
	}
	return l
}

func sameEntry(a, b api.Entry) bool { return a.Id == b.Id && bytes.Equal(a.Body, b.Body) }

func sameEntries(a, b []api.Entry) bool { return slices.EqualFunc(a, b, sameEntry) }

func sameChunk(a, b api.Chunk) bool {
	return a.From == b.From && a.To == b.To && sameEntries(a.List, b.List)
}

func same(a, b api.Part) bool {
	return a.Count == b.Count && a.At == b.At && sameChunk(a.Chunk, b.Chunk) && slices.Equal(a.Path, b.Path)
}

// isZero tells whether a part is the zero one: a list without items is as good as nil.
func isZero(p api.Part) bool { return same(p, api.Part{}) }

func copyEntries(l []api.Entry) []api.Entry {
	var out []api.Entry
	for _, e := range l {
		out = append(out, api.Entry{Id: e.Id, Body: bytes.Clone(e.Body)})
	}
	return out
}

func copyPart(p api.Part) api.Part {
	p.List, p.Path = copyEntries(p.List), slices.Clone(p.Path)
	return p
}

// once is a list of bytes in order, each once.
func once(l [][]byte) []string {
	var out []string
	for _, b := range l {
		out = append(out, string(b))
	}
	slices.Sort(out)
	return slices.Compact(out)
}

// looks holds that a part is right for a root, by a book and by none.
func looks(t *testing.T, root api.Sum, p api.Part) {
	t.Helper()
	for _, k := range []*seal.Book{nil, {}} {
		if e := runs.Look(k, root, p); e != api.OK {
			t.Errorf("%d of %d, %d to %d, %d entries, a path of %d: %d, not OK", p.At, p.Count, p.From, p.To, len(p.List), len(p.Path), e)
		}
	}
}

// refuses holds that a part is not right for a root, by a book and by none.
func refuses(t *testing.T, root api.Sum, p api.Part) {
	t.Helper()
	for _, k := range []*seal.Book{nil, {}} {
		if e := runs.Look(k, root, p); e != api.ErrProof {
			t.Errorf("%d of %d, %d to %d, %d entries, a path of %d: %d, not ErrProof", p.At, p.Count, p.From, p.To, len(p.List), len(p.Path), e)
		}
	}
}
