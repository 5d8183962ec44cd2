package runs

import (
	"bytes"
	"cmp"
	"slices"
	"sort"

	"incipit/api"
	"incipit/seal"
	"incipit/tree"
)

// blocks is the blocks in which entries stand, rising.
type blocks []block

// block is the entries of one block, and the leaf that was made of them.
type block struct {
	number uint32
	// Never changed in place, since the blocks of a copy have the same list.
	list []api.Entry
	made span // of which span the leaf was made; the zero one, if it was not made
	leaf api.Sum
}

// span is from where to where a chunk stands: it hangs on the blocks beside it, too.
type span struct{ from, to uint32 }

// blocksOf is the blocks of entries that may be. The entries are not copied.
func blocksOf(l ...api.Entry) blocks {
	var all blocks
	for len(l) > 0 {
		number, n := l[0].Id/api.Block, 1
		for n < len(l) && l[n].Id/api.Block == number {
			n++
		}
		all = append(all, block{number: number, list: l[:n:n]})
		l = l[n:]
	}
	return all
}

// count is how many chunks there are: without a block there is one, which is empty.
func (l blocks) count() int { return max(len(l), 1) }

// find is the place of the first block that has that number, or a greater one.
func (l blocks) find(number uint32) int {
	return sort.Search(len(l), func(at int) bool { return l[at].number >= number })
}

// entry is the places of the block of an Id, and of the Id's entry in it; false, if nothing stands there.
func (l blocks) entry(id uint32) (at, place int, there bool) {
	at = l.find(id / api.Block)
	if at == len(l) {
		return 0, 0, false
	}
	place, there = l[at].place(id)
	return at, place, there
}

// which is the number of the chunk that has an Id between its ends.
func (l blocks) which(id uint32) int { return min(l.find(id/api.Block), l.count()-1) }

// span is from where to where the chunk at a place stands.
func (l blocks) span(at int) span {
	s := span{from: 1, to: api.MaxId}
	if at > 0 {
		s.from = l[at-1].last() + 1
	}
	if at < len(l)-1 {
		s.to = l[at].last()
	}
	return s
}

// chunk is the chunk at a place, with the entries as they are kept.
func (l blocks) chunk(at int) api.Chunk {
	s := l.span(at)
	c := api.Chunk{From: s.from, To: s.to}
	if at < len(l) {
		c.List = l[at].list
	}
	return c
}

func (l blocks) root(k *seal.Book) api.Sum {
	return rootOf(k, l.count(), tree.Root(k, l.leaves(k)))
}

func (l blocks) show(k *seal.Book, at int) (api.Part, api.Errno) {
	if at < 0 || at >= l.count() {
		return api.Part{}, api.ErrNone
	}
	path := tree.Path(k, l.leaves(k), at)
	return api.Part{Count: l.count(), At: at, Chunk: own(l.chunk(at)), Path: path}, api.OK
}

func (l blocks) leaves(k *seal.Book) []api.Sum {
	sums := make([]api.Sum, 0, l.count())
	for at := range l.count() {
		sums = append(sums, l.leaf(k, at))
	}
	return sums
}

// leaf is the leaf of the chunk at a place: the one that is kept, if it was made of that span. For a book it is made anew, since the book notes what it is made of.
func (l blocks) leaf(k *seal.Book, at int) api.Sum {
	if len(l) == 0 {
		return leafOf(k, l.chunk(at))
	}
	b, s := &l[at], l.span(at)
	if k != nil || b.made != s {
		b.leaf, b.made = leafOf(k, l.chunk(at)), s
	}
	return b.leaf
}

// last is the last Id of a block.
func (b block) last() uint32 { return b.number*api.Block + api.Block - 1 }

// place is where among the block's entries an Id stands, or would, and whether it does.
func (b block) place(id uint32) (int, bool) {
	return slices.BinarySearchFunc(b.list, id, func(e api.Entry, id uint32) int { return cmp.Compare(e.Id, id) })
}

// with is a block in which an entry stands, too, in the place of one that stood there.
func (b block) with(e api.Entry) block {
	at, there := b.place(e.Id)
	behind := b.list[at:]
	if there {
		behind = b.list[at+1:]
	}
	return block{number: b.number, list: slices.Concat(b.list[:at], []api.Entry{e}, behind)}
}

// without is a block in which the entry at a place does not stand any more.
func (b block) without(at int) block {
	return block{number: b.number, list: slices.Concat(b.list[:at], b.list[at+1:])}
}

// own is a chunk in memory of its own.
func own(c api.Chunk) api.Chunk {
	c.List = ownEntries(nil, c.List...)
	return c
}

// ownEntries is a list, and behind it entries in memory of their own.
func ownEntries(out []api.Entry, l ...api.Entry) []api.Entry {
	out = slices.Grow(out, len(l))
	for _, e := range l {
		out = append(out, api.Entry{Id: e.Id, Body: bytes.Clone(e.Body)})
	}
	return out
}
