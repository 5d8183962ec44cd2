package runs

import (
	"bytes"
	"slices"

	"incipit/api"
	"incipit/seal"
)

// Runs is entries that are set and dropped. A zero one has none; neither has a nil one, into which nothing can be set.
type Runs struct{ blocks }

// New is one without entries.
func New() *Runs { return &Runs{} }

// Set lays a body at an Id, in the place of what stood there; ErrArg, if there is no such Id, ErrLong, if the body is too long.
func (r *Runs) Set(id uint32, body []byte) api.Errno {
	if r == nil || !isId(id) {
		return api.ErrArg
	}
	if len(body) > api.MaxBody {
		return api.ErrLong
	}
	number := id / api.Block
	at := r.find(number)
	if at == len(r.blocks) || r.blocks[at].number != number {
		r.blocks = slices.Insert(r.blocks, at, block{number: number})
	}
	r.blocks[at] = r.blocks[at].with(api.Entry{Id: id, Body: bytes.Clone(body)})
	return api.OK
}

// Drop takes away what stands at an Id; ErrNone, if nothing does.
func (r *Runs) Drop(id uint32) api.Errno {
	at, place, there := r.all().entry(id)
	if !there {
		return api.ErrNone
	}
	if len(r.blocks[at].list) == 1 {
		r.blocks = slices.Delete(r.blocks, at, at+1)
	} else {
		r.blocks[at] = r.blocks[at].without(place)
	}
	return api.OK
}

// Get is what stands at an Id; false, if nothing does.
func (r *Runs) Get(id uint32) ([]byte, bool) {
	all := r.all()
	at, place, there := all.entry(id)
	if !there {
		return nil, false
	}
	return bytes.Clone(all[at].list[place].Body), true
}

// List is the entries, rising.
func (r *Runs) List() []api.Entry {
	var l []api.Entry
	for _, b := range r.all() {
		l = ownEntries(l, b.list...)
	}
	return l
}

// Len is how many entries there are.
func (r *Runs) Len() int {
	n := 0
	for _, b := range r.all() {
		n += len(b.list)
	}
	return n
}

// Which is the number of the chunk that has an Id between its ends; below 0, if there is no such Id.
func (r *Runs) Which(id uint32) int {
	if !isId(id) {
		return -1
	}
	return r.all().which(id)
}

// Root is the one sum of the entries.
func (r *Runs) Root(k *seal.Book) api.Sum { return r.all().root(k) }

// Show is the part that shows one of the entries' chunks; ErrNone, if there is no such chunk.
func (r *Runs) Show(k *seal.Book, at int) (api.Part, api.Errno) { return r.all().show(k, at) }

// Copy is one with the same entries, of its own.
func (r *Runs) Copy() *Runs { return &Runs{blocks: slices.Clone(r.all())} }

// all is the blocks, which a nil one has none of.
func (r *Runs) all() blocks {
	if r == nil {
		return nil
	}
	return r.blocks
}

func isId(id uint32) bool { return 1 <= id && id <= api.MaxId }
