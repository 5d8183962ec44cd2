package seal

import (
	"slices"

	"incipit/api"
	"incipit/sha"
)

// Book notes what was hashed. A zero one is empty; a nil one notes nothing, and has nothing.
type Book struct {
	*notes // a pointer, lest a copy of a Book share a part of its notes
}

// Of is the sum of the preimage of a kind and parts. The book notes both, and has hashed once more.
func (k *Book) Of(kind int, parts ...[]byte) api.Sum {
	b := Preimage(kind, parts...)
	s := sha.Sum(b)
	if k != nil {
		k.Note(s, b)
		k.calls++
	}
	return s
}

// Note notes a sum and bytes, whether that is their sum or not.
func (k *Book) Note(s api.Sum, b []byte) {
	if k == nil {
		return
	}
	if k.notes == nil {
		k.notes = &notes{}
	}
	k.add(note{sum: s, text: string(b)})
}

// Calls is how often the book has hashed.
func (k *Book) Calls() int {
	if k.empty() {
		return 0
	}
	return k.calls
}

// Find is the bytes that were noted first for a sum; false, if there are none.
func (k *Book) Find(s api.Sum) ([]byte, bool) {
	if k.empty() {
		return nil, false
	}
	n, there := k.find(s)
	if !there {
		return nil, false
	}
	return []byte(n.text), true
}

// All is all bytes that were noted, in the order of the notes.
func (k *Book) All() [][]byte {
	if k.empty() {
		return nil
	}
	all := make([][]byte, 0, len(k.list))
	for _, n := range k.list {
		all = append(all, []byte(n.text))
	}
	return all
}

func (k *Book) empty() bool { return k == nil || k.notes == nil }

// notes is what a book has: each note once, in the order in which they came first, and how often it has hashed.
type notes struct {
	list  []note
	first map[api.Sum]int // where in the list a sum stands first
	calls int
}

// note is a sum, and bytes that were noted for it: a text, since nobody can change that.
type note struct {
	sum  api.Sum
	text string
}

// find is the first note of a sum; false, if there is none.
func (n *notes) find(s api.Sum) (note, bool) {
	at, there := n.first[s]
	if !there {
		return note{}, false
	}
	return n.list[at], true
}

// add puts a note behind the others, unless it is there.
func (n *notes) add(fresh note) {
	at, there := n.first[fresh.sum]
	if there && slices.Contains(n.list[at:], fresh) {
		return
	}
	if n.first == nil {
		n.first = map[api.Sum]int{}
	}
	if !there {
		n.first[fresh.sum] = len(n.list)
	}
	n.list = append(n.list, fresh)
}
