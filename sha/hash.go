package sha

import "incipit/api"

// lengthAt is where in the last block the message's length stands.
const lengthAt = blockSize - 8

// Hash takes bytes, and tells the sum of all that came. The zero Hash is one without bytes.
type Hash struct {
	eightWords
	block block // its first count % blockSize bytes wait for the rest of their block
	count uint64
}

// New is a hash without bytes.
func New() *Hash { return &Hash{} }

// Write adds the parts' bytes, one part behind the other; a nil hash takes none.
func (h *Hash) Write(parts ...[]byte) {
	if h == nil {
		return
	}
	h.begin()
	for _, part := range parts {
		h.add(part)
	}
}

// Sum is the sum of all that came by now.
func (h *Hash) Sum() api.Sum {
	if h == nil {
		return New().Sum()
	}
	// The padding goes to a copy, since more bytes may come to h.
	last := *h
	last.begin()
	last.pad()
	return last.bytes()
}

// Len is how many bytes came.
func (h *Hash) Len() uint64 {
	if h == nil {
		return 0
	}
	return h.count
}

// Copy is another hash, as this one is now; nil, if this one is nil.
func (h *Hash) Copy() *Hash {
	if h == nil {
		return nil
	}
	other := *h
	return &other
}

// begin sets the first eight words as late as this, so that a Hash which New did not make has them too.
func (h *Hash) begin() {
	if h.count == 0 {
		h.eightWords = firstWords()
	}
}

func (h *Hash) add(part []byte) {
	for len(part) > 0 {
		n := copy(h.block[h.waiting():], part)
		part = part[n:]
		h.count += uint64(n)
		if h.waiting() == 0 {
			h.take(h.block)
		}
	}
}

// waiting is how many bytes stand in the block that is not yet full.
func (h *Hash) waiting() int { return int(h.count % blockSize) }

// pad ends the message: with a block more, where its length does not fit behind the bytes that wait.
func (h *Hash) pad() {
	at := h.waiting()
	h.block[at] = 128
	clear(h.block[at+1:])
	if at >= lengthAt {
		h.take(h.block)
		h.block = block{}
	}
	length := 8 * h.count
	for i := range 8 {
		h.block[lengthAt+i] = byte(length >> (56 - 8*i))
	}
	h.take(h.block)
}
