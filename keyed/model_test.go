package keyed_test

import (
	"bytes"
	"crypto/sha256"
	"slices"
	"strings"
	"testing"

	"incipit/api"
	"incipit/keyed"
	"incipit/seal"
)

// What stands here is written out by the words of the chapters 2 to 4 and 6, with nothing of the program.

func number(x uint64) []byte {
	var b []byte
	for ; x > 0; x /= 256 {
		b = append([]byte{byte(x % 256)}, b...)
	}
	return append([]byte{byte(len(b))}, b...)
}

func blob(b []byte) []byte { return slices.Concat(number(uint64(len(b))), b) }

func preimage(kind byte, parts ...[]byte) []byte {
	b := []byte{kind}
	for _, part := range parts {
		b = append(b, blob(part)...)
	}
	return b
}

func pairText(p api.Pair) []byte { return preimage(4, p.Key, p.Value) }

func nodeText(l ...api.Sum) []byte {
	var parts [][]byte
	for _, s := range l {
		parts = append(parts, slices.Clone(s[:]))
	}
	return preimage(2, parts...)
}

func rootText(count uint64, s api.Sum) []byte { return preimage(5, number(count), s[:]) }

// maker hashes, and keeps what it has hashed.
type maker struct{ hashed [][]byte }

func (w *maker) of(b []byte) api.Sum {
	w.hashed = append(w.hashed, b)
	return sha256.Sum256(b)
}

// half is the greatest power of two below n, found by going up to it.
func half(n int) int {
	h := 1
	for h <= (n-1)/2 {
		h *= 2
	}
	return h
}

func (w *maker) tree(l []api.Sum) api.Sum {
	switch len(l) {
	case 0:
		return w.of(nodeText())
	case 1:
		return l[0]
	}
	h := half(len(l))
	return w.of(nodeText(w.tree(l[:h]), w.tree(l[h:])))
}

func (w *maker) leaves(l []api.Pair) []api.Sum {
	var sums []api.Sum
	for _, p := range l {
		sums = append(sums, w.of(pairText(p)))
	}
	return sums
}

func (w *maker) root(l []api.Pair) api.Sum {
	return w.of(rootText(uint64(len(l)), w.tree(w.leaves(l))))
}

// path is the path of a leaf that there is.
func (w *maker) path(l []api.Sum, at int) []api.Sum {
	if len(l) == 1 {
		return nil
	}
	if h := half(len(l)); at < h {
		return append(w.path(l[:h], at), w.tree(l[h:]))
	} else {
		return append(w.path(l[h:], at-h), w.tree(l[:h]))
	}
}

// lead is where a leaf at a place that there is leads, with a path that is as long as the place is deep.
func (w *maker) lead(n, at int, leaf api.Sum, path []api.Sum) api.Sum {
	if n == 1 {
		return leaf
	}
	last := len(path) - 1
	if h := half(n); at < h {
		return w.of(nodeText(w.lead(h, at, leaf, path[:last]), path[last]))
	} else {
		return w.of(nodeText(path[last], w.lead(n-h, at-h, leaf, path[:last])))
	}
}

// look is what is hashed where something that is honest is looked at.
func (w *maker) look(s api.Seen) {
	sum := sha256.Sum256(nodeText())
	for _, x := range s.Spots {
		sum = w.lead(s.Count, x.At, w.of(pairText(x.Pair)), x.Path)
	}
	if len(s.Spots) == 0 {
		w.of(nodeText())
	}
	w.of(rootText(uint64(s.Count), sum))
}

// depth is how many steps the way to a place that there is has.
func depth(n, at int) int {
	if n == 1 {
		return 0
	}
	if h := half(n); at < h {
		return 1 + depth(h, at)
	} else {
		return 1 + depth(n-h, at-h)
	}
}

func root(l []api.Pair) api.Sum { return (&maker{}).root(l) }

func spot(l []api.Pair, at int) api.Spot {
	w := &maker{}
	return api.Spot{At: at, Pair: copyPairs(l)[at], Path: w.path(w.leaves(l), at)}
}

// shown is what is shown of a key among pairs that may be.
func shown(l []api.Pair, key string) api.Seen {
	s := api.Seen{Count: len(l)}
	ahead, behind := -1, -1
	for at, p := range l {
		switch strings.Compare(string(p.Key), key) {
		case -1:
			ahead = at
		case 0:
			s.Spots = []api.Spot{spot(l, at)}
			return s
		case 1:
			if behind < 0 {
				behind = at
			}
		}
	}
	for _, at := range []int{ahead, behind} {
		if at >= 0 {
			s.Spots = append(s.Spots, spot(l, at))
		}
	}
	return s
}

// stands is what stands at a key.
func stands(l []api.Pair, key string) (string, bool) {
	for _, p := range l {
		if string(p.Key) == key {
			return string(p.Value), true
		}
	}
	return "", false
}

// text is the bytes of what is shown.
func text(s api.Seen) []byte {
	b := slices.Concat(number(uint64(s.Count)), number(uint64(len(s.Spots))))
	for _, x := range s.Spots {
		b = slices.Concat(b, number(uint64(x.At)), blob(x.Key), blob(x.Value), number(uint64(len(x.Path))))
		for _, sum := range x.Path {
			b = append(b, sum[:]...)
		}
	}
	return b
}

func pairs(l ...string) []api.Pair {
	var out []api.Pair
	for i := 0; i < len(l); i += 2 {
		out = append(out, api.Pair{Key: []byte(l[i]), Value: []byte(l[i+1])})
	}
	return out
}

// many is n pairs that may be.
func many(n int) []api.Pair {
	var l []api.Pair
	for i := range n {
		l = append(l, api.Pair{Key: []byte{byte(i / 64), byte(4*(i%64) + 2)}, Value: []byte(strings.Repeat("v", i%5) + string(rune('a'+i%26)))})
	}
	return l
}

// keys is all keys of pairs, and keys beside and between them.
func keys(l []api.Pair) []string {
	out := []string{"", "\x00", "\xff\xff\xff"}
	for _, p := range l {
		k := string(p.Key)
		out = append(out, k, k+"\x00", k+"\xff")
		if n := len(k); n > 0 {
			out = append(out, k[:n-1], k[:n-1]+string([]byte{k[n-1] - 1}), k[:n-1]+string([]byte{k[n-1] + 1}))
		}
	}
	return out
}

func sums(n int) []api.Sum {
	var l []api.Sum
	for i := range n {
		l = append(l, sha256.Sum256([]byte{byte(i), byte(i >> 8), 'x'}))
	}
	return l
}

func samePair(a, b api.Pair) bool {
	return bytes.Equal(a.Key, b.Key) && bytes.Equal(a.Value, b.Value)
}

func sameSpot(a, b api.Spot) bool {
	return a.At == b.At && samePair(a.Pair, b.Pair) && slices.Equal(a.Path, b.Path)
}

func same(a, b api.Seen) bool {
	return a.Count == b.Count && slices.EqualFunc(a.Spots, b.Spots, sameSpot)
}

func copyPairs(l []api.Pair) []api.Pair {
	var out []api.Pair
	for _, p := range l {
		out = append(out, api.Pair{Key: bytes.Clone(p.Key), Value: bytes.Clone(p.Value)})
	}
	return out
}

func copySpot(x api.Spot) api.Spot {
	return api.Spot{At: x.At, Pair: copyPairs([]api.Pair{x.Pair})[0], Path: slices.Clone(x.Path)}
}

func copySeen(s api.Seen) api.Seen {
	out := api.Seen{Count: s.Count}
	for _, x := range s.Spots {
		out.Spots = append(out.Spots, copySpot(x))
	}
	return out
}

// once is a list of bytes in order, each once.
func once(l [][]byte) []string {
	var out []string
	for _, b := range l {
		out = append(out, string(b))
	}
	slices.Sort(out)
	return slices.Compact(out)
}

// looks holds what Look answers, by a book and by none.
func looks(t *testing.T, root api.Sum, key string, s api.Seen, value string, there bool) {
	t.Helper()
	for _, k := range []*seal.Book{nil, {}} {
		if v, ok, e := keyed.Look(k, root, []byte(key), s); string(v) != value || ok != there || e != api.OK {
			t.Errorf("Look at %q: %q, %v, %d, not %q, %v", key, v, ok, e, value, there)
		}
	}
}

// refuses holds that Look answers ErrProof, and nothing beside it, by a book and by none.
func refuses(t *testing.T, root api.Sum, key string, s api.Seen) {
	t.Helper()
	for _, k := range []*seal.Book{nil, {}} {
		if v, ok, e := keyed.Look(k, root, []byte(key), s); len(v) > 0 || ok || e != api.ErrProof {
			t.Errorf("Look at %q by %d spots of %d: %q, %v, %d, not ErrProof", key, len(s.Spots), s.Count, v, ok, e)
		}
	}
}
