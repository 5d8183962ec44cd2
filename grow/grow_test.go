package grow_test

import (
	"crypto/sha256"
	"math"
	"math/rand"
	"slices"
	"testing"

	"incipit/api"
	"incipit/grow"
	"incipit/seal"
	"incipit/tree"
)

// preimage writes the preimage of a node out by the words of the chapters 2 to 4.
func preimage(l ...api.Sum) []byte {
	b := []byte{2}
	for _, s := range l {
		b = append(b, 1, 32)
		b = append(b, s[:]...)
	}
	return b
}

func node(l ...api.Sum) api.Sum { return sha256.Sum256(preimage(l...)) }

// half is the greatest power of two below n, found by going up to it.
func half(n int) int {
	h := 1
	for h <= (n-1)/2 {
		h *= 2
	}
	return h
}

// root is the root of a list by the words of chapter 4.
func root(l []api.Sum) api.Sum {
	switch len(l) {
	case 0:
		return node()
	case 1:
		return l[0]
	}
	h := half(len(l))
	return node(root(l[:h]), root(l[h:]))
}

// path is RFC 6962's SUBPROOF of an edge that there is: whole tells whether nothing was left aside to the left.
func path(l []api.Sum, m int, whole bool) []api.Sum {
	if m == len(l) && whole {
		return nil
	}
	if m == len(l) {
		return []api.Sum{root(l)}
	}
	if h := half(len(l)); m <= h {
		return append(path(l[:h], m, whole), root(l[h:]))
	} else {
		return append(path(l[h:], m-h, false), root(l[:h]))
	}
}

// steps is how many sums such a path has.
func steps(m, n int, whole bool) int {
	if m == n && whole {
		return 0
	}
	if m == n {
		return 1
	}
	if h := half(n); m <= h {
		return 1 + steps(m, h, whole)
	} else {
		return 1 + steps(m-h, n-h, false)
	}
}

// teller tells of an edge what a path tells of it, and keeps what is hashed for it, in order.
type teller struct {
	hashed [][]byte
}

func (w *teller) node(a, b api.Sum) api.Sum {
	w.hashed = append(w.hashed, preimage(a, b))
	return node(a, b)
}

// tell goes down to what is left, and up again, with the path's last sum for the first step.
func (w *teller) tell(m, n int, old api.Sum, path []api.Sum, whole bool) (told, fresh api.Sum) {
	if m == n && whole {
		return old, old
	}
	if m == n {
		return path[0], path[0]
	}
	last := len(path) - 1
	if h := half(n); m <= h {
		told, fresh = w.tell(m, h, old, path[:last], whole)
		return told, w.node(fresh, path[last])
	} else {
		told, fresh = w.tell(m-h, n-h, old, path[:last], false)
		told = w.node(path[last], told)
		return told, w.node(path[last], fresh)
	}
}

// once is a list of bytes without those that stand ahead already.
func once(l [][]byte) []string {
	var out []string
	for _, b := range l {
		if !slices.Contains(out, string(b)) {
			out = append(out, string(b))
		}
	}
	return out
}

// leaves is n unlike leaves.
func leaves(n int) []api.Sum {
	var l []api.Sum
	for i := range n {
		l = append(l, sha256.Sum256([]byte{byte(i), byte(i >> 8), byte(i >> 16), 'x'}))
	}
	return l
}

// numbers is numbers of leaves at and beside each power of two, and the least and the greatest one.
func numbers() []int {
	l := []int{math.MinInt, math.MinInt + 1, -3, -2, -1, 0, 5, 6, 7, 11, 13, 100, 1000, 1<<40 + 1<<20 + 5, math.MaxInt - 2, math.MaxInt - 1, math.MaxInt}
	for i := range 63 {
		l = append(l, 1<<i-1, 1<<i, 1<<i+1)
	}
	return l
}

// edges is edges among n leaves: at their ends, at their halves, and between.
func edges(n int) []int {
	if n < 1 {
		return nil
	}
	h := half(n)
	l := []int{1, 2, 3, n / 3, n / 2, h - 1, h, h + 1, h + (n-h)/2, n - 2, n - 1, n}
	for i := 2; i < 63; i += 6 {
		l = append(l, 1<<i, n-1<<i)
	}
	l = slices.DeleteFunc(l, func(m int) bool { return m < 1 || m > n })
	slices.Sort(l)
	return slices.Compact(l)
}

// noEdges is what is no beginning of n leaves, not even one of none.
func noEdges(n int) []int {
	l := []int{math.MinInt, math.MinInt + 1, -2, -1, 0, 1, math.MaxInt - 1, math.MaxInt}
	if n < math.MaxInt {
		l = append(l, n+1)
	}
	return slices.DeleteFunc(l, func(m int) bool { return 0 <= m && m <= n })
}

// extends holds that Extends answers OK, by a book and by none.
func extends(t *testing.T, m, n int, old, fresh api.Sum, path []api.Sum) {
	t.Helper()
	for _, k := range []*seal.Book{nil, {}} {
		if e := grow.Extends(k, m, n, old, fresh, path); e != api.OK {
			t.Errorf("Extends(%d, %d) of %d sums: %d, not OK", m, n, len(path), e)
		}
	}
}

// refuses holds that Extends answers ErrProof, by a book and by none.
func refuses(t *testing.T, m, n int, old, fresh api.Sum, path []api.Sum) {
	t.Helper()
	for _, k := range []*seal.Book{nil, {}} {
		if e := grow.Extends(k, m, n, old, fresh, path); e != api.ErrProof {
			t.Errorf("Extends(%d, %d) of %d sums: %d, not ErrProof", m, n, len(path), e)
		}
	}
}

// refusesUnhashed holds that Extends answers ErrProof, and hashes nothing.
func refusesUnhashed(t *testing.T, m, n int, old, fresh api.Sum, path []api.Sum) {
	t.Helper()
	refuses(t, m, n, old, fresh, path)
	k := &seal.Book{}
	grow.Extends(k, m, n, old, fresh, path)
	if k.Calls() != 0 || len(k.All()) != 0 {
		t.Errorf("Extends(%d, %d) of %d sums: hashed %d times", m, n, len(path), k.Calls())
	}
}

// P5.1, P5.2: the chapter's rows.
func TestExamples(t *testing.T) {
	for m, want := range map[int]int{3: 4, 4: 1, 5: 0, 0: 0} {
		if s := grow.Steps(m, 5); s != want {
			t.Errorf("Steps(%d, 5): %d", m, s)
		}
	}
	l := leaves(5)
	a, b, c, d, e := l[0], l[1], l[2], l[3], l[4]
	if p := grow.Between(nil, l, 4); !slices.Equal(p, []api.Sum{e}) {
		t.Errorf("Between of a b c d e, 4: %x", p)
	}
	if p := grow.Between(nil, l, 3); !slices.Equal(p, []api.Sum{c, d, node(a, b), e}) {
		t.Errorf("Between of a b c d e, 3: %x", p)
	}
	extends(t, 4, 5, root(l[:4]), root(l), []api.Sum{e})
	extends(t, 0, 5, root(nil), api.Sum{7}, nil)
	refusesUnhashed(t, 6, 5, root(l), root(l), nil)
}

// P5.1: steps of all edges among few leaves, and of some among many.
func TestSteps(t *testing.T) {
	holds := func(m, n int) {
		if s := grow.Steps(m, n); s != steps(m, n, true) {
			t.Errorf("Steps(%d, %d): %d, not %d", m, n, s, steps(m, n, true))
		}
	}
	for n := 1; n < 200; n++ {
		for m := 1; m <= n; m++ {
			holds(m, n)
		}
	}
	for _, n := range numbers() {
		for _, m := range edges(n) {
			holds(m, n)
		}
	}
	for m, want := range map[int]int{1: 63, 2: 62, 3: 64, 1<<62 - 1: 64, 1 << 62: 1, 1<<62 + 1: 64, math.MaxInt - 2: 64, math.MaxInt - 1: 63, math.MaxInt: 0} {
		if s := grow.Steps(m, math.MaxInt); s != want {
			t.Errorf("Steps(%d, MaxInt): %d, not %d", m, s, want)
		}
	}
}

// P5.1: there is no such edge; behind no leaves there is none either.
func TestStepsOfNoEdge(t *testing.T) {
	for _, n := range numbers() {
		for _, m := range append(noEdges(n), 0) {
			if s := grow.Steps(m, n); s != 0 {
				t.Errorf("Steps(%d, %d): %d", m, n, s)
			}
		}
	}
}

// P5.1: paths of all edges, by a book and by none; what is hashed for them are nodes of the list's tree, and all that is shown is hashed by the book.
func TestBetween(t *testing.T) {
	for n := 1; n < 70; n++ {
		l := leaves(n)
		whole := &seal.Book{}
		tree.Root(whole, l)
		for m := 1; m <= n; m++ {
			k := &seal.Book{}
			want := path(l, m, true)
			if p := grow.Between(k, l, m); !slices.Equal(p, want) || !slices.Equal(grow.Between(nil, l, m), want) {
				t.Errorf("%d of %d: %x, not %x", m, n, p, want)
			}
			if len(want) != grow.Steps(m, n) {
				t.Errorf("%d of %d: %d sums, Steps %d", m, n, len(want), grow.Steps(m, n))
			}
			for _, b := range k.All() {
				if _, there := whole.Find(sha256.Sum256(b)); !there {
					t.Errorf("%d of %d: %x is hashed, and is no node", m, n, b)
				}
			}
			for _, s := range want {
				if _, there := k.Find(s); !there && !slices.Contains(l, s) {
					t.Errorf("%d of %d: %x is not hashed by the book", m, n, s)
				}
			}
			if k.Calls() != len(k.All()) || k.Calls() > n-1 {
				t.Errorf("%d of %d: hashed %d times, %d notes", m, n, k.Calls(), len(k.All()))
			}
		}
	}
}

// P5.1: leaves that are alike are leaves each.
func TestBetweenAlikeLeaves(t *testing.T) {
	for n := 1; n < 30; n++ {
		l := make([]api.Sum, n)
		for m := 1; m <= n; m++ {
			if p := grow.Between(nil, l, m); !slices.Equal(p, path(l, m, true)) {
				t.Errorf("%d of %d noughts: %x", m, n, p)
			}
			extends(t, m, n, root(l[:m]), root(l), grow.Between(nil, l, m))
		}
	}
}

// P5.1: there is no such edge, or it stands at the end: nothing is shown, nor hashed.
func TestBetweenOfNoEdge(t *testing.T) {
	for n := range 20 {
		for _, m := range append(noEdges(n), 0, n) {
			k := &seal.Book{}
			if p := grow.Between(k, leaves(n), m); len(p) != 0 || k.Calls() != 0 {
				t.Errorf("%d of %d: %x, hashed %d times", m, n, p, k.Calls())
			}
		}
	}
	for _, l := range [][]api.Sum{nil, {}, leaves(3)[:0]} {
		if p := grow.Between(nil, l, 0); len(p) != 0 {
			t.Errorf("of no leaves: %x", p)
		}
	}
}

// P5.2: any path of the right length tells an old root and a fresh one, of however many leaves, and these two alone are taken.
func TestExtends(t *testing.T) {
	r := rand.New(rand.NewSource(5))
	for _, n := range numbers() {
		for _, m := range edges(n) {
			var old api.Sum
			r.Read(old[:])
			p := make([]api.Sum, steps(m, n, true))
			for i := range p {
				r.Read(p[i][:])
			}
			w := &teller{}
			told, fresh := w.tell(m, n, old, p, true)
			k := &seal.Book{}
			if e := grow.Extends(k, m, n, told, fresh, p); e != api.OK {
				t.Errorf("Extends(%d, %d): %d, not OK", m, n, e)
			}
			if k.Calls() != len(w.hashed) || !slices.Equal(once(k.All()), once(w.hashed)) {
				t.Errorf("Extends(%d, %d): hashed %d times, not %d, or other bytes, or in another order", m, n, k.Calls(), len(w.hashed))
			}
			changed := fresh
			changed[31] ^= 1
			refuses(t, m, n, told, changed, p)
			changed = told
			changed[0] ^= 128
			refuses(t, m, n, changed, fresh, p)
			if told != fresh {
				refuses(t, m, n, fresh, told, p)
				refuses(t, m, n, told, told, p)
				refuses(t, m, n, fresh, fresh, p)
			}
		}
	}
}

// P5.2: where the path begins with what is left, the old root that comes in is held against what is told, and is not a part of it.
func TestOldIsHeldAgainstThePath(t *testing.T) {
	l := leaves(4)
	p := grow.Between(nil, l, 3) // c, d, node(a, b)
	fresh := root(l)
	extends(t, 3, 4, node(node(l[0], l[1]), l[2]), fresh, p)
	refuses(t, 3, 4, l[2], fresh, p)
	refuses(t, 3, 4, node(l[2], node(l[0], l[1])), fresh, p)
	refuses(t, 3, 4, node(node(l[0], l[1]), l[3]), fresh, p)
	refuses(t, 3, 4, fresh, fresh, p)
}

// P5.2: behind all leaves stands an edge without a path: old and fresh are one, and nothing is hashed.
func TestExtendsItself(t *testing.T) {
	for _, n := range []int{1, 2, 3, 8, 1000, math.MaxInt} {
		for _, s := range []api.Sum{{}, {1}, {31: 1}, root(nil)} {
			k := &seal.Book{}
			if e := grow.Extends(k, n, n, s, s, nil); e != api.OK || k.Calls() != 0 {
				t.Errorf("Extends(%d, %d): %d, hashed %d times", n, n, e, k.Calls())
			}
			extends(t, n, n, s, s, []api.Sum{})
			refusesUnhashed(t, n, n, s, api.Sum{7}, nil)
			refusesUnhashed(t, n, n, api.Sum{7}, s, nil)
			refusesUnhashed(t, n, n, s, s, []api.Sum{s})
		}
	}
}

// P5.2: no leaves are the beginning of whatever there is; but old must be their root, and so must be fresh, if there are none behind them.
func TestExtendsNone(t *testing.T) {
	none := root(nil)
	for _, n := range []int{1, 2, 3, 7, 8, 1000, math.MaxInt} {
		for _, fresh := range []api.Sum{{}, {1}, none, leaves(1)[0]} {
			extends(t, 0, n, none, fresh, nil)
			extends(t, 0, n, none, fresh, []api.Sum{})
			refuses(t, 0, n, api.Sum{}, fresh, nil)
			refuses(t, 0, n, leaves(1)[0], fresh, nil)
			refusesUnhashed(t, 0, n, none, fresh, []api.Sum{fresh})
		}
		k := &seal.Book{}
		if grow.Extends(k, 0, n, none, api.Sum{1}, nil) != api.OK || k.Calls() != 1 {
			t.Errorf("Extends(0, %d): hashed %d times", n, k.Calls())
		}
		if b, there := k.Find(none); !there || string(b) != "\x02" {
			t.Errorf("Extends(0, %d): the root of no leaves is noted as %x", n, b)
		}
	}
	extends(t, 0, 0, none, none, nil)
	refuses(t, 0, 0, none, api.Sum{}, nil)
	refuses(t, 0, 0, api.Sum{}, none, nil)
	refuses(t, 0, 0, api.Sum{}, api.Sum{}, nil)
	refuses(t, 0, 0, api.Sum{1}, api.Sum{1}, nil)
	refusesUnhashed(t, 0, 0, none, none, []api.Sum{none})
}

// P5.2: m is below 0, or above n, with no path, or with one as long as that of some edge.
func TestExtendsRefusesNoEdge(t *testing.T) {
	none := root(nil)
	for _, n := range numbers() {
		for _, m := range noEdges(n) {
			for _, size := range []int{0, 1, 2, 3, 63, 64} {
				refusesUnhashed(t, m, n, none, none, leaves(size))
			}
		}
	}
	for n := 1; n < 20; n++ {
		l := leaves(n)
		for m := 1; m <= n; m++ {
			p := grow.Between(nil, l, m)
			refusesUnhashed(t, -m, n, root(l[:m]), root(l), p)
			if m < n {
				refusesUnhashed(t, n, m, root(l), root(l[:m]), p)
			}
		}
	}
}

// P5.2: a path that is shorter or longer than the edge's.
func TestExtendsRefusesLengths(t *testing.T) {
	for n := 1; n < 34; n++ {
		l := leaves(n)
		for m := range n + 1 {
			p := grow.Between(nil, l, m)
			for size := range len(p) + 3 {
				if size != len(p) {
					refusesUnhashed(t, m, n, root(l[:m]), root(l), slices.Concat(p, leaves(3))[:size])
				}
			}
			if len(p) > 0 {
				refusesUnhashed(t, m, n, root(l[:m]), root(l), p[1:])
			}
		}
	}
	refusesUnhashed(t, 1, math.MaxInt, api.Sum{}, api.Sum{}, leaves(62))
	refusesUnhashed(t, 1, math.MaxInt, api.Sum{}, api.Sum{}, leaves(64))
	refusesUnhashed(t, 1, 2, api.Sum{}, api.Sum{}, leaves(10000))
	refusesUnhashed(t, 3, 5, api.Sum{}, api.Sum{}, leaves(3))
}

// P5.1, P5.2: what is left are as many of the last leaves ahead of the edge as the lowest binary digit of their number says; the path begins with their root, unless they are the whole beginning, whose root is not shown beside itself.
func TestFirstSumOfThePath(t *testing.T) {
	for n := 2; n < 40; n++ {
		l := leaves(n)
		for m := 1; m < n; m++ {
			old, p := root(l[:m]), grow.Between(nil, l, m)
			left := m & -m
			if len(p) == 0 || (p[0] == root(l[m-left:m])) != (left < m) || slices.Contains(p, old) {
				t.Errorf("%d of %d: %x", m, n, p)
				continue
			}
			refusesUnhashed(t, m, n, old, root(l), append([]api.Sum{old}, p...))
			refusesUnhashed(t, m, n, old, root(l), p[1:])
			refuses(t, m, n, old, root(l), append([]api.Sum{old}, p[1:]...))
		}
	}
}

// P5.3: what is handed in stays, with the room behind its end.
func TestHandedInStays(t *testing.T) {
	for n := range 24 {
		room := leaves(n + 9)
		l := room[:n]
		for m := -1; m <= n+1; m++ {
			grow.Between(nil, l, m)
			grow.Between(&seal.Book{}, l, m)
			if !slices.Equal(room, leaves(n+9)) {
				t.Errorf("%d of %d: the leaves are changed", m, n)
			}
			behind := leaves(20)
			for _, p := range [][]api.Sum{behind, behind[:grow.Steps(m, n)]} {
				grow.Extends(nil, m, n, api.Sum{1}, api.Sum{2}, p)
				grow.Extends(&seal.Book{}, m, n, api.Sum{1}, api.Sum{2}, p)
			}
			if !slices.Equal(behind, leaves(20)) {
				t.Errorf("%d of %d: the path is changed", m, n)
			}
		}
	}
}

// P5.3: what is answered is the caller's: neither the leaves, nor the book, nor another answer has a part in it.
func TestAnswersAreNew(t *testing.T) {
	for n := 1; n < 24; n++ {
		l, k := leaves(n), &seal.Book{}
		for m := 1; m <= n; m++ {
			want := path(l, m, true)
			p, other := grow.Between(k, l, m), grow.Between(k, l, m)
			clear(p[:cap(p)])
			if !slices.Equal(l, leaves(n)) || !slices.Equal(other, want) || !slices.Equal(grow.Between(k, l, m), want) {
				t.Errorf("%d of %d: the path shares memory", m, n)
			}
			p = grow.Between(k, l, m)
			clear(l)
			if l = leaves(n); !slices.Equal(p, want) {
				t.Errorf("%d of %d: the path has kept the leaves", m, n)
			}
		}
		if _, _, found := seal.Clash(k); found {
			t.Errorf("%d leaves: a clash", n)
		}
	}
}

// P5.4: the root of a list's first m leaves, and its root, by the path between.
func TestGrown(t *testing.T) {
	for n := range 90 {
		l := leaves(n)
		for m := range n + 1 {
			extends(t, m, n, root(l[:m]), root(l), grow.Between(nil, l, m))
		}
	}
	for _, n := range []int{1 << 12, 5003} {
		l := leaves(n)
		fresh := root(l)
		for _, m := range append(edges(n), 0) {
			extends(t, m, n, root(l[:m]), fresh, grow.Between(nil, l, m))
		}
	}
}

// bound holds that whatever is told to be the root of a list's beginning is that; or that what was hashed for the list, for its beginning and for the path clashes.
func bound(t *testing.T, l []api.Sum, m int, old api.Sum, p []api.Sum) {
	t.Helper()
	whole, first, k := &seal.Book{}, &seal.Book{}, &seal.Book{}
	fresh, right := tree.Root(whole, l), tree.Root(first, l[:m])
	if grow.Extends(k, m, len(l), old, fresh, p) != api.OK || old == right {
		return
	}
	if _, _, found := seal.Clash(whole, first, k); !found {
		t.Errorf("%d of %d: %x is told to be old by %x", m, len(l), old, p)
	}
}

// others is lists of sums that are unlike a list, and as long: one bit changed, two sums exchanged, all turned, all moved, noughts.
func others(right []api.Sum) [][]api.Sum {
	var l [][]api.Sum
	for i := range right {
		for _, bit := range []int{0, 7, 100, 255} {
			other := slices.Clone(right)
			other[i][bit/8] ^= 1 << (bit % 8)
			l = append(l, other)
		}
		for j := range i {
			other := slices.Clone(right)
			other[i], other[j] = other[j], other[i]
			l = append(l, other)
		}
	}
	turned := slices.Clone(right)
	slices.Reverse(turned)
	l = append(l, turned, make([]api.Sum, len(right)))
	if len(right) > 0 {
		l = append(l, append(slices.Clone(right[1:]), right[0]))
	}
	return slices.DeleteFunc(l, func(other []api.Sum) bool { return slices.Equal(other, right) })
}

// P5.5: another old root is not told, neither by the list's own path, nor by another one that tells it of a fresh root of its own.
func TestBound(t *testing.T) {
	for n := 1; n < 20; n++ {
		l := leaves(n)
		for m := range n + 1 {
			right, p := root(l[:m]), grow.Between(nil, l, m)
			for _, other := range append(l, api.Sum{}, root(nil), root(l)) {
				bound(t, l, m, other, p)
			}
			for i := range n + 1 {
				bound(t, l, m, root(l[:i]), p)
			}
			for _, forged := range others(p) {
				bound(t, l, m, right, forged)
				if m > 0 {
					told, _ := (&teller{}).tell(m, n, right, forged, true)
					bound(t, l, m, told, forged)
				}
			}
		}
	}
}

// P5.5: a list that grew out of another beginning is refused, though all of its path is its own.
func TestAnotherBeginning(t *testing.T) {
	for n := 1; n < 20; n++ {
		l := leaves(n)
		for m := 1; m <= n; m++ {
			old := root(l[:m])
			for i := range m {
				other := slices.Clone(l)
				other[i][5] ^= 1
				refuses(t, m, n, old, root(other), grow.Between(nil, other, m))
				refuses(t, m, n, old, root(other), grow.Between(nil, l, m))
				refuses(t, m, n, root(other[:m]), root(l), grow.Between(nil, l, m))
			}
		}
	}
}

// P5.5: an old root is that of as many leaves as is said, and of no other number.
func TestAnotherNumber(t *testing.T) {
	for n := 1; n < 20; n++ {
		l := leaves(n)
		for m := range n + 1 {
			for other := range n + 1 {
				if other != m {
					refuses(t, other, n, root(l[:m]), root(l), grow.Between(nil, l, other))
					refuses(t, other, n, root(l[:m]), root(l), grow.Between(nil, l, m))
				}
			}
		}
	}
}

// P5.5: what an honest path hashes are nodes of the list and of its beginning, so that nothing clashes where nobody lies.
func TestHonestBooksAgree(t *testing.T) {
	for n := range 40 {
		l := leaves(n)
		for m := range n + 1 {
			lists, k := &seal.Book{}, &seal.Book{}
			fresh, old := tree.Root(lists, l), tree.Root(lists, l[:m])
			if e := grow.Extends(k, m, n, old, fresh, grow.Between(k, l, m)); e != api.OK {
				t.Errorf("%d of %d: %d", m, n, e)
			}
			for _, b := range k.All() {
				if noted, there := lists.Find(sha256.Sum256(b)); !there || string(noted) != string(b) {
					t.Errorf("%d of %d: %x is no node", m, n, b)
				}
			}
			if _, _, found := seal.Clash(lists, k); found {
				t.Errorf("%d of %d: a clash", m, n)
			}
		}
	}
}

// P5.6: what extends a list that extends another one extends that one.
func TestOneBehindTheOther(t *testing.T) {
	for n := range 26 {
		l := leaves(n)
		for m := range n + 1 {
			for i := range m + 1 {
				first, middle, all := root(l[:i]), root(l[:m]), root(l)
				extends(t, i, m, first, middle, grow.Between(nil, l[:m], i))
				extends(t, m, n, middle, all, grow.Between(nil, l, m))
				extends(t, i, n, first, all, grow.Between(nil, l, i))
			}
		}
	}
}
