package tree_test

import (
	"crypto/sha256"
	"math"
	"math/bits"
	"math/rand"
	"slices"
	"testing"

	"incipit/api"
	"incipit/seal"
	"incipit/tree"
)

// node writes the node of some sums out by the words of the chapters 2 to 4.
func node(l ...api.Sum) api.Sum {
	b := []byte{2}
	for _, s := range l {
		b = append(b, 1, 32)
		b = append(b, s[:]...)
	}
	return sha256.Sum256(b)
}

// half is the greatest power of two below n, found by going up to it.
func half(n int) int {
	h := 1
	for h <= (n-1)/2 {
		h *= 2
	}
	return h
}

// root is the root of a list by the chapter's words.
func root(l []api.Sum) api.Sum {
	switch len(l) {
	case 0:
		return node()
	case 1:
		return l[0]
	}
	h := half(len(l))
	return node(root(l[:h]), root(l[h:]))
}

// path is the path of a leaf that there is.
func path(l []api.Sum, at int) []api.Sum {
	if len(l) == 1 {
		return nil
	}
	if h := half(len(l)); at < h {
		return append(path(l[:h], at), root(l[h:]))
	} else {
		return append(path(l[h:], at-h), root(l[:h]))
	}
}

// depth is how many steps the way to a place that there is has.
func depth(n, at int) int {
	if n == 1 {
		return 0
	}
	if h := half(n); at < h {
		return 1 + depth(h, at)
	} else {
		return 1 + depth(n-h, at-h)
	}
}

// lead is where a leaf at a place that there is leads, with a path that is as long as the place is deep.
func lead(n, at int, leaf api.Sum, path []api.Sum) api.Sum {
	if n == 1 {
		return leaf
	}
	last := len(path) - 1
	if h := half(n); at < h {
		return node(lead(h, at, leaf, path[:last]), path[last])
	} else {
		return node(path[last], lead(n-h, at-h, leaf, path[:last]))
	}
}

// leaves is n unlike leaves.
func leaves(n int) []api.Sum {
	var l []api.Sum
	for i := range n {
		l = append(l, sha256.Sum256([]byte{byte(i), byte(i >> 8), byte(i >> 16), 'x'}))
	}
	return l
}

// numbers is numbers of leaves at and beside each power of two, and the least and the greatest one.
func numbers() []int {
	l := []int{math.MinInt, math.MinInt + 1, -3, -2, -1, 0, math.MaxInt - 2, math.MaxInt - 1, math.MaxInt}
	for i := range 63 {
		l = append(l, 1<<i-1, 1<<i, 1<<i+1)
	}
	return l
}

// places is places among n leaves, at the edges of its halves and between them.
func places(n int) []int {
	h := half(n)
	l := []int{0, 1, n / 3, n / 2, h - 1, h, h + 1, h + (n-h)/2, n - 2, n - 1}
	for i := 2; i < 63; i += 6 {
		l = append(l, 1<<i, n-1<<i)
	}
	l = slices.DeleteFunc(l, func(at int) bool { return at < 0 || at >= n })
	slices.Sort(l)
	return slices.Compact(l)
}

// noPlaces is places that are not among n leaves.
func noPlaces(n int) []int {
	l := []int{math.MinInt, math.MinInt + 1, -2, -1}
	for _, at := range []int{0, 1, n, n + 1, math.MaxInt - 1, math.MaxInt} {
		if at >= n {
			l = append(l, at)
		}
	}
	return l
}

// leads holds what Lead answers against a sum.
func leads(t *testing.T, n, at int, leaf api.Sum, path []api.Sum, want api.Sum) {
	t.Helper()
	if s, e := tree.Lead(nil, n, at, leaf, path); s != want || e != api.OK {
		t.Errorf("Lead(%d, %d): %x, %d, not %x", n, at, s, e, want)
	}
}

// refuses holds that Lead answers ErrProof, and nothing beside it, and hashes nothing.
func refuses(t *testing.T, n, at int, leaf api.Sum, path []api.Sum) {
	t.Helper()
	k := &seal.Book{}
	if s, e := tree.Lead(k, n, at, leaf, path); s != (api.Sum{}) || e != api.ErrProof {
		t.Errorf("Lead(%d, %d) of %d sums: %x, %d, not ErrProof", n, at, len(path), s, e)
	}
	if s, e := tree.Lead(nil, n, at, leaf, path); s != (api.Sum{}) || e != api.ErrProof {
		t.Errorf("Lead(%d, %d) of %d sums by no book: %x, %d, not ErrProof", n, at, len(path), s, e)
	}
	if k.Calls() != 0 || len(k.All()) != 0 {
		t.Errorf("Lead(%d, %d) of %d sums: hashed %d times", n, at, len(path), k.Calls())
	}
}

// P4.1 to P4.3, the chapter's rows.
func TestExamples(t *testing.T) {
	for n, want := range map[int]int{1: 0, 2: 1, 5: 4, 8: 4} {
		if h := tree.Half(n); h != want {
			t.Errorf("Half(%d): %d", n, h)
		}
	}
	for at, want := range map[int]int{0: 3, 4: 1, 5: 0} {
		if d := tree.Depth(5, at); d != want {
			t.Errorf("Depth(5, %d): %d", at, d)
		}
	}
	l := leaves(5)
	a, b, c, d, e := l[0], l[1], l[2], l[3], l[4]
	if tree.Root(nil, l[:3]) != node(node(a, b), c) {
		t.Error("Root of a b c")
	}
	if p := tree.Path(nil, l, 2); !slices.Equal(p, []api.Sum{d, node(a, b), e}) {
		t.Errorf("Path of a b c d e, 2: %x", p)
	}
	p := tree.Path(nil, l, 4)
	if len(p) != 1 {
		t.Fatalf("Path of a b c d e, 4: %x", p)
	}
	leads(t, 5, 4, e, p, node(p[0], e))
	leads(t, 5, 4, e, []api.Sum{{7}}, node(api.Sum{7}, e))
	refuses(t, 5, 4, e, nil)
}

// P4.1: halves.
func TestHalf(t *testing.T) {
	for n := 2; n < 5000; n++ {
		if h := tree.Half(n); h != half(n) {
			t.Errorf("%d: %d, not %d", n, h, half(n))
		}
	}
	for _, n := range numbers() {
		h := tree.Half(n)
		switch {
		case n < 2 && h != 0:
			t.Errorf("%d: %d, not 0", n, h)
		case n >= 2 && (bits.OnesCount(uint(h)) != 1 || h < 1 || h >= n || n-h > h):
			t.Errorf("%d: %d is not the greatest power of two below it", n, h)
		}
	}
}

// P4.1: depths of all places among few leaves, and of some among many.
func TestDepth(t *testing.T) {
	holds := func(n, at int) {
		if d := tree.Depth(n, at); d != depth(n, at) {
			t.Errorf("Depth(%d, %d): %d, not %d", n, at, d, depth(n, at))
		}
	}
	for n := 1; n < 200; n++ {
		for at := range n {
			holds(n, at)
		}
	}
	for _, n := range numbers() {
		if n < 1 {
			continue
		}
		for _, at := range places(n) {
			holds(n, at)
		}
	}
	for at, want := range map[int]int{0: 63, 1<<62 - 1: 63, 1 << 62: 63, math.MaxInt - 1: 62} {
		if d := tree.Depth(math.MaxInt, at); d != want {
			t.Errorf("Depth(MaxInt, %d): %d, not %d", at, d, want)
		}
	}
	if tree.Depth(1<<62, 1<<62-1) != 62 || tree.Depth(1<<62+1, 1<<62) != 1 {
		t.Error("Depth at a power of two")
	}
}

// P4.1: there is no such place.
func TestDepthOfNoPlace(t *testing.T) {
	for _, n := range append(numbers(), 5, 6, 7) {
		for _, at := range noPlaces(n) {
			if d := tree.Depth(n, at); d != 0 {
				t.Errorf("Depth(%d, %d): %d", n, at, d)
			}
		}
	}
}

// P4.1: roots, by a book and by none, and that each node is hashed once.
func TestRoot(t *testing.T) {
	for n := range 140 {
		l := leaves(n)
		want := root(l)
		k := &seal.Book{}
		if s := tree.Root(k, l); s != want || tree.Root(nil, l) != want {
			t.Errorf("%d leaves: %x, not %x", n, s, want)
		}
		if nodes := max(n-1, 1-n); k.Calls() != nodes || len(k.All()) != nodes {
			t.Errorf("%d leaves: hashed %d times, %d notes", n, k.Calls(), len(k.All()))
		}
		if _, there := k.Find(want); there != (n != 1) {
			t.Errorf("%d leaves: their root is noted: %v", n, there)
		}
	}
}

// P4.1: of none the node of nothing, of one itself, whatever it is.
func TestRootOfFew(t *testing.T) {
	for _, l := range [][]api.Sum{nil, {}, leaves(3)[:0]} {
		k := &seal.Book{}
		if tree.Root(k, l) != sha256.Sum256([]byte{2}) || k.Calls() != 1 {
			t.Errorf("no leaves: hashed %d times", k.Calls())
		}
	}
	for _, s := range []api.Sum{{}, {1}, {31: 1}, node(), leaves(1)[0]} {
		k := &seal.Book{}
		if tree.Root(k, []api.Sum{s}) != s || k.Calls() != 0 {
			t.Errorf("one leaf %x: hashed %d times", s, k.Calls())
		}
	}
}

// P4.1: leaves that are alike are leaves each, and their nodes are nodes each.
func TestRootOfAlikeLeaves(t *testing.T) {
	for n := 2; n < 40; n++ {
		l := make([]api.Sum, n)
		k := &seal.Book{}
		if tree.Root(k, l) != root(l) || k.Calls() != n-1 {
			t.Errorf("%d leaves of noughts: hashed %d times", n, k.Calls())
		}
	}
}

// P4.1: a book that has hashed is gone on with.
func TestRootByOneBook(t *testing.T) {
	k, l := &seal.Book{}, leaves(7)
	k.Of(api.SealRow)
	tree.Root(k, l)
	tree.Root(k, l[:4])
	if k.Calls() != 1+6+3 || len(k.All()) != 1+6 {
		t.Errorf("hashed %d times, %d notes", k.Calls(), len(k.All()))
	}
}

// P4.2: paths of all leaves; what is hashed for them are nodes of the tree.
func TestPath(t *testing.T) {
	for n := 1; n < 70; n++ {
		l := leaves(n)
		whole := &seal.Book{}
		tree.Root(whole, l)
		for at := range n {
			k := &seal.Book{}
			want := path(l, at)
			if p := tree.Path(k, l, at); !slices.Equal(p, want) || !slices.Equal(tree.Path(nil, l, at), want) {
				t.Errorf("%d among %d: %x, not %x", at, n, p, want)
			}
			if len(want) != tree.Depth(n, at) {
				t.Errorf("%d among %d: %d sums, %d deep", at, n, len(want), tree.Depth(n, at))
			}
			for _, b := range k.All() {
				if _, there := whole.Find(sha256.Sum256(b)); !there {
					t.Errorf("%d among %d: %x is hashed, and is no node", at, n, b)
				}
			}
			for _, s := range want {
				if _, there := k.Find(s); !there && !slices.Contains(l, s) {
					t.Errorf("%d among %d: %x is not hashed by the book", at, n, s)
				}
			}
		}
	}
}

// P4.2: there is no such leaf.
func TestPathOfNoLeaf(t *testing.T) {
	for n := range 20 {
		for _, at := range noPlaces(n) {
			k := &seal.Book{}
			if p := tree.Path(k, leaves(n), at); len(p) != 0 || k.Calls() != 0 {
				t.Errorf("%d among %d: %x, hashed %d times", at, n, p, k.Calls())
			}
		}
	}
	if p := tree.Path(nil, leaves(1), 0); len(p) != 0 {
		t.Errorf("the only leaf: %x", p)
	}
}

// P4.3: any leaf and any path of the right length lead somewhere, among however many leaves.
func TestLead(t *testing.T) {
	r := rand.New(rand.NewSource(4))
	for _, n := range append(numbers(), 5, 6, 7, 11, 13, 100, 1000, 1<<40+1<<20+5) {
		if n < 1 {
			continue
		}
		for _, at := range places(n) {
			var leaf api.Sum
			r.Read(leaf[:])
			p := make([]api.Sum, depth(n, at))
			for i := range p {
				r.Read(p[i][:])
			}
			k := &seal.Book{}
			want := lead(n, at, leaf, p)
			if s, e := tree.Lead(k, n, at, leaf, p); s != want || e != api.OK || k.Calls() != len(p) {
				t.Errorf("Lead(%d, %d): %x, %d, hashed %d times, not %x", n, at, s, e, k.Calls(), want)
			}
			if _, there := k.Find(want); there != (len(p) > 0) {
				t.Errorf("Lead(%d, %d): where it leads is noted: %v", n, at, there)
			}
			leads(t, n, at, leaf, p, want)
		}
	}
}

// P4.3: the only leaf leads to itself, whatever it is.
func TestLeadOfTheOnlyLeaf(t *testing.T) {
	for _, s := range []api.Sum{{}, {1}, node()} {
		leads(t, 1, 0, s, nil, s)
		leads(t, 1, 0, s, []api.Sum{}, s)
		refuses(t, 1, 0, s, []api.Sum{s})
	}
}

// P4.3: a path that is shorter or longer than the place is deep.
func TestLeadRefusesLengths(t *testing.T) {
	for n := 1; n < 40; n++ {
		l := leaves(n)
		for at := range n {
			p := tree.Path(nil, l, at)
			for size := range len(p) + 3 {
				if size != len(p) {
					refuses(t, n, at, l[at], slices.Concat(p, leaves(3))[:size])
				}
			}
		}
	}
	refuses(t, 5, 4, api.Sum{}, leaves(3))
	refuses(t, 5, 0, api.Sum{}, leaves(1))
	refuses(t, math.MaxInt, 0, api.Sum{}, leaves(62))
	refuses(t, math.MaxInt, math.MaxInt-1, api.Sum{}, leaves(63))
	refuses(t, math.MaxInt, 0, api.Sum{}, leaves(64))
	refuses(t, 2, 0, api.Sum{}, leaves(10000))
}

// P4.3: there is no such place, with a path as long as that of some place, or none.
func TestLeadRefusesNoPlace(t *testing.T) {
	for _, n := range append(numbers(), 5, 6, 7) {
		for _, at := range noPlaces(n) {
			for _, size := range []int{0, 1, 2, 3, 62, 63} {
				refuses(t, n, at, api.Sum{1}, leaves(size))
			}
		}
	}
	for n := range 20 {
		l := leaves(n + 1)
		refuses(t, n, n, l[n], tree.Path(nil, l, n))
		refuses(t, n, -1, l[0], tree.Path(nil, l[:n], 0))
	}
}

// P4.4: what is handed in stays, with the room behind its end.
func TestHandedInStays(t *testing.T) {
	for n := range 20 {
		room := leaves(n + 9)
		l := room[:n]
		tree.Root(nil, l)
		for at := range n {
			tree.Path(nil, l, at)
		}
		if !slices.Equal(room, leaves(n+9)) {
			t.Errorf("%d leaves: changed", n)
		}
		for at := range n {
			room := leaves(20)
			p := room[:depth(n, at)]
			tree.Lead(nil, n, at, api.Sum{1}, p)
			tree.Lead(nil, n, at, api.Sum{1}, room)
			if !slices.Equal(room, leaves(20)) {
				t.Errorf("%d among %d: the path is changed", at, n)
			}
		}
	}
}

// P4.4: what is answered is the caller's: neither the leaves, nor the book, nor another answer has a part in it.
func TestAnswersAreNew(t *testing.T) {
	for n := 1; n < 20; n++ {
		l, k := leaves(n), &seal.Book{}
		for at := range n {
			p, other := tree.Path(k, l, at), tree.Path(k, l, at)
			clear(p[:cap(p)])
			if !slices.Equal(l, leaves(n)) || !slices.Equal(other, path(l, at)) || !slices.Equal(tree.Path(k, l, at), path(l, at)) {
				t.Errorf("%d among %d: the path shares memory", at, n)
			}
			p = tree.Path(k, l, at)
			clear(l)
			if l = leaves(n); !slices.Equal(p, path(l, at)) {
				t.Errorf("%d among %d: the path has kept the leaves", at, n)
			}
		}
		if tree.Root(k, l) != root(l) {
			t.Errorf("%d leaves: another root", n)
		}
	}
}

// P4.5: each leaf leads by its path to the root of its list.
func TestShown(t *testing.T) {
	for n := 1; n < 100; n++ {
		l := leaves(n)
		want := tree.Root(nil, l)
		for at := range n {
			leads(t, n, at, l[at], tree.Path(nil, l, at), want)
		}
	}
	alike := make([]api.Sum, 21)
	for at := range alike {
		leads(t, 21, at, alike[at], tree.Path(nil, alike, at), tree.Root(nil, alike))
	}
}

// others is leaves and paths that are not those of a leaf, each as the leaf ahead of its path: one bit changed, two sums exchanged, all turned, all moved, noughts.
func others(leaf api.Sum, p []api.Sum) [][]api.Sum {
	right := append([]api.Sum{leaf}, p...)
	var l [][]api.Sum
	for i := range right {
		for _, bit := range []int{0, 7, 100, 255} {
			other := slices.Clone(right)
			other[i][bit/8] ^= 1 << (bit % 8)
			l = append(l, other)
		}
		for j := range i {
			other := slices.Clone(right)
			other[i], other[j] = other[j], other[i]
			l = append(l, other)
		}
	}
	turned := slices.Clone(right)
	slices.Reverse(turned)
	moved := append(slices.Clone(right[1:]), leaf)
	l = append(l, turned, moved, make([]api.Sum, len(right)))
	return slices.DeleteFunc(l, func(other []api.Sum) bool { return slices.Equal(other, right) })
}

// bound holds that a leaf and a path that are not a list's lead elsewhere than to its root, or that what was hashed clashes.
func bound(t *testing.T, l []api.Sum, at int, leaf api.Sum, p []api.Sum) {
	t.Helper()
	k, other := &seal.Book{}, &seal.Book{}
	want := tree.Root(k, l)
	s, e := tree.Lead(other, len(l), at, leaf, p)
	if e != api.OK {
		t.Errorf("%d among %d: error %d", at, len(l), e)
	}
	if _, _, found := seal.Clash(k, other); s == want && !found {
		t.Errorf("%d among %d: %x by %x leads to the root", at, len(l), leaf, p)
	}
}

// P4.6: another leaf, or another path, does not lead to the root; nor does a leaf by its path from another place.
func TestBound(t *testing.T) {
	for n := 1; n < 24; n++ {
		l := leaves(n)
		for at := range n {
			p := tree.Path(nil, l, at)
			for _, other := range others(l[at], p) {
				bound(t, l, at, other[0], other[1:])
			}
			for place := range n {
				if place != at && depth(n, place) == len(p) {
					bound(t, l, place, l[at], p)
					bound(t, l, at, l[place], p)
					bound(t, l, at, l[at], tree.Path(nil, l, place))
				}
			}
		}
	}
}

// P4.6: two unlike lists of one length have unlike roots.
func TestUnlikeLists(t *testing.T) {
	for n := 1; n < 24; n++ {
		l := leaves(n)
		lists := append(others(l[0], l[1:]), l, make([]api.Sum, n))
		last := slices.Clone(l)
		last[n-1] = l[max(n-2, 0)]
		lists = append(lists, last)
		by := map[api.Sum][]api.Sum{}
		for _, other := range lists {
			s := tree.Root(nil, other)
			if first, there := by[s]; there && !slices.Equal(first, other) {
				t.Errorf("%x and %x have one root", first, other)
			}
			by[s] = other
		}
	}
}

// P4.6: what a leaf and its path hash stands in what the root hashed, so that nothing clashes where nobody lies.
func TestHonestBooksAgree(t *testing.T) {
	for n := 1; n < 40; n++ {
		l, whole := leaves(n), &seal.Book{}
		tree.Root(whole, l)
		for at := range n {
			k := &seal.Book{}
			tree.Lead(k, n, at, l[at], tree.Path(k, l, at))
			for _, b := range k.All() {
				if noted, there := whole.Find(sha256.Sum256(b)); !there || string(noted) != string(b) {
					t.Errorf("%d among %d: %x is no node", at, n, b)
				}
			}
			if _, _, found := seal.Clash(whole, k); found {
				t.Errorf("%d among %d: a clash", at, n)
			}
		}
	}
}

// P4.7: how deep, and how often is hashed.
func TestShort(t *testing.T) {
	for _, n := range append(numbers(), 5, 6, 7, 1000) {
		if n < 1 {
			continue
		}
		digits := bits.Len(uint(n - 1))
		for _, at := range places(n) {
			if d := tree.Depth(n, at); d > digits {
				t.Errorf("Depth(%d, %d): %d, above %d", n, at, d, digits)
			}
		}
		if d := tree.Depth(n, 0); d != digits {
			t.Errorf("Depth(%d, 0): %d, not %d", n, d, digits)
		}
	}
	for _, n := range []int{1, 2, 3, 4, 5, 8, 9, 100, 127, 128, 129} {
		for at := range n {
			k, l := &seal.Book{}, leaves(n)
			p := tree.Path(nil, l, at)
			tree.Lead(k, n, at, l[at], p)
			if k.Calls() != len(p) || len(p) > bits.Len(uint(n-1)) {
				t.Errorf("Lead(%d, %d): %d sums, hashed %d times", n, at, len(p), k.Calls())
			}
		}
	}
}

// P4.1, P4.5, P4.7: very many leaves.
func TestManyLeaves(t *testing.T) {
	for _, n := range []int{1 << 15, 50003} {
		l, k := leaves(n), &seal.Book{}
		want := tree.Root(k, l)
		if k.Calls() != n-1 || want != root(l) {
			t.Errorf("%d leaves: hashed %d times", n, k.Calls())
		}
		for _, at := range []int{0, n / 3, 1<<15 - 1, n - 1} {
			leads(t, n, at, l[at], tree.Path(nil, l, at), want)
		}
	}
}
