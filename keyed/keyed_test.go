package keyed_test

import (
	"bytes"
	"crypto/sha256"
	"math"
	"slices"
	"strings"
	"testing"

	"incipit/api"
	"incipit/keyed"
	"incipit/seal"
)

// P6.2, P6.3: the chapter's rows.
func TestExamples(t *testing.T) {
	l := pairs("b", "1", "d", "2", "f", "3")
	r := keyed.Root(nil, l...)
	for key, want := range map[string][]int{"d": {1}, "c": {0, 1}, "a": {0}, "g": {2}} {
		s := keyed.Show(nil, l, []byte(key))
		var at []int
		for _, x := range s.Spots {
			at = append(at, x.At)
			if !sameSpot(x, spot(l, x.At)) {
				t.Errorf("Show of %s: spot %d is %v", key, x.At, x)
			}
		}
		if s.Count != 3 || !slices.Equal(at, want) {
			t.Errorf("Show of %s: of %d, %v", key, s.Count, at)
		}
	}
	show := func(key string) api.Seen { return keyed.Show(nil, l, []byte(key)) }
	looks(t, r, "d", show("d"), "2", true)
	looks(t, r, "c", show("c"), "", false)
	refuses(t, r, "c", show("d"))
	refuses(t, r, "x", show("a"))
	none := keyed.Show(nil, nil, []byte("a"))
	if none.Count != 0 || len(none.Spots) != 0 {
		t.Errorf("Show, of no pairs, of a: %v", none)
	}
	looks(t, keyed.Root(nil), "a", none, "", false)
}

// P6.1: which pairs may be.
func TestMay(t *testing.T) {
	rows := func(keys ...string) []api.Pair {
		var l []api.Pair
		for _, k := range keys {
			l = append(l, api.Pair{Key: []byte(k), Value: []byte("v")})
		}
		return l
	}
	for _, l := range [][]api.Pair{nil, {}, rows(""), {{}}, rows("a"), rows("", "\x00"), rows("", "a", "b"), rows("a", "a\x00", "aa", "b"), rows("a", "ab"), rows("Z", "a"), rows("ab", "b"), rows("\x7f", "\x80", "\xff"), rows("a\xff", "b"), many(300), pairs("a", "2", "b", "1"), rows(strings.Repeat("k", 300), strings.Repeat("k", 301))} {
		if !keyed.May(l...) {
			t.Errorf("%q: may not be", l)
		}
	}
	for _, l := range [][]api.Pair{rows("", ""), {{}, {Key: []byte{}}}, rows("a", "a"), rows("b", "a"), rows("a", ""), rows("aa", "a"), rows("b", "ab"), rows("\x80", "\x7f"), rows("a", "Z"), rows("b", "a", "c"), rows("a", "c", "b"), rows("a", "b", "b"), rows("a", "a", "b"), pairs("a", "1", "a", "2"), append(many(300), many(1)...), append(many(300), many(300)[299])} {
		if keyed.May(l...) {
			t.Errorf("%q: may be", l)
		}
	}
}

// P6.1: roots, by a book and by none; the book has noted what they are made of, and nothing else.
func TestRoot(t *testing.T) {
	for n := range 80 {
		l, w, k := many(n), &maker{}, &seal.Book{}
		want := w.root(l)
		if s := keyed.Root(k, l...); s != want || keyed.Root(nil, l...) != want {
			t.Errorf("%d pairs: %x, not %x", n, s, want)
		}
		if !slices.Equal(once(k.All()), once(w.hashed)) || k.Calls() != len(w.hashed) {
			t.Errorf("%d pairs: hashed %d times, not %d, or other bytes", n, k.Calls(), len(w.hashed))
		}
	}
}

// P6.1: the roots of few pairs, written out.
func TestRootOfFew(t *testing.T) {
	none := sha256.Sum256([]byte{2})
	want := sha256.Sum256(slices.Concat([]byte{5, 1, 1, 0, 1, 32}, none[:]))
	for _, l := range [][]api.Pair{nil, {}} {
		if s := keyed.Root(nil, l...); s != want {
			t.Errorf("no pairs: %x, not %x", s, want)
		}
	}
	one := sha256.Sum256([]byte("\x04\x01\x01k\x01\x02vw"))
	want = sha256.Sum256(slices.Concat([]byte{5, 1, 2, 1, 1, 1, 32}, one[:]))
	if s := keyed.Root(nil, pairs("k", "vw")...); s != want {
		t.Errorf("one pair: %x, not %x", s, want)
	}
	empty := sha256.Sum256([]byte{4, 0, 0})
	want = sha256.Sum256(slices.Concat([]byte{5, 1, 2, 1, 1, 1, 32}, empty[:]))
	if s := keyed.Root(nil, api.Pair{}); s != want {
		t.Errorf("one pair of nothing: %x, not %x", s, want)
	}
}

// P6.1: pairs that may not be have a root, too; unlike pairs have unlike ones.
func TestRootOfAnyPairs(t *testing.T) {
	by := map[api.Sum][]api.Pair{}
	for _, l := range [][]api.Pair{nil, pairs("", ""), pairs("a", ""), pairs("", "a"), pairs("ab", "c"), pairs("a", "bc"), pairs("", "abc"), pairs("abc", ""), pairs("a", "1", "b", "2"), pairs("a", "2", "b", "1"), pairs("b", "2", "a", "1"), pairs("a", "1", "a", "1"), pairs("a", "1", "a", "2"), pairs("a", "1", "a", "1", "a", "1"), pairs("", "", "", ""), many(8), many(9)} {
		s := keyed.Root(nil, l...)
		if first, there := by[s]; there || s != root(l) {
			t.Errorf("%q: %x, as of %q", l, s, first)
		}
		by[s] = l
	}
}

// P6.2: what is shown of all keys, and of all gaps; what is hashed for it is hashed for the root, too, and the path is hashed by the book.
func TestShow(t *testing.T) {
	for n := range 40 {
		l, whole := many(n), &seal.Book{}
		keyed.Root(whole, l...)
		for _, key := range keys(l) {
			k, want := &seal.Book{}, shown(l, key)
			if s := keyed.Show(k, l, []byte(key)); !same(s, want) || !same(keyed.Show(nil, l, []byte(key)), want) {
				t.Errorf("%q of %d pairs: %v, not %v", key, n, s, want)
			}
			for _, b := range k.All() {
				if _, there := whole.Find(sha256.Sum256(b)); !there {
					t.Errorf("%q of %d pairs: %x is hashed, and not for the root", key, n, b)
				}
			}
			for _, x := range want.Spots {
				for _, s := range x.Path {
					if _, there := k.Find(s); !there {
						t.Errorf("%q of %d pairs: %x is not hashed by the book", key, n, s)
					}
				}
			}
		}
	}
}

// P6.2: keys are told apart byte by byte, and a nil key is an empty one.
func TestShowOfKeys(t *testing.T) {
	l := pairs("", "0", "a", "1", "a\x00", "2", "aa", "3", "\x7f", "4", "\x80", "5")
	for key, want := range map[string][]int{"": {0}, "\x00": {0, 1}, "A": {0, 1}, "a": {1}, "a\x00": {2}, "a\x00\x00": {2, 3}, "a\x01": {2, 3}, "aa": {3}, "aaa": {3, 4}, "b": {3, 4}, "\x7f": {4}, "\x7f\xff": {4, 5}, "\x80": {5}, "\x81": {5}, "\x80\x00": {5}} {
		var at []int
		for _, x := range keyed.Show(nil, l, []byte(key)).Spots {
			at = append(at, x.At)
		}
		if !slices.Equal(at, want) {
			t.Errorf("%q: %v, not %v", key, at, want)
		}
	}
	if s := keyed.Show(nil, l, nil); !same(s, shown(l, "")) {
		t.Errorf("a nil key: %v", s)
	}
	if s := keyed.Show(nil, l[1:], nil); !same(s, shown(l[1:], "")) {
		t.Errorf("a nil key, which is not there: %v", s)
	}
	if s := keyed.Show(nil, []api.Pair{{}}, []byte{}); !same(s, api.Seen{Count: 1, Spots: []api.Spot{{}}}) {
		t.Errorf("a pair of nothing: %v", s)
	}
}

// P6.2: of pairs that may not be nothing is shown, whatever is asked for.
func TestShowOfPairsThatMayNotBe(t *testing.T) {
	for _, l := range [][]api.Pair{pairs("b", "", "a", ""), pairs("a", "1", "a", "1"), pairs("a", "1", "b", "2", "b", "3"), pairs("a", "1", "c", "2", "b", "3"), append(many(50), many(1)...)} {
		for _, key := range append(keys(l), "a", "b", "c", "d") {
			for _, k := range []*seal.Book{nil, {}} {
				if s := keyed.Show(k, l, []byte(key)); s.Count != 0 || len(s.Spots) != 0 {
					t.Errorf("%q of %q: %v", key, l, s)
				}
			}
		}
	}
}

// P6.3, P6.6: what is shown is looked at by the root, and tells what stands there; the book has noted just what leads there.
func TestShown(t *testing.T) {
	for n := range 40 {
		l := many(n)
		r := keyed.Root(nil, l...)
		for _, key := range keys(l) {
			s := keyed.Show(nil, l, []byte(key))
			value, there := stands(l, key)
			looks(t, r, key, s, value, there)
			k, w := &seal.Book{}, &maker{}
			keyed.Look(k, r, []byte(key), s)
			w.look(s)
			if !slices.Equal(once(k.All()), once(w.hashed)) || k.Calls() > len(w.hashed) {
				t.Errorf("%q of %d pairs: hashed %d times, not %d, or other bytes", key, n, k.Calls(), len(w.hashed))
			}
		}
	}
}

// P6.3: a value of nothing stands there, too.
func TestLookAtNothing(t *testing.T) {
	l := []api.Pair{{}, {Key: []byte("a")}, {Key: []byte("b"), Value: []byte{}}, {Key: []byte("c"), Value: []byte{0}}}
	r := keyed.Root(nil, l...)
	for _, key := range []string{"", "a", "b"} {
		looks(t, r, key, keyed.Show(nil, l, []byte(key)), "", true)
	}
	looks(t, r, "c", keyed.Show(nil, l, []byte("c")), "\x00", true)
	if v, there, e := keyed.Look(nil, r, nil, keyed.Show(nil, l, nil)); len(v) > 0 || !there || e != api.OK {
		t.Errorf("a nil key: %q, %v, %d", v, there, e)
	}
}

// P6.3: of spots that all lead to the root, in all rows of up to three, just what Show shows says something of a key.
func TestWhatSaysSomething(t *testing.T) {
	for n := range 5 {
		l := pairs("b", "1", "d", "2", "f", "3", "h", "4")[:n]
		r := root(l)
		var rows [][]api.Spot
		for last := [][]api.Spot{nil}; len(last) > 0; {
			var next [][]api.Spot
			rows = append(rows, last...)
			for _, row := range last {
				for at := range l {
					if len(row) < 3 {
						next = append(next, append(slices.Clone(row), spot(l, at)))
					}
				}
			}
			last = next
		}
		for _, key := range strings.Split("a b c d e f g h i bb ", " ") {
			for _, row := range rows {
				s := api.Seen{Count: n, Spots: row}
				if value, there := stands(l, key); same(s, shown(l, key)) {
					looks(t, r, key, s, value, there)
				} else {
					refuses(t, r, key, s)
				}
			}
		}
	}
}

// P6.3: without a spot nothing but a Count of 0 says something, also where the root is that of another Count and of no leaves.
func TestLookByNoSpot(t *testing.T) {
	none := sha256.Sum256(nodeText())
	for _, count := range []int{math.MinInt, math.MinInt + 1, -2, -1, 1, 2, 3, 255, math.MaxInt} {
		refuses(t, sha256.Sum256(rootText(uint64(count), none)), "a", api.Seen{Count: count})
		refuses(t, sha256.Sum256(rootText(0, none)), "a", api.Seen{Count: count})
	}
	looks(t, sha256.Sum256(rootText(0, none)), "a", api.Seen{}, "", false)
	looks(t, sha256.Sum256(rootText(0, none)), "", api.Seen{Spots: []api.Spot{}}, "", false)
	for _, r := range []api.Sum{{}, none, sha256.Sum256(rootText(1, none)), sha256.Sum256(nil), root(many(1))} {
		refuses(t, r, "a", api.Seen{})
	}
}

// P6.3: a Count below 0, or with places that are none among so many.
func TestLookRefusesNoPlace(t *testing.T) {
	l := pairs("b", "1", "d", "2")
	a, b := spot(l, 0), spot(l, 1)
	for _, count := range []int{math.MinInt, math.MinInt + 1, -2, -1, 0, 1, 3, math.MaxInt} {
		for key, spots := range map[string][]api.Spot{"a": {a}, "b": {a}, "c": {a, b}, "d": {b}, "e": {b}} {
			s := api.Seen{Count: count, Spots: spots}
			refuses(t, root(l), key, s)
			w := &maker{}
			refuses(t, w.of(rootText(uint64(count), w.tree(w.leaves(l)))), key, s)
		}
	}
	for _, at := range []int{math.MinInt, math.MinInt + 1, -2, -1, 0, 2, 3, math.MaxInt} {
		for key, x := range map[string]api.Spot{"b": a, "d": b} {
			if x.At == at {
				continue
			}
			moved := copySpot(x)
			moved.At = at
			refuses(t, root(l), key, api.Seen{Count: 2, Spots: []api.Spot{moved}})
		}
	}
	// The place behind a Count of 0 less by one: it says something, and leads nowhere.
	for _, path := range [][]api.Sum{nil, sums(1)} {
		x := api.Spot{At: -1, Pair: l[0], Path: path}
		refuses(t, root(l[:1]), "c", api.Seen{Spots: []api.Spot{x}})
		refuses(t, sha256.Sum256(rootText(0, sha256.Sum256(pairText(l[0])))), "c", api.Seen{Spots: []api.Spot{x}})
	}
}

// P6.3: places of two spots that are not one behind the other, though their difference is 1, or wraps round.
func TestLookRefusesPlacesApart(t *testing.T) {
	l := pairs("b", "1", "d", "2", "f", "3")
	for _, at := range [][2]int{{1, 0}, {0, 0}, {1, 1}, {0, 2}, {2, 1}, {-1, 0}, {-2, -1}, {math.MaxInt, math.MinInt}, {math.MinInt, math.MaxInt}, {math.MinInt, math.MinInt + 1}, {math.MaxInt - 1, math.MaxInt}, {0, math.MinInt}, {0, math.MaxInt}} {
		for i := range 2 {
			a, b := spot(l, i), spot(l, i+1)
			a.At, b.At = at[0], at[1]
			for _, key := range []string{"c", "e"} {
				for _, count := range []int{0, 2, 3, math.MaxInt} {
					refuses(t, root(l), key, api.Seen{Count: count, Spots: []api.Spot{a, b}})
				}
			}
		}
	}
}

// P6.3: spots that lead to unlike sums are refused by the root of either.
func TestLookRefusesUnlikeSums(t *testing.T) {
	for n := 2; n < 12; n++ {
		l := many(n)
		other := copyPairs(l)
		for i := range other {
			other[i].Value = append(other[i].Value, 'x')
		}
		for at := range n - 1 {
			key := string(l[at].Key) + "\x00"
			for _, spots := range [][]api.Spot{{spot(l, at), spot(other, at+1)}, {spot(other, at), spot(l, at+1)}} {
				refuses(t, root(l), key, api.Seen{Count: n, Spots: spots})
				refuses(t, root(other), key, api.Seen{Count: n, Spots: spots})
			}
			looks(t, root(other), key, api.Seen{Count: n, Spots: []api.Spot{spot(other, at), spot(other, at+1)}}, "", false)
		}
	}
}

// P6.3: the root of pairs that may not be shows what stands there, as far as spots say something.
func TestLookAtPairsThatMayNotBe(t *testing.T) {
	seen := func(l []api.Pair, at ...int) api.Seen {
		s := api.Seen{Count: len(l)}
		for _, i := range at {
			s.Spots = append(s.Spots, spot(l, i))
		}
		return s
	}
	l := pairs("b", "1", "b", "2", "d", "3", "a", "4")
	r := keyed.Root(nil, l...)
	looks(t, r, "b", seen(l, 0), "1", true)
	looks(t, r, "b", seen(l, 1), "2", true)
	looks(t, r, "c", seen(l, 1, 2), "", false)
	looks(t, r, "a", seen(l, 0), "", false)
	looks(t, r, "a", seen(l, 3), "4", true)
	looks(t, r, "x", seen(l, 3), "", false)
	refuses(t, r, "c", seen(l, 0, 2))
	refuses(t, r, "c", seen(l, 2, 3))
	refuses(t, r, "b", seen(l, 0, 1))
	refuses(t, r, "c", seen(l, 0, 1))
}

// P6.3: among very many pairs, whose other ones nobody has.
func TestLookAmongVeryMany(t *testing.T) {
	last := math.MaxInt - 1
	for at, gaps := range map[int][]string{0: {"", "c"}, last: {"e", "x"}, 1 << 40: nil} {
		x := api.Spot{At: at, Pair: api.Pair{Key: []byte("d"), Value: []byte("2")}, Path: sums(depth(math.MaxInt, at))}
		s := api.Seen{Count: math.MaxInt, Spots: []api.Spot{x}}
		w := &maker{}
		r := w.of(rootText(math.MaxInt, w.lead(s.Count, at, w.of(pairText(x.Pair)), x.Path)))
		looks(t, r, "d", s, "2", true)
		for _, key := range []string{"", "c", "e", "x"} {
			if slices.Contains(gaps, key) {
				looks(t, r, key, s, "", false)
			} else {
				refuses(t, r, key, s)
			}
		}
		s.Count--
		refuses(t, r, "d", s)
	}
	// The last two leaves among so many: the last one stands by itself beside a node of two.
	l, far := pairs("b", "1", "d", "2"), sums(62)
	a, b := sha256.Sum256(pairText(l[0])), sha256.Sum256(pairText(l[1]))
	pair := sha256.Sum256(nodeText(far[0], a))
	ahead := api.Spot{At: last - 1, Pair: l[0], Path: append([]api.Sum{far[0], b}, far[1:62]...)}
	behind := api.Spot{At: last, Pair: l[1], Path: append([]api.Sum{pair}, far[1:62]...)}
	s := api.Seen{Count: math.MaxInt, Spots: []api.Spot{ahead, behind}}
	r := sha256.Sum256(rootText(math.MaxInt, (&maker{}).lead(s.Count, last, b, behind.Path)))
	looks(t, r, "c", s, "", false)
	refuses(t, r, "d", s)
	refuses(t, r, "c", api.Seen{Count: s.Count, Spots: []api.Spot{behind, ahead}})
}

// P6.3: another root, and rows of many spots.
func TestLookRefuses(t *testing.T) {
	l := many(9)
	for _, key := range keys(l) {
		s := keyed.Show(nil, l, []byte(key))
		for _, r := range []api.Sum{{}, {1}, sha256.Sum256(nodeText()), (&maker{}).tree((&maker{}).leaves(l)), root(l[:8]), root(many(10))} {
			refuses(t, r, key, s)
		}
		changed := root(l)
		changed[31] ^= 1
		refuses(t, changed, key, s)
		for _, spots := range [][]api.Spot{slices.Concat(s.Spots, s.Spots), slices.Concat(s.Spots, s.Spots, s.Spots), make([]api.Spot, 1), make([]api.Spot, 2), make([]api.Spot, 10000)} {
			refuses(t, root(l), key, api.Seen{Count: s.Count, Spots: spots})
		}
		for i := range s.Spots {
			for _, path := range [][]api.Sum{nil, s.Spots[i].Path[1:], append(slices.Clone(s.Spots[i].Path), api.Sum{}), sums(64), sums(10000)} {
				short := copySeen(s)
				short.Spots[i].Path = path
				refuses(t, root(l), key, short)
			}
		}
	}
}

// P6.3: what leads nowhere is refused by the root of noughts, too.
func TestLookThatLeadsNowhere(t *testing.T) {
	for count, at := range map[int]int{1: 0, 2: 0, 5: 3, math.MaxInt: 7} {
		nowhere := sha256.Sum256(rootText(uint64(count), api.Sum{}))
		for _, n := range []int{0, 1, 2, 3, 4, 61, 62, 63, 64} {
			for _, path := range [][]api.Sum{sums(n), make([]api.Sum, n)} {
				x := api.Spot{At: at, Pair: pairs("b", "1")[0], Path: path}
				y := api.Spot{At: at + 1, Pair: pairs("d", "2")[0], Path: path}
				refuses(t, nowhere, "b", api.Seen{Count: count, Spots: []api.Spot{x}})
				refuses(t, nowhere, "c", api.Seen{Count: count, Spots: []api.Spot{x, y}})
			}
		}
	}
}

// P6.5: what is handed in stays, with the room behind its end.
func TestHandedInStays(t *testing.T) {
	for n := range 12 {
		room := many(n + 5)
		l := room[:n]
		for i := range room {
			room[i].Key = append(room[i].Key, "room"...)[:len(room[i].Key)]
			room[i].Value = append(room[i].Value, "room"...)[:len(room[i].Value)]
		}
		want := copyPairs(room)
		for _, key := range keys(many(n)) {
			asked := append([]byte(key), "room"...)
			s := keyed.Show(nil, l, asked[:len(key)])
			keyed.May(l...)
			keyed.Root(&seal.Book{}, l...)
			kept := copySeen(s)
			spots := append(s.Spots, api.Spot{At: 77})
			for i := range s.Spots {
				spots[i].Path = append(spots[i].Path, api.Sum{7})[:len(spots[i].Path)]
			}
			s.Spots = spots[:len(s.Spots)]
			keyed.Look(&seal.Book{}, root(l), asked[:len(key)], s)
			keyed.Look(nil, api.Sum{}, asked[:len(key)], s)
			keyed.Bytes(nil, s)
			if !same(s, kept) || string(asked) != key+"room" || spots[len(s.Spots)].At != 77 {
				t.Errorf("%q of %d pairs: what was shown, or the key, is changed", key, n)
			}
			for i, x := range s.Spots {
				if rest := x.Path[:len(x.Path)+1]; rest[len(x.Path)] != (api.Sum{7}) {
					t.Errorf("%q of %d pairs: the room behind path %d is changed", key, n, i)
				}
			}
		}
		for i, p := range room {
			whole := string(p.Key[:len(p.Key)+4]) + string(p.Value[:len(p.Value)+4])
			if !samePair(p, want[i]) || whole != string(want[i].Key)+"room"+string(want[i].Value)+"room" {
				t.Errorf("%d pairs: pair %d is changed", n, i)
			}
		}
	}
}

// P6.5: what is answered is the caller's: nothing that was handed in, nor the book, nor another answer has a part in it.
func TestAnswersAreNew(t *testing.T) {
	spoil := func(b []byte) {
		b = b[:cap(b)]
		for i := range b {
			b[i] = '!'
		}
	}
	for n := 1; n < 10; n++ {
		for _, key := range keys(many(n)) {
			l, k := many(n), &seal.Book{}
			r, want := root(l), shown(l, key)
			s, other := keyed.Show(k, l, []byte(key)), keyed.Show(k, l, []byte(key))
			value, _, _ := keyed.Look(k, r, []byte(key), s)
			before := string(value)
			for _, x := range s.Spots {
				spoil(x.Key)
				spoil(x.Value)
				clear(x.Path[:cap(x.Path)])
			}
			clear(s.Spots[:cap(s.Spots)])
			if string(value) != before || !same(other, want) || !same(keyed.Show(k, l, []byte(key)), want) {
				t.Errorf("%q of %d pairs: what is shown shares memory", key, n)
			}
			spoil(value)
			if !same(other, want) {
				t.Errorf("%q of %d pairs: the value is that of the spot", key, n)
			}
			for _, p := range l {
				spoil(p.Key)
				spoil(p.Value)
			}
			if !same(other, want) {
				t.Errorf("%q of %d pairs: what is shown has kept the pairs", key, n)
			}
			for i, x := range other.Spots {
				spoil(x.Key)
				if !bytes.Equal(x.Value, want.Spots[i].Value) || !slices.Equal(x.Path, want.Spots[i].Path) {
					t.Errorf("%q of %d pairs: parts of spot %d share memory", key, n, i)
				}
				spoil(x.Value)
				clear(x.Path[:cap(x.Path)])
				for j := i + 1; j < len(want.Spots); j++ {
					if !sameSpot(other.Spots[j], want.Spots[j]) {
						t.Errorf("%q of %d pairs: two spots share memory", key, n)
					}
				}
			}
		}
	}
}
