package keyed_test

import (
	"crypto/sha256"
	"math/rand"
	"slices"
	"testing"

	"incipit/api"
	"incipit/keyed"
	"incipit/seal"
)

// bound holds that what is looked at tells what stands at a key, or is refused, or that what was hashed clashes.
func bound(t *testing.T, l []api.Pair, key string, s api.Seen) bool {
	t.Helper()
	whole, k := &seal.Book{}, &seal.Book{}
	r := keyed.Root(whole, l...)
	v, ok, e := keyed.Look(k, r, []byte(key), s)
	if e != api.OK {
		if len(v) > 0 || ok || e != api.ErrProof {
			t.Errorf("%q: %q, %v beside %d", key, v, ok, e)
		}
		return false
	}
	if value, there := stands(l, key); string(v) == value && ok == there {
		return true
	}
	if _, _, found := seal.Clash(whole, k); !found {
		t.Errorf("%q: %q, %v, by %v", key, v, ok, s)
	}
	return true
}

// others is what is shown with one thing changed.
func others(l []api.Pair, s api.Seen) []api.Seen {
	var out []api.Seen
	change := func(do func(s *api.Seen)) {
		x := copySeen(s)
		do(&x)
		if !same(x, s) {
			out = append(out, x)
		}
	}
	for _, by := range []int{-1, 1, -s.Count, s.Count, 1 << 40} {
		change(func(s *api.Seen) { s.Count += by })
	}
	for i := range s.Spots {
		for _, by := range []int{-1, 1, -s.Count, s.Count, 1 << 40} {
			change(func(s *api.Seen) { s.Spots[i].At += by })
		}
		for _, b := range []string{"", "x", "\x00"} {
			change(func(s *api.Seen) { s.Spots[i].Key = append(s.Spots[i].Key, b...) })
			change(func(s *api.Seen) { s.Spots[i].Value = append(s.Spots[i].Value, b...) })
			change(func(s *api.Seen) { s.Spots[i].Key = []byte(b) })
			change(func(s *api.Seen) { s.Spots[i].Value = []byte(b) })
		}
		change(func(s *api.Seen) {
			x := &s.Spots[i]
			x.Key, x.Value = x.Value, x.Key
		})
		change(func(s *api.Seen) {
			x := &s.Spots[i]
			x.Key, x.Value = append(x.Key, x.Value...), nil
		})
		for j := range s.Spots[i].Path {
			change(func(s *api.Seen) { s.Spots[i].Path[j][j%32] ^= 1 })
			change(func(s *api.Seen) { s.Spots[i].Path = slices.Delete(s.Spots[i].Path, j, j+1) })
		}
		change(func(s *api.Seen) { slices.Reverse(s.Spots[i].Path) })
		change(func(s *api.Seen) { s.Spots = slices.Delete(s.Spots, i, i+1) })
		for at := range l {
			change(func(s *api.Seen) { s.Spots[i] = spot(l, at) })
			change(func(s *api.Seen) { s.Spots[i].Pair = copyPairs(l)[at] })
		}
	}
	for at := range l {
		change(func(s *api.Seen) { s.Spots = append(s.Spots, spot(l, at)) })
		change(func(s *api.Seen) { s.Spots = append([]api.Spot{spot(l, at)}, s.Spots...) })
	}
	change(func(s *api.Seen) { slices.Reverse(s.Spots) })
	return out
}

// P6.7: what was shown, with one thing changed, is refused.
func TestBound(t *testing.T) {
	for n := range 9 {
		l := many(n)
		for _, key := range keys(l) {
			s := keyed.Show(nil, l, []byte(key))
			if !bound(t, l, key, s) {
				t.Errorf("%q of %d pairs: refused", key, n)
			}
			for _, x := range others(l, s) {
				if bound(t, l, key, x) {
					t.Errorf("%q of %d pairs: %v is not what was shown, and is not refused", key, n, x)
				}
			}
		}
	}
}

// P6.7: what was shown of one key tells nothing false of another one, and what was shown of other pairs nothing of these.
func TestBoundElsewhere(t *testing.T) {
	for n := range 9 {
		l := many(n)
		changed := copyPairs(l)
		if n > 0 {
			changed[n/2].Value = []byte("other")
		}
		for _, of := range [][]api.Pair{l, changed, many(n + 1), many(max(n-1, 0))} {
			for _, first := range keys(l) {
				s := keyed.Show(nil, of, []byte(first))
				for _, key := range keys(l) {
					bound(t, l, key, s)
				}
			}
		}
	}
}

// P6.7: rows of up to two spots, of any parts and places, by any Count: what is not refused is what is shown.
func TestBoundAllOfFew(t *testing.T) {
	for n := range 4 {
		l := pairs("b", "1", "d", "2", "f", "3")[:n]
		paths := [][]api.Sum{nil}
		for at := range l {
			paths = append(paths, spot(l, at).Path)
		}
		var spots []api.Spot
		for at := -1; at <= n; at++ {
			for _, path := range paths {
				for _, p := range append(copyPairs(l), pairs("c", "1", "a", "9")...) {
					spots = append(spots, api.Spot{At: at, Pair: p, Path: path})
				}
			}
		}
		for count := -1; count <= n+1; count++ {
			for _, key := range []string{"a", "b", "c", "d", "e", "f", "g"} {
				holds := func(row ...api.Spot) {
					s := api.Seen{Count: count, Spots: row}
					if bound(t, l, key, s) != same(s, shown(l, key)) {
						t.Errorf("%q: %v", key, s)
					}
				}
				holds()
				for _, x := range spots {
					holds(x)
				}
			}
		}
		// All pairs of spots are many: of each, what stands beside the ones that are honest.
		for at := range l {
			for _, x := range spots {
				for _, row := range [][]api.Spot{{spot(l, at), x}, {x, spot(l, at)}} {
					for _, key := range []string{"a", "b", "c", "d", "e", "f", "g"} {
						s := api.Seen{Count: n, Spots: row}
						if bound(t, l, key, s) != same(s, shown(l, key)) {
							t.Errorf("%q: %v", key, s)
						}
					}
				}
			}
		}
	}
}

// P6.7: a pair is no node, a node is no pair, and neither is a root: what is hashed is told apart by its kind.
func TestKindsAreToldApart(t *testing.T) {
	l := pairs("b", "1", "d", "2")
	a, b := sha256.Sum256(pairText(l[0])), sha256.Sum256(pairText(l[1]))
	// The leaves' node, as if it were a pair: the only one.
	forged := api.Pair{Key: a[:], Value: b[:]}
	refuses(t, root(l), string(a[:]), api.Seen{Count: 1, Spots: []api.Spot{{Pair: forged}}})
	refuses(t, root(l), string(a[:]), api.Seen{Count: 2, Spots: []api.Spot{{Pair: forged}}})
	// The root, as if it were a pair of its number and its leaves' root.
	top := sha256.Sum256(nodeText(a, b))
	forged = api.Pair{Key: []byte{1, 2}, Value: top[:]}
	refuses(t, root(l), "\x01\x02", api.Seen{Count: 1, Spots: []api.Spot{{Pair: forged}}})
	// A leaf, as if it were the root.
	refuses(t, a, "b", api.Seen{Count: 1, Spots: []api.Spot{{Pair: l[0]}}})
}

// P6.7: what is looked at and not refused has its root, its nodes and its leaves in the book with what was hashed, so that a second preimage of any of them clashes.
func TestLookNotesWhatBinds(t *testing.T) {
	for n := range 12 {
		l := many(n)
		for _, key := range keys(l) {
			k, w, s := &seal.Book{}, &maker{}, shown(l, key)
			keyed.Look(k, root(l), []byte(key), s)
			w.look(s)
			for _, b := range w.hashed {
				other := &seal.Book{}
				other.Note(sha256.Sum256(b), []byte("another one"))
				if x, y, found := seal.Clash(other, k); !found || string(x) != "another one" || string(y) != string(b) {
					t.Errorf("%q of %d pairs: %x is not noted", key, n, b)
				}
			}
		}
	}
}

// P6.7: honest books agree.
func TestHonestBooksAgree(t *testing.T) {
	for n := range 20 {
		l, whole, k := many(n), &seal.Book{}, &seal.Book{}
		r := keyed.Root(whole, l...)
		for _, key := range keys(l) {
			keyed.Look(k, r, []byte(key), keyed.Show(k, l, []byte(key)))
		}
		if _, _, found := seal.Clash(whole, k); found {
			t.Errorf("%d pairs: a clash", n)
		}
		for _, b := range k.All() {
			if noted, there := whole.Find(sha256.Sum256(b)); !there || string(noted) != string(b) {
				t.Errorf("%d pairs: %x is not hashed for the root", n, b)
			}
		}
	}
}

// P6.2, P6.3, P6.6: very many pairs, with keys in no order of their making.
func TestManyPairs(t *testing.T) {
	r := rand.New(rand.NewSource(6))
	by := map[string]string{}
	for range 5000 {
		b := make([]byte, r.Intn(5))
		r.Read(b)
		by[string(b)] = string(b) + "'s"
	}
	var l []api.Pair
	for k, v := range by {
		l = append(l, pairs(k, v)...)
	}
	slices.SortFunc(l, func(a, b api.Pair) int { return slices.Compare(a.Key, b.Key) })
	if !keyed.May(l...) {
		t.Fatal("they may not be")
	}
	sum := keyed.Root(nil, l...)
	for range 8 {
		b := make([]byte, r.Intn(5))
		r.Read(b)
		for _, key := range []string{string(b), string(l[r.Intn(len(l))].Key)} {
			value, there := by[key]
			looks(t, sum, key, keyed.Show(nil, l, []byte(key)), value, there)
		}
	}
}
