package runs_test

import (
	"bytes"
	"crypto/sha256"
	"slices"
	"testing"

	"incipit/api"
	"incipit/runs"
	"incipit/seal"
)

// bound holds that a part is refused by the root of entries, or shows a chunk of these, or that what was hashed clashes; and tells whether it is not refused.
func bound(t *testing.T, l []api.Entry, p api.Part) bool {
	t.Helper()
	whole, k := &seal.Book{}, &seal.Book{}
	switch e := runs.Look(k, runs.Root(whole, l...), p); e {
	case api.ErrProof:
		return false
	case api.OK:
	default:
		t.Errorf("%v: %d", p, e)
	}
	if all := chunks(l); p.Count == len(all) && 0 <= p.At && p.At < len(all) && sameChunk(p.Chunk, all[p.At]) {
		return true
	}
	if _, _, found := seal.Clash(whole, k); !found {
		t.Errorf("%v is no chunk of %v, and is right", p, l)
	}
	return true
}

// others is a part with one thing changed.
func others(l []api.Entry, p api.Part) []api.Part {
	var out []api.Part
	change := func(do func(p *api.Part)) {
		x := copyPart(p)
		do(&x)
		if !same(x, p) {
			out = append(out, x)
		}
	}
	for _, by := range []int{-1, 1, -p.Count, p.Count, 1 << 27, 1 << 40} {
		change(func(p *api.Part) { p.Count += by })
		change(func(p *api.Part) { p.At += by })
	}
	for _, by := range []uint32{1, 8, 1 << 31, ^uint32(0), ^uint32(7)} {
		change(func(p *api.Part) { p.From += by })
		change(func(p *api.Part) { p.To += by })
		change(func(p *api.Part) { p.From, p.To = p.From+by, p.To+by })
	}
	change(func(p *api.Part) { p.From = 1 })
	change(func(p *api.Part) { p.To = maxId })
	for i := range p.List {
		for _, by := range []uint32{1, 8, 1 << 31, ^uint32(0)} {
			change(func(p *api.Part) { p.List[i].Id += by })
		}
		change(func(p *api.Part) { p.List[i].Body = nil })
		change(func(p *api.Part) { p.List[i].Body = append(p.List[i].Body, 0) })
		for j := range p.List[i].Body {
			change(func(p *api.Part) { p.List[i].Body[j] ^= 1 })
			change(func(p *api.Part) { p.List[i].Body = p.List[i].Body[:j] })
		}
		change(func(p *api.Part) { p.List = slices.Delete(p.List, i, i+1) })
		change(func(p *api.Part) { p.List = p.List[:i] })
	}
	for id := p.From; id <= p.To && id < p.From+16; id++ {
		change(func(p *api.Part) {
			p.List = append(p.List, entries(id)...)
			slices.SortFunc(p.List, func(a, b api.Entry) int { return int(a.Id) - int(b.Id) })
		})
	}
	for j := range p.Path {
		change(func(p *api.Part) { p.Path[j][j%32] ^= 1 })
		change(func(p *api.Part) { p.Path = slices.Delete(p.Path, j, j+1) })
		change(func(p *api.Part) { p.Path = slices.Insert(p.Path, j, p.Path[j]) })
	}
	change(func(p *api.Part) { slices.Reverse(p.Path) })
	for _, c := range chunks(l) {
		change(func(p *api.Part) { p.Chunk = c })
		change(func(p *api.Part) { p.From, p.To = c.From, c.To })
		change(func(p *api.Part) { p.List = c.List })
	}
	return out
}

// P7.10: what was shown, with one thing changed, is refused.
func TestBound(t *testing.T) {
	for _, l := range [][]api.Entry{nil, entries(5), entries(1, 7, 8, 30), entries(20, maxId), many(9), many(20), many(33)} {
		for at := range chunks(l) {
			p, _ := runs.Show(nil, at, l...)
			if !bound(t, l, p) {
				t.Errorf("chunk %d of %v is refused", at, l)
			}
			for _, x := range others(l, p) {
				if bound(t, l, x) {
					t.Errorf("chunk %d of %v: %v is not what was shown, and is right", at, l, x)
				}
			}
		}
	}
}

// P7.10: what was shown of other entries tells nothing false of these: of one more, one less, one that is other, and of such as have the same chunks elsewhere.
func TestBoundElsewhere(t *testing.T) {
	for _, n := range []int{0, 1, 2, 8, 9, 20, 40} {
		l := many(n)
		sets := [][]api.Entry{l, many(n + 1), many(max(n-1, 0)), append(many(n), entries(maxId)...), nil}
		for i := range l {
			changed := copyEntries(l)
			changed[i].Body = []byte("other")
			sets = append(sets, changed, slices.Delete(copyEntries(l), i, i+1))
		}
		for _, of := range sets {
			for at, c := range chunks(of) {
				p, _ := runs.Show(nil, at, of...)
				like := len(of) == len(l) && sameEntries(of, l)
				if bound(t, l, p) != like {
					t.Errorf("of %d entries, by the root of %d others: chunk %d, %v", len(of), n, at, c)
				}
			}
		}
	}
}

// P7.10: any chunk of few Ids, at any place, with any path of the tree's sums: what is right is what is shown.
func TestBoundAllOfFew(t *testing.T) {
	for _, l := range [][]api.Entry{nil, entries(6), entries(6, 8), entries(6, 8, 17), entries(8, 17, 25, 40)} {
		r, all := runs.Root(nil, l...), []api.Part{}
		paths := [][]api.Sum{nil}
		for at := range chunks(l) {
			p := shown(l, at)
			all, paths = append(all, p), append(paths, p.Path, append(sums(1), p.Path...))
		}
		ends := []uint32{0, 1, 6, 7, 8, 15, 16, 23, 24, 31, 32, maxId, maxId + 1}
		for _, from := range ends {
			for _, to := range ends {
				for _, list := range [][]api.Entry{nil, entries(6), entries(8), entries(17), entries(25), entries(40), entries(6, 8)} {
					for count := range len(all) + 2 {
						for at := -1; at <= len(all); at++ {
							for _, path := range paths {
								p := api.Part{Count: count, At: at, Chunk: api.Chunk{From: from, To: to, List: list}, Path: path}
								isShown := 0 <= at && at < len(all) && same(p, all[at])
								if e := runs.Look(nil, r, p); (e == api.OK) != isShown || !isShown && e != api.ErrProof {
									t.Fatalf("%v: %v: %d", l, p, e)
								}
							}
						}
					}
				}
			}
		}
	}
}

// P7.10: a chunk is no node, a node is no chunk, and neither is a root: what is hashed is told apart by its kind.
func TestKindsAreToldApart(t *testing.T) {
	l := entries(5, 9)
	all := chunks(l)
	a, b := sha256.Sum256(leafText(all[0])), sha256.Sum256(leafText(all[1]))
	top := sha256.Sum256(nodeText(a, b))
	for _, c := range append(all, chunks(nil)...) {
		for _, count := range []int{1, 2} {
			for _, path := range [][]api.Sum{nil, {a}, {b}, {top}, {b, a}} {
				p := api.Part{Count: count, Chunk: c, Path: path}
				for _, r := range []api.Sum{a, b, top} {
					refuses(t, r, p)
				}
			}
		}
	}
	// One chunk by the root of two: neither has the number of chunks that the other one has.
	refuses(t, root(l), api.Part{Count: 1, Chunk: all[0]})
	refuses(t, sha256.Sum256(rootText(1, top)), shown(l, 0))
}

// P7.10: what is right has its root, its nodes and its leaf in the book, so that a second preimage of any of them clashes; and so has what is hashed for the root.
func TestWhatBindsIsNoted(t *testing.T) {
	for _, l := range rows() {
		kept := filled(t, l...)
		r := kept.Root(nil)
		for at := range chunks(l) {
			k, w, p := &seal.Book{}, &maker{}, shown(l, at)
			runs.Look(k, r, p)
			w.look(p)
			noted(t, k, w)
		}
		k, w := &seal.Book{}, &maker{}
		kept.Root(k)
		w.root(l)
		noted(t, k, w)
	}
}

// noted holds that bytes for the sum of anything that the maker has hashed clash with the book, unless they are the same.
func noted(t *testing.T, k *seal.Book, w *maker) {
	t.Helper()
	for _, b := range w.hashed {
		other := &seal.Book{}
		other.Note(sha256.Sum256(b), []byte("another one"))
		if x, y, found := seal.Clash(other, k); !found || string(x) != "another one" || !bytes.Equal(y, b) {
			t.Errorf("%x is not noted", b)
		}
	}
}

// P7.10: honest books agree.
func TestHonestBooksAgree(t *testing.T) {
	for _, l := range rows() {
		whole, k, kept := &seal.Book{}, &seal.Book{}, filled(t, l...)
		r := kept.Root(whole)
		for at := range chunks(l) {
			p, _ := kept.Show(k, at)
			runs.Look(k, r, p)
		}
		if _, _, found := seal.Clash(whole, k); found {
			t.Errorf("%v: a clash", l)
		}
		for _, b := range k.All() {
			if first, there := whole.Find(sha256.Sum256(b)); !there || !bytes.Equal(first, b) {
				t.Errorf("%v: %x is not hashed for the root", l, b)
			}
		}
	}
}
