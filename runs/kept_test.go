package runs_test

import (
	"bytes"
	"math"
	"math/rand"
	"slices"
	"testing"

	"incipit/api"
	"incipit/runs"
	"incipit/seal"
)

// filled is Runs with some entries, set in the order in which they are handed in.
func filled(t *testing.T, l ...api.Entry) *runs.Runs {
	t.Helper()
	r := runs.New()
	for _, e := range l {
		if err := r.Set(e.Id, e.Body); err != api.OK {
			t.Fatalf("Set(%d): %d", e.Id, err)
		}
	}
	return r
}

// has holds that Runs has just some entries, and that all it tells is of these, by a book and by none.
func has(t *testing.T, r *runs.Runs, l []api.Entry) {
	t.Helper()
	if got := r.List(); !sameEntries(got, l) || r.Len() != len(l) {
		t.Fatalf("%v, %d of them, not %v", got, r.Len(), l)
	}
	for _, e := range l {
		if b, there := r.Get(e.Id); !there || !bytes.Equal(b, e.Body) {
			t.Fatalf("Get(%d): %q, %v", e.Id, b, there)
		}
	}
	roots(t, r, l)
	n := len(chunks(l))
	for _, at := range []int{0, n / 2, n - 1} {
		if p, e := r.Show(nil, at); e != api.OK || !same(p, shown(l, at)) {
			t.Fatalf("Show(%d): %v, %d, not %v", at, p, e, shown(l, at))
		}
	}
	if p, e := r.Show(nil, n); e != api.ErrNone || !isZero(p) {
		t.Fatalf("Show(%d) of %d: %v, %d", n, n, p, e)
	}
}

// roots holds that the root of Runs is that of some entries, by none, by a book, and by none again.
func roots(t *testing.T, r *runs.Runs, l []api.Entry) {
	t.Helper()
	w, k := &maker{}, &seal.Book{}
	want := w.root(l)
	if a, b, c := r.Root(nil), r.Root(k), r.Root(nil); a != want || b != want || c != want {
		t.Fatalf("%v: roots %x, %x, %x, not %x", l, a, b, c, want)
	}
	if k.Calls() != len(w.hashed) || !slices.Equal(once(k.All()), once(w.hashed)) {
		t.Fatalf("%v: hashed %d times, not %d, or other bytes", l, k.Calls(), len(w.hashed))
	}
}

// P7.5: all that is asked of entries of many kinds, set in three orders.
func TestRuns(t *testing.T) {
	r := rand.New(rand.NewSource(75))
	has(t, runs.New(), nil)
	for _, l := range rows() {
		has(t, filled(t, l...), l)
		back := copyEntries(l)
		slices.Reverse(back)
		has(t, filled(t, back...), l)
		r.Shuffle(len(back), func(i, j int) { back[i], back[j] = back[j], back[i] })
		kept := filled(t, back...)
		has(t, kept, l)
		for at := range chunks(l) {
			if p, e := kept.Show(&seal.Book{}, at); e != api.OK || !same(p, shown(l, at)) {
				t.Errorf("%v: Show(%d): %v, %d", l, at, p, e)
			}
		}
	}
}

// P7.5: what Show hashes is the same as of the entries themselves, whatever was hashed before, by a book or by none.
func TestShowOfRunsHashes(t *testing.T) {
	for _, l := range rows() {
		r := filled(t, l...)
		r.Root(nil)
		r.Root(&seal.Book{})
		for at := range chunks(l) {
			k, want := &seal.Book{}, &seal.Book{}
			r.Show(k, at)
			runs.Show(want, at, l...)
			if k.Calls() != want.Calls() || !slices.Equal(once(k.All()), once(want.All())) {
				t.Errorf("%v: Show(%d) has hashed %d times, not %d, or other bytes", l, at, k.Calls(), want.Calls())
			}
		}
		for _, at := range []int{-1, len(chunks(l)), math.MinInt, math.MaxInt} {
			k := &seal.Book{}
			if p, e := r.Show(k, at); e != api.ErrNone || !isZero(p) || k.Calls() > 0 {
				t.Errorf("%v: Show(%d): %v, %d, hashed %d times", l, at, p, e, k.Calls())
			}
		}
	}
}

// P7.5: Set's errors, in their order; then all is as it was.
func TestSetErrors(t *testing.T) {
	long := make([]byte, 513)
	for _, l := range [][]api.Entry{nil, entries(1), entries(maxId), many(30)} {
		r := filled(t, l...)
		for _, id := range []uint32{0, maxId + 1, maxId + 2, math.MaxUint32} {
			for _, body := range [][]byte{nil, []byte("b"), long} {
				if e := r.Set(id, body); e != api.ErrArg {
					t.Errorf("Set(%d, %d bytes): %d", id, len(body), e)
				}
			}
		}
		for _, id := range []uint32{1, 2, 8, 1000, maxId - 1, maxId} {
			for _, n := range []int{513, 514, 1024, 70000} {
				if e := r.Set(id, make([]byte, n)); e != api.ErrLong {
					t.Errorf("Set(%d, %d bytes): %d", id, n, e)
				}
			}
		}
		has(t, r, l)
	}
}

// P7.5: bodies up to the longest one, and Ids up to the greatest one.
func TestSetLimits(t *testing.T) {
	r := runs.New()
	var l []api.Entry
	for i, id := range []uint32{1, 2, 7, 8, maxId - 8, maxId - 7, maxId} {
		e := api.Entry{Id: id, Body: bytes.Repeat([]byte{byte(i)}, []int{0, 1, 255, 256, 511, 512, 512}[i])}
		l = append(l, e)
		if err := r.Set(e.Id, e.Body); err != api.OK {
			t.Errorf("Set(%d, %d bytes): %d", id, len(e.Body), err)
		}
		has(t, r, l)
	}
}

// P7.5: what is set stands in the place of what stood there.
func TestSetAgain(t *testing.T) {
	l := many(30)
	r := filled(t, l...)
	for i := range l {
		for _, body := range [][]byte{[]byte("other"), nil, {}, {0}, l[i].Body, bytes.Repeat([]byte("b"), 512)} {
			r.Root(nil)
			if e := r.Set(l[i].Id, body); e != api.OK {
				t.Errorf("Set(%d): %d", l[i].Id, e)
			}
			l[i].Body = bytes.Clone(body)
			roots(t, r, l)
		}
	}
	has(t, r, l)
}

// P7.5: what stands nowhere is not dropped, and not got.
func TestNone(t *testing.T) {
	for _, l := range [][]api.Entry{nil, entries(5), entries(8, 10, 12), entries(1, maxId), many(30)} {
		r := filled(t, l...)
		for _, id := range []uint32{0, 1, 2, 3, 4, 5, 6, 7, 8, 9, 10, 11, 12, 13, 15, 16, 17, 100, 1000, 100000, maxId - 8, maxId - 7, maxId - 1, maxId, maxId + 1, maxId + 6, math.MaxUint32} {
			if slices.ContainsFunc(l, func(e api.Entry) bool { return e.Id == id }) {
				continue
			}
			if b, there := r.Get(id); len(b) > 0 || there {
				t.Errorf("%v: Get(%d): %q, %v", l, id, b, there)
			}
			if e := r.Drop(id); e != api.ErrNone {
				t.Errorf("%v: Drop(%d): %d", l, id, e)
			}
		}
		has(t, r, l)
	}
}

// P7.5: a body of nothing stands there.
func TestGetNothing(t *testing.T) {
	r := runs.New()
	r.Set(3, nil)
	r.Set(4, []byte{})
	for _, id := range []uint32{3, 4} {
		if b, there := r.Get(id); len(b) > 0 || !there {
			t.Errorf("Get(%d): %q, %v", id, b, there)
		}
	}
	has(t, r, []api.Entry{{Id: 3}, {Id: 4}})
}

// P7.5: all that stands is dropped, in three orders.
func TestDrop(t *testing.T) {
	r := rand.New(rand.NewSource(57))
	for _, n := range []int{1, 2, 7, 40} {
		for order := range 3 {
			l := many(n)
			kept := filled(t, l...)
			for len(l) > 0 {
				at := []int{0, len(l) - 1, r.Intn(len(l))}[order]
				kept.Root(nil)
				if e := kept.Drop(l[at].Id); e != api.OK {
					t.Errorf("Drop(%d): %d", l[at].Id, e)
				}
				if b, there := kept.Get(l[at].Id); len(b) > 0 || there {
					t.Errorf("Get(%d): %q, %v", l[at].Id, b, there)
				}
				if e := kept.Drop(l[at].Id); e != api.ErrNone {
					t.Errorf("Drop(%d) again: %d", l[at].Id, e)
				}
				l = slices.Delete(l, at, at+1)
				has(t, kept, l)
			}
		}
	}
}

// P7.5: the number of the chunk that has an Id.
func TestWhich(t *testing.T) {
	for _, l := range rows() {
		r := filled(t, l...)
		all := chunks(l)
		ids := []uint32{1, 2, maxId - 1, maxId}
		for _, c := range all {
			ids = append(ids, c.From, c.To, c.From+(c.To-c.From)/2)
			for _, e := range c.List {
				ids = append(ids, e.Id)
			}
		}
		for _, id := range ids {
			want := slices.IndexFunc(all, func(c api.Chunk) bool { return c.From <= id && id <= c.To })
			if got := r.Which(id); got != want {
				t.Errorf("%v: Which(%d): %d, not %d", l, id, got, want)
			}
		}
		for _, id := range []uint32{0, maxId + 1, maxId + 2, maxId + 8, math.MaxUint32} {
			if got := r.Which(id); got >= 0 {
				t.Errorf("%v: Which(%d): %d", l, id, got)
			}
		}
	}
}

// P7.5, R4: a nil one has no entries, and none can be set; a zero one is like a new one.
func TestNilAndZero(t *testing.T) {
	var none *runs.Runs
	var zero runs.Runs
	for name, r := range map[string]*runs.Runs{"nil": none, "zero": &zero, "a nil one's copy": none.Copy(), "a zero one's copy": zero.Copy(), "new": runs.New()} {
		has(t, r, nil)
		for _, id := range []uint32{0, 1, 8, maxId, maxId + 1} {
			if b, there := r.Get(id); len(b) > 0 || there || r.Drop(id) != api.ErrNone {
				t.Errorf("%s: Get(%d): %q, %v", name, id, b, there)
			}
		}
		if a, b, c, d := r.Which(1), r.Which(maxId), r.Which(0), r.Which(maxId+1); a != 0 || b != 0 || c >= 0 || d >= 0 {
			t.Errorf("%s: Which: %d, %d, %d, %d", name, a, b, c, d)
		}
		for _, at := range []int{-1, 1} {
			if p, e := r.Show(nil, at); e != api.ErrNone || !isZero(p) {
				t.Errorf("%s: Show(%d): %v, %d", name, at, p, e)
			}
		}
		if r == nil {
			for _, id := range []uint32{0, 1, maxId} {
				for _, n := range []int{0, 1, 513} {
					if e := r.Set(id, make([]byte, n)); e != api.ErrArg {
						t.Errorf("Set(%d, %d bytes) on a nil one: %d", id, n, e)
					}
				}
			}
			has(t, r, nil)
			continue
		}
		l := many(20)
		for _, e := range l {
			if err := r.Set(e.Id, e.Body); err != api.OK {
				t.Errorf("%s: Set(%d): %d", name, e.Id, err)
			}
		}
		has(t, r, l)
	}
}

// P7.5: a copy has the same entries, of its own: what is done with one is not done with the other one.
func TestCopy(t *testing.T) {
	for _, hashed := range []bool{false, true} {
		for n := range 40 {
			l := many(n)
			r := filled(t, l...)
			if hashed {
				r.Root(nil)
			}
			c := r.Copy()
			first, second := copyEntries(l), copyEntries(l)
			for i := range l {
				switch i % 4 {
				case 0:
					first[i].Body = []byte("first")
					r.Set(l[i].Id, []byte("first"))
				case 1:
					second[i].Body = []byte("second")
					c.Set(l[i].Id, []byte("second"))
				case 2:
					r.Drop(l[i].Id)
				case 3:
					c.Drop(l[i].Id)
				}
			}
			dropped := func(l []api.Entry, rest int) (out []api.Entry) {
				for i, e := range l {
					if i%4 != rest {
						out = append(out, e)
					}
				}
				return out
			}
			first, second = dropped(first, 2), dropped(second, 3)
			has(t, r, first)
			has(t, c, second)
			// New blocks, behind all others and ahead of them, in the room that both may have had.
			for i, x := range []*runs.Runs{r, c, r, c} {
				x.Set(maxId-16*uint32(i), []byte{byte(i)})
			}
			first = append(first, api.Entry{Id: maxId - 32, Body: []byte{2}}, api.Entry{Id: maxId, Body: []byte{0}})
			second = append(second, api.Entry{Id: maxId - 48, Body: []byte{3}}, api.Entry{Id: maxId - 16, Body: []byte{1}})
			has(t, r, first)
			has(t, c, second)
		}
	}
}

// P7.6: what is set is not kept, and what is answered is new memory.
func TestRunsKeepTheirOwn(t *testing.T) {
	l := many(40)
	for _, of := range []func(*runs.Runs) *runs.Runs{func(r *runs.Runs) *runs.Runs { return r }, (*runs.Runs).Copy} {
		r := runs.New()
		for _, e := range l {
			body := append(bytes.Clone(e.Body), "room"...)
			r.Set(e.Id, body[:len(e.Body)])
			if !bytes.Equal(body, append(bytes.Clone(e.Body), "room"...)) {
				t.Fatalf("Set(%d) has changed what was handed in", e.Id)
			}
			clear(body)
		}
		has(t, r, l)
		x := of(r)
		for _, e := range l {
			a, _ := x.Get(e.Id)
			b, _ := x.Get(e.Id)
			clear(a[:cap(a)])
			if !bytes.Equal(b, e.Body) {
				t.Fatalf("Get(%d) has answered the same memory twice", e.Id)
			}
		}
		has(t, x, l)
		list := x.List()
		for i := range list {
			body := list[i].Body
			clear(body[:cap(body)])
			if !sameEntries(list[i+1:], l[i+1:]) {
				t.Fatalf("entries %d and one behind it share memory", i)
			}
		}
		spoil(list)
		has(t, x, l)
		for at := range chunks(l) {
			p, _ := x.Show(nil, at)
			spoil(p.List)
			clear(p.Path[:cap(p.Path)])
		}
		has(t, x, l)
		has(t, r, l)
	}
}

// P7.8: whatever was set and dropped, in whatever order, and told between: roots and parts are those of the entries.
func TestAnew(t *testing.T) {
	r := rand.New(rand.NewSource(78))
	for round := range 60 {
		most := []int{10, 40, 200, maxId}[round%4]
		kept := []*runs.Runs{runs.New()}
		models := []map[uint32]string{{}}
		for step := range 150 {
			i := r.Intn(len(kept))
			id := uint32(r.Intn(most)>>r.Intn(2)) + 1
			if most == maxId && r.Intn(2) == 0 {
				id = maxId - uint32(r.Intn(40))
			}
			_, there := models[i][id]
			switch r.Intn(6) {
			case 0, 1, 2:
				body := string(bodyOf(uint32(step)))
				if e := kept[i].Set(id, []byte(body)); e != api.OK {
					t.Fatalf("Set(%d): %d", id, e)
				}
				models[i][id] = body
			case 3:
				if e := kept[i].Drop(id); (e == api.OK) != there || !there && e != api.ErrNone {
					t.Fatalf("Drop(%d): %d", id, e)
				}
				delete(models[i], id)
			case 4:
				roots(t, kept[i], listOf(models[i]))
			case 5:
				if len(kept) < 4 {
					kept = append(kept, kept[i].Copy())
					models = append(models, copyOf(models[i]))
				}
			}
		}
		for i := range kept {
			has(t, kept[i], listOf(models[i]))
		}
	}
}

func listOf(by map[uint32]string) []api.Entry {
	var l []api.Entry
	for id, body := range by {
		l = append(l, api.Entry{Id: id, Body: []byte(body)})
	}
	slices.SortFunc(l, func(a, b api.Entry) int { return int(int64(a.Id) - int64(b.Id)) })
	return l
}

func copyOf(by map[uint32]string) map[uint32]string {
	out := map[uint32]string{}
	for id, body := range by {
		out[id] = body
	}
	return out
}

// P7.8: a chunk's leaf is made anew where only its ends have changed, since blocks came or went beside it.
func TestLeavesFollowTheirNeighbours(t *testing.T) {
	r := filled(t, entries(20)...)
	l := entries(20)
	for _, step := range []struct {
		id   uint32
		drop bool
	}{{id: 40}, {id: 5}, {id: 5, drop: true}, {id: 40, drop: true}, {id: 12}, {id: 28}, {id: 12, drop: true}, {id: maxId}, {id: 28, drop: true}, {id: maxId, drop: true}} {
		roots(t, r, l)
		at := slices.IndexFunc(l, func(e api.Entry) bool { return e.Id >= step.id })
		if step.drop {
			l = slices.Delete(l, at, at+1)
			r.Drop(step.id)
		} else {
			if at < 0 {
				at = len(l)
			}
			l = slices.Insert(l, at, entries(step.id)...)
			r.Set(step.id, bodyOf(step.id))
		}
		has(t, r, l)
	}
}

// P7.5, P7.8: very many entries, in no order, set, told and dropped.
func TestManyRuns(t *testing.T) {
	r := rand.New(rand.NewSource(8))
	l := many(20000)
	mixed := slices.Clone(l)
	r.Shuffle(len(mixed), func(i, j int) { mixed[i], mixed[j] = mixed[j], mixed[i] })
	kept := filled(t, mixed...)
	if !sameEntries(kept.List(), l) || kept.Len() != len(l) || kept.Root(nil) != root(l) {
		t.Error("not the entries that were set")
	}
	for _, e := range mixed[:19000] {
		if err := kept.Drop(e.Id); err != api.OK {
			t.Fatalf("Drop(%d): %d", e.Id, err)
		}
	}
	rest := slices.Clone(mixed[19000:])
	slices.SortFunc(rest, func(a, b api.Entry) int { return int(int64(a.Id) - int64(b.Id)) })
	has(t, kept, rest)
}
