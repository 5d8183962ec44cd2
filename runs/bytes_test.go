package runs_test

import (
	"bytes"
	"math"
	"math/rand"
	"slices"
	"testing"

	"incipit/api"
	"incipit/pack"
	"incipit/runs"
)

// takes holds that bytes are cut off as a part, whole.
func takes(t *testing.T, b []byte, want api.Part) {
	t.Helper()
	c := pack.From(b)
	if p := runs.Take(c); !same(p, want) || c.Done() != api.OK {
		t.Errorf("%.60x: %v, error %d, %d left", b, p, c.Err(), c.Left())
	}
}

// faults holds that bytes are cut off as none, that nothing is cut off, and that the fault stays.
func faults(t *testing.T, b []byte) {
	t.Helper()
	c := pack.From(b)
	if p := runs.Take(c); !isZero(p) || c.Err() != api.ErrForm || c.Left() != len(b) {
		t.Errorf("%.60x: %v, error %d, %d of %d left", b, p, c.Err(), c.Left(), len(b))
	}
	if p := runs.Take(c); !isZero(p) || c.Num(9) != 0 || c.Err() != api.ErrForm {
		t.Errorf("%.60x: %v behind a fault", b, p)
	}
}

// P7.4: bytes, written out.
func TestPut(t *testing.T) {
	if b := runs.Put(nil, api.Part{}); !bytes.Equal(b, make([]byte, 6)) {
		t.Errorf("the zero part: %x", b)
	}
	x, y := sums(2)[0], sums(2)[1]
	p := api.Part{Count: 300, At: 2, Chunk: api.Chunk{From: 8, To: 15, List: []api.Entry{{Id: 9, Body: []byte("ab")}, {Id: 11}}}, Path: []api.Sum{x, y}}
	want := slices.Concat([]byte{2, 1, 44, 1, 2, 1, 8, 1, 15, 1, 2, 1, 9, 1, 2, 'a', 'b', 1, 11, 0, 1, 2}, x[:], y[:])
	if b := runs.Put(nil, p); !bytes.Equal(b, want) {
		t.Errorf("%x, not %x", b, want)
	}
	if b := runs.Put([]byte("ahead"), p, api.Part{}, p); !bytes.Equal(b, slices.Concat([]byte("ahead"), want, make([]byte, 6), want)) {
		t.Errorf("three parts: %x", b)
	}
	for _, ahead := range []string{"", "\x00", "ahead"} {
		if b := runs.Put([]byte(ahead)); string(b) != ahead {
			t.Errorf("no parts: %x", b)
		}
	}
	for _, l := range rows() {
		var all []api.Part
		b := []byte("ahead")
		for at := range chunks(l) {
			all = append(all, shown(l, at))
			b = append(b, text(all[at])...)
			takes(t, text(all[at]), all[at])
		}
		if got := runs.Put([]byte("ahead"), all...); !bytes.Equal(got, b) {
			t.Errorf("%v: %x", l, got)
		}
	}
}

// P7.4: whatever a part is, it has bytes: without limits, and with numbers below 0, which are cut off as none.
func TestPutAnything(t *testing.T) {
	if b := runs.Put(nil, api.Part{Count: -1, At: math.MinInt}); string(b) != "\x08\xff\xff\xff\xff\xff\xff\xff\xff\x08\x80\x00\x00\x00\x00\x00\x00\x00\x00\x00\x00\x00" {
		t.Errorf("numbers below 0: %x", b)
	}
	var parts []api.Part
	for _, c := range looksWrong() {
		parts = append(parts, api.Part{Count: 3, At: 1, Chunk: c, Path: sums(2)})
	}
	for _, n := range []int{-1, math.MinInt, math.MaxInt, maxId + 1, 1 << 32} {
		c := api.Chunk{From: 1, To: 7, List: entries(1)}
		parts = append(parts, api.Part{Count: n, Chunk: c}, api.Part{At: n, Chunk: c})
	}
	for _, p := range parts {
		if b := runs.Put(nil, p); !bytes.Equal(b, text(p)) {
			t.Errorf("%v: %x", p, b)
		}
		faults(t, text(p))
	}
	p := shown(many(50), 3)
	if b := runs.Put(nil, slices.Repeat([]api.Part{p}, 30000)...); !bytes.Equal(b, bytes.Repeat(text(p), 30000)) {
		t.Error("very many parts")
	}
	p = api.Part{Chunk: api.Chunk{List: many(60000)}, Path: sums(30000)}
	if b := runs.Put(nil, p); !bytes.Equal(b, text(api.Part{Chunk: api.Chunk{List: many(60000)}, Path: sums(30000)})) {
		t.Error("a part of very many entries and sums")
	}
}

// P7.4: each bound, kept and passed by one.
func TestTakeLimits(t *testing.T) {
	with := func(count, at int, c api.Chunk, path int) api.Part {
		return api.Part{Count: count, At: at, Chunk: c, Path: sums(path)}
	}
	small := api.Chunk{From: 1, To: 7, List: entries(1)}
	for _, c := range looksRight() {
		takes(t, text(with(3, 1, c, 2)), with(3, 1, c, 2))
		takes(t, text(with(maxId, maxId, c, 32)), with(maxId, maxId, c, 32))
		faults(t, text(with(3, 1, c, 33)))
	}
	for _, c := range looksWrong() {
		faults(t, text(with(3, 1, c, 2)))
	}
	for _, n := range []int{0, 1, 1 << 28, 1<<28 + 1, maxId - 1, maxId} {
		takes(t, text(with(n, 0, small, 0)), with(n, 0, small, 0))
		takes(t, text(with(0, n, small, 0)), with(0, n, small, 0))
	}
	for _, n := range []int{maxId + 1, maxId + 2, 1 << 32, 1<<32 + 1, math.MaxInt, -1, math.MinInt} {
		faults(t, text(with(n, 0, small, 0)))
		faults(t, text(with(0, n, small, 0)))
	}
	for n := range 33 {
		takes(t, text(with(9, 2, small, n)), with(9, 2, small, n))
	}
	for _, n := range []int{33, 34, 64, 1000} {
		faults(t, text(with(9, 2, small, n)))
	}
	// Numbers that would be small ones, if no more than 32 bits of them were read.
	one := slices.Concat([]byte{5, 1, 0, 0, 0, 1})
	for _, b := range [][]byte{slices.Concat([]byte{0, 0}, one, []byte{1, 7, 0, 0}), slices.Concat([]byte{0, 0, 1, 1}, one, []byte{0, 0}), slices.Concat([]byte{0, 0, 1, 1, 1, 7}, one, []byte{1, 1, 0, 0}), slices.Concat([]byte{0, 0, 1, 1, 1, 7, 1, 1}, one, []byte{0, 0}), slices.Concat([]byte{0, 0, 1, 1, 1, 7, 0}, one, make([]byte, 32)), slices.Concat([]byte{0, 0, 1, 1, 1, 7, 1, 1, 1, 1}, one, []byte{'b', 0})} {
		faults(t, b)
	}
}

// P7.4: bytes that end too early, and numbers in another form.
func TestTakeFaults(t *testing.T) {
	for _, l := range [][]api.Entry{nil, entries(5), entries(1, 2, 9, 30), many(20)} {
		for at := range chunks(l) {
			b := text(shown(l, at))
			for i := range b {
				faults(t, b[:i])
			}
		}
	}
	for _, b := range []string{"", "\x00", "\x01", "\x01\x00\x00", "\x00\x01\x00\x01\x01\x01\x01\x00\x00", "\x00\x00\x01\x01\x01\x01\x01\x00\x00", "\x00\x00\x01\x01\x01\x01\x00\x01\x00", "\x00\x00\x02\x00\x01\x01\x07\x00\x00", "\x00\x00\x01\x01\x02\x00\x07\x00\x00", "\x00\x00\x01\x01\x01\x07\x01\x01\x02\x00\x01\x00\x00", "\x00\x00\x01\x01\x01\x07\x01\x01\x01\x01\x01\x00\x00", "\x09\x01\x01\x01\x01\x01\x01\x01\x01\x01\x00\x01\x01\x01\x07\x00\x00", "\xff"} {
		faults(t, []byte(b))
	}
}

// P7.4: a Cut that has nothing, that is none, or that stands behind a fault.
func TestTakeOfNoCut(t *testing.T) {
	none := func(name string, c *pack.Cut) {
		t.Helper()
		if p := runs.Take(c); !isZero(p) || c.Err() != api.ErrForm {
			t.Errorf("%s: %v, error %d", name, p, c.Err())
		}
	}
	none("nil", nil)
	none("zero", &pack.Cut{})
	none("no bytes", pack.From(nil))
	b := text(shown(many(30), 1))
	c := pack.From(b)
	c.Fail()
	none("behind a fault", c)
	if c.Left() != len(b) {
		t.Errorf("behind a fault: %d of %d left", c.Left(), len(b))
	}
}

// P7.4: it is cut off from the front, and no more than it: what stands behind it is cut off next.
func TestTakeFromTheFront(t *testing.T) {
	l := many(40)
	a, b := shown(l, 2), shown(l, 3)
	c := pack.From(pack.Text(runs.Put(pack.Num(nil, 300), a, b), "behind"))
	if n := c.Num(1000); n != 300 {
		t.Errorf("ahead: %d", n)
	}
	if p := runs.Take(c); !same(p, a) {
		t.Errorf("the first one: %v", p)
	}
	if p := runs.Take(c); !same(p, b) {
		t.Errorf("the second one: %v", p)
	}
	left := c.Left()
	if s := c.Text(9); s != "behind" || left != 8 || c.Done() != api.OK {
		t.Errorf("behind: %q, %d left, error %d", s, left, c.Err())
	}
	if p := runs.Take(c); !isZero(p) || c.Err() != api.ErrForm {
		t.Errorf("at the end: %v, error %d", p, c.Err())
	}
}

// P7.6: what is handed in stays, with the room behind its end; what is answered is new.
func TestBytesAreNew(t *testing.T) {
	p := shown(many(40), 2)
	room := []byte("abroom")
	b, other := runs.Put(room[:2], p), runs.Put(room[:2], p)
	want := append([]byte("ab"), text(p)...)
	if string(room) != "abroom" || !bytes.Equal(b, want) {
		t.Errorf("b's room: %q", room)
	}
	clear(b[:cap(b)])
	if string(room) != "abroom" || !bytes.Equal(other, want) || !same(p, shown(many(40), 2)) {
		t.Error("bytes share memory")
	}
	alone := runs.Put(room[:2])
	clear(alone[:cap(alone)])
	if string(room) != "abroom" {
		t.Errorf("no parts: b's room is %q", room)
	}
	source := text(p)
	c := pack.From(source)
	first, second := runs.Take(c), runs.Take(pack.From(source))
	clear(source)
	if !same(first, p) {
		t.Error("what is cut off has kept the bytes")
	}
	for i := range first.List {
		body := first.List[i].Body
		clear(body[:cap(body)])
		if !sameEntries(first.List[i+1:], p.List[i+1:]) || !slices.Equal(first.Path, p.Path) {
			t.Error("pieces of a part share memory")
		}
	}
	clear(first.Path[:cap(first.Path)])
	if !same(second, p) {
		t.Error("parts share memory")
	}
}

// P7.6: what is cut off next stays, whatever is done with what was cut off ahead of it.
func TestTakeKeepsItsCutApart(t *testing.T) {
	p := shown(many(40), 1)
	c := pack.From(slices.Concat(text(p), text(p), []byte{1, 0xff}))
	first := runs.Take(c)
	for _, e := range first.List {
		_ = append(e.Body[:0], bytes.Repeat([]byte{0xee}, len(e.Body)+500)...)
		_ = append(e.Body, bytes.Repeat([]byte{0xee}, 500)...)
	}
	if second := runs.Take(c); !same(second, p) || c.Num(255) != 255 || c.Done() != api.OK {
		t.Errorf("behind what was written on: %v", second)
	}
}

// P7.4, P7.9: what was put is cut off as it was.
func TestThereAndBack(t *testing.T) {
	r := rand.New(rand.NewSource(74))
	for range 3000 {
		p := api.Part{Count: r.Intn(maxId+1) >> r.Intn(31), At: r.Intn(maxId+1) >> r.Intn(31), Path: sums(r.Intn(33))}
		ids := []uint32{uint32(r.Intn(maxId)>>r.Intn(31)) + 1}
		for range r.Intn(9) {
			if next := uint64(ids[len(ids)-1]) + 1 + uint64(r.Intn(1<<r.Intn(28))); next <= maxId {
				ids = append(ids, uint32(next))
			}
		}
		p.From, p.To = ids[0], ids[len(ids)-1]
		for _, id := range ids[:min(len(ids), 8)] {
			body := make([]byte, r.Intn(513)>>r.Intn(10))
			r.Read(body)
			if r.Intn(4) > 0 {
				p.List = append(p.List, api.Entry{Id: id, Body: body})
			}
		}
		takes(t, runs.Put(nil, p), p)
	}
}

// P7.4: what is cut off was put so, be the bytes honest, or changed anywhere, or any.
func TestBackAndThere(t *testing.T) {
	r := rand.New(rand.NewSource(47))
	taken := 0
	holds := func(b []byte) {
		c := pack.From(b)
		p := runs.Take(c)
		if c.Err() != api.OK {
			faults(t, b)
			return
		}
		taken++
		if got := runs.Put(nil, p); !bytes.Equal(got, b[:len(b)-c.Left()]) {
			t.Errorf("%x is cut off as %v", b, p)
		}
		if wrongChunk(p.Chunk) || p.Count < 0 || p.Count > maxId || p.At < 0 || p.At > maxId || len(p.Path) > 32 {
			t.Errorf("%x is cut off, as %v", b, p)
		}
	}
	l := many(20)
	for at := range chunks(l) {
		b := text(shown(l, at))
		for i := range b {
			for _, x := range []byte{0, 1, 2, 3, 8, 9, 31, 33, 255, b[i] + 1, b[i] ^ 128} {
				other := bytes.Clone(b)
				other[i] = x
				holds(other)
				holds(slices.Insert(bytes.Clone(b), i, x))
			}
			holds(slices.Delete(bytes.Clone(b), i, i+1))
		}
	}
	for range 100000 {
		b := []byte{0, 0, 1, byte(r.Intn(4)), 1, byte(r.Intn(12)), 1, byte(r.Intn(4))}
		for range r.Intn(24) {
			b = append(b, []byte{0, 1, 1, 1, 2, byte(r.Intn(12)), byte(r.Intn(256))}[r.Intn(7)])
		}
		holds(b)
	}
	if taken < 5000 {
		t.Errorf("%d of them are cut off: one side is hardly looked at", taken)
	}
}

// wrongChunk tells whether a chunk does not look right, thing by thing.
func wrongChunk(c api.Chunk) bool {
	wrong := c.From < 1 || c.To < c.From || c.To > maxId || len(c.List) > 8
	for i, e := range c.List {
		wrong = wrong || e.Id < 1 || e.Id > maxId || len(e.Body) > 512 || e.Id < c.From || e.Id > c.To || i > 0 && e.Id <= c.List[i-1].Id
	}
	return wrong
}
