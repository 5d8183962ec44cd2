package keyed_test

import (
	"bytes"
	"math"
	"math/rand"
	"slices"
	"testing"

	"incipit/api"
	"incipit/keyed"
	"incipit/pack"
)

// reads holds that bytes are read as what was shown, whole.
func reads(t *testing.T, b []byte, want api.Seen) {
	t.Helper()
	c := pack.From(b)
	if s := keyed.Read(c); !same(s, want) || c.Done() != api.OK {
		t.Errorf("%.60x: %v, error %d, %d left", b, s, c.Err(), c.Left())
	}
}

// faults holds that bytes are read as none, that nothing is cut off, and that the fault stays.
func faults(t *testing.T, b []byte) {
	t.Helper()
	c := pack.From(b)
	if s := keyed.Read(c); s.Count != 0 || len(s.Spots) != 0 || c.Err() != api.ErrForm || c.Left() != len(b) {
		t.Errorf("%.60x: %v, error %d, %d of %d left", b, s, c.Err(), c.Left(), len(b))
	}
	if s := keyed.Read(c); s.Count != 0 || len(s.Spots) != 0 || c.Num(9) != 0 || c.Err() != api.ErrForm {
		t.Errorf("%.60x: %v behind a fault", b, s)
	}
}

// P6.4: bytes, written out.
func TestBytes(t *testing.T) {
	if b := keyed.Bytes(nil, api.Seen{}); string(b) != "\x00\x00" {
		t.Errorf("nothing: %x", b)
	}
	a, b := sums(2)[0], sums(2)[1]
	s := api.Seen{Count: 300, Spots: []api.Spot{{At: 0, Pair: pairs("k", "vw")[0], Path: []api.Sum{a, b}}, {At: 256}}}
	want := slices.Concat([]byte{2, 1, 44, 1, 2, 0, 1, 1, 'k', 1, 2, 'v', 'w', 1, 2}, a[:], b[:], []byte{2, 1, 0, 0, 0, 0})
	if got := keyed.Bytes(nil, s); !bytes.Equal(got, want) {
		t.Errorf("%x, not %x", got, want)
	}
	if got := keyed.Bytes([]byte("ahead"), s); !bytes.Equal(got, append([]byte("ahead"), want...)) {
		t.Errorf("%x", got)
	}
	for n := range 12 {
		l := many(n)
		for _, key := range keys(l) {
			s := keyed.Show(nil, l, []byte(key))
			for _, ahead := range []string{"", "\x00", "some bytes"} {
				if got := keyed.Bytes([]byte(ahead), s); !bytes.Equal(got, append([]byte(ahead), text(s)...)) {
					t.Errorf("%q of %d pairs: %x", key, n, got)
				}
			}
			reads(t, text(s), s)
		}
	}
}

// P6.4: whatever it is, it has bytes: without limits, and with numbers below 0, which are read as none.
func TestBytesOfAnything(t *testing.T) {
	if b := keyed.Bytes(nil, api.Seen{Count: -1}); string(b) != "\x08\xff\xff\xff\xff\xff\xff\xff\xff\x00" {
		t.Errorf("a Count below 0: %x", b)
	}
	if b := keyed.Bytes(nil, api.Seen{Spots: []api.Spot{{At: math.MinInt}}}); string(b) != "\x00\x01\x01\x08\x80\x00\x00\x00\x00\x00\x00\x00\x00\x00\x00" {
		t.Errorf("a place below 0: %x", b)
	}
	long := bytes.Repeat([]byte("k"), 70000)
	for _, s := range []api.Seen{
		{Count: -1},
		{Count: math.MinInt},
		{Count: math.MaxInt},
		{Count: -1, Spots: []api.Spot{{}}},
		{Spots: []api.Spot{{At: -1}}},
		{Spots: []api.Spot{{At: math.MaxInt}}},
		{Spots: []api.Spot{{}, {At: math.MinInt}}},
		{Spots: make([]api.Spot, 3)},
		{Spots: []api.Spot{{Pair: api.Pair{Key: long}}}},
		{Spots: []api.Spot{{Path: sums(300)}}},
	} {
		if b := keyed.Bytes(nil, s); !bytes.Equal(b, text(s)) {
			t.Errorf("%.60x, not %.60x", b, text(s))
		}
		faults(t, text(s))
	}
	l := slices.Repeat([]api.Spot{{At: 7, Pair: pairs("key", "value")[0], Path: sums(3)}}, 50000)
	b := keyed.Bytes(nil, api.Seen{Count: 9, Spots: l})
	each := text(api.Seen{Spots: l[:1]})[3:]
	if want := append([]byte{1, 9, 2, 0xc3, 0x50}, bytes.Repeat(each, len(l))...); !bytes.Equal(b, want) {
		t.Error("very many spots")
	}
}

// P6.4: each bound, kept and passed by one.
func TestReadLimits(t *testing.T) {
	with := func(x api.Spot) api.Seen { return api.Seen{Count: 3, Spots: []api.Spot{{}, x}} }
	key := func(n int) api.Spot { return api.Spot{Pair: api.Pair{Key: bytes.Repeat([]byte("k"), n)}} }
	value := func(n int) api.Spot { return api.Spot{Pair: api.Pair{Value: bytes.Repeat([]byte("v"), n)}} }
	path := func(n int) api.Spot { return api.Spot{Path: sums(n)} }
	for _, s := range []api.Seen{{}, {Count: api.MaxId}, {Spots: make([]api.Spot, 1)}, {Spots: make([]api.Spot, 2)}, with(api.Spot{At: api.MaxId}), with(key(256)), with(value(257)), with(value(api.MaxProof)), with(path(api.MaxPath))} {
		reads(t, text(s), s)
		reads(t, keyed.Bytes(nil, s), s)
	}
	for _, s := range []api.Seen{{Count: api.MaxId + 1}, {Count: math.MaxInt}, {Spots: make([]api.Spot, 3)}, {Spots: make([]api.Spot, 4)}, with(api.Spot{At: api.MaxId + 1}), with(api.Spot{At: math.MaxInt}), with(key(257)), with(key(api.MaxProof)), with(value(api.MaxProof + 1)), with(path(api.MaxPath + 1))} {
		faults(t, text(s))
		slices.Reverse(s.Spots)
		faults(t, text(s))
	}
}

// P6.4: what is read needs not to be true, nor to say anything.
func TestReadOfNonsense(t *testing.T) {
	for _, s := range []api.Seen{{Count: 7}, {Spots: make([]api.Spot, 2)}, {Count: 2, Spots: []api.Spot{{At: 9, Path: sums(5)}}}, {Count: 2, Spots: []api.Spot{{At: 1, Pair: pairs("b", "")[0]}, {At: 0, Pair: pairs("a", "")[0]}}}} {
		reads(t, text(s), s)
	}
}

// P6.4: bytes that end too early, and numbers in another form.
func TestReadFaults(t *testing.T) {
	for n := range 8 {
		l := many(n)
		for _, key := range keys(l) {
			b := text(shown(l, key))
			for i := range b {
				faults(t, b[:i])
			}
		}
	}
	for _, b := range []string{"", "\x00", "\x01", "\x01\x00\x00", "\x02\x00\x01\x00", "\x00\x01\x00", "\x09\x01\x01\x01\x01\x01\x01\x01\x01\x01\x00", "\x00\xff", "\x00\x01\x03", "\x00\x01\x01", "\x00\x01\x01\x00\x00\x00\x01\x00", "\x00\x01\x01\x00\x02\x00\x01k\x00\x00", "\x00\x08\xff\xff\xff\xff\xff\xff\xff\xff", "\x00\x01\x01\x00\x00\x00\x08\xff\xff\xff\xff\xff\xff\xff\xff", "\x00\x01\x01\x00\x08\xff\xff\xff\xff\xff\xff\xff\xff"} {
		faults(t, []byte(b))
	}
}

// P6.4: a Cut that has nothing, that is none, or that stands behind a fault.
func TestReadOfNoCut(t *testing.T) {
	none := func(name string, c *pack.Cut) {
		t.Helper()
		if s := keyed.Read(c); s.Count != 0 || len(s.Spots) != 0 || c.Err() != api.ErrForm {
			t.Errorf("%s: %v, error %d", name, s, c.Err())
		}
	}
	none("nil", nil)
	none("zero", &pack.Cut{})
	none("no bytes", pack.From(nil))
	b := text(shown(many(3), "x"))
	c := pack.From(b)
	c.Fail()
	none("behind a fault", c)
	if c.Left() != len(b) {
		t.Errorf("behind a fault: %d of %d left", c.Left(), len(b))
	}
}

// P6.4: it is cut off from the front, and no more than it: what stands behind it is cut off next.
func TestReadFromTheFront(t *testing.T) {
	l := many(6)
	a, b := shown(l, string(l[2].Key)), shown(l, string(l[2].Key)+"\x00")
	c := pack.From(pack.Text(keyed.Bytes(keyed.Bytes(pack.Num(nil, 300), a), b), "behind"))
	if n := c.Num(1000); n != 300 {
		t.Errorf("ahead: %d", n)
	}
	if s := keyed.Read(c); !same(s, a) {
		t.Errorf("the first one: %v", s)
	}
	if s := keyed.Read(c); !same(s, b) {
		t.Errorf("the second one: %v", s)
	}
	left := c.Left()
	if s := c.Text(9); s != "behind" || left != 8 || c.Done() != api.OK {
		t.Errorf("behind: %q, %d left, error %d", s, left, c.Err())
	}
	if s := keyed.Read(c); s.Count != 0 || len(s.Spots) != 0 || c.Err() != api.ErrForm {
		t.Errorf("at the end: %v, error %d", s, c.Err())
	}
}

// P6.5: what is handed in stays, with the room behind its end; what is answered is new.
func TestBytesAreNew(t *testing.T) {
	l := many(5)
	s := shown(l, string(l[2].Key)+"\x00")
	room := []byte("abroom")
	b, other := keyed.Bytes(room[:2], s), keyed.Bytes(room[:2], s)
	want := append([]byte("ab"), text(s)...)
	if string(room) != "abroom" || !bytes.Equal(b, want) {
		t.Errorf("b's room: %q", room)
	}
	clear(b[:cap(b)])
	if string(room) != "abroom" || !bytes.Equal(other, want) || !same(s, shown(l, string(l[2].Key)+"\x00")) {
		t.Error("bytes share memory")
	}
	source := text(s)
	c := pack.From(source)
	first := keyed.Read(c)
	clear(source)
	second := keyed.Read(pack.From(text(s)))
	if !same(first, s) {
		t.Error("what is read has kept the bytes")
	}
	for _, x := range first.Spots {
		clear(x.Key[:cap(x.Key)])
		if !bytes.Equal(x.Value, s.Spots[x.At-first.Spots[0].At].Value) {
			t.Error("a key and a value share memory")
		}
		clear(x.Value[:cap(x.Value)])
		clear(x.Path[:cap(x.Path)])
	}
	if !same(second, s) {
		t.Error("what is read shares memory")
	}
}

// P6.5: what is read stays, whatever is done with the Cut, or with the other one, behind it.
func TestReadKeepsItsCutApart(t *testing.T) {
	l := many(5)
	s := shown(l, string(l[1].Key))
	c := pack.From(slices.Concat(text(s), text(s), []byte{1, 0xff}))
	first := keyed.Read(c)
	for _, x := range first.Spots {
		x.Key = append(x.Key, bytes.Repeat([]byte{0xee}, 500)...)
		x.Value = append(x.Value[:0], bytes.Repeat([]byte{0xee}, len(x.Value)+500)...)
	}
	if second := keyed.Read(c); !same(second, s) || c.Num(255) != 255 || c.Done() != api.OK {
		t.Errorf("behind what was written on: %v", second)
	}
}

// P6.8: what was written is read as it was.
func TestThereAndBack(t *testing.T) {
	r := rand.New(rand.NewSource(68))
	for range 3000 {
		s := api.Seen{Count: r.Intn(api.MaxId+1) >> r.Intn(31)}
		for range r.Intn(3) {
			x := api.Spot{At: r.Intn(api.MaxId+1) >> r.Intn(31), Path: sums(r.Intn(api.MaxPath + 1))}
			x.Key, x.Value = make([]byte, r.Intn(257)), make([]byte, r.Intn(600))
			r.Read(x.Key)
			r.Read(x.Value)
			s.Spots = append(s.Spots, x)
		}
		reads(t, keyed.Bytes(nil, s), s)
	}
}

// P6.8: what is read was written so, be the bytes honest, or changed anywhere, or any.
func TestBackAndThere(t *testing.T) {
	r := rand.New(rand.NewSource(86))
	read := 0
	holds := func(b []byte) {
		c := pack.From(b)
		s := keyed.Read(c)
		if c.Err() != api.OK {
			faults(t, b)
			return
		}
		read++
		if got := keyed.Bytes(nil, s); !bytes.Equal(got, b[:len(b)-c.Left()]) {
			t.Errorf("%x is read as %v", b, s)
		}
	}
	l := many(5)
	for _, key := range keys(l) {
		b := text(shown(l, key))
		for i := range b {
			for _, x := range []byte{0, 1, 2, 3, 8, 9, 31, 33, 255, b[i] + 1, b[i] ^ 128} {
				other := bytes.Clone(b)
				other[i] = x
				holds(other)
				holds(slices.Insert(bytes.Clone(b), i, x))
			}
			holds(slices.Delete(bytes.Clone(b), i, i+1))
		}
	}
	for range 100000 {
		b := make([]byte, r.Intn(24))
		for i := range b {
			b[i] = []byte{0, 0, 0, 1, 1, 1, 2, byte(r.Intn(256))}[r.Intn(8)]
		}
		holds(b)
	}
	if read < 10000 {
		t.Errorf("%d of them are read: one side is hardly looked at", read)
	}
}
