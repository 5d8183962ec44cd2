package pack_test

import (
	"bytes"
	"encoding/hex"
	"math"
	"math/rand"
	"strings"
	"testing"

	"incipit/api"
	"incipit/pack"
)

const greatest = math.MaxUint64

// unhex is the bytes that s tells by digits with blanks between them.
func unhex(t *testing.T, s string) []byte {
	t.Helper()
	b, err := hex.DecodeString(strings.ReplaceAll(s, " ", ""))
	if err != nil {
		t.Fatal(err)
	}
	return b
}

// numbers is 0, the greatest number, and those at each edge of a bit between them.
func numbers() []uint64 {
	l := []uint64{0, greatest}
	for i := range 64 {
		x := uint64(1) << i
		l = append(l, x-1, x, x+1, x|1<<(i/2))
	}
	return l
}

// sumOf is a sum whose bytes are all unlike.
func sumOf(first byte) api.Sum {
	var s api.Sum
	for i := range s {
		s[i] = first + byte(3*i)
	}
	return s
}

// P2.1, the chapter's first row.
func TestWriteExamples(t *testing.T) {
	if b := pack.Num(nil, 0, 1, 255, 256); !bytes.Equal(b, unhex(t, "00 01 01 01 ff 02 01 00")) {
		t.Errorf("Num: %x", b)
	}
	if b := pack.Text(nil, "ab"); !bytes.Equal(b, unhex(t, "01 02 61 62")) {
		t.Errorf("Text: %x", b)
	}
}

// P2.1: the bytes of single numbers.
func TestNum(t *testing.T) {
	for x, want := range map[uint64]string{
		0: "00", 1: "01 01", 127: "01 7f", 128: "01 80", 255: "01 ff", 256: "02 01 00", 0x1234: "02 12 34", 65535: "02 ff ff", 65536: "03 01 00 00",
		1<<32 - 1: "04 ff ff ff ff", 1 << 32: "05 01 00 00 00 00", 0x0102030405060708: "08 01 02 03 04 05 06 07 08",
		1<<56 - 1: "07 ff ff ff ff ff ff ff", 1 << 56: "08 01 00 00 00 00 00 00 00", 1 << 63: "08 80 00 00 00 00 00 00 00", greatest: "08 ff ff ff ff ff ff ff ff",
	} {
		if b := pack.Num(nil, x); !bytes.Equal(b, unhex(t, want)) {
			t.Errorf("%d: %x, not %s", x, b, want)
		}
	}
}

// P2.1: what stands ahead, how many there are, and their order.
func TestWritesRows(t *testing.T) {
	long := bytes.Repeat([]byte("x"), 256)
	for name, c := range map[string]struct {
		got  []byte
		want string
	}{
		"no numbers":       {pack.Num(nil), ""},
		"no numbers, bare": {pack.Num([]byte{}, []uint64{}...), ""},
		"numbers behind":   {pack.Num([]byte{7, 8}, 2, 0, 1), "07 08 01 02 00 01 01"},
		"only b":           {pack.Num([]byte{7, 8}), "07 08"},
		"no blobs":         {pack.Blob(nil), ""},
		"only b, blobs":    {pack.Blob([]byte{7, 8}), "07 08"},
		"empty blobs":      {pack.Blob([]byte{7}, nil, []byte{}), "07 00 00"},
		"blobs":            {pack.Blob([]byte{7}, []byte("ab"), nil, []byte{0}), "07 01 02 61 62 00 01 01 00"},
		"a long blob":      {pack.Blob(nil, long[:255], long), "01 ff" + hex.EncodeToString(long[:255]) + "02 01 00" + hex.EncodeToString(long)},
		"no texts":         {pack.Text(nil), ""},
		"only b, texts":    {pack.Text([]byte{7, 8}), "07 08"},
		"empty texts":      {pack.Text([]byte{7}, "", ""), "07 00 00"},
		"texts":            {pack.Text([]byte{7}, "ab", "", "\x00\xff"), "07 01 02 61 62 00 01 02 00 ff"},
		"a long text":      {pack.Text(nil, string(long[:255]), string(long)), "01 ff" + hex.EncodeToString(long[:255]) + "02 01 00" + hex.EncodeToString(long)},
		"no sums":          {pack.Sums(nil), ""},
		"only b, sums":     {pack.Sums([]byte{7, 8}), "07 08"},
		"sums":             {pack.Sums([]byte{7}, api.Sum{0: 1, 31: 2}, api.Sum{}), "07 01" + strings.Repeat("00", 30) + "02" + strings.Repeat("00", 32)},
	} {
		if want := unhex(t, c.want); !bytes.Equal(c.got, want) {
			t.Errorf("%s: %x, not %x", name, c.got, want)
		}
	}
}

// P2.2, P2.3, the chapter's other rows.
func TestCutExamples(t *testing.T) {
	c := pack.From([]byte{1, 0})
	if x := c.Num(9); x != 0 || c.Left() != 2 || c.Err() != api.ErrForm {
		t.Errorf("01 00: %d, %d, %d", x, c.Left(), c.Err())
	}
	c = pack.From([]byte{1, 7, 5})
	if x := c.Num(6); x != 0 || c.Err() != api.ErrForm {
		t.Errorf("01 07 05 by 6: %d, %d", x, c.Err())
	}
	c = pack.From([]byte{1, 7, 5})
	if x := c.Num(7); x != 7 || c.Left() != 1 || c.Done() != api.ErrForm {
		t.Errorf("01 07 05 by 7: %d, %d, %d", x, c.Left(), c.Err())
	}
	for most, b := range map[int][]byte{9: {1, 2, 'a'}, 1: {1, 2, 'a', 'b'}} {
		c = pack.From(b)
		if x := c.Blob(most); len(x) != 0 || c.Err() != api.ErrForm {
			t.Errorf("%x by %d: %x, %d", b, most, x, c.Err())
		}
	}
}

// P2.2: numbers at the front, by bounds that are kept, the tightest one among them; what is behind stays.
func TestCutNum(t *testing.T) {
	for _, x := range numbers() {
		for _, most := range []uint64{x, x/2 + 1<<63, greatest} {
			c := pack.From(pack.Num(nil, x, 5))
			if got := c.Num(most); got != x || c.Err() != api.OK || c.Left() != 2 || c.Num(5) != 5 || c.Done() != api.OK {
				t.Errorf("%d by %d: %d, %d, %d", x, most, got, c.Err(), c.Left())
			}
		}
	}
}

// refused holds a call against what P2.3 says of one by a fault: nothing is cut off, and nothing can be.
func refused(t *testing.T, name string, b []byte, zero func(c *pack.Cut) bool) {
	t.Helper()
	c := pack.From(b)
	if !zero(c) {
		t.Errorf("%s of %x: not zero", name, b)
	}
	behindFault(t, name, c, len(b))
}

// behindFault holds a Cut with left bytes against what P2.3 says of all calls behind a fault.
func behindFault(t *testing.T, name string, c *pack.Cut, left int) {
	t.Helper()
	for range 2 {
		if c.Err() != api.ErrForm || c.Left() != left {
			t.Errorf("%s: Err %d, Left %d, not %d", name, c.Err(), c.Left(), left)
		}
		if x, b, s, sum := c.Num(greatest), c.Blob(math.MaxInt), c.Text(math.MaxInt), c.Sum(); x != 0 || len(b) != 0 || s != "" || sum != (api.Sum{}) {
			t.Errorf("%s: %d, %x, %q, %x behind a fault", name, x, b, s, sum)
		}
		if c.Done() != api.ErrForm || c.Err() != api.ErrForm || c.Left() != left {
			t.Errorf("%s: Done %d, Left %d, not %d", name, c.Done(), c.Left(), left)
		}
		c.Fail()
	}
}

// wrongNumbers is bytes with no number at their front.
func wrongNumbers() []string {
	return []string{
		"", "01", "02", "02 01", "08", "08 01 02 03 04 05 06 07", "03 ff ff",
		"01 00", "01 00 01", "02 00 00", "02 00 05", "02 00 ff", "03 00 01 01", "08 00 ff ff ff ff ff ff ff", "08 00 00 00 00 00 00 00 01", "01 00 00 00 00",
		"09" + strings.Repeat("00", 9), "09 01 01 01 01 01 01 01 01 01 01", "09", "0a 01 01 01 01 01 01 01 01 01 01", "80" + strings.Repeat("01", 200), "ff" + strings.Repeat("01", 300), "ff",
	}
}

// P2.2, P2.3: bytes with no number at their front, whatever the bound.
func TestNumRefuses(t *testing.T) {
	for _, digits := range wrongNumbers() {
		for _, most := range []uint64{0, 1, 255, 256, greatest} {
			refused(t, "Num", unhex(t, digits), func(c *pack.Cut) bool { return c.Num(most) == 0 })
		}
	}
}

// P2.2, P2.3: a bound that is just not kept.
func TestNumAboveBound(t *testing.T) {
	for _, x := range numbers() {
		if x == 0 {
			continue
		}
		for _, most := range []uint64{0, x / 2, x - 1} {
			refused(t, "Num", pack.Num(nil, x, 1), func(c *pack.Cut) bool { return c.Num(most) == 0 })
		}
	}
}

// P2.2: a first byte of each value, with behind it as many bytes as it asks for, or one fewer.
func TestNumOfEveryFirstByte(t *testing.T) {
	for k := range 256 {
		b := append([]byte{byte(k)}, bytes.Repeat([]byte{1}, k)...)
		c := pack.From(b)
		x := c.Num(greatest)
		if ok := k <= 8; ok != (c.Err() == api.OK) || ok != (c.Left() == 0) || ok != bytes.Equal(pack.Num(nil, x), b) {
			t.Errorf("%d: %d, %d, %d", k, x, c.Err(), c.Left())
		}
		if k > 0 {
			refused(t, "Num", b[:k], func(c *pack.Cut) bool { return c.Num(greatest) == 0 })
		}
	}
}

// bothParts calls do for Blob and for Text, which differ by their answers' type alone.
func bothParts(do func(name string, part func(c *pack.Cut, most int) string)) {
	do("Blob", func(c *pack.Cut, most int) string { return string(c.Blob(most)) })
	do("Text", (*pack.Cut).Text)
}

// P2.2: blobs and texts by bounds that are kept; what is behind stays.
func TestCutParts(t *testing.T) {
	bothParts(func(name string, part func(*pack.Cut, int) string) {
		for _, want := range []string{"", "a", "ab", "\x00", "\xff\x00\x01", strings.Repeat("x", 255), strings.Repeat("y", 256), strings.Repeat("z", 70000)} {
			for _, most := range []int{len(want), len(want) + 1, math.MaxInt} {
				c := pack.From(pack.Num(pack.Text(nil, want), 5))
				if got := part(c, most); got != want || c.Err() != api.OK || c.Left() != 2 || c.Num(5) != 5 || c.Done() != api.OK {
					t.Errorf("%s of %d bytes by %d: %d bytes, %d", name, len(want), most, len(got), c.Err())
				}
			}
		}
	})
}

// P2.2, P2.3: bytes with no blob or text at their front, whatever the bound.
func TestPartsRefuse(t *testing.T) {
	wrong := append(wrongNumbers(),
		"01 01", "01 02 61", "02 01 00"+strings.Repeat("61", 255), "01 ff"+strings.Repeat("61", 254),
		"04 ff ff ff ff 61", "05 01 00 00 00 00 61", "05 01 00 00 00 01 61", "08 7f ff ff ff ff ff ff ff 61", "08 80 00 00 00 00 00 00 00 61", "08 80 00 00 00 00 00 00 01 61", "08 ff ff ff ff ff ff ff ff 61")
	bothParts(func(name string, part func(*pack.Cut, int) string) {
		for _, digits := range wrong {
			for _, most := range []int{math.MinInt, -1, 0, 1, 2, 255, 256, math.MaxInt} {
				refused(t, name, unhex(t, digits), func(c *pack.Cut) bool { return part(c, most) == "" })
			}
		}
	})
}

// P2.2, P2.3: a bound that is just not kept, and one below 0, for which also the empty one is too long.
func TestPartsAboveBound(t *testing.T) {
	bothParts(func(name string, part func(*pack.Cut, int) string) {
		for _, n := range []int{0, 1, 2, 255, 256, 257, 1000} {
			b := pack.Num(pack.Text(nil, strings.Repeat("x", n)), 5)
			for _, most := range []int{n - 1, n/2 - 1, -1, -256, math.MinInt, math.MinInt + n} {
				refused(t, name, b, func(c *pack.Cut) bool { return part(c, most) == "" })
			}
		}
		for _, most := range []int{-1, math.MinInt} {
			refused(t, name, nil, func(c *pack.Cut) bool { return part(c, most) == "" })
		}
	})
}

// P2.2: sums at the front, and what is behind them.
func TestCutSum(t *testing.T) {
	c := pack.From(pack.Num(pack.Sums(nil, sumOf(1), sumOf(9)), 5))
	if a, b := c.Sum(), c.Sum(); a != sumOf(1) || b != sumOf(9) || c.Left() != 2 || c.Num(5) != 5 || c.Done() != api.OK {
		t.Errorf("%x, %x, %d", a, b, c.Err())
	}
	c = pack.From(make([]byte, 32))
	if c.Sum() != (api.Sum{}) || c.Err() != api.OK || c.Done() != api.OK {
		t.Error("a sum of noughts is no fault")
	}
}

// P2.2, P2.3: fewer than 32 bytes.
func TestSumRefuses(t *testing.T) {
	for n := range 32 {
		refused(t, "Sum", bytes.Repeat([]byte{1}, n), func(c *pack.Cut) bool { return c.Sum() == (api.Sum{}) })
	}
}

// P2.2: how many bytes were not cut off, call by call.
func TestLeft(t *testing.T) {
	c := pack.From(pack.Sums(pack.Text(pack.Blob(pack.Num(nil, 256), []byte("abc")), "de"), sumOf(0)))
	for i, do := range []func(){func() {}, func() { c.Num(256) }, func() { c.Blob(3) }, func() { c.Text(2) }, func() { c.Sum() }} {
		do()
		if want := []int{44, 41, 36, 32, 0}[i]; c.Left() != want || c.Err() != api.OK {
			t.Errorf("%d calls: %d, not %d", i, c.Left(), want)
		}
	}
}

// P2.3: Fail is a fault, wherever the Cut has come, also at its end.
func TestFail(t *testing.T) {
	b := pack.Num(nil, 7, 300, 9)
	for n, left := range []int{7, 5, 2, 0} {
		c := pack.From(b)
		for range n {
			c.Num(300)
		}
		if c.Err() != api.OK || c.Left() != left {
			t.Errorf("%d numbers: %d, %d", n, c.Err(), c.Left())
		}
		c.Fail()
		behindFault(t, "Fail", c, left)
	}
}

// P2.3: Done is a fault where bytes are left, and none at the end; what was cut off ahead of it counts as it did.
func TestDone(t *testing.T) {
	c := pack.From(pack.Num(nil, 7, 300))
	c.Num(7)
	if c.Err() != api.OK || c.Done() != api.ErrForm {
		t.Error("three bytes are left")
	}
	behindFault(t, "Done", c, 3)
	c = pack.From(pack.Num(nil, 7, 300))
	c.Num(7)
	c.Num(300)
	for range 3 {
		if c.Done() != api.OK || c.Err() != api.OK || c.Left() != 0 {
			t.Error("nothing is left")
		}
	}
	if c.Num(greatest) != 0 || c.Err() != api.ErrForm || c.Done() != api.ErrForm {
		t.Error("no number is left")
	}
}

// P2.3: the fault is the first one's; no good bytes behind it are read.
func TestFirstFaultStays(t *testing.T) {
	sums := pack.Sums(pack.Num(nil, 7), sumOf(1))
	for name, fault := range map[string]func(c *pack.Cut){
		"Num":  func(c *pack.Cut) { c.Num(6) },
		"Blob": func(c *pack.Cut) { c.Blob(6) },
		"Text": func(c *pack.Cut) { c.Text(-1) },
		"Fail": func(c *pack.Cut) { c.Fail() },
		"Done": func(c *pack.Cut) { c.Done() },
	} {
		c := pack.From(sums)
		fault(c)
		behindFault(t, name, c, len(sums))
	}
	c := pack.From(sums[:20])
	c.Sum()
	behindFault(t, "Sum", c, 20)
}

// R4: a nil Cut is one behind a fault, with no bytes; a zero one has none, and no fault.
func TestNobodysCut(t *testing.T) {
	var none *pack.Cut
	none.Fail()
	behindFault(t, "nil", none, 0)
	for name, c := range map[string]*pack.Cut{"zero": {}, "new": new(pack.Cut), "of nil": pack.From(nil), "of none": pack.From([]byte{})} {
		if c.Left() != 0 || c.Err() != api.OK || c.Done() != api.OK || c.Err() != api.OK {
			t.Errorf("%s: %d, %d", name, c.Left(), c.Err())
		}
		if c.Num(greatest) != 0 || c.Err() != api.ErrForm {
			t.Errorf("%s: a number", name)
		}
		behindFault(t, name, c, 0)
	}
	for name, ask := range map[string]func(c *pack.Cut) bool{
		"Blob": func(c *pack.Cut) bool { return len(c.Blob(9)) == 0 },
		"Text": func(c *pack.Cut) bool { return c.Text(9) == "" },
		"Sum":  func(c *pack.Cut) bool { return c.Sum() == api.Sum{} },
	} {
		var c pack.Cut
		if !ask(&c) {
			t.Errorf("%s of a zero Cut", name)
		}
		behindFault(t, name, &c, 0)
	}
}

// roomy is s's bytes, with room behind their end.
func roomy(s string) []byte { return append(make([]byte, 0, len(s)+100), s...) }

// P2.4, R3: what is handed in stays, and the room behind its end too.
func TestHandedInStays(t *testing.T) {
	b, part := roomy("\x01\x02ab"), roomy("xyz")
	l, blobs, texts, sums := []uint64{1, 300}, [][]byte{part, nil}, []string{"q", ""}, []api.Sum{sumOf(4)}
	pack.Num(b, l...)
	pack.Blob(b, blobs...)
	pack.Text(b, texts...)
	pack.Sums(b, sums...)
	c := pack.From(b)
	clear(c.Blob(9))
	c.Done()
	for _, kept := range [][]byte{b, part} {
		if whole := kept[:cap(kept)]; !bytes.Equal(whole[len(kept):], make([]byte, cap(kept)-len(kept))) {
			t.Errorf("the room behind %q is used", kept)
		}
	}
	if string(b) != "\x01\x02ab" || string(part) != "xyz" || l[0] != 1 || l[1] != 300 || &blobs[0][0] != &part[0] || blobs[1] != nil || texts[0] != "q" || sums[0] != sumOf(4) {
		t.Error("something that was handed in is changed")
	}
}

// P2.4: what is answered shares nothing with what was handed in, nor with what is answered later.
func TestWritesAreNewMemory(t *testing.T) {
	part := []byte("xyz")
	for name, write := range map[string]func(b []byte) []byte{
		"Num":      func(b []byte) []byte { return pack.Num(b, 5) },
		"Blob":     func(b []byte) []byte { return pack.Blob(b, part) },
		"Text":     func(b []byte) []byte { return pack.Text(b, "xyz") },
		"Sums":     func(b []byte) []byte { return pack.Sums(b, sumOf(4)) },
		"Num of 0": func(b []byte) []byte { return pack.Num(b) },
		"no blob":  func(b []byte) []byte { return pack.Blob(b) },
		"no text":  func(b []byte) []byte { return pack.Text(b) },
		"no sum":   func(b []byte) []byte { return pack.Sums(b) },
	} {
		b := roomy("ab")
		first, second := write(b), write(b)
		want := bytes.Clone(first)
		clear(second[:cap(second)])
		clear(b[:cap(b)])
		if !bytes.Equal(first, want) {
			t.Errorf("%s: the answer is shared", name)
		}
		clear(first)
		if string(part) != "xyz" {
			t.Errorf("%s: the part is shared", name)
		}
	}
}

// P2.4: a Cut does not see what its bytes become later, nor what is done with its answers.
func TestCutIsNewMemory(t *testing.T) {
	b := pack.Text(pack.Blob(nil, []byte("ab"), []byte("cd"), []byte("ef")), "gh")
	c := pack.From(b)
	first := c.Blob(9)
	clear(b)
	second := c.Blob(9)
	for i := range first[:cap(first)] {
		first[:cap(first)][i] = 'x'
	}
	_ = append(second, "xxxxxxxxxxxxxxxx"...)
	if string(second) != "cd" || string(c.Blob(9)) != "ef" || c.Text(9) != "gh" || c.Done() != api.OK {
		t.Error("a Cut's bytes are shared")
	}
}

// P2.4: also the bytes that a Cut and its copy answer are each one's own.
func TestAnswersOfCopies(t *testing.T) {
	c := pack.From(pack.Blob(nil, []byte("ab")))
	d := *c
	clear(c.Blob(9))
	if got := d.Blob(9); string(got) != "ab" {
		t.Errorf("%q", got)
	}
}

// P2.4: two Cuts of the same bytes know nothing of each other.
func TestCutsAreApart(t *testing.T) {
	b := pack.Num(nil, 1, 2)
	c, d := pack.From(b), pack.From(b)
	c.Num(9)
	d.Fail()
	if c.Num(9) != 2 || c.Done() != api.OK || d.Left() != 4 {
		t.Error("one Cut's work is another one's")
	}
}

// thing is something that was written, told by its kind.
type thing struct {
	kind int
	num  uint64
	part string
	sum  api.Sum
}

func randomThing(r *rand.Rand) thing {
	x := thing{kind: r.Intn(4), num: r.Uint64() >> r.Intn(65)}
	part := make([]byte, []int{0, 1, 2, 7, 255, 256}[r.Intn(6)])
	r.Read(part)
	x.part = string(part)
	r.Read(x.sum[:])
	return x
}

func (x thing) write(b []byte) []byte {
	switch x.kind {
	case 0:
		return pack.Num(b, x.num)
	case 1:
		return pack.Blob(b, []byte(x.part))
	case 2:
		return pack.Text(b, x.part)
	}
	return pack.Sums(b, x.sum)
}

// isNext cuts the thing off by its tightest bound.
func (x thing) isNext(c *pack.Cut) bool {
	switch x.kind {
	case 0:
		return c.Num(x.num) == x.num
	case 1:
		return string(c.Blob(len(x.part))) == x.part
	case 2:
		return c.Text(len(x.part)) == x.part
	}
	return c.Sum() == x.sum
}

// P2.5: rows of things are cut off as they were written.
func TestThereAndBack(t *testing.T) {
	r := rand.New(rand.NewSource(25))
	for range 2000 {
		var l []thing
		var b []byte
		for range r.Intn(9) {
			l = append(l, randomThing(r))
			b = l[len(l)-1].write(b)
		}
		c := pack.From(b)
		for i, x := range l {
			if !x.isNext(c) || c.Err() != api.OK {
				t.Fatalf("%+v, %d of %d", x, i, len(l))
			}
		}
		if c.Done() != api.OK {
			t.Fatalf("%d bytes are left of %x", c.Left(), b)
		}
	}
}

// oneForm cuts off what the choices say, and holds what came against the bytes that went.
func oneForm(t *testing.T, b []byte, choices []byte) {
	c := pack.From(b)
	var back []byte
	for _, choice := range choices {
		x := thing{kind: int(choice % 4)}
		switch x.kind {
		case 0:
			x.num = c.Num(greatest)
		case 1:
			x.part = string(c.Blob(math.MaxInt))
		case 2:
			x.part = c.Text(math.MaxInt)
		case 3:
			x.sum = c.Sum()
		}
		if c.Err() != api.OK {
			break
		}
		back = x.write(back)
	}
	if gone := b[:len(b)-c.Left()]; !bytes.Equal(back, gone) {
		t.Fatalf("%x by %x: %x, not %x", b, choices, back, gone)
	}
}

// P2.6: of all short bytes, and of many longer ones.
func TestOneForm(t *testing.T) {
	for first := range 10 {
		for second := range 256 {
			for third := range 3 {
				for kind := range byte(3) {
					oneForm(t, []byte{byte(first), byte(second), byte(third)}, []byte{kind, kind, kind})
				}
			}
		}
	}
	r := rand.New(rand.NewSource(26))
	for range 20000 {
		b := make([]byte, r.Intn(80))
		for i := range b {
			b[i] = byte(r.Intn(1 + r.Intn(12)))
		}
		choices := make([]byte, 8)
		r.Read(choices)
		oneForm(t, b, choices)
	}
}

// P2.6, told by the bytes: of all bytes up to some length no two are one number.
func TestNoTwoForms(t *testing.T) {
	seen := map[uint64]string{}
	for a := range 256 {
		for b := range 256 {
			for n := 1; n <= 3; n++ {
				whole := []byte{byte(n - 1), byte(a), byte(b)}[:n]
				c := pack.From(whole)
				x := c.Num(greatest)
				if c.Done() != api.OK {
					continue
				}
				if was, ok := seen[x]; ok && was != string(whole) {
					t.Errorf("%d is %x and %x", x, was, whole)
				}
				seen[x] = string(whole)
			}
		}
	}
	if len(seen) != 65536 {
		t.Errorf("%d numbers have up to two bytes", len(seen))
	}
}

// P2.7: of all pairs of numbers at the edges, and of neighbours.
func TestRising(t *testing.T) {
	rising := func(x, y uint64) {
		a, b := pack.Num(nil, x), pack.Num(nil, y)
		if x < y && (bytes.Compare(a, b) >= 0 || bytes.HasPrefix(a, b) || bytes.HasPrefix(b, a)) {
			t.Errorf("%d: %x, %d: %x", x, a, y, b)
		}
	}
	for _, x := range numbers() {
		for _, y := range numbers() {
			rising(x, y)
		}
	}
	for x := range uint64(70000) {
		rising(x, x+1)
	}
}

// P2.8: how many bytes a number has.
func TestShort(t *testing.T) {
	for _, x := range numbers() {
		want := 1
		for rest := x; rest > 0; rest >>= 8 {
			want++
		}
		if n := len(pack.Num(nil, x)); n != want || n > 9 {
			t.Errorf("%d: %d bytes, not %d", x, n, want)
		}
	}
}
