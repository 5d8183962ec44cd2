package seal_test

import (
	"bytes"
	"crypto/sha256"
	"math"
	"math/rand"
	"slices"
	"strings"
	"testing"

	"incipit/api"
	"incipit/pack"
	"incipit/seal"
)

// blobs is texts as parts.
func blobs(texts ...string) [][]byte {
	var l [][]byte
	for _, text := range texts {
		l = append(l, []byte(text))
	}
	return l
}

// preimage writes a preimage out by the chapter's words, for parts of fewer than 65536 bytes.
func preimage(kind byte, parts ...[]byte) []byte {
	b := []byte{kind}
	for _, part := range parts {
		switch n := len(part); {
		case n == 0:
			b = append(b, 0)
		case n < 256:
			b = append(b, 1, byte(n))
		default:
			b = append(b, 2, byte(n>>8), byte(n))
		}
		b = append(b, part...)
	}
	return b
}

// lowest is the lowest eight bits of a kind.
func lowest(kind int) byte { return byte((kind%256 + 256) % 256) }

func kinds() []int {
	return []int{api.SealRow, api.SealNode, api.SealChunk, api.SealPair, api.SealRoot, api.SealHead, api.SealDeeds, api.SealStops, 0, 9, 127, 128, 255, 256, 258, 511, 512, -1, -2, -255, -256, -257, 1 << 40, math.MaxInt32, math.MinInt32, math.MaxInt, math.MinInt}
}

// rows is rows of parts, with lengths at the edges of a number's bytes and of a hash's blocks among them.
func rows() [][][]byte {
	l := [][][]byte{nil, {}, {nil}, {{}}, {nil, nil}, blobs("a"), blobs("a", ""), blobs("", "a"), blobs("a", "b"), blobs("ab"), blobs("\x00"), blobs("\x01\x01a"), blobs("a", "\x01\x01b", "\xff")}
	for _, n := range []int{51, 52, 53, 54, 60, 61, 62, 63, 64, 254, 255, 256, 257, 1000, 65535} {
		l = append(l, blobs(strings.Repeat("x", n)), blobs("y", strings.Repeat("z", n), ""))
	}
	return append(l, blobs(strings.Split(strings.Repeat("a,,bc,", 100), ",")...))
}

// same tells whether two lists have the same bytes in the same order.
func same(a, b [][]byte) bool { return slices.EqualFunc(a, b, bytes.Equal) }

// holds holds a book against how often it has hashed, and its notes' bytes in order.
func holds(t *testing.T, name string, k *seal.Book, calls int, all ...string) {
	t.Helper()
	if k.Calls() != calls || !same(k.All(), blobs(all...)) {
		t.Errorf("%s: Calls %d, not %d; All %q, not %q", name, k.Calls(), calls, k.All(), all)
	}
}

// finds holds what a book finds for a sum against bytes that were noted.
func finds(t *testing.T, name string, k *seal.Book, s api.Sum, want string) {
	t.Helper()
	if b, there := k.Find(s); string(b) != want || !there {
		t.Errorf("%s: Find %q, %v, not %q", name, b, there, want)
	}
}

// findsNone holds that a book finds nothing for a sum.
func findsNone(t *testing.T, name string, k *seal.Book, s api.Sum) {
	t.Helper()
	if b, there := k.Find(s); len(b) != 0 || there {
		t.Errorf("%s: Find %q, %v, not none", name, b, there)
	}
}

// clashes holds what Clash answers of books against two bytes.
func clashes(t *testing.T, name, a, b string, l ...*seal.Book) {
	t.Helper()
	if x, y, found := seal.Clash(l...); string(x) != a || string(y) != b || !found {
		t.Errorf("%s: Clash %q, %q, %v, not %q, %q", name, x, y, found, a, b)
	}
}

// agree holds that books have no clash.
func agree(t *testing.T, name string, l ...*seal.Book) {
	t.Helper()
	if x, y, found := seal.Clash(l...); len(x) != 0 || len(y) != 0 || found {
		t.Errorf("%s: Clash %q, %q, %v, not none", name, x, y, found)
	}
}

// P3.1 to P3.4, the chapter's rows.
func TestExamples(t *testing.T) {
	if b := seal.Preimage(2, nil, []byte("ab")); !bytes.Equal(b, []byte{2, 0, 1, 2, 0x61, 0x62}) {
		t.Errorf("Preimage: %x", b)
	}
	k := &seal.Book{}
	if k.Of(1, []byte("a")) != k.Of(1, []byte("a")) {
		t.Error("Of twice: unlike sums")
	}
	holds(t, "Of twice", k, 2, "\x01\x01\x01a")
	k, s := &seal.Book{}, api.Sum{9}
	k.Note(s, []byte("a"))
	k.Note(s, []byte("b"))
	k.Note(s, []byte("a"))
	finds(t, "noted thrice", k, s, "a")
	clashes(t, "noted thrice", "a", "b", k)
	holds(t, "noted thrice", k, 0, "a", "b")
}

// P3.1: every kind, by its lowest eight bits, and parts of all lengths.
func TestPreimage(t *testing.T) {
	for _, kind := range kinds() {
		for _, parts := range rows() {
			if b, want := seal.Preimage(kind, parts...), preimage(lowest(kind), parts...); !bytes.Equal(b, want) {
				t.Errorf("%d of %.40q: %.40x, not %.40x", kind, parts, b, want)
			}
		}
	}
	for want, kind := range map[string]int{"\x00": 0, "\x02": 258, "\xff": -1, "\x01": -255, "\x80": math.MinInt + 128} {
		if b := seal.Preimage(kind); string(b) != want {
			t.Errorf("%d: %x", kind, b)
		}
	}
}

// P3.2: sums, and the note of each; by a nil book the same sums.
func TestOf(t *testing.T) {
	var none *seal.Book
	for _, kind := range kinds() {
		for _, parts := range rows() {
			b := preimage(lowest(kind), parts...)
			want := sha256.Sum256(b)
			k := &seal.Book{}
			if s := k.Of(kind, parts...); s != want || none.Of(kind, parts...) != want {
				t.Errorf("%d of %.40q: %x, not %x", kind, parts, s, want)
			}
			holds(t, "one preimage", k, 1, string(b))
			finds(t, "one preimage", k, want, string(b))
		}
	}
}

// P3.2: what hashes is counted, also where nothing new is noted; Note does not hash.
func TestCalls(t *testing.T) {
	k := &seal.Book{}
	holds(t, "new", k, 0)
	s := k.Of(3, []byte("a"))
	k.Of(4, []byte("a"))
	k.Of(3, []byte("a"))
	k.Of(259, []byte("a"))
	holds(t, "hashed", k, 4, "\x03\x01\x01a", "\x04\x01\x01a")
	k.Note(s, []byte("\x03\x01\x01a"))
	k.Note(s, []byte("x"))
	k.Note(api.Sum{}, nil)
	holds(t, "noted", k, 4, "\x03\x01\x01a", "\x04\x01\x01a", "x", "")
	k.Find(s)
	k.All()
	seal.Clash(k, k)
	seal.Preimage(3, []byte("a"))
	holds(t, "asked", k, 4, "\x03\x01\x01a", "\x04\x01\x01a", "x", "")
	if k.Of(3, []byte("a")) != s || k.Calls() != 5 {
		t.Errorf("hashed once more: Calls %d", k.Calls())
	}
}

// P3.2: bytes that were noted ahead for the sum of a preimage, like it or not.
func TestNoteAheadOfOf(t *testing.T) {
	s := api.Sum(sha256.Sum256([]byte("\x05\x01\x01a")))
	k := &seal.Book{}
	k.Note(s, []byte("\x05\x01\x01a"))
	holds(t, "noted", k, 0, "\x05\x01\x01a")
	k.Of(5, []byte("a"))
	holds(t, "the same pair", k, 1, "\x05\x01\x01a")
	agree(t, "the same pair", k)

	k = &seal.Book{}
	k.Note(s, []byte("other"))
	k.Of(5, []byte("a"))
	holds(t, "another pair", k, 1, "other", "\x05\x01\x01a")
	finds(t, "another pair", k, s, "other")
	clashes(t, "another pair", "other", "\x05\x01\x01a", k)
}

// P3.2, P3.3: one sum with several bytes, one text for several sums, no bytes, the sum of noughts.
func TestPairsOnce(t *testing.T) {
	k := &seal.Book{}
	r, s := api.Sum{0: 1}, api.Sum{31: 1}
	for range 3 {
		k.Note(s, []byte("b"))
		k.Note(r, []byte("b"))
		k.Note(s, nil)
		k.Note(api.Sum{}, []byte{})
		k.Note(s, []byte("a"))
		k.Note(s, []byte{})
		k.Note(api.Sum{}, []byte("c"))
	}
	holds(t, "thrice", k, 0, "b", "b", "", "", "a", "c")
	finds(t, "several bytes", k, s, "b")
	finds(t, "one text", k, r, "b")
	finds(t, "no bytes", k, api.Sum{}, "")
	findsNone(t, "no note", k, api.Sum{0: 1, 31: 1})
}

// P3.3: nothing was noted.
func TestFindNone(t *testing.T) {
	k := &seal.Book{}
	findsNone(t, "an empty book", k, api.Sum{})
	s := k.Of(api.SealRow)
	findsNone(t, "the sum of noughts", k, api.Sum{})
	for i := range s {
		other := s
		other[i] ^= 1
		findsNone(t, "one bit changed", k, other)
	}
	finds(t, "the sum", k, s, "\x01")
}

// P3.3: a zero book that is a value, and asked ahead of its first note.
func TestZeroBook(t *testing.T) {
	var k seal.Book
	findsNone(t, "zero", &k, api.Sum{})
	holds(t, "zero", &k, 0)
	agree(t, "zero", &k, &k)
	k.Note(api.Sum{1}, []byte("a"))
	holds(t, "with a note", &k, 0, "a")
}

// P3.2 to P3.4: a nil book takes no note, does not count, and has nothing.
func TestNilBook(t *testing.T) {
	var k *seal.Book
	for range 2 {
		s := k.Of(1, []byte("a"))
		k.Note(s, []byte("b"))
		k.Note(api.Sum{}, nil)
		holds(t, "nil", k, 0)
		findsNone(t, "nil", k, s)
		findsNone(t, "nil", k, api.Sum{})
		agree(t, "nil", k, nil, k)
	}
}

// R1: a copy of a book, and the book, are used without a panic, and notes of before the copy stay.
func TestCopiedBook(t *testing.T) {
	k := &seal.Book{}
	k.Note(api.Sum{1}, []byte("a"))
	other := *k
	for i := range 100 {
		other.Note(api.Sum{2, byte(i)}, []byte("b"))
		k.Note(api.Sum{3, byte(i)}, []byte("c"))
		for _, book := range []*seal.Book{k, &other} {
			book.Find(api.Sum{2, byte(i)})
			book.Find(api.Sum{3, byte(i)})
			finds(t, "copied", book, api.Sum{1}, "a")
			agree(t, "copied", book)
		}
	}
	agree(t, "copied", k, &other)
}

// bookOf is a book with notes: each a text whose first byte tells the sum, and the rest the bytes.
func bookOf(texts ...string) *seal.Book {
	k := &seal.Book{}
	for _, text := range texts {
		k.Note(api.Sum{text[0]}, []byte(text[1:]))
	}
	return k
}

// P3.4: which notes clash, by the books' order and the notes' order.
func TestClash(t *testing.T) {
	clashes(t, "in one book", "x", "y", bookOf("1x", "2x", "1y", "2y"))
	clashes(t, "by the second one", "y", "w", bookOf("1x", "2y", "2w", "1z"))
	clashes(t, "in two books", "x", "y", bookOf("1x"), bookOf("1y"))
	clashes(t, "in two books, turned", "y", "x", bookOf("1y"), bookOf("1x"))
	clashes(t, "the second book's first", "b", "B", bookOf("1a", "2b", "3c"), bookOf("3c", "2B", "1A"))
	clashes(t, "the first book goes ahead", "c", "C", bookOf("1a", "3c", "3C"), bookOf("1A"))
	clashes(t, "the book between is silent", "a", "A", bookOf("1a"), bookOf("2b"), nil, &seal.Book{}, bookOf("2b", "1a", "1A"))
	clashes(t, "three bytes of one sum", "x", "y", bookOf("1x"), bookOf("1x"), bookOf("1y", "1z"))
	clashes(t, "none against some", "", "x", bookOf("1"), bookOf("1x"))
	clashes(t, "some against none", "x", "", bookOf("1x"), bookOf("1"))
	clashes(t, "a beginning", "x", "xy", bookOf("1x", "1xy"))
	clashes(t, "noughts", "\x00", "\x00\x00", bookOf("1\x00"), bookOf("1\x00\x00"))
	k := bookOf("1x", "1y")
	clashes(t, "a book twice", "x", "y", k, k)
}

// P3.4, P3.7: where each sum has the same bytes there is no clash.
func TestNoClash(t *testing.T) {
	agree(t, "no books")
	agree(t, "nil books", nil, nil)
	agree(t, "empty books", &seal.Book{}, nil, &seal.Book{})
	agree(t, "one note", bookOf("1x"))
	agree(t, "one text of two sums", bookOf("1x", "2x"), bookOf("3x"))
	agree(t, "the same notes", bookOf("1x", "2y", "3"), bookOf("3", "2y", "1x"), bookOf("2y"))
	agree(t, "one sum without bytes", bookOf("1"), bookOf("1"))
	k := bookOf("1x", "2y")
	agree(t, "a book thrice", k, k, nil, k)
	honest, other := &seal.Book{}, &seal.Book{}
	for _, parts := range rows() {
		honest.Of(1, parts...)
		other.Of(1, parts...)
		other.Of(2, parts...)
	}
	agree(t, "what was hashed", honest, other, honest)
}

// P3.4: Clash leaves the books as they are.
func TestClashChangesNothing(t *testing.T) {
	a, b := bookOf("1x", "2y"), bookOf("2y", "1z")
	a.Of(1)
	for range 3 {
		clashes(t, "again", "x", "z", a, b)
		clashes(t, "turned", "z", "x", b, a)
		holds(t, "a", a, 1, "x", "y", "\x01")
		holds(t, "b", b, 0, "y", "z")
		agree(t, "a alone", a)
	}
}

// P3.5: what is handed in stays, and the room behind its end; it is not kept.
func TestHandedInIsNotKept(t *testing.T) {
	room := []byte("abcdefgh")
	part := room[2:4]
	parts := [][]byte{part, nil, part}[:2]
	k := &seal.Book{}
	b := seal.Preimage(1, parts...)
	s := k.Of(1, parts...)
	k.Note(api.Sum{1}, part)
	if string(room) != "abcdefgh" || len(parts) != 2 || string(parts[:3][2]) != "cd" || parts[1] != nil {
		t.Errorf("changed: %q, %q", room, parts[:3])
	}
	copy(room, "ABCDEFGH")
	parts[0] = []byte("zz")
	if want := "\x01\x01\x02cd\x00"; string(b) != want {
		t.Errorf("Preimage has kept what it was handed: %q", b)
	} else {
		holds(t, "kept", k, 1, want, "cd")
		finds(t, "kept", k, s, want)
	}
	finds(t, "kept", k, api.Sum{1}, "cd")
	clashes(t, "kept", "cd", "CD", k, bookOf("\x01CD"))
}

// P3.5: what is answered is the caller's, with the room behind it, and is answered anew.
func TestAnswersAreNew(t *testing.T) {
	spoil := func(l ...[]byte) {
		for _, b := range l {
			b = b[:cap(b)]
			for i := range b {
				b[i] = '!'
			}
		}
	}
	k := bookOf("1one", "2two", "1three")
	for range 2 {
		found, _ := k.Find(api.Sum{'1'})
		all := k.All()
		a, b, _ := seal.Clash(k)
		spoil(found)
		if string(a) != "one" || string(b) != "three" || !same(all, blobs("one", "two", "three")) {
			t.Errorf("answers that share memory: %q, %q, %q", a, b, all)
		}
		spoil(a)
		if string(b) != "three" || string(all[0]) != "one" {
			t.Errorf("a and others share memory: %q, %q", b, all)
		}
		spoil(b)
		spoil(all[0])
		if string(all[1]) != "two" || string(all[2]) != "three" {
			t.Errorf("All's bytes share memory: %q", all)
		}
		spoil(all...)
		all[1] = nil
	}
	holds(t, "spoilt", k, 0, "one", "two", "three")
	finds(t, "spoilt", k, api.Sum{'1'}, "one")
	clashes(t, "spoilt", "one", "three", k)
	x, y := seal.Preimage(1, []byte("a")), seal.Preimage(1, []byte("a"))
	spoil(x)
	if string(y) != "\x01\x01\x01a" {
		t.Errorf("Preimages share memory: %q", y)
	}
}

// P3.6: all rows of few short parts, of some kinds, have preimages of their own.
func TestToldApart(t *testing.T) {
	texts := []string{"", "a", "\x00", "\x01", "\x00\x00", "\x01\x01", "\x01\x01a", "\x00\x01\x01a", strings.Repeat("a", 256)}
	var l [][][]byte
	for _, row := range [][]string{nil, {""}, {"", ""}, {"", "", "", ""}} {
		l = append(l, blobs(row...))
	}
	for _, x := range texts[1:] {
		l = append(l, blobs(x))
	}
	for i, x := range texts {
		for j, y := range texts {
			if i+j > 0 {
				l = append(l, blobs(x, y))
			}
			for _, z := range texts {
				l = append(l, blobs(x, y, z))
			}
		}
	}
	by := map[string]int{}
	for _, kind := range []int{0, 1, 2, 97, 255} {
		for i, parts := range l {
			b := string(seal.Preimage(kind, parts...))
			if other, there := by[b]; there {
				t.Errorf("%d of %q, and %d of %q: %x", kind, parts, other/len(l), l[other%len(l)], b)
			}
			by[b] = kind*len(l) + i
		}
	}
}

// P3.6: a preimage is taken apart into its kind and its parts.
func TestTakenApart(t *testing.T) {
	for kind := range 256 {
		for _, parts := range rows() {
			b := seal.Preimage(kind, parts...)
			var got [][]byte
			c := pack.From(b[1:])
			for c.Left() > 0 && c.Err() == api.OK {
				got = append(got, c.Blob(len(b)))
			}
			if int(b[0]) != kind || c.Done() != api.OK || !same(got, parts) {
				t.Errorf("%d of %.40q: %d, %.40q", kind, parts, b[0], got)
			}
		}
	}
}

// modelNote, model: a book as the chapter tells it, and its calls gone through one by one.
type modelNote struct {
	sum  api.Sum
	text string
}

type model struct {
	list  []modelNote
	calls int
}

func (m *model) note(s api.Sum, text string) {
	if !slices.Contains(m.list, modelNote{s, text}) {
		m.list = append(m.list, modelNote{s, text})
	}
}

func (m *model) texts() []string {
	var l []string
	for _, n := range m.list {
		l = append(l, n.text)
	}
	return l
}

// clash is what P3.4 says, by each pair of notes.
func clash(l ...*model) (a, b string, found bool) {
	var all []modelNote
	for _, m := range l {
		all = append(all, m.list...)
	}
	for i, n := range all {
		against := func(x modelNote) bool { return x.sum == n.sum && x.text != n.text }
		if slices.ContainsFunc(all[:i], against) {
			first := slices.IndexFunc(all, func(x modelNote) bool { return x.sum == n.sum })
			return all[first].text, n.text, true
		}
	}
	return "", "", false
}

// oneCall does one call on a book and its model.
func oneCall(r *rand.Rand, k *seal.Book, m *model, sums []api.Sum) {
	text := []string{"", "a", "b", "ab"}[r.Intn(4)]
	if r.Intn(3) > 0 {
		s := sums[r.Intn(len(sums))]
		k.Note(s, []byte(text))
		m.note(s, text)
		return
	}
	b := string(preimage(1, []byte(text)))
	k.Of(1, []byte(text))
	m.note(sha256.Sum256([]byte(b)), b)
	m.calls++
}

// P3.2 to P3.4, P3.7: books of many calls are as the chapter tells them, and so is what clashes among them.
func TestAgainstModel(t *testing.T) {
	r := rand.New(rand.NewSource(3))
	sums := []api.Sum{{}, {1}, {2}, {31: 1}, sha256.Sum256([]byte("\x01\x01\x01a"))}
	found := 0
	for range 2000 {
		var books []*seal.Book
		var models []*model
		for range 1 + r.Intn(4) {
			k, m := &seal.Book{}, &model{}
			for range r.Intn(6) {
				oneCall(r, k, m, sums[:1+r.Intn(len(sums))])
			}
			holds(t, "a book", k, m.calls, m.texts()...)
			for _, s := range sums {
				if at := slices.IndexFunc(m.list, func(n modelNote) bool { return n.sum == s }); at < 0 {
					findsNone(t, "a book", k, s)
				} else {
					finds(t, "a book", k, s, m.list[at].text)
				}
			}
			books, models = append(books, k), append(models, m)
		}
		if a, b, there := clash(models...); there {
			clashes(t, "books", a, b, books...)
			found++
		} else {
			agree(t, "books", books...)
		}
	}
	if found < 200 || found > 1800 {
		t.Errorf("%d clashes: one side is hardly looked at", found)
	}
}

// P3.2 to P3.4: a book of very many notes, in order, and found.
func TestManyNotes(t *testing.T) {
	const n = 50000
	k, other := &seal.Book{}, &seal.Book{}
	var want [][]byte
	for i := range n {
		part := pack.Num(nil, uint64(i))
		k.Of(2, part)
		other.Of(2, pack.Num(nil, uint64(n-1-i)))
		want = append(want, preimage(2, part))
	}
	if k.Calls() != n || !same(k.All(), want) {
		t.Errorf("Calls %d, All %d", k.Calls(), len(k.All()))
	}
	for _, b := range want {
		finds(t, "many", k, sha256.Sum256(b), string(b))
	}
	agree(t, "many", k, other)
	other.Note(sha256.Sum256(want[n-1]), []byte("x"))
	clashes(t, "many", string(want[n-1]), "x", k, other)
}
