package sha_test

import (
	"bytes"
	"crypto/sha256"
	"strings"
	"testing"

	"incipit/api"
	"incipit/sha"
)

const (
	sumOfNothing = "e3b0c44298fc1c149afbf4c8996fb92427ae41e4649b934ca495991b7852b855"
	sumOfAbc     = "ba7816bf8f01cfea414140de5dae2223b00361a396177a9cb410ff61f20015ad"
)

// message is n bytes of which no two neighbours, and no two blocks, are alike.
func message(n int) []byte {
	b := make([]byte, n)
	for i := range b {
		b[i] = byte(i*7 + i/64*31 + 3)
	}
	return b
}

// P1.1, the chapter's examples.
func TestSumExamples(t *testing.T) {
	for _, c := range []struct {
		parts []string
		want  string
	}{
		{nil, sumOfNothing},
		{[]string{"a", "bc"}, sumOfAbc},
		{[]string{"abcdbcdecdefdefgefghfghighijhijkijkljklmklmnlmnomnopnopq"}, "248d6a61d20638b8e5c026930c3e6039a33ce45964ff2167f6ecedd419db06c1"},
	} {
		var parts [][]byte
		for _, p := range c.parts {
			parts = append(parts, []byte(p))
		}
		if got := sha.Print(sha.Sum(parts...)); got != c.want {
			t.Errorf("%q: %s, not %s", c.parts, got, c.want)
		}
	}
}

// P1.1: no parts, and parts that are empty, are all the same nothing.
func TestSumOfNothing(t *testing.T) {
	for _, parts := range [][][]byte{nil, {}, {nil}, {{}}, {nil, {}, nil}} {
		if got := sha.Print(sha.Sum(parts...)); got != sumOfNothing {
			t.Errorf("%v: %s", parts, got)
		}
	}
}

// P1.1: every length up to some blocks: so all that fill one, or just leave room for the length, or just do not, and one less or more.
func TestSumOfEveryLength(t *testing.T) {
	for n := range 5*64 + 2 {
		b := message(n)
		if got, want := sha.Sum(b), sha256.Sum256(b); got != want {
			t.Errorf("%d bytes: %s, not %s", n, sha.Print(got), sha.Print(want))
		}
	}
}

// P1.1: the edges of a block, by sums that were written down.
func TestSumAtEdges(t *testing.T) {
	for n, want := range map[int]string{
		55:  "9f4390f8d30c2dd92ec9f095b65e2b9ae9b0a925a5258e241c9f1e910f734318",
		56:  "b35439a4ac6f0948b6d6f9e3c6af0f5f590ce20f1bde7090ef7970686ec6738a",
		63:  "7d3e74a05d7db15bce4ad9ec0658ea98e3f06eeecf16b4c6fff2da457ddc2f34",
		64:  "ffe054fe7ae0cb6dc65c3af9b61d5209f439851db43d0ba5997337df154668eb",
		65:  "635361c48bb9eab14198e76ea8ab7f1a41685d6ad62aa9146d301d4f17eb0ae0",
		119: "31eba51c313a5c08226adf18d4a359cfdfd8d2e816b13f4af952f7ea6584dcfb",
		120: "2f3d335432c70b580af0e8e1b3674a7c020d683aa5f73aaaedfdc55af904c21c",

		1000000: "cdc76e5c9914fb9281a1c7e284d73e67f1809a48a497200e046d39ccc7112cd0",
	} {
		if got := sha.Print(sha.Sum(bytes.Repeat([]byte("a"), n))); got != want {
			t.Errorf("%d times a: %s, not %s", n, got, want)
		}
	}
}

// P1.1: all of a byte's values come into the sum as they are.
func TestSumOfEveryByte(t *testing.T) {
	for v := range 256 {
		b := bytes.Repeat([]byte{byte(v)}, 70)
		if sha.Sum(b) != sha256.Sum256(b) {
			t.Errorf("70 times %d", v)
		}
	}
}

// P1.1: the length is that of all parts, also where it needs more than two bytes of its eight.
func TestSumOfManyBytes(t *testing.T) {
	b := message(1 << 22)
	if sha.Sum(b) != sha256.Sum256(b) || sha.Sum(b, b, []byte("x")) != sha256.Sum256(append(append(bytes.Clone(b), b...), 'x')) {
		t.Error("4 MiB, and twice of them")
	}
}

// P1.2: which digits, in which order.
func TestPrint(t *testing.T) {
	var s api.Sum
	for i := range s {
		s[i] = byte(i*8 + 1)
	}
	const want = "0109111921293139414951596169717981899199a1a9b1b9c1c9d1d9e1e9f1f9"
	if got := sha.Print(s); got != want {
		t.Errorf("%s, not %s", got, want)
	}
	if got := sha.Print(api.Sum{0: 0x0f, 1: 0xf0, 2: 0xab, 31: 0xcd}); got != "0ff0ab"+strings.Repeat("0", 56)+"cd" {
		t.Error(got)
	}
}

// P1.2: what is read.
func TestRead(t *testing.T) {
	for text, want := range map[string]api.Sum{
		strings.Repeat("0", 64):                      {},
		"10" + strings.Repeat("0", 62):               {0: 16},
		strings.Repeat("0", 62) + "0f":               {31: 15},
		"0123456789abcdef" + strings.Repeat("0", 48): {0x01, 0x23, 0x45, 0x67, 0x89, 0xab, 0xcd, 0xef},
	} {
		if got, ok := sha.Read(text); !ok || got != want {
			t.Errorf("%s: %v, %v", text, got, ok)
		}
	}
}

// P1.2: digits that are no sum's, with all zero beside the false.
func TestReadRefuses(t *testing.T) {
	good := strings.Repeat("9f", 32)
	wrong := []string{
		"", "9", good[:62], good[:63], good + "0", good + "00", good + good, " " + good, good + "\n", "0x" + good, "0x" + good[2:],
		strings.Repeat("9F", 32), good[:63] + "F", "A" + strings.Repeat("0", 63),
		strings.Repeat("é", 32), strings.Repeat("٣", 32), strings.Repeat("０", 22)[:64],
	}
	for _, text := range wrong {
		refuse(t, text)
	}
}

// P1.2: whatever is no digit, wherever it stands.
func TestReadRefusesEveryWrongDigit(t *testing.T) {
	for at := range 64 {
		for v := range 256 {
			text := []byte(strings.Repeat("9f", 32))
			text[at] = byte(v)
			if strings.IndexByte("0123456789abcdef", byte(v)) >= 0 {
				if _, ok := sha.Read(string(text)); !ok {
					t.Errorf("%q: refused", text)
				}
				continue
			}
			refuse(t, string(text))
		}
	}
}

func refuse(t *testing.T, text string) {
	t.Helper()
	if got, ok := sha.Read(text); ok || got != (api.Sum{}) {
		t.Errorf("%q: %v, %v", text, got, ok)
	}
}

// P1.3: bytes come, sums and lengths are told between them, and telling changes nothing.
func TestHash(t *testing.T) {
	h := sha.New()
	if h == nil || h.Len() != 0 || sha.Print(h.Sum()) != sumOfNothing {
		t.Fatal("a new hash has no bytes")
	}
	var all []byte
	for n := range 140 {
		parts := [][]byte{message(n), nil, message(n / 3)}
		h.Write(parts...)
		all = append(all, bytes.Join(parts, nil)...)
		for range 2 {
			if h.Sum() != sha256.Sum256(all) || h.Len() != uint64(len(all)) {
				t.Fatalf("behind %d bytes: %s, %d", len(all), sha.Print(h.Sum()), h.Len())
			}
		}
		h.Write()
		h.Write(nil, []byte{})
		if h.Sum() != sha256.Sum256(all) || h.Len() != uint64(len(all)) {
			t.Fatalf("behind %d bytes, and nothing more: %s, %d", len(all), sha.Print(h.Sum()), h.Len())
		}
	}
}

// P1.3: every hash is one by itself.
func TestNewIsNew(t *testing.T) {
	a, b := sha.New(), sha.New()
	a.Write([]byte("abc"))
	if b.Len() != 0 || sha.Print(b.Sum()) != sumOfNothing || sha.Print(sha.Sum()) != sumOfNothing {
		t.Error("what came to one hash came to another one")
	}
}

// P1.3: a copy goes on by itself, and so does what it was copied of.
func TestCopy(t *testing.T) {
	for n := range 130 {
		h := sha.New()
		h.Write(message(n))
		c := h.Copy()
		if c == nil || c == h || c.Sum() != h.Sum() || c.Len() != uint64(n) {
			t.Fatalf("%d bytes: no copy", n)
		}
		c.Write([]byte("of the copy"))
		if h.Len() != uint64(n) || h.Sum() != sha256.Sum256(message(n)) {
			t.Errorf("%d bytes: the copy's bytes came to the hash", n)
		}
		h.Write([]byte("and this of the hash"))
		if c.Len() != uint64(n)+11 || c.Sum() != sha256.Sum256(append(message(n), "of the copy"...)) {
			t.Errorf("%d bytes: the hash's bytes came to the copy", n)
		}
		if h.Sum() != sha256.Sum256(append(message(n), "and this of the hash"...)) {
			t.Errorf("%d bytes: the hash does not go on", n)
		}
	}
}

// P1.4: a nil hash.
func TestNilHash(t *testing.T) {
	var h *sha.Hash
	for range 2 {
		if h.Len() != 0 || sha.Print(h.Sum()) != sumOfNothing || h.Copy() != nil {
			t.Error("a nil hash has bytes, or a copy")
		}
		h.Write()
		h.Write([]byte("abc"), message(200))
	}
}

// P1.4: a hash that New did not make.
func TestHashOfNobody(t *testing.T) {
	makers := map[string]func() *sha.Hash{
		"a literal":           func() *sha.Hash { return &sha.Hash{} },
		"new":                 func() *sha.Hash { return new(sha.Hash) },
		"a copy of a literal": func() *sha.Hash { return (&sha.Hash{}).Copy() },
		"an element":          func() *sha.Hash { return &make([]sha.Hash, 2)[1] },
		"a value":             func() *sha.Hash { h := *sha.New(); return &h },
	}
	for name, maker := range makers {
		h := maker()
		if h == nil || h.Len() != 0 || sha.Print(h.Sum()) != sumOfNothing {
			t.Errorf("%s: not without bytes", name)
		}
		h.Write()
		if sha.Print(h.Sum()) != sumOfNothing {
			t.Errorf("%s: not without bytes behind a write of nothing", name)
		}
		c := h.Copy()
		for n := range 70 {
			h, c := maker(), c.Copy()
			h.Write(message(n), message(64))
			c.Write(message(n), message(64))
			want := sha256.Sum256(append(message(n), message(64)...))
			if h.Sum() != want || c.Sum() != want || h.Len() != uint64(n)+64 || c.Len() != uint64(n)+64 {
				t.Errorf("%s: %d bytes and 64", name, n)
			}
		}
	}
}

// P1.4: what is handed in stays as it was, with the room behind its end.
func TestHandedInStays(t *testing.T) {
	for n := range 130 {
		room := message(n + 80)
		parts := [][]byte{room[:n], room[n/2 : n], room[:0]}
		h := sha.New()
		h.Write(parts...)
		h.Sum()
		sha.Sum(parts...)
		if !bytes.Equal(room, message(n+80)) {
			t.Fatalf("%d bytes: changed", n)
		}
		if len(parts[0]) != n || len(parts[1]) != n-n/2 || len(parts[2]) != 0 {
			t.Fatalf("%d bytes: the row of parts changed", n)
		}
	}
}

// P1.4: what is handed in is not kept.
func TestHandedInIsNotKept(t *testing.T) {
	for n := range 130 {
		h := sha.New()
		first, second := message(n), message(9)
		parts := [][]byte{first, second}
		h.Write(parts...)
		clear(first)
		clear(second)
		clear(parts)
		if h.Sum() != sha256.Sum256(append(message(n), message(9)...)) {
			t.Errorf("%d bytes: kept", n)
		}
	}
}

// P1.5: two cuts anywhere, by Sum and by Write.
func TestParts(t *testing.T) {
	all := message(135)
	want := sha256.Sum256(all)
	for i := range len(all) + 1 {
		for j := i; j <= len(all); j++ {
			parts := [][]byte{all[:i], all[i:j], all[j:]}
			if sha.Sum(parts...) != want {
				t.Fatalf("Sum, cut at %d and %d", i, j)
			}
			h := sha.New()
			h.Write(parts[0])
			h.Write(parts[1:]...)
			if h.Sum() != want {
				t.Fatalf("Write, cut at %d and %d", i, j)
			}
		}
	}
}

// P1.5: pieces of each length, with empty ones between.
func TestPieces(t *testing.T) {
	all := message(400)
	want := sha256.Sum256(all)
	for size := 1; size <= len(all); size++ {
		h := sha.New()
		parts := [][]byte{nil}
		for at := 0; at < len(all); at += size {
			piece := all[at:min(at+size, len(all))]
			parts = append(parts, piece, []byte{})
			h.Write(piece)
		}
		if sha.Sum(parts...) != want || h.Sum() != want {
			t.Errorf("pieces of %d bytes", size)
		}
	}
}

// P1.6: sums as digits, and back.
func TestThereAndBack(t *testing.T) {
	for n := range 300 {
		s := sha256.Sum256(message(n))
		if got, ok := sha.Read(sha.Print(s)); !ok || got != s {
			t.Errorf("%v: %v, %v", s, got, ok)
		}
	}
	for at := range 32 {
		for v := range 256 {
			var s api.Sum
			s[at] = byte(v)
			if got, ok := sha.Read(sha.Print(s)); !ok || got != s {
				t.Fatalf("%v: %v, %v", s, got, ok)
			}
		}
	}
}

// P1.6: digits as sums, and back.
func TestBackAndThere(t *testing.T) {
	for at := range 64 {
		for _, digit := range "0123456789abcdef" {
			text := strings.Repeat("5", at) + string(digit) + strings.Repeat("a", 63-at)
			s, ok := sha.Read(text)
			if got := sha.Print(s); !ok || got != text {
				t.Fatalf("%s: %s, %v", text, got, ok)
			}
		}
	}
}
