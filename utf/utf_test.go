package utf_test

import (
	"math"
	"math/rand"
	"strings"
	"testing"

	"incipit/utf"
)

// checkNext holds Next against the model at each byte of a text, and beside it.
func checkNext(t *testing.T, s string) {
	t.Helper()
	for at := -2; at <= len(s)+2; at++ {
		c, size := utf.Next(s, at)
		if wc, wsize := next(s, at); c != wc || size != wsize {
			t.Fatalf("Next(%q, %d): %x, %d, not %x, %d", s, at, c, size, wc, wsize)
		}
	}
}

// P8.1: the chapter's examples.
func TestNextExamples(t *testing.T) {
	for _, x := range []struct{ at, c, size int }{{0, 0x61, 1}, {1, 0xE9, 2}, {2, 0, 0}, {3, 0, 0}} {
		if c, size := utf.Next("aé", x.at); c != x.c || size != x.size {
			t.Errorf("Next at %d: %x, %d", x.at, c, size)
		}
	}
}

// P8.1: each number from 0 to past the greatest code point, alone, and with bytes ahead of it and behind it.
func TestNextOfEachCodePoint(t *testing.T) {
	for c := 0; c <= 0x1FFFFF; c++ {
		b := bytesOf(c)
		wc, wsize := c, len(b)
		if !isPoint(c) {
			wc, wsize = 0, 0
		}
		if got, size := utf.Next(b, 0); got != wc || size != wsize {
			t.Fatalf("%x: %x, %d", c, got, size)
		}
		if got, size := utf.Next("é"+b+"\x80", 2); got != wc || size != wsize {
			t.Fatalf("%x among others: %x, %d", c, got, size)
		}
	}
}

// P8.1: a code point's bytes that are cut short are none, with nothing behind them or something else.
func TestNextOfBytesCutShort(t *testing.T) {
	for _, s := range []string{"\u0080", "é", "\u07ff", "\u0800", "€", "\ud7ff", "\ue000", "\ufffd", "\uffff", "\U00010000", "\U00020000", "\U0010ffff"} {
		for n := 1; n < len(s); n++ {
			for _, behind := range []string{"", "a", "é", "\xff", s} {
				if c, size := utf.Next(s[:n]+behind, 0); c != 0 || size != 0 {
					t.Errorf("%q: %x, %d", s[:n]+behind, c, size)
				}
			}
		}
	}
}

// P8.1: a number's bytes are those of its span alone: no more of them than need be.
func TestNextOfBytesThatAreTooMany(t *testing.T) {
	for _, s := range []string{
		"\xc0\x80", "\xc1\xbf", "\xe0\x80\x80", "\xe0\x81\xa1", "\xe0\x9f\xbf", "\xf0\x80\x80\x80", "\xf0\x8f\xbf\xbf",
		"\xf8\x88\x80\x80\x80", "\xfc\x84\x80\x80\x80\x80", "\xfe\x80\x80\x80\x80\x80\x80", "\xff",
	} {
		if c, size := utf.Next(s, 0); c != 0 || size != 0 {
			t.Errorf("%q: %x, %d", s, c, size)
		}
	}
}

// P8.1: each one, two and three bytes there are, and the edges of four, as the chapter says.
func TestNextOfAllShortBytes(t *testing.T) {
	var edges []byte
	for _, b := range []int{0x00, 0x41, 0x7f, 0x80, 0x8f, 0x90, 0x9f, 0xa0, 0xbf, 0xc0, 0xc1, 0xc2, 0xdf, 0xe0, 0xe1, 0xec, 0xed, 0xee, 0xef, 0xf0, 0xf1, 0xf3, 0xf4, 0xf5, 0xf7, 0xf8, 0xff} {
		edges = append(edges, byte(b))
	}
	for a := range 256 {
		checkNext(t, string([]byte{byte(a)}))
		for b := range 256 {
			checkNext(t, string([]byte{byte(a), byte(b)}))
			for _, c := range edges {
				checkNext(t, string([]byte{byte(a), byte(b), c}))
			}
		}
	}
	for _, a := range edges {
		for b := range 256 {
			for _, c := range edges {
				for _, d := range edges {
					s := string([]byte{a, byte(b), c, d})
					got, size := utf.Next(s, 0)
					if wc, wsize := next(s, 0); got != wc || size != wsize {
						t.Fatalf("%q: %x, %d, not %x, %d", s, got, size, wc, wsize)
					}
				}
			}
		}
	}
}

// P8.1: there is no such byte: ahead of a text, at its end and behind it, as far as numbers go.
func TestNextWhereNoByteIs(t *testing.T) {
	for _, s := range []string{"", "a", "aé", strings.Repeat("a", 1000)} {
		for _, at := range []int{math.MinInt, math.MinInt + 1, math.MinInt32, -len(s) - 1, -1, len(s), len(s) + 1, 1 << 31, 1 << 32, 1<<32 + 1, math.MaxInt - 1, math.MaxInt} {
			if at < 0 || at >= len(s) {
				if c, size := utf.Next(s, at); c != 0 || size != 0 {
					t.Errorf("%d of %d bytes: %x, %d", at, len(s), c, size)
				}
			}
		}
	}
}

// P8.1: the code point 0 has one byte, and FFFD three: neither is taken for none.
func TestNextOfWhatLooksLikeNone(t *testing.T) {
	if c, size := utf.Next("\x00", 0); c != 0 || size != 1 {
		t.Errorf("0: %x, %d", c, size)
	}
	if c, size := utf.Next("\ufffd", 0); c != 0xFFFD || size != 3 {
		t.Errorf("FFFD: %x, %d", c, size)
	}
	if utf.Fault("\x00\ufffd\x00") != 5 || !utf.May("\ufffd\x00\ufffd") {
		t.Error("a text of these is not right")
	}
}

// P8.1, P8.2: texts of right and wrong pieces, at each byte.
func TestPieces(t *testing.T) {
	r := rand.New(rand.NewSource(8))
	for range 20000 {
		s := someText(r)
		checkNext(t, s)
		if got, want := utf.Fault(s), fault(s); got != want {
			t.Fatalf("Fault(%q): %d, not %d", s, got, want)
		}
		if got, want := utf.May(s), fault(s) == len(s); got != want {
			t.Fatalf("May(%q): %v", s, got)
		}
	}
}

// P8.2: the chapter's examples, and whether each is right to its end.
func TestFaultExamples(t *testing.T) {
	for _, x := range []struct {
		s   string
		at  int
		may bool
	}{{"aé", 3, true}, {"a\xc3", 1, false}, {"\xed\xa0\x80", 0, false}, {"", 0, true}} {
		if utf.Fault(x.s) != x.at || utf.May(x.s) != x.may {
			t.Errorf("%q: %d, %v", x.s, utf.Fault(x.s), utf.May(x.s))
		}
	}
}

// P8.2: what is no code point's bytes, at the beginning, in the midst, at the end: the text is right up to it, whatever stands behind it.
func TestFaultAtEachPlace(t *testing.T) {
	wrong := []string{"\x80", "\xbf", "\xc0\x80", "\xc1\xbf", "\xc3", "\xe2\x82", "\xe0\x80\x80", "\xed\xa0\x80", "\xed\xbf\xbf", "\xf0\x80\x80\x80", "\xf0\x9f\x98", "\xf4\x90\x80\x80", "\xf5\x80\x80\x80", "\xff"}
	for _, w := range wrong {
		for _, ahead := range []string{"", "a", "é", "€", "\U0001f600", "a\x00é\ufffd\U0010ffff", strings.Repeat("é", 300)} {
			for _, behind := range []string{"", "a", "\xff", "é"} {
				s := ahead + w + behind
				if utf.Fault(s) != len(ahead) || utf.May(s) {
					t.Errorf("%q: %d, %v", s, utf.Fault(s), utf.May(s))
				}
			}
		}
	}
}

// P8.2, R1: a long text is gone through to its end, or to its fault.
func TestLongTexts(t *testing.T) {
	s := strings.Repeat("aé€\U0001f600", 1<<19)
	if utf.Fault(s) != len(s) || !utf.May(s) {
		t.Error("a long text that is right")
	}
	if utf.Fault(s+"\xff"+s) != len(s) || utf.May(s+"\xff") {
		t.Error("a long text with a fault")
	}
}

// P8.4: the chapter's example, and what stands beside A and Z.
func TestSmallExamples(t *testing.T) {
	for s, want := range map[string]string{
		"ABz É": "abz É", "": "", "@AZ[`az{": "@az[`az{", "0-9 \x00\x7f": "0-9 \x00\x7f", "ÀÞĀΑЯＡＺ": "ÀÞĀΑЯＡＺ",
		"\u212a\u0130": "\u212a\u0130", "\xc3A\xff\xe2Z\x82": "\xc3a\xff\xe2z\x82", "\xed\xa0\x80Q": "\xed\xa0\x80q",
	} {
		if got := utf.Small(s); got != want {
			t.Errorf("%q: %q", s, got)
		}
	}
}

// P8.4: each byte, alone and among others.
func TestSmallOfEachByte(t *testing.T) {
	const great, small = "ABCDEFGHIJKLMNOPQRSTUVWXYZ", "abcdefghijklmnopqrstuvwxyz"
	for b := range 256 {
		want := byte(b)
		if at := strings.IndexByte(great, want); at >= 0 {
			want = small[at]
		}
		for _, beside := range []string{"", "m", "\xff", "é"} {
			if got := utf.Small(beside + string([]byte{byte(b)}) + beside); got != beside+string([]byte{want})+beside {
				t.Errorf("%x beside %q: %q", b, beside, got)
			}
		}
	}
}

// P8.5: a text that is right is gone through by the sizes, and its code points come in their order.
func TestStepByStep(t *testing.T) {
	r := rand.New(rand.NewSource(85))
	for range 20000 {
		s, cs := someRight(r)
		if !utf.May(s) || utf.Fault(s) != len(s) {
			t.Fatalf("%q is not right", s)
		}
		at := 0
		for i, want := range cs {
			c, size := utf.Next(s, at)
			if c != want || s[at:at+size] != bytesOf(want) {
				t.Fatalf("%q: %x at %d, not %x, the code point %d", s, c, at, want, i)
			}
			at += size
		}
		if c, size := utf.Next(s, at); at != len(s) || c != 0 || size != 0 {
			t.Fatalf("%q: ends at %d, with %x, %d", s, at, c, size)
		}
	}
}

// P8.6: behind a text that is right to its end, another one is right as far as it was by itself.
func TestOneBehindTheOther(t *testing.T) {
	r := rand.New(rand.NewSource(86))
	for range 20000 {
		first, _ := someRight(r)
		second := someText(r)
		if got, want := utf.Fault(first+second), len(first)+utf.Fault(second); got != want {
			t.Fatalf("%q behind %q: %d, not %d", second, first, got, want)
		}
		if utf.May(first+second) != utf.May(second) {
			t.Fatalf("%q behind %q: %v", second, first, utf.May(first+second))
		}
	}
	// The first one must be right to its end: halves of a code point are wrong apart, and right together.
	if utf.Fault("\xc3") != 0 || utf.Fault("\xa9") != 0 || utf.Fault("\xc3\xa9") != 2 {
		t.Error("halves of a code point")
	}
}

// P8.7: what is small stays so, has as many bytes, and is right as far as it was.
func TestSmallStays(t *testing.T) {
	r := rand.New(rand.NewSource(87))
	for range 20000 {
		s := someText(r)
		small := utf.Small(s)
		if utf.Small(small) != small {
			t.Fatalf("%q: %q, then %q", s, small, utf.Small(small))
		}
		if len(small) != len(s) || utf.Fault(small) != utf.Fault(s) || utf.May(small) != utf.May(s) {
			t.Fatalf("%q: %q, right up to %d, not %d", s, small, utf.Fault(small), utf.Fault(s))
		}
	}
}
