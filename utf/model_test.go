package utf_test

import (
	"math/rand"
	"strconv"
	"strings"
	"testing"
)

// What the chapter says is written out here by its words, with nothing of the program.

const most = 0x10FFFF

// isPoint tells whether a number is a code point.
func isPoint(c int) bool { return 0 <= c && c <= most && !(0xD800 <= c && c <= 0xDFFF) }

// bytesOf is a code point's bytes.
func bytesOf(c int) string {
	six := func(from int) byte { return byte(0x80 + c/from%64) }
	switch {
	case c < 0x80:
		return string([]byte{byte(c)})
	case c < 0x800:
		return string([]byte{byte(0xC0 + c/64), six(1)})
	case c < 0x10000:
		return string([]byte{byte(0xE0 + c/4096), six(64), six(1)})
	default:
		return string([]byte{byte(0xF0 + c/262144), six(4096), six(64), six(1)})
	}
}

// points is each code point by its bytes: what stands there is looked up, so that the model reads nothing by bits.
func points() map[string]int {
	all := make(map[string]int, most)
	for c := 0; c <= most; c++ {
		if isPoint(c) {
			all[bytesOf(c)] = c
		}
	}
	return all
}

var pointOf = points()

// next is Next by the chapter's words.
func next(s string, at int) (c, size int) {
	for size := 1; size <= 4 && 0 <= at && at < len(s) && size <= len(s)-at; size++ {
		if c, ok := pointOf[s[at:at+size]]; ok {
			return c, size
		}
	}
	return 0, 0
}

// fault is Fault by the chapter's words.
func fault(s string) int {
	at := 0
	for at < len(s) {
		_, size := next(s, at)
		if size == 0 {
			break
		}
		at += size
	}
	return at
}

// spans is the chapter's list, as it stands there.
const spans = `
0030-0039 0041-005A 0061-007A 00AA-00AA 00B5-00B5 00BA-00BA 00C0-00D6 00D8-00F6
00F8-02AF 0300-036F 0370-0373 0376-0377 037B-037D 037F-037F 0386-0386 0388-038A
038C-038C 038E-03A1 03A3-0481 048A-052F 0531-0556 0561-0586 05D0-05EA 0620-064A
0660-0669 066E-06D3 06F0-06F9 0904-0939 0966-096F 0E01-0E30 0E40-0E46 10A0-10C5
10D0-10FA 1E00-1FBC 3041-3096 30A1-30FA 3400-4DBF 4E00-9FFF AC00-D7A3 FF10-FF19
FF21-FF3A FF41-FF5A 20000-2A6DF
`

// isLetter is each letter, by the list.
func isLetter(t *testing.T) map[int]bool {
	all := map[int]bool{}
	for _, span := range strings.Fields(spans) {
		first, last, _ := strings.Cut(span, "-")
		from, err := strconv.ParseInt(first, 16, 64)
		if err != nil {
			t.Fatal(err)
		}
		to, err := strconv.ParseInt(last, 16, 64)
		if err != nil {
			t.Fatal(err)
		}
		for c := from; c <= to; c++ {
			all[int(c)] = true
		}
	}
	return all
}

// pieces are what texts of tests are put together of: whole code points at the edges of each number of bytes, and what is none.
var pieces = []string{
	"", "a", "Z", "A", "z", "@", "[", "`", "{", "\x00", "\x7f", "\u0080", "é", "É", "\u07ff", "\u0800", "\ud7ff", "\ue000", "\ufffd", "\uffff",
	"\U00010000", "\U0010ffff", "\x80", "\xbf", "\xc0", "\xc1", "\xc3", "\xdf", "\xe0", "\xe0\x9f", "\xe2\x82", "\xed\xa0\x80", "\xed", "\xef\xbf",
	"\xf0", "\xf0\x8f\xbf\xbf", "\xf0\x90\x80", "\xf4\x90", "\xf4", "\xf5", "\xf8\x88\x80\x80\x80", "\xfe", "\xff", "\xc1\x81", "A\xcc\x81",
}

// someText is a text of some pieces.
func someText(r *rand.Rand) string {
	var b strings.Builder
	for range r.Intn(8) {
		b.WriteString(pieces[r.Intn(len(pieces))])
	}
	return b.String()
}

// someRight is a text that is right up to its end, and which code points it has.
func someRight(r *rand.Rand) (string, []int) {
	var b strings.Builder
	var cs []int
	for range r.Intn(12) {
		c := r.Intn(most + 1)
		// Half of them are small, so that each number of bytes comes often.
		if r.Intn(2) == 0 {
			c = r.Intn(1 << (1 + r.Intn(20)))
		}
		if isPoint(c) {
			b.WriteString(bytesOf(c))
			cs = append(cs, c)
		}
	}
	return b.String(), cs
}
