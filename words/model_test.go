package words_test

import (
	"crypto/sha256"
	"math/rand"
	"slices"
	"strconv"
	"strings"
	"testing"
	"unicode/utf8"

	"incipit/api"
)

// What the chapters 3, 8 and 9 say is written out here by their words, with nothing of the program but its types.

// spans is the list of chapter 8, as it stands there.
const spans = `
0030-0039 0041-005A 0061-007A 00AA-00AA 00B5-00B5 00BA-00BA 00C0-00D6 00D8-00F6
00F8-02AF 0300-036F 0370-0373 0376-0377 037B-037D 037F-037F 0386-0386 0388-038A
038C-038C 038E-03A1 03A3-0481 048A-052F 0531-0556 0561-0586 05D0-05EA 0620-064A
0660-0669 066E-06D3 06F0-06F9 0904-0939 0966-096F 0E01-0E30 0E40-0E46 10A0-10C5
10D0-10FA 1E00-1FBC 3041-3096 30A1-30FA 3400-4DBF 4E00-9FFF AC00-D7A3 FF10-FF19
FF21-FF3A FF41-FF5A 20000-2A6DF
`

// letters is each letter, by the list.
func letters() map[rune]bool {
	all := map[rune]bool{}
	for _, span := range strings.Fields(spans) {
		first, last, _ := strings.Cut(span, "-")
		from, errFrom := strconv.ParseInt(first, 16, 32)
		to, errTo := strconv.ParseInt(last, 16, 32)
		if errFrom != nil || errTo != nil {
			panic(span)
		}
		for c := from; c <= to; c++ {
			all[rune(c)] = true
		}
	}
	return all
}

var isLetter = letters()

// runsOf is a text's runs: what is left where it is parted at all that is no letter.
func runsOf(text string) []string {
	return strings.FieldsFunc(text, func(c rune) bool { return !isLetter[c] })
}

// small is a text with a to z in the place of A to Z.
func small(text string) string {
	return strings.Map(func(c rune) rune {
		if at := strings.IndexRune("ABCDEFGHIJKLMNOPQRSTUVWXYZ", c); at >= 0 {
			return rune("abcdefghijklmnopqrstuvwxyz"[at])
		}
		return c
	}, text)
}

// wordsOf is Words by the chapter's words.
func wordsOf(text string, stops ...string) ([]api.Word, api.Errno) {
	if !utf8.ValidString(text) {
		return nil, 8
	}
	var list []api.Word
	for place, run := range runsOf(text) {
		if len(run) > 24 {
			return nil, 3
		}
		if place >= 48 {
			return nil, 7
		}
		list = append(list, api.Word{Text: small(run), At: place})
	}
	isStop := func(w api.Word) bool { return slices.Contains(stops, w.Text) }
	return slices.DeleteFunc(list, isStop), 0
}

// isOne is One by the chapter's words.
func isOne(text string, stops ...string) bool {
	list, _ := wordsOf(text)
	return len(list) == 1 && !slices.Contains(stops, text) && list[0].Text == text
}

// mayStops is MayStops by the chapter's words.
func mayStops(stops ...string) bool {
	for i, stop := range stops {
		if !isOne(stop) || i > 0 && strings.Compare(stops[i-1], stop) >= 0 {
			return false
		}
	}
	return len(stops) <= 32
}

// blob is a part of a preimage: how many bytes a number's digits have, the digits, the part's bytes.
func blob(part string) string {
	var digits []byte
	for n := len(part); n > 0; n /= 256 {
		digits = append([]byte{byte(n % 256)}, digits...)
	}
	return string([]byte{byte(len(digits))}) + string(digits) + part
}

// stopsText is what is hashed of stop words.
func stopsText(stops ...string) string {
	text := "\x08"
	for _, stop := range stops {
		text += blob(stop)
	}
	return text
}

func sealOf(stops ...string) api.Sum { return sha256.Sum256([]byte(stopsText(stops...))) }

// runPieces are what runs of tests are put together of: letters at the edges of spans, of each number of bytes.
var runPieces = []string{
	"a", "z", "A", "Z", "0", "9", "the", "THE", "cat", "é", "É", "ª", "Ö", "ø", "\u0300", "\u036f", "я", "Я", "א", "٠", "अ", "ก", "ა", "ế", "ぁ", "ヺ",
	"㐀", "日本", "가", "０", "Ａ", "ｚ", "\U00020000", "\U0002a6df",
}

// gapPieces are what stands between runs: code points that are no letters, of each number of bytes, beside the spans' ends too.
var gapPieces = []string{
	" ", ".", ",", "-", "_", "'", "\n", "\x00", "/", ":", "@", "[", "`", "{", "\x7f", "\u0080", "×", "÷", "\u02b0", "\u02ff", "\u0374", "\u0482", "\u200b",
	"\u3040", "\ua000", "\ud7a4", "\ue000", "\ufffd", "\uffff", "ー", "\U0001f600", "\U0001ffff", "\U0002a6e0", "\U0010ffff",
}

// wrongPieces are what is no code point's bytes, whole.
var wrongPieces = []string{"\x80", "\xbf", "\xc0\x80", "\xc3", "\xe2\x82", "\xed\xa0\x80", "\xf0\x9f\x98", "\xf4\x90\x80\x80", "\xff"}

func pick(r *rand.Rand, list []string) string { return list[r.Intn(len(list))] }

// some is n of the pieces one behind the other.
func some(r *rand.Rand, n int, list []string) string {
	var b strings.Builder
	for range n {
		b.WriteString(pick(r, list))
	}
	return b.String()
}

// gap is code points that are no letters, one at least.
func gap(r *rand.Rand) string {
	return some(r, r.Intn(3), gapPieces) + pick(r, []string{" ", "-", "×", "\u3040", "\U0001f600"})
}

// someText is a text of n runs, or fewer; once in many times one of them is long, or something stands there that is no code point.
func someText(r *rand.Rand, n int) string {
	var b strings.Builder
	b.WriteString(some(r, r.Intn(2), gapPieces))
	for range n {
		b.WriteString(some(r, 1+r.Intn(4), runPieces))
		if r.Intn(300) == 0 {
			b.WriteString(some(r, 12, runPieces))
		}
		if r.Intn(300) == 0 {
			b.WriteString(pick(r, wrongPieces))
		}
		b.WriteString(gap(r))
	}
	b.WriteString(some(r, r.Intn(2), runPieces))
	return b.String()
}

// someStops is stop words, of which some stand in the text.
func someStops(r *rand.Rand, text string) []string {
	stops := []string{}
	for _, run := range runsOf(text) {
		if r.Intn(3) == 0 {
			stops = append(stops, small(run))
		}
	}
	for range r.Intn(4) {
		stops = append(stops, some(r, r.Intn(3), runPieces)+some(r, r.Intn(2), gapPieces))
	}
	return stops
}

// holds tells where Words answers something else than it should.
func holds(t *testing.T, text string, got, want []api.Word, e, wantErr api.Errno) {
	t.Helper()
	if e != wantErr || !slices.Equal(got, want) {
		t.Fatalf("%q: %v, %d, not %v, %d", text, got, e, want, wantErr)
	}
}
