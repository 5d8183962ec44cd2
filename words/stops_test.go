package words_test

import (
	"fmt"
	"math/rand"
	"slices"
	"strings"
	"testing"

	"incipit/api"
	"incipit/seal"
	"incipit/words"
)

// P9.2: the chapter's examples of One.
func TestOneExamples(t *testing.T) {
	if !words.One("cat") || words.One("Cat") || words.One("a cat") || words.One("the", "the") {
		t.Error(words.One("cat"), words.One("Cat"), words.One("a cat"), words.One("the", "the"))
	}
}

// P9.2: what is one word, and what is none.
func TestOne(t *testing.T) {
	for text, want := range map[string]bool{
		"a": true, "0": true, "é": true, "É": true, "日本": true, "a1é": true, "\U00020000": true, "e\u0301": true, strings.Repeat("a", 24): true, strings.Repeat("é", 12): true,
		"": false, " ": false, "A": false, "aB": false, "éA": false, " a": false, "a ": false, "a.": false, "a-b": false, "a_b": false, "'a": false, "ー": false, "\ufffd": false, "a\x00": false,
		"\xff": false, "a\xff": false, "\xffa": false, "\xc3": false, "a\xed\xa0\x80": false,
		strings.Repeat("a", 25): false, strings.Repeat("é", 13): false, strings.Repeat("a ", 49): false,
	} {
		if words.One(text) != want || words.One(text, "the", "of") != want {
			t.Errorf("%q: %v", text, !want)
		}
	}
}

// P9.2: a stop word is none, whether stop words may be or not; beside one, another word is not the text itself.
func TestOneWithStops(t *testing.T) {
	for _, x := range []struct {
		text  string
		stops []string
		want  bool
	}{
		{"the", []string{"a", "the"}, false}, {"the", []string{"the", "a"}, false}, {"the", []string{"\xff", "the", "the"}, false}, {"the", []string{"The"}, true}, {"the", []string{"th", "thee", "the ", ""}, true},
		{"The", []string{"the"}, false}, {"The", []string{"The"}, false}, {"the cat", []string{"the"}, false}, {"cat the", []string{"the"}, false}, {"the cat", []string{"the cat"}, false}, {"cat", []string{"the"}, true}, {"É", []string{"é"}, true}, {"", []string{""}, false},
	} {
		if words.One(x.text, x.stops...) != x.want {
			t.Errorf("%q with %q: %v", x.text, x.stops, !x.want)
		}
	}
}

// P9.2: One by what the chapter says, of texts of all sorts.
func TestOneOfTexts(t *testing.T) {
	r := rand.New(rand.NewSource(92))
	ones := 0
	for range 20000 {
		text := small(some(r, r.Intn(5), runPieces))
		if r.Intn(3) == 0 {
			text = someText(r, r.Intn(3))
		}
		stops := someStops(r, text)
		if words.One(text) != isOne(text) || words.One(text, stops...) != isOne(text, stops...) {
			t.Fatalf("%q with %q: %v, %v", text, stops, words.One(text), words.One(text, stops...))
		}
		if isOne(text, stops...) {
			ones++
		}
	}
	if ones < 1000 {
		t.Errorf("no more than %d of them are one word", ones)
	}
}

// P9.2: the chapter's examples of MayStops.
func TestMayStopsExamples(t *testing.T) {
	if !words.MayStops("a", "the") || words.MayStops("the", "a") || words.MayStops("a b") {
		t.Error(words.MayStops("a", "the"), words.MayStops("the", "a"), words.MayStops("a b"))
	}
}

// P9.2: stop words rise strictly, byte by byte, and each is one word.
func TestMayStops(t *testing.T) {
	for _, x := range []struct {
		stops []string
		want  bool
	}{
		{nil, true}, {[]string{}, true}, {[]string{"a"}, true}, {[]string{"a", "aa", "ab", "b"}, true}, {[]string{"0", "10", "9", "a", "z", "é", "日", "\U00020000"}, true}, {[]string{"Z"}, false}, {[]string{"ª", "À", "à", "Ａ"}, true},
		{[]string{"a", "a"}, false}, {[]string{"a", "b", "b"}, false}, {[]string{"a", "c", "b"}, false}, {[]string{"b", "a", "c"}, false}, {[]string{"aa", "a"}, false}, {[]string{"9", "10"}, false}, {[]string{"é", "z"}, false}, {[]string{"Ａ", "日"}, false},
		{[]string{""}, false}, {[]string{"", "a"}, false}, {[]string{"a", ""}, false}, {[]string{"a", "b "}, false}, {[]string{" a"}, false}, {[]string{"a", "B"}, false}, {[]string{"A", "b"}, false}, {[]string{"a", "b\xff"}, false}, {[]string{"a", "\xff"}, false},
		{[]string{strings.Repeat("a", 24)}, true}, {[]string{strings.Repeat("a", 25)}, false}, {[]string{"a", strings.Repeat("b", 25)}, false},
	} {
		if words.MayStops(x.stops...) != x.want || mayStops(x.stops...) != x.want {
			t.Errorf("%q: %v", x.stops, !x.want)
		}
	}
}

// rising is n words that rise.
func rising(n int) []string {
	list := make([]string, n)
	for i := range list {
		list[i] = fmt.Sprintf("w%05d", i)
	}
	return list
}

// P9.2: they are at most MaxStops, and what is wrong with one of them shows at each place.
func TestMayStopsMany(t *testing.T) {
	for _, n := range []int{0, 1, 2, 31, 32, 33, 34, 64, 1000} {
		if words.MayStops(rising(n)...) != (n <= 32) {
			t.Errorf("%d: %v", n, n > 32)
		}
	}
	for i := range 32 {
		for _, wrong := range []string{"", "w", "x", "A", "w0000 ", "w\xff"} {
			stops := rising(32)
			stops[i] = wrong
			if words.MayStops(stops...) != mayStops(stops...) {
				t.Errorf("%q at %d: %v", wrong, i, words.MayStops(stops...))
			}
		}
	}
}

// P9.3: the sum is that of the kind 8 and each stop word as a part, whether they may be or not; the book notes what was hashed.
func TestSeal(t *testing.T) {
	for _, stops := range [][]string{
		nil, {}, {"a"}, {"a", "the"}, {"the", "a"}, {"athe"}, {"", "a"}, {"a", ""}, {""}, {"", ""}, {"\xff\x00", "The cat"}, {"\x01\x01a"}, {strings.Repeat("é", 127), strings.Repeat("x", 255), strings.Repeat("y", 256)}, {strings.Repeat("z", 70000)}, rising(32), rising(1000),
	} {
		want, text := sealOf(stops...), stopsText(stops...)
		if words.Seal(nil, stops...) != want {
			t.Errorf("%.40q without a book", stops)
		}
		k := &seal.Book{}
		if words.Seal(k, stops...) != want || k.Calls() != 1 || len(k.All()) != 1 {
			t.Errorf("%.40q: hashed %d times, %d notes", stops, k.Calls(), len(k.All()))
		}
		if b, there := k.Find(want); !there || string(b) != text {
			t.Errorf("%.40q: noted %.40q, %v", stops, b, there)
		}
	}
}

// P9.3: unlike stop words, or the same in another order, have unlike sums.
func TestSealToldApart(t *testing.T) {
	k := &seal.Book{}
	seen := map[api.Sum][]string{}
	for _, stops := range [][]string{nil, {""}, {"", ""}, {"a"}, {"a", ""}, {"", "a"}, {"a", "b"}, {"b", "a"}, {"ab"}, {"a", "a"}, {"A"}, {"a b"}, {"a", "b", "c"}, {"ab", "c"}, {"a", "bc"}} {
		s := words.Seal(k, stops...)
		if twin, there := seen[s]; there {
			t.Errorf("%q and %q have one sum", stops, twin)
		}
		seen[s] = stops
	}
	if _, _, found := seal.Clash(k); found || k.Calls() != 15 {
		t.Errorf("a clash, or %d calls", k.Calls())
	}
}

// P9.4: what is handed in stays, also the room behind its end.
func TestHandedInStays(t *testing.T) {
	row := []string{"the", "a", "Cat", "\xff", "the", "beyond", "the end"}
	kept := slices.Clone(row)
	for n := range 6 {
		stops := row[:n]
		words.Words("The cat, the CAT-3!", stops...)
		words.One("the", stops...)
		words.MayStops(stops...)
		words.Seal(nil, stops...)
		words.Seal(&seal.Book{}, stops...)
		if !slices.Equal(row, kept) {
			t.Fatalf("%d stop words: %q", n, row)
		}
	}
}

// P9.4: what was answered is the caller's own: what is done with it shows nowhere else.
func TestAnsweredIsNew(t *testing.T) {
	const text = "the cat the dog"
	first, _ := words.Words(text, "dog")
	second, _ := words.Words(text, "dog")
	clear(first[:cap(first)])
	want, e := wordsOf(text, "dog")
	holds(t, text, second, want, e, api.OK)
	third, e := words.Words(text, "dog")
	holds(t, text, third, want, e, api.OK)

	k := &seal.Book{}
	stops := []string{"a", "the"}
	s := words.Seal(k, stops...)
	stops[0], stops[1] = "x", "y"
	if b, there := k.Find(s); !there || string(b) != stopsText("a", "the") {
		t.Errorf("noted %q", b)
	}
}
