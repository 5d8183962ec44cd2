package words_test

import (
	"math/rand"
	"slices"
	"strconv"
	"strings"
	"testing"

	"incipit/api"
	"incipit/words"
)

// check holds Words against the model.
func check(t *testing.T, text string, stops ...string) {
	t.Helper()
	got, e := words.Words(text, stops...)
	want, wantErr := wordsOf(text, stops...)
	holds(t, text, got, want, e, wantErr)
}

// P9.1: the chapter's examples.
func TestWordsExamples(t *testing.T) {
	list, e := words.Words("The cat, the CAT-3!", "the")
	holds(t, "with the", list, []api.Word{{Text: "cat", At: 1}, {Text: "cat", At: 3}, {Text: "3", At: 4}}, e, api.OK)
	list, e = words.Words(" .,")
	holds(t, "no letters", list, nil, e, api.OK)
	list, e = words.Words("\xff")
	holds(t, "FF", list, nil, e, api.ErrUtf)
}

// P9.1: a run is as many letters as can be, whatever stands beside it, or nothing.
func TestRuns(t *testing.T) {
	for _, gap := range gapPieces {
		for _, run := range runPieces {
			for _, text := range []string{"", gap, run, gap + run, run + gap, gap + run + gap, run + gap + run, run + run, run + gap + gap + run + run + gap + "x"} {
				check(t, text)
				check(t, text, "the", "x", small(run))
			}
		}
	}
}

// P9.1: each code point is a letter of a word, or parts two of them.
func TestEachCodePoint(t *testing.T) {
	for c := rune(0); c <= 0x10FFFF; c++ {
		if 0xD800 <= c && c <= 0xDFFF {
			continue
		}
		between := string([]rune{c})
		list, e := words.Words("a" + between + "b")
		want := []api.Word{{Text: "a", At: 0}, {Text: "b", At: 1}}
		if isLetter[c] {
			want = []api.Word{{Text: "a" + small(between) + "b", At: 0}}
		}
		if e != api.OK || !slices.Equal(list, want) {
			t.Fatalf("%x: %v, %d", c, list, e)
		}
	}
}

// P9.1: A to Z alone are written small.
func TestSmallTexts(t *testing.T) {
	for text, want := range map[string]string{"ABCXYZ": "abcxyz", "aBc09": "abc09", "É": "É", "ÉA": "Éa", "ЯЗЫК": "ЯЗЫК", "Ａ": "Ａ", "ΣΑΣ": "ΣΑΣ"} {
		list, e := words.Words(text)
		holds(t, text, list, []api.Word{{Text: want, At: 0}}, e, api.OK)
	}
}

// P9.1: a run has MaxWord bytes at most, be they few letters or many, and be it a stop word.
func TestLongRuns(t *testing.T) {
	for _, run := range []string{strings.Repeat("a", 24), strings.Repeat("A", 24), strings.Repeat("é", 12), strings.Repeat("日", 8), strings.Repeat("\U00020000", 6)} {
		for _, ahead := range []string{"", "x ", "the the ", strings.Repeat("y ", 47)} {
			list, e := words.Words(ahead+run+" z"[:min(2, 2*(47-len(runsOf(ahead))))], "the")
			if e != api.OK || !slices.Contains(list, api.Word{Text: small(run), At: len(runsOf(ahead))}) {
				t.Errorf("%q behind %q: %v, %d", run, ahead, list, e)
			}
			for _, more := range []string{"b", "B", "é", "日", "\U00020000", strings.Repeat("a", 1000)} {
				list, e := words.Words(ahead+run+more, "the", small(run+more))
				holds(t, ahead+run+more, list, nil, e, api.ErrLong)
			}
		}
	}
}

// P9.1: ahead of a run there are fewer than MaxWords, stop words and all.
func TestFull(t *testing.T) {
	for _, stops := range [][]string{nil, {"a"}, {"a", "b"}} {
		for _, gap := range []string{" ", "--", "\U0001f600"} {
			check(t, strings.Repeat("a"+gap, 48), stops...)
			check(t, gap+strings.Repeat("a"+gap, 47)+"b", stops...)
			for _, more := range []string{"b", "a", "b" + gap, strings.Repeat("b"+gap, 1000)} {
				list, e := words.Words(strings.Repeat("a"+gap, 48)+more, stops...)
				holds(t, "more than there may be", list, nil, e, api.ErrFull)
			}
		}
	}
	list, e := words.Words(strings.Repeat("a ", 47)+"b", "a")
	holds(t, "the last one", list, []api.Word{{Text: "b", At: 47}}, e, api.OK)
	if list, e := words.Words(strings.Repeat("a ", 48), "a"); e != api.OK || len(list) != 0 {
		t.Errorf("stop words alone: %v, %d", list, e)
	}
}

// P9.1, R2: which error goes first: a fault anywhere, then the first run that is long, or has too many ahead of it; of one that is both, it is long.
func TestWhichError(t *testing.T) {
	long, full := strings.Repeat("b", 25), strings.Repeat("a ", 48)
	for _, x := range []struct {
		text string
		want api.Errno
	}{
		{long + "\xff", api.ErrUtf}, {full + "c \xc3", api.ErrUtf}, {"\xff" + long, api.ErrUtf}, {"a\xc3 " + full + long, api.ErrUtf},
		{full + long, api.ErrLong}, {full + "c " + long, api.ErrFull}, {long + " " + full + "c", api.ErrLong}, {"a " + long + " " + full, api.ErrLong},
		{full + "c", api.ErrFull}, {full + long + " c", api.ErrLong}, {full[2:] + long, api.ErrLong}, {full + "c " + long + "\x80", api.ErrUtf},
	} {
		for _, stops := range [][]string{nil, {"a"}, {"a", "b", "c", long}} {
			list, e := words.Words(x.text, stops...)
			holds(t, x.text, list, nil, e, x.want)
		}
	}
}

// P9.1: a text is read strictly: what is no code point's bytes is an error wherever it stands, and no blank.
func TestWrongTexts(t *testing.T) {
	for _, wrong := range wrongPieces {
		for _, ahead := range []string{"", "a", "a ", "é", "日本 ", strings.Repeat("é ", 300)} {
			for _, behind := range []string{"", "a", " a", "日"} {
				list, e := words.Words(ahead+wrong+behind, "a")
				holds(t, ahead+wrong+behind, list, nil, e, api.ErrUtf)
			}
		}
	}
}

// P9.1: what is among stops is left out whether these may be or not, if it is just the word's text.
func TestStopsThatMayNotBe(t *testing.T) {
	const text = "The cat, the CAT-3 É"
	many := make([]string, 100)
	for i := range many {
		many[i] = strconv.Itoa(i)
	}
	for _, stops := range [][]string{
		{"the", "cat"}, {"the", "the", "3"}, {"The"}, {"THE", "Cat"}, {"the cat"}, {" the"}, {"the "}, {""}, {"\xff", "the"}, {"th"}, {"thee"}, {"é"}, {"É"}, {strings.Repeat("a", 100), "3"}, many,
	} {
		check(t, text, stops...)
	}
	list, e := words.Words(text, "The", "cat ", "", "\xff", "É", "3")
	holds(t, text, list, []api.Word{{Text: "the", At: 0}, {Text: "cat", At: 1}, {Text: "the", At: 2}, {Text: "cat", At: 3}}, e, api.OK)
}

// P9.1: texts of runs and what stands between them, with stop words.
func TestTexts(t *testing.T) {
	r := rand.New(rand.NewSource(9))
	seen := map[api.Errno]int{}
	for range 20000 {
		text := someText(r, r.Intn(52))
		check(t, text)
		check(t, text, someStops(r, text)...)
		_, e := wordsOf(text)
		seen[e]++
	}
	if len(seen) != 4 {
		t.Errorf("not all errors came: %v", seen)
	}
}

// P9.1, R1: long texts have their answers, whatever they are of.
func TestLongTexts(t *testing.T) {
	const n = 1 << 21
	for _, x := range []struct {
		text string
		want api.Errno
		many int
	}{
		{strings.Repeat(" ", n), api.OK, 0}, {strings.Repeat(".", n) + "a", api.OK, 1}, {strings.Repeat("a", n), api.ErrLong, 0},
		{strings.Repeat("é ", n), api.ErrFull, 0}, {strings.Repeat("é ", n) + "\xff", api.ErrUtf, 0}, {strings.Repeat("x"+strings.Repeat("-", n/48), 48), api.OK, 48},
	} {
		list, e := words.Words(x.text, "b")
		if e != x.want || len(list) != x.many {
			t.Errorf("%.9q: %d words, %d", x.text, len(list), e)
		}
	}
}

// P9.5: words of which each is one, with what is no letter between, are the words of that text.
func TestParted(t *testing.T) {
	r := rand.New(rand.NewSource(95))
	for range 10000 {
		var want []api.Word
		text := some(r, r.Intn(2), gapPieces)
		for range r.Intn(49) {
			word := small(some(r, 1+r.Intn(3), runPieces))
			if !words.One(word) {
				continue
			}
			if len(want) > 0 {
				text += gap(r)
			}
			text += word
			want = append(want, api.Word{Text: word, At: len(want)})
		}
		list, e := words.Words(text + some(r, r.Intn(2), gapPieces))
		holds(t, text, list, want, e, api.OK)
	}
}

// P9.6: with stop words a text has the words that it has without, but those.
func TestLeftOut(t *testing.T) {
	r := rand.New(rand.NewSource(96))
	for range 10000 {
		text := someText(r, r.Intn(52))
		stops := someStops(r, text)
		without, wantErr := words.Words(text)
		var want []api.Word
		for _, w := range without {
			if !slices.Contains(stops, w.Text) {
				want = append(want, w)
			}
		}
		list, e := words.Words(text, stops...)
		holds(t, text, list, want, e, wantErr)
	}
}

// P9.7: the words of two texts with a blank between are those of both, the second one's behind all of the first one's runs.
func TestOneBehindTheOther(t *testing.T) {
	r := rand.New(rand.NewSource(97))
	both := 0
	for range 20000 {
		first, second := someText(r, r.Intn(24)), someText(r, r.Intn(24))
		stops := someStops(r, first+" "+second)
		want, e1 := words.Words(first, stops...)
		more, e2 := words.Words(second, stops...)
		if e1 != api.OK || e2 != api.OK || len(runsOf(first))+len(runsOf(second)) > 48 {
			continue
		}
		for _, w := range more {
			want = append(want, api.Word{Text: w.Text, At: w.At + len(runsOf(first))})
		}
		list, e := words.Words(first+" "+second, stops...)
		holds(t, first+" "+second, list, want, e, api.OK)
		both++
	}
	if both < 1000 {
		t.Errorf("of no more than %d texts", both)
	}
}
