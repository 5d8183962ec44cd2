package posting_test

import (
	"math"
	"math/rand"
	"slices"
	"strconv"
	"strings"
	"testing"

	"incipit/api"
	"incipit/posting"
)

// P10.1: the chapter's example.
func TestTermsExample(t *testing.T) {
	got := posting.Terms(api.Word{Text: "b", At: 0}, api.Word{Text: "a", At: 1}, api.Word{Text: "b", At: 3})
	if want := []api.Term{{Text: "a", At: []int{1}}, {Text: "b", At: []int{0, 3}}}; !sameTerms(got, want) {
		t.Errorf("%v", got)
	}
}

// P10.1: of no words no term.
func TestTermsOfNone(t *testing.T) {
	if got := posting.Terms(); len(got) != 0 {
		t.Errorf("%v", got)
	}
	if got := posting.Terms([]api.Word{}...); len(got) != 0 {
		t.Errorf("%v", got)
	}
}

// P10.1: texts rise byte by byte, whatever they are, and each comes once.
func TestTermsRise(t *testing.T) {
	r := rand.New(rand.NewSource(101))
	for range 300 {
		var l []api.Word
		for at, i := range r.Perm(len(texts)) {
			l = append(l, api.Word{Text: texts[i], At: at})
		}
		l = append(l, l[:r.Intn(len(l))]...)
		checkTerms(t, posting.Terms(l...), l...)
	}
}

// P10.1: places stand in the order in which they come, be they falling, alike, or none at all.
func TestTermsOfAnyPlaces(t *testing.T) {
	for _, places := range [][]int{{3, 2, 1}, {5, 5, 5}, {0}, {-1, 48, 1000}, {math.MaxInt, math.MinInt, 0, math.MaxInt}} {
		var l []api.Word
		for i, at := range places {
			l = append(l, api.Word{Text: "b", At: at}, api.Word{Text: texts[i], At: -at})
		}
		checkTerms(t, posting.Terms(l...), l...)
	}
	r := rand.New(rand.NewSource(1))
	for range 3000 {
		l := make([]api.Word, r.Intn(60))
		for i := range l {
			l[i] = api.Word{Text: texts[r.Intn(len(texts))], At: r.Intn(60) - 5}
		}
		checkTerms(t, posting.Terms(l...), l...)
	}
}

// P10.1, R1: many words, of one text, and of as many texts as words.
func TestTermsOfMany(t *testing.T) {
	const n = 200000
	one, unlike := make([]api.Word, n), make([]api.Word, n)
	for i := range n {
		one[i] = api.Word{Text: "a", At: i}
		unlike[i] = api.Word{Text: strconv.Itoa(2*n - i), At: i}
	}
	if got := posting.Terms(one...); len(got) != 1 || len(got[0].At) != n || got[0].At[n-1] != n-1 {
		t.Errorf("%d terms", len(got))
	}
	got := posting.Terms(unlike...)
	if len(got) != n {
		t.Fatalf("%d terms", len(got))
	}
	for i, term := range got {
		if term.Text != strconv.Itoa(n+1+i) || !slices.Equal(term.At, []int{n - 1 - i}) {
			t.Fatalf("%d: %v", i, term)
		}
	}
}

// P10.7: the terms have each word of a text once, and no other one.
func TestTermsHaveAll(t *testing.T) {
	r := rand.New(rand.NewSource(107))
	for range 3000 {
		l := someWords(r, r.Intn(49), 1+r.Intn(len(texts)))
		var back []api.Word
		for _, term := range posting.Terms(l...) {
			for _, at := range term.At {
				back = append(back, api.Word{Text: term.Text, At: at})
			}
		}
		slices.SortFunc(back, func(a, b api.Word) int { return a.At - b.At })
		if !slices.Equal(back, l) {
			t.Fatalf("%v: %v", l, back)
		}
	}
}

// P10.1, P10.2: the places of a text's terms may be.
func TestTermsMay(t *testing.T) {
	r := rand.New(rand.NewSource(12))
	for range 1000 {
		for _, term := range posting.Terms(someWords(r, 48, 1+r.Intn(5))...) {
			if !posting.May(term.At...) {
				t.Fatalf("%v", term)
			}
		}
	}
}

// P10.3: the chapter's examples.
func TestPhraseExamples(t *testing.T) {
	if a, b, c := posting.Phrase([]int{0, 4, 7}, []int{1, 5, 9}), posting.Phrase([]int{0, 4}), posting.Phrase(); a != 2 || b != 2 || c != 0 {
		t.Error(a, b, c)
	}
}

// P10.3: at how many places a phrase stands, of rows of all sorts.
func TestPhrase(t *testing.T) {
	for _, x := range []struct {
		want int
		rows [][]int
	}{
		{0, [][]int{}}, {0, [][]int{nil}}, {0, [][]int{{}, {}}}, {0, [][]int{{}, {1}}}, {0, [][]int{{0}, {}}}, {0, [][]int{{0}, {1}, nil}}, {0, [][]int{{0}, nil, {2}}},
		{1, [][]int{{0}}}, {3, [][]int{{47, 0, 9}}}, {1, [][]int{{0}, {1}}}, {0, [][]int{{0}, {0}}}, {0, [][]int{{1}, {0}}}, {0, [][]int{{0}, {2}}}, {0, [][]int{{0}, {1}, {1}}}, {0, [][]int{{0}, {1}, {3}}}, {1, [][]int{{0}, {1}, {2}}},
		{3, [][]int{{0, 1, 2}, {1, 2, 3}}}, {2, [][]int{{0, 1, 2}, {0, 1, 2}}}, {1, [][]int{{0, 1, 2}, {0, 1, 2}, {0, 1, 2}}}, {0, [][]int{{0, 1, 2}, {0, 1, 2}, {0, 1, 2}, {0, 1, 2}}}, {1, [][]int{{46}, {47}}}, {1, [][]int{{47}, {48}}}, {1, [][]int{{1000}, {1001}}},
		{2, [][]int{{7, 4, 0}, {9, 5, 1}}}, {1, [][]int{{5, 5, 5}}}, {1, [][]int{{5, 5}, {6, 6}}}, {1, [][]int{{5, 5}, {6}}}, {1, [][]int{{5}, {6, 6, 6}}}, {2, [][]int{{3, 5, 3}, {6, 4, 6}, {7, 5, 7, 5}}},
	} {
		if got := posting.Phrase(x.rows...); got != x.want || standsOf(x.rows...) != x.want {
			t.Errorf("%v: %d, not %d", x.rows, got, x.want)
		}
	}
}

// P10.3: a phrase stands nowhere below 0, though its rows have places there.
func TestPhraseBelowNought(t *testing.T) {
	for _, x := range []struct {
		want int
		rows [][]int
	}{
		{0, [][]int{{-1}}}, {0, [][]int{{-1}, {0}}}, {0, [][]int{{-1, -1}, {0, 0}, {1}}}, {0, [][]int{{-2}, {-1}}}, {1, [][]int{{-1, 0}, {0, 1}}}, {1, [][]int{{0}, {1, 0, -1}}}, {0, [][]int{{-5, -4, -3}, {-4, -3, -2}}}, {1, [][]int{{-1, 0, -1}}},
	} {
		if got := posting.Phrase(x.rows...); got != x.want || standsOf(x.rows...) != x.want {
			t.Errorf("%v: %d, not %d", x.rows, got, x.want)
		}
	}
}

// P10.3, R6: at the ends of all numbers a place is taken as it is: none is behind the greatest one.
func TestPhraseAtTheEnds(t *testing.T) {
	const least, most = math.MinInt, math.MaxInt
	for _, x := range []struct {
		want int
		rows [][]int
	}{
		{1, [][]int{{most}}}, {0, [][]int{{least}}}, {0, [][]int{{most}, {least}}}, {0, [][]int{{most}, {least}, {least + 1}}}, {0, [][]int{{most - 1}, {most}, {least}}}, {1, [][]int{{most - 1}, {most}}}, {1, [][]int{{most - 1, most}, {most, least}}}, {0, [][]int{{most}, {most}}}, {0, [][]int{{least}, {least + 1}}}, {0, [][]int{{-1}, {least}}}, {0, [][]int{{most, least}, {least, most}}},
	} {
		if got := posting.Phrase(x.rows...); got != x.want || standsOf(x.rows...) != x.want {
			t.Errorf("%v: %d, not %d", x.rows, got, x.want)
		}
	}
}

// P10.3: rows of places of all sorts, by the chapter's words.
func TestPhraseOfAnyRows(t *testing.T) {
	r := rand.New(rand.NewSource(103))
	seen := map[int]int{}
	for range 30000 {
		rows := make([][]int, r.Intn(6))
		wide := 2 + r.Intn(12)
		for i := range rows {
			for range r.Intn(2 * wide) {
				rows[i] = append(rows[i], r.Intn(wide)-1+i*r.Intn(2))
			}
		}
		got, want := posting.Phrase(rows...), standsOf(rows...)
		if got != want {
			t.Fatalf("%v: %d, not %d", rows, got, want)
		}
		seen[got]++
	}
	for n := range 5 {
		if seen[n] < 300 {
			t.Errorf("%d times came no more than %d times", n, seen[n])
		}
	}
}

// P10.3, R1: long rows, and many.
func TestPhraseOfMany(t *testing.T) {
	const n = 1 << 20
	long := make([]int, n)
	for i := range long {
		long[i] = n - 1 - i
	}
	if got := posting.Phrase(long, long, long); got != n-2 {
		t.Errorf("%d", got)
	}
	rows := make([][]int, n)
	for i := range rows {
		rows[i] = []int{i + 3}
	}
	if got := posting.Phrase(rows...); got != 1 {
		t.Errorf("%d", got)
	}
	rows[n-1][0]++
	if got := posting.Phrase(rows...); got != 0 {
		t.Errorf("%d", got)
	}
}

// P10.6: the phrase of some texts' rows, among the terms of a text's words, stands as often as these texts follow one another.
func TestFound(t *testing.T) {
	r := rand.New(rand.NewSource(106))
	seen := map[int]int{}
	for range 20000 {
		unlike := 1 + r.Intn(4)
		l := someWords(r, r.Intn(49), unlike)
		terms := posting.Terms(l...)
		var phrase []string
		var rows [][]int
		for range 1 + r.Intn(8) {
			text := texts[r.Intn(unlike)]
			phrase = append(phrase, text)
			rows = append(rows, nil)
			for _, term := range terms {
				if term.Text == text {
					rows[len(rows)-1] = term.At
				}
			}
		}
		got, want := posting.Phrase(rows...), follow(l, phrase...)
		if got != want {
			t.Fatalf("%q among %v: %d, not %d", phrase, l, got, want)
		}
		seen[min(got, 3)]++
	}
	if len(seen) != 4 {
		t.Errorf("%v", seen)
	}
}

// P10.4: what is handed in stays, with the room behind its end.
func TestHandedInStays(t *testing.T) {
	r := rand.New(rand.NewSource(104))
	words := someWords(r, 60, 4)
	slices.Reverse(words)
	keptWords := slices.Clone(words)
	for n := range words {
		posting.Terms(words[:n]...)
		if !slices.Equal(words, keptWords) {
			t.Fatalf("%d words: %v", n, words)
		}
	}
	at := []int{2, 3, 47, 5, 5, -1, 60}
	kept := slices.Clone(at)
	for n := range at {
		posting.May(at[:n]...)
		posting.Bytes(at[:n]...)
		posting.Phrase(at[:n], at[n:], at[:n])
		if !slices.Equal(at, kept) {
			t.Fatalf("%d places: %v", n, at)
		}
	}
	b := []byte(bytesOf(2, 3, 47) + "behind")
	for n := range b {
		posting.Read(b[:n])
		if string(b) != bytesOf(2, 3, 47)+"behind" {
			t.Fatalf("%d bytes: %x", n, b)
		}
	}
	rows := [][]int{{0, 1}, {1, 2}, {2, 3}, {3, 4}}
	for n := range rows {
		if got := posting.Phrase(rows[:n]...); got != min(2*n, 2) {
			t.Errorf("%d rows: %d", n, got)
		}
	}
	for i, row := range rows {
		if !slices.Equal(row, []int{i, i + 1}) {
			t.Errorf("row %d: %v", i, row)
		}
	}
}

// P10.4: what is answered is the caller's own: no two terms share memory, and nothing is shared with what was handed in, or answered later.
func TestAnsweredIsNew(t *testing.T) {
	r := rand.New(rand.NewSource(14))
	for range 200 {
		l := someWords(r, 48, 5)
		first, second, want := posting.Terms(l...), posting.Terms(l...), termsOf(l...)
		for i := range first {
			clear(first[i].At[:cap(first[i].At)])
			if !sameTerms(first[i+1:], want[i+1:]) {
				t.Fatalf("term %d and one behind it share memory", i)
			}
		}
		clear(first[:cap(first)])
		clear(l)
		if !sameTerms(second, want) {
			t.Fatalf("%v, not %v", second, want)
		}
	}
	at := []int{0, 3, 47}
	b, _ := posting.Bytes(at...)
	again, _ := posting.Bytes(at...)
	clear(b[:cap(b)])
	clear(at)
	if string(again) != bytesOf(0, 3, 47) {
		t.Errorf("%x", again)
	}
	read, _ := posting.Read(again)
	twin, _ := posting.Read(again)
	clear(read[:cap(read)])
	clear(again)
	if !slices.Equal(twin, []int{0, 3, 47}) {
		t.Errorf("%v", twin)
	}
}

// R5: the same calls have the same answers.
func TestTheSameAgain(t *testing.T) {
	r := rand.New(rand.NewSource(5))
	l := someWords(r, 48, 4)
	rows := [][]int{placesOf("a", l...), placesOf("b", l...)}
	terms, times := posting.Terms(l...), posting.Phrase(rows...)
	for range 200 {
		if !sameTerms(posting.Terms(l...), terms) || posting.Phrase(rows...) != times {
			t.Fatal("another answer")
		}
	}
}

// P10.1, R1: long texts, which differ at their ends alone.
func TestLongTexts(t *testing.T) {
	long := strings.Repeat("a", 1<<22)
	got := posting.Terms(api.Word{Text: long + "b", At: 2}, api.Word{Text: long, At: 1}, api.Word{Text: long[1:] + "a", At: 0})
	if want := []api.Term{{Text: long, At: []int{1, 0}}, {Text: long + "b", At: []int{2}}}; !sameTerms(got, want) {
		t.Errorf("%d terms", len(got))
	}
}
