package posting_test

import (
	"math/big"
	"math/rand"
	"slices"
	"strings"
	"testing"

	"incipit/api"
)

// What the chapters 2 and 10 say is written out here by their words, with nothing of the program but its types.

// termsOf is Terms by the chapter's words.
func termsOf(l ...api.Word) []api.Term {
	var terms []api.Term
	for _, w := range l {
		of := func(t api.Term) bool { return t.Text == w.Text }
		if slices.ContainsFunc(terms, of) {
			continue
		}
		terms = append(terms, api.Term{Text: w.Text, At: placesOf(w.Text, l...)})
	}
	slices.SortFunc(terms, func(a, b api.Term) int { return strings.Compare(a.Text, b.Text) })
	return terms
}

// placesOf is at which places the words have a text, in their order.
func placesOf(text string, l ...api.Word) []int {
	var at []int
	for _, w := range l {
		if w.Text == text {
			at = append(at, w.At)
		}
	}
	return at
}

// mayBe is May by the chapter's words.
func mayBe(at ...int) bool {
	for i, place := range at {
		for _, ahead := range at[:i] {
			if ahead >= place {
				return false
			}
		}
		if place < 0 || place > 47 {
			return false
		}
	}
	return len(at) >= 1
}

// number is a number's bytes: how many digits it has, and these.
func number(n int) string {
	var digits []byte
	for ; n > 0; n /= 256 {
		digits = append([]byte{byte(n % 256)}, digits...)
	}
	return string([]byte{byte(len(digits))}) + string(digits)
}

// bytesOf is the bytes of places that may be.
func bytesOf(at ...int) string {
	text := number(len(at))
	for i, place := range at {
		between := 0
		for lies := range place {
			if i == 0 || lies > at[i-1] {
				between++
			}
		}
		text += number(between)
	}
	return text
}

// written is all places that may be, n of them, by their bytes.
func written(n int) map[string][]int {
	all := map[string][]int{}
	var more func(at []int)
	more = func(at []int) {
		if len(at) == n {
			all[bytesOf(at...)] = slices.Clone(at)
			return
		}
		for place := range 48 {
			if len(at) == 0 || place > at[len(at)-1] {
				more(append(at[:len(at):len(at)], place))
			}
		}
	}
	more(nil)
	return all
}

// numbers is the bytes of all numbers that places can have, and of more that they can't.
var numbers = func() []string {
	var list []string
	for n := range 100 {
		list = append(list, number(n))
	}
	return list
}()

// readOf is the places whose bytes a text is: each piece is one of the numbers, or none.
func readOf(text string) ([]int, bool) {
	numberAhead := func() int {
		for n, digits := range numbers {
			if strings.HasPrefix(text, digits) {
				text = text[len(digits):]
				return n
			}
		}
		return -1
	}
	var at []int
	next := 0
	for left := numberAhead(); left != 0; left-- {
		between := numberAhead()
		if between < 0 || next+between > 47 {
			return nil, false
		}
		at = append(at, next+between)
		next += between + 1
	}
	return at, text == "" && mayBe(at...)
}

// standsOf is Phrase by the chapter's words; places are reckoned without a bound.
func standsOf(rows ...[]int) int {
	if len(rows) == 0 {
		return 0
	}
	has := func(row []int, place *big.Int) bool {
		return place.IsInt64() && slices.Contains(row, int(place.Int64()))
	}
	times := 0
	for i, p := range rows[0] {
		stands := p >= 0 && !slices.Contains(rows[0][:i], p)
		for behind, row := range rows {
			stands = stands && has(row, new(big.Int).Add(big.NewInt(int64(p)), big.NewInt(int64(behind))))
		}
		if stands {
			times++
		}
	}
	return times
}

// follow is how often texts follow one another among words, place by place.
func follow(l []api.Word, texts ...string) int {
	times := 0
	for _, first := range l {
		stands := true
		for i, text := range texts {
			stands = stands && slices.Contains(l, api.Word{Text: text, At: first.At + i})
		}
		if stands {
			times++
		}
	}
	return times
}

// texts are what words of tests are made of: some begin others, and some are no words at all.
var texts = []string{"a", "b", "aa", "ab", "", "z", "é", "É", "日", "\xff", "\x00", "a ", "A", "0", "10", "9", "\U00020000", strings.Repeat("a", 300)}

// someWords is n words or fewer, as texts have them: their places rise, and some are left out.
func someWords(r *rand.Rand, n, unlike int) []api.Word {
	var l []api.Word
	for at := range n {
		if r.Intn(6) > 0 {
			l = append(l, api.Word{Text: texts[r.Intn(unlike)], At: at})
		}
	}
	return l
}

// somePlaces is places that may be, from 1 to 48 of them.
func somePlaces(r *rand.Rand) []int {
	at := r.Perm(48)[:1+r.Intn(48)]
	slices.Sort(at)
	return at
}

func sameTerm(a, b api.Term) bool { return a.Text == b.Text && slices.Equal(a.At, b.At) }

func sameTerms(a, b []api.Term) bool { return slices.EqualFunc(a, b, sameTerm) }

// checkTerms holds Terms against the model.
func checkTerms(t *testing.T, got []api.Term, l ...api.Word) {
	t.Helper()
	if want := termsOf(l...); !sameTerms(got, want) {
		t.Fatalf("%v: %v, not %v", l, got, want)
	}
}
