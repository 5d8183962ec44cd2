package posting_test

import (
	"math"
	"math/rand"
	"slices"
	"strings"
	"testing"

	"incipit/api"
	"incipit/posting"
)

// writes holds May and Bytes against the model, and Read against Bytes.
func writes(t *testing.T, at ...int) {
	t.Helper()
	want, wantErr := "", api.ErrArg
	may := mayBe(at...)
	if may {
		want, wantErr = bytesOf(at...), api.OK
	}
	b, e := posting.Bytes(at...)
	if string(b) != want || e != wantErr || posting.May(at...) != may {
		t.Fatalf("%v: %x, %d, %v, not %x, %d, %v", at, b, e, posting.May(at...), want, wantErr, may)
	}
	if may {
		reads(t, want, at...)
	}
}

// reads holds Read against the places that it must answer.
func reads(t *testing.T, text string, want ...int) {
	t.Helper()
	if at, e := posting.Read([]byte(text)); e != api.OK || !slices.Equal(at, want) {
		t.Fatalf("%x: %v, %d, not %v", text, at, e, want)
	}
}

// refuses holds Read to an error.
func refuses(t *testing.T, text string) {
	t.Helper()
	if at, e := posting.Read([]byte(text)); e != api.ErrForm || at != nil {
		t.Fatalf("%x: %v, %d", text, at, e)
	}
}

// P10.2: the chapter's examples.
func TestBytesExamples(t *testing.T) {
	for _, x := range []struct {
		want string
		e    api.Errno
		at   []int
	}{{"\x01\x02\x00\x01\x02", api.OK, []int{0, 3}}, {"\x01\x01\x01\x02", api.OK, []int{2}}, {"", api.ErrArg, nil}, {"", api.ErrArg, []int{3, 3}}, {"", api.ErrArg, []int{48}}} {
		if b, e := posting.Bytes(x.at...); string(b) != x.want || e != x.e || posting.May(x.at...) != (x.e == api.OK) {
			t.Errorf("%v: %x, %d, %v", x.at, b, e, posting.May(x.at...))
		}
	}
	reads(t, "\x01\x02\x00\x01\x02", 0, 3)
	refuses(t, "\x01\x02\x00")
}

// P10.2: places at the edges, and what may not be.
func TestMay(t *testing.T) {
	all := make([]int, 48)
	for i := range all {
		all[i] = i
	}
	for _, x := range []struct {
		may bool
		at  []int
	}{
		{true, []int{0}}, {true, []int{47}}, {true, []int{0, 47}}, {true, []int{46, 47}}, {true, []int{0, 1}}, {true, all}, {true, all[1:]}, {true, all[:47]},
		{false, []int{}}, {false, []int{-1}}, {false, []int{48}}, {false, []int{0, 48}}, {false, []int{-1, 0}}, {false, []int{0, 0}}, {false, []int{1, 0}}, {false, []int{0, 2, 1}}, {false, []int{0, 2, 2}}, {false, []int{47, 47}}, {false, []int{47, 0}}, {false, []int{5, -1}}, {false, append(slices.Clone(all), 47)}, {false, append(slices.Clone(all), 48)}, {false, append([]int{0}, all...)}, {false, append([]int{-1}, all...)},
		{false, []int{math.MaxInt}}, {false, []int{math.MinInt}}, {false, []int{math.MinInt, 0}}, {false, []int{0, math.MaxInt}}, {false, []int{0, math.MinInt}}, {false, []int{1 << 32}}, {false, []int{0, 1<<32 + 1}}, {false, []int{256}}, {false, []int{-255}},
	} {
		if posting.May(x.at...) != x.may {
			t.Errorf("%v: %v", x.at, !x.may)
		}
		writes(t, x.at...)
	}
}

// P10.2: each one and two places, right or wrong, and three within less.
func TestFewPlaces(t *testing.T) {
	for a := -3; a < 52; a++ {
		writes(t, a)
		for b := -3; b < 52; b++ {
			writes(t, a, b)
		}
	}
	few := []int{-1, 0, 1, 2, 45, 46, 47, 48}
	for _, a := range few {
		for _, b := range few {
			for _, c := range few {
				writes(t, a, b, c)
			}
		}
	}
}

// P10.5: places that were written are read as they were.
func TestThereAndBack(t *testing.T) {
	r := rand.New(rand.NewSource(105))
	for range 20000 {
		at := somePlaces(r)
		writes(t, at...)
		at[r.Intn(len(at))] += r.Intn(5) - 2
		writes(t, at...)
	}
}

// P10.2, R1: many places that may not be, and long bytes that are none.
func TestManyPlaces(t *testing.T) {
	writes(t, make([]int, 1<<10)...)
	many := make([]int, 1<<20)
	for i := range many {
		many[i] = i
	}
	if b, e := posting.Bytes(many...); e != api.ErrArg || b != nil || posting.May(many...) {
		t.Errorf("%d bytes, %d", len(b), e)
	}
	for _, text := range []string{strings.Repeat("\x00", 1<<20), strings.Repeat("\x01", 1<<20), strings.Repeat("\x08", 1<<20), bytesOf(0, 3) + strings.Repeat("\x00", 1<<20)} {
		refuses(t, text)
	}
}

// P10.2, P10.5: of all short bytes just those are read which some places have.
func TestAllShortBytes(t *testing.T) {
	right := map[string][]int{}
	for n := 1; n <= 3; n++ {
		for text, at := range written(n) {
			right[text] = at
		}
	}
	if len(right) != 48+48*47/2+48*47*46/6 {
		t.Fatalf("%d", len(right))
	}
	for text, at := range right {
		reads(t, text, at...)
	}
	// With a fourth place there are five bytes at least, and a sixth one for all that is not 0.
	alphabet := []string{"\x00", "\x01", "\x02", "\x03", "\x2d", "\x2e", "\x2f", "\x30", "\x31", "\x80", "\xff"}
	var all func(text string, left int)
	all = func(text string, left int) {
		if at, there := right[text]; there {
			reads(t, text, at...)
		} else {
			refuses(t, text)
		}
		for _, next := range alphabet {
			if left > 0 {
				all(text+next, left-1)
			}
		}
	}
	all("", 5)
}

// P10.2: what is wrong with bytes: a number that is none, or not in its one form, too many places, too great ones, bytes that are missing, or left.
func TestWrongBytes(t *testing.T) {
	all := "\x01\x30" + strings.Repeat("\x00", 48)
	reads(t, all, slices.Collect(func(yield func(int) bool) {
		for i := range 48 {
			yield(i)
		}
	})...)
	for _, text := range []string{
		"", "\x00", "\x00\x00", "\x01", "\x01\x00", "\x01\x01", "\x09", "\xff", all[:len(all)-1], all + "\x00", "\x01\x31" + strings.Repeat("\x00", 49), "\x01\x31" + strings.Repeat("\x00", 48), "\x01\x30" + strings.Repeat("\x00", 47) + "\x01\x01", "\x01\x2f" + strings.Repeat("\x00", 46) + "\x01\x02",
		"\x01\x01\x01\x30", "\x01\x01\x01\xff", "\x01\x01\x02\x01\x00", "\x01\x01\x08\xff\xff\xff\xff\xff\xff\xff\xff", "\x01\x01\x08\x80\x00\x00\x00\x00\x00\x00\x00", "\x01\x01\x08\x7f\xff\xff\xff\xff\xff\xff\xff", "\x01\x01\x05\x01\x00\x00\x00\x00", "\x01\x01\x05\x01\x00\x00\x00\x05",
		"\x01\x02\x01\x2f\x00", "\x01\x02\x01\x2e\x01\x01", "\x01\x02\x01\x2f\x01\x01", "\x01\x02\x00\x01\x2f", "\x01\x02\x01\x01\x08\xff\xff\xff\xff\xff\xff\xff\xff", "\x01\x02\x01\x01\x08\xff\xff\xff\xff\xff\xff\xff\xfe", "\x01\x02\x01\x05\x08\xff\xff\xff\xff\xff\xff\xff\xfc",
		"\x01\x01\x01\x00", "\x02\x00\x01\x00", "\x01\x01\x02\x00\x01", "\x02\x01\x00" + strings.Repeat("\x00", 256), "\x08\xff\xff\xff\xff\xff\xff\xff\xff", "\x08\x00\x00\x00\x00\x00\x00\x00\x01\x00", "\x05\x01\x00\x00\x00\x01\x00", "\x04\x80\x00\x00\x00\x00",
	} {
		if _, ok := readOf(text); ok {
			t.Errorf("%x: the model reads it", text)
		}
		refuses(t, text)
	}
}

// P10.2, P10.5: what differs in a byte is read as what it says, and is written so, or it is refused.
func TestBytesChanged(t *testing.T) {
	r := rand.New(rand.NewSource(25))
	read, refused := 0, 0
	check := func(text string) {
		want, ok := readOf(text)
		if !ok {
			refused++
			refuses(t, text)
			return
		}
		read++
		reads(t, text, want...)
		if b, e := posting.Bytes(want...); e != api.OK || string(b) != text {
			t.Fatalf("%v: %x, %d, not %x", want, b, e, text)
		}
	}
	for range 60 {
		text := bytesOf(somePlaces(r)...)
		for i := range text {
			check(text[:i])
			check(text[:i] + text[i+1:])
			check(text[:i] + "\x00" + text[i:])
			check(text[:i] + "\x01" + text[i:])
			for change := range 256 {
				check(text[:i] + string([]byte{byte(change)}) + text[i+1:])
			}
		}
		check(text + "\x00")
	}
	if read < 3000 || refused < 3000 {
		t.Errorf("%d read, %d refused", read, refused)
	}
}
