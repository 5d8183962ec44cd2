package utf_test

import (
	"math"
	"testing"

	"incipit/utf"
)

// P8.3: the chapter's examples.
func TestLetterExamples(t *testing.T) {
	for c, want := range map[int]bool{0x41: true, 0xE9: true, 0x4E00: true, 0x20: false, 0x2D: false, -1: false} {
		if utf.Letter(c) != want {
			t.Errorf("%x: %v", c, !want)
		}
	}
}

// P8.3: each number from far below the first letter to far above the last one, as the chapter's list has it.
func TestEachLetter(t *testing.T) {
	all := isLetter(t)
	for c := -0x1000; c <= 0x3FFFFF; c++ {
		if utf.Letter(c) != all[c] {
			t.Fatalf("%x: %v", c, utf.Letter(c))
		}
	}
}

// P8.3, R6: a number is taken as it is: one that ends in a letter's bits is none.
func TestLetterOfFarNumbers(t *testing.T) {
	for _, c := range []int{0x41, 0x7A, 0xE9, 0x4E00, 0x2A6DF} {
		for _, far := range []int{c + 1<<32, c + 1<<31, c + 1<<40, c - 1<<32, c - 1<<31, -c, math.MinInt + c, math.MaxInt - c} {
			if utf.Letter(far) {
				t.Errorf("%x is taken for a letter", far)
			}
		}
	}
	for _, c := range []int{math.MinInt, math.MaxInt, math.MinInt32, math.MaxInt32} {
		if utf.Letter(c) {
			t.Errorf("%x is taken for a letter", c)
		}
	}
}
