// Package sha is layer 1: SHA-256 (FIPS 180-4), and sums as digits. See shared/doc/01-sha.md.
package sha

import (
	"strings"

	"incipit/api"
)

const digits = "0123456789abcdef"

// Sum is the sum of all parts' bytes, one part behind the other.
func Sum(parts ...[]byte) api.Sum {
	h := New()
	h.Write(parts...)
	return h.Sum()
}

// Print writes a sum as 64 small hexadecimal digits.
func Print(s api.Sum) string {
	var text [2 * len(s)]byte
	for i, b := range s {
		text[2*i] = digits[b>>4]
		text[2*i+1] = digits[b&15]
	}
	return string(text[:])
}

// Read is the sum that Print writes as s; false, if there is none.
func Read(s string) (api.Sum, bool) {
	var sum api.Sum
	if len(s) != 2*len(sum) {
		return api.Sum{}, false
	}
	for i := range sum {
		high := strings.IndexByte(digits, s[2*i])
		low := strings.IndexByte(digits, s[2*i+1])
		if high < 0 || low < 0 {
			return api.Sum{}, false
		}
		sum[i] = byte(high<<4 | low)
	}
	return sum, true
}
