package pack

import (
	"bytes"

	"incipit/api"
)

const (
	sumSize = len(api.Sum{})
	mostLow = 8 // bytes of a number behind its first
)

// Cut has bytes of which it cuts off from the front. A zero one has none; a nil one is one behind a fault.
type Cut struct {
	rest
	fault bool
}

// From is a Cut of b's bytes.
func From(b []byte) *Cut { return &Cut{rest: bytes.Clone(b)} }

// Num cuts off the number at the front; a fault, if none stands there, or it is above most.
func (c *Cut) Num(most uint64) uint64 {
	if c.Err() != api.OK {
		return 0
	}
	x, size, ok := c.number(most)
	if !ok {
		c.Fail()
		return 0
	}
	c.take(size)
	return x
}

// Blob cuts off the blob at the front; a fault, if none stands there, or it has more than most bytes.
func (c *Cut) Blob(most int) []byte { return bytes.Clone(c.part(most)) }

// Text cuts off the text at the front; a fault, if none stands there, or it has more than most bytes.
func (c *Cut) Text(most int) string { return string(c.part(most)) }

// Sum cuts off 32 bytes; a fault, if there are fewer.
func (c *Cut) Sum() api.Sum {
	if c.Err() != api.OK || len(c.rest) < sumSize {
		c.Fail()
		return api.Sum{}
	}
	return api.Sum(c.take(sumSize))
}

// Left is how many bytes were not cut off.
func (c *Cut) Left() int {
	if c == nil {
		return 0
	}
	return len(c.rest)
}

// Fail is a fault that the caller found.
func (c *Cut) Fail() {
	if c != nil {
		c.fault = true
	}
}

// Err is ErrForm behind a fault, else OK.
func (c *Cut) Err() api.Errno {
	if c == nil || c.fault {
		return api.ErrForm
	}
	return api.OK
}

// Done is a fault, if bytes are left; then it is like Err.
func (c *Cut) Done() api.Errno {
	if c.Left() > 0 {
		c.Fail()
	}
	return c.Err()
}

// part cuts off the bytes of a blob or text. Its number goes with them or not at all, since by a fault nothing is cut off.
func (c *Cut) part(most int) []byte {
	if c.Err() != api.OK || most < 0 {
		c.Fail()
		return nil
	}
	n, size, ok := c.number(uint64(most))
	if !ok || n > uint64(len(c.rest)-size) {
		c.Fail()
		return nil
	}
	c.take(size)
	return c.take(int(n))
}

// rest is what was not cut off.
type rest []byte

// number is the number at the front, and how many bytes it has; false, if there is none up to most.
func (r rest) number(most uint64) (x uint64, size int, ok bool) {
	if len(r) == 0 || r[0] > mostLow || int(r[0]) >= len(r) {
		return 0, 0, false
	}
	size = 1 + int(r[0])
	low := r[1:size:size]
	for _, b := range low {
		x = x<<8 | uint64(b)
	}
	if x > most || len(low) > 0 && low[0] == 0 {
		return 0, 0, false
	}
	return x, size, true
}

// take cuts n bytes off the front. They end where their room ends, so that nobody writes behind them what is still to be cut off.
func (r *rest) take(n int) []byte {
	front := (*r)[:n:n]
	*r = (*r)[n:]
	return front
}
