package wide

import (
	"math/bits"

	"falsework/api"
)

// whole is a number of 128 bits, high times 2^64 plus low: any product of two numbers of 64 bits is one.
type whole struct {
	high int64
	low  uint64
}

// product: a times b, whatever its size.
func product(a, b int64) whole {
	high, low := bits.Mul64(uint64(a), uint64(b))
	// A number below 0, taken without its sign, is 2^64 too great; so the product has the other one too often in its upper half.
	if a < 0 {
		high -= uint64(b)
	}
	if b < 0 {
		high -= uint64(a)
	}
	return whole{int64(high), low}
}

// plus: the number and n.
func (w whole) plus(n int64) whole {
	low, carry := bits.Add64(w.low, uint64(n), 0)
	// n>>63 is the upper half of n: its sign, over and over.
	return whole{w.high + n>>63 + int64(carry), low}
}

// narrow: the number in 64 bits, if it is one of these.
func (w whole) narrow() (int64, api.Errno) {
	n := int64(w.low)
	if w.high != n>>63 {
		return 0, api.ErrOver
	}
	return n, api.OK
}

// size: the number without its sign, in halves.
func (w whole) size() (high, low uint64) {
	if w.high >= 0 {
		return uint64(w.high), w.low
	}
	low, borrow := bits.Sub64(0, w.low, 0)
	high, _ = bits.Sub64(0, uint64(w.high), borrow)
	return high, low
}

// greatest is the size of the least number of 64 bits: no number of 64 bits is farther from 0.
const greatest = 1 << 63

// quotient is what a division gives, cut towards 0, and what is left of it: whoever asked rounds it.
type quotient struct {
	negative   bool
	size, rest uint64
}

// divide: w by c; ErrZero, if c isn't above 0; ErrOver, if the result is no number of 64 bits however it is rounded.
func divide(w whole, c int64) (quotient, api.Errno) {
	if c <= 0 {
		return quotient{}, api.ErrZero
	}
	high, low := w.size()
	if high >= uint64(c) { // at least 2^64; Div64 would panic
		return quotient{}, api.ErrOver
	}
	size, rest := bits.Div64(high, low, uint64(c))
	// What is greater is turned away here, so that adding 1 to round does not wrap.
	if size > greatest {
		return quotient{}, api.ErrOver
	}
	return quotient{w.high < 0, size, rest}, api.OK
}

// signed: the size with its sign, if that is a number of 64 bits.
func (q quotient) signed() (int64, api.Errno) {
	if q.negative && q.size <= greatest {
		return int64(-q.size), api.OK
	}
	if !q.negative && q.size < greatest {
		return int64(q.size), api.OK
	}
	return 0, api.ErrOver
}
