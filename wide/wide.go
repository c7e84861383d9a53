// Package wide is layer 1: see shared/doc/01-wide.md.
package wide

import (
	"cmp"

	"falsework/api"
)

// Add: a plus b.
func Add(a, b int64) (int64, api.Errno) {
	sum := a + b
	// A sum that has wrapped round lies on the wrong side of a.
	if (sum < a) != (b < 0) {
		return 0, api.ErrOver
	}
	return sum, api.OK
}

// Sub: a less b.
func Sub(a, b int64) (int64, api.Errno) {
	rest := a - b
	// As in Add; b is not turned round, for the least number has no opposite.
	if (rest > a) != (b < 0) {
		return 0, api.ErrOver
	}
	return rest, api.OK
}

// Mul: a times b.
func Mul(a, b int64) (int64, api.Errno) {
	return product(a, b).narrow()
}

// Sum: all of them.
func Sum(l ...int64) (int64, api.Errno) {
	// 128 bits: sums on the way may leave 64 bits and come back.
	var sum whole
	for _, n := range l {
		sum = sum.plus(n)
	}
	return sum.narrow()
}

// Floor: a times b, by c, rounded down.
func Floor(a, b, c int64) (int64, api.Errno) {
	q, err := divide(product(a, b), c)
	if err != api.OK {
		return 0, err
	}
	// Down is away from 0 for what is below 0.
	if q.negative && q.rest > 0 {
		q.size++
	}
	return q.signed()
}

// Even: a times b, by c, rounded to the nearest, of two that are as near to the even one.
func Even(a, b, c int64) (int64, api.Errno) {
	q, err := divide(product(a, b), c)
	if err != api.OK {
		return 0, err
	}
	// The rest is below c, which is below 2^63: twice the rest does not wrap.
	twice := 2 * q.rest
	if twice > uint64(c) || twice == uint64(c) && q.size%2 == 1 {
		q.size++
	}
	return q.signed()
}

// Cross: -1, 0 or 1, as a times b is below c times d, the same, or above.
func Cross(a, b, c, d int64) int {
	left, right := product(a, b), product(c, d)
	if left.high != right.high {
		return cmp.Compare(left.high, right.high)
	}
	return cmp.Compare(left.low, right.low)
}
