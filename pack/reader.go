package pack

import (
	"bytes"
	"math"

	"falsework/api"
)

const (
	// A number has at most so many bytes, and the last one of these has but one bit to give to 64.
	longest  = 10
	lastMost = 1
	// No small number is above this.
	smallMost = 1 << 31
)

// Reader is bytes from which things are taken.
type Reader struct {
	left   []byte // what isn't taken; nothing, if it has failed, so that nothing is taken any more
	failed bool
}

// New: one of bytes.
func New(b []byte) *Reader {
	// What is handed in may be written over behind the call.
	return &Reader{left: bytes.Clone(b)}
}

// Num: the next number.
func (r *Reader) Num() uint64 {
	var n uint64
	count := 0
number:
	for i, x := range r.left {
		n |= uint64(x%goesOn) << (bitsEach * i)
		switch {
		case i == longest-1 && x > lastMost:
			break number
		case i > 0 && x == 0: // it would take fewer bytes
			break number
		case x < goesOn:
			count = i + 1
			break number
		}
	}
	if count == 0 {
		r.Fail()
		return 0
	}
	r.take(count)
	return n
}

// Int: the next number of any sign.
func (r *Reader) Int() int64 {
	return unfold(r.Num())
}

// Small: the next number, that isn't too great.
func (r *Reader) Small(most uint64) int {
	n := r.Num()
	if n > min(most, smallMost) {
		r.Fail()
		return 0
	}
	return int(n)
}

// Text: the next text.
func (r *Reader) Text() string {
	return string(r.take(r.Small(api.MaxBytes)))
}

// Float: the next float.
func (r *Reader) Float() float64 {
	var bits uint64
	for i, x := range r.take(floatBytes) {
		bits |= uint64(x) << (8 * i)
	}
	return math.Float64frombits(bits)
}

// take: the next bytes; none, and it has failed, if there are fewer.
func (r *Reader) take(count int) []byte {
	if count > len(r.left) {
		r.Fail()
		return nil
	}
	taken := r.left[:count]
	r.left = r.left[count:]
	return taken
}

// Left: how many bytes aren't taken.
func (r *Reader) Left() int {
	return len(r.left)
}

// Fail: it has failed.
func (r *Reader) Fail() {
	*r = Reader{failed: true}
}

// Ended: is nothing left, and all well?
func (r *Reader) Ended() bool {
	return !r.failed && len(r.left) == 0
}
