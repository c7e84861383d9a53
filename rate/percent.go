package rate

import (
	"math"

	"falsework/api"
)

// perCent is how many points are one per cent.
const perCent = 100

// A float's bits, from the last one on: the fraction, the exponent, the sign.
const (
	fractionBits = 52
	exponentMask = 1<<11 - 1
	// The fraction with its first bit, which isn't written, is a whole number: the float is that by two to the power of this less the exponent.
	bias = 1023 + fractionBits
	// A hundred times such a whole number is below two to the power of this.
	productBits = 60
)

// Points: basis points of a percentage.
func Points(percent float64) (int64, api.Errno) {
	// What is no number is neither below a bound nor above it: so it is asked what may be, not what may not.
	if !(percent >= 0 && percent <= api.MaxRate/perCent) {
		return 0, api.ErrFloat
	}
	return hundredfold(math.Float64bits(percent)), api.OK
}

// hundredfold: a hundred times a float that has these bits and is from 0 to 100, to the nearest, of two as near to the even one. It is made of whole numbers, for a float's product would be rounded by itself first.
func hundredfold(bits uint64) int64 {
	exponent := bits >> fractionBits & exponentMask
	shift := bias - exponent
	// Below a half. Zero, of either sign, and all others that have no first bit are among these.
	if shift > productBits {
		return 0
	}
	first := uint64(1) << fractionBits
	product := (bits&(first-1) | first) * perCent
	nearest := product >> shift
	unit := uint64(1) << shift
	rest := product & (unit - 1)
	if rest > unit/2 || rest == unit/2 && nearest%2 == 1 {
		nearest++
	}
	return int64(nearest)
}

// Percent: a percentage of basis points.
func Percent(points int64) (float64, api.Errno) {
	if points < 0 || points > api.MaxRate {
		return 0, api.ErrFloat
	}
	// Both are floats to the last bit: of their exact quotient the division gives the nearest float.
	return float64(points) / perCent, api.OK
}
