package num

import (
	"recycling/api"
)

// The modes of rounding.
const (
	roundDown = iota
	roundUp
	roundAway
	roundEven
)

// Scale returns a * b / c, computed exactly and rounded down (mode 0), up (1), to the nearest integer with halves away from zero (2), or with halves to the even integer (3). It returns ErrRange also if c is 0 or the mode is unknown.
func Scale(a int, b int, c int, mode int) (int, api.Errno) {
	if !allInRange(a, b, c) || c == 0 || mode < roundDown || mode > roundEven {
		return 0, api.ErrRange
	}
	quotient, remainder, ok := divideProduct(abs(a), abs(b), abs(c))
	if !ok {
		return 0, api.ErrOverflow
	}
	negative := (a < 0) != (b < 0) != (c < 0)
	if growsByRounding(quotient, remainder, abs(c), negative, mode) {
		quotient++
	}
	if negative {
		quotient = -quotient
	}
	return checkResult(quotient)
}

// divideProduct returns the quotient and the remainder of a * b / c, for numbers from 0 to MaxNum. It reports false if the quotient is larger than MaxNum.
func divideProduct(a, b, c int) (quotient int, remainder int, ok bool) {
	// a * b may not fit into an int, so it is built up from the bits of b, the highest first, and divided by c at each of them.
	for bit := api.MaxNum; bit > 0; bit >>= 1 {
		quotient, remainder = 2*quotient, 2*remainder
		if b&bit != 0 {
			quotient, remainder = quotient+a/c, remainder+a%c
		}
		quotient, remainder = quotient+remainder/c, remainder%c
		// The quotient never gets smaller again, and might soon not fit into an int.
		if quotient > api.MaxNum {
			return 0, 0, false
		}
	}
	return quotient, remainder, true
}

// growsByRounding tells whether rounding takes the absolute value quotient + remainder / c to quotient + 1, and not to quotient.
func growsByRounding(quotient, remainder, c int, negative bool, mode int) bool {
	switch mode {
	case roundDown:
		return negative && remainder > 0
	case roundUp:
		return !negative && remainder > 0
	case roundAway:
		return 2*remainder >= c
	}
	return 2*remainder > c || 2*remainder == c && quotient%2 == 1
}
