// Package num is layer 1, checked integer arithmetic and decimal numbers: see shared/doc/01-num.md.
package num

import (
	"recycling/api"
)

// Add returns a + b. It returns ErrRange if an argument lies outside -MaxNum to MaxNum, and ErrOverflow if the result does; so do all functions of this package.
func Add(a int, b int) (int, api.Errno) {
	if !allInRange(a, b) {
		return 0, api.ErrRange
	}
	return checkResult(a + b)
}

// Sub returns a - b.
func Sub(a int, b int) (int, api.Errno) {
	if !allInRange(a, b) {
		return 0, api.ErrRange
	}
	return checkResult(a - b)
}

// Mul returns a * b.
func Mul(a int, b int) (int, api.Errno) {
	if !allInRange(a, b) {
		return 0, api.ErrRange
	}
	// The product may not fit into an int, so the bound is divided instead.
	if a != 0 && abs(b) > api.MaxNum/abs(a) {
		return 0, api.ErrOverflow
	}
	return a * b, api.OK
}

// Sum returns the sum of l; partial sums may lie outside the range.
func Sum(l []int) (int, api.Errno) {
	// A partial sum may not fit into an int, so it is kept as wholes * MaxNum + rest.
	wholes, rest := 0, 0
	for _, n := range l {
		if !inRange(n) {
			return 0, api.ErrRange
		}
		rest += n
		if rest < 0 {
			rest += api.MaxNum
			wholes--
		} else if rest >= api.MaxNum {
			rest -= api.MaxNum
			wholes++
		}
	}
	if wholes < -1 || wholes > 1 {
		return 0, api.ErrOverflow
	}
	return checkResult(wholes*api.MaxNum + rest)
}

// Gcd returns the greatest common divisor, which is not negative; that of 0 and 0 is 0.
func Gcd(a int, b int) (int, api.Errno) {
	if !allInRange(a, b) {
		return 0, api.ErrRange
	}
	for b != 0 {
		a, b = b, a%b
	}
	return abs(a), api.OK
}

func inRange(n int) bool {
	return n >= -api.MaxNum && n <= api.MaxNum
}

func allInRange(numbers ...int) bool {
	for _, n := range numbers {
		if !inRange(n) {
			return false
		}
	}
	return true
}

func checkResult(n int) (int, api.Errno) {
	if !inRange(n) {
		return 0, api.ErrOverflow
	}
	return n, api.OK
}

// abs is only called with numbers in range, whose absolute values are ints.
func abs(n int) int {
	if n < 0 {
		return -n
	}
	return n
}
