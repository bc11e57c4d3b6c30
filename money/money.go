// Package money: amounts: see doc/01-money.md.
package money

import (
	"math/bits"

	"demurrage/api"
	"demurrage/exact"
)

// Check validates an amount.
func Check(a int) api.Errno { return checkAll(a) }

// Add returns the sum of two amounts.
func Add(a, b int) (int, api.Errno) {
	if e := checkAll(a, b); e != api.OK {
		return 0, e
	}
	return asAmount(a + b)
}

// Part returns a times b divided by c, rounded down, and the remainder.
func Part(a, b, c int) (int, int, api.Errno) {
	if e := checkAll(a); e != api.OK {
		return 0, 0, e
	}
	if b < 0 || b > api.MaxRate || c < 1 || c > api.MaxRate {
		return 0, 0, api.ErrRange
	}
	quotient, remainder, ok := divide(max(a, -a), b, c)
	if !ok {
		return 0, 0, api.ErrWide
	}
	if a < 0 {
		quotient, remainder = negate(quotient, remainder, c)
	}
	quotient, e := asAmount(quotient)
	if e != api.OK {
		return 0, 0, e
	}
	return quotient, remainder, api.OK
}

// Near returns the integer nearest to a times b divided by c; of two equally near ones the even one.
func Near(a, b, c int) (int, api.Errno) {
	quotient, remainder, e := Part(a, b, c)
	if e != api.OK {
		return 0, e
	}
	if 2*remainder > c || 2*remainder == c && quotient%2 != 0 {
		quotient++
	}
	return asAmount(quotient)
}

// Total returns the sum of a list of amounts.
func Total(l []int) (int, api.Errno) {
	if len(l) > api.MaxParts {
		return 0, api.ErrMany
	}
	if e := checkAll(l...); e != api.OK {
		return 0, e
	}
	return exact.Of(l...).Amount()
}

// checkAll returns the error of the first number that is not an amount.
func checkAll(amounts ...int) api.Errno {
	for _, a := range amounts {
		if a < -api.MaxSum || a > api.MaxSum {
			return api.ErrRange
		}
	}
	return api.OK
}

// asAmount returns a computed number, or ErrWide if it is not an amount.
func asAmount(n int) (int, api.Errno) {
	if Check(n) != api.OK {
		return 0, api.ErrWide
	}
	return n, api.OK
}

// divide returns a times b divided by c, and the remainder, for numbers from 0 on.
// It returns false if the quotient is greater than MaxSum: it may then need more than one word.
func divide(a, b, c int) (int, int, bool) {
	high, low := bits.Mul64(uint64(a), uint64(b))
	if high >= uint64(c) { // Div64 would panic
		return 0, 0, false
	}
	quotient, remainder := bits.Div64(high, low, uint64(c))
	if quotient > api.MaxSum {
		return 0, 0, false
	}
	return int(quotient), int(remainder), true
}

// negate turns the quotient and the remainder of a division by c into those of the negative dividend, rounded down again.
func negate(quotient, remainder, c int) (int, int) {
	if remainder == 0 {
		return -quotient, 0
	}
	return -quotient - 1, c - remainder
}
