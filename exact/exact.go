// Package exact: sums of amounts, however many there are: more than one word can hold.
package exact

import (
	"math/bits"

	"demurrage/api"
)

// Sum in two words: high times 2^64, plus low. Each sum has just one such form, so that sums can be compared with ==.
type Sum struct {
	high int
	low  uint64
}

// Of returns the sum of numbers.
func Of(numbers ...int) Sum {
	var s Sum
	for _, n := range numbers {
		s = s.Plus(n)
	}
	return s
}

// Plus returns the sum with a number added to it.
func (s Sum) Plus(n int) Sum {
	low, carry := bits.Add64(s.low, uint64(n), 0)
	sign := n >> 63 // the high word of the number: 0, or -1 if it is less than 0
	return Sum{high: s.high + sign + int(carry), low: low}
}

// Amount returns the sum as an amount, or ErrWide if it is none.
func (s Sum) Amount() (int, api.Errno) {
	low := int(s.low)
	if s.high != low>>63 { // the sum needs both words
		return 0, api.ErrWide
	}
	if low < -api.MaxSum || low > api.MaxSum {
		return 0, api.ErrWide
	}
	return low, api.OK
}

// Amounts returns sums as amounts, or ErrWide if one of them is none.
func Amounts(sums []Sum) ([]int, api.Errno) {
	amounts := make([]int, len(sums))
	for i, s := range sums {
		amount, e := s.Amount()
		if e != api.OK {
			return nil, e
		}
		amounts[i] = amount
	}
	return amounts, api.OK
}
