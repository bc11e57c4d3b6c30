// Package share: shares: see doc/02-share.md.
package share

import (
	"cmp"
	"math/bits"
	"slices"

	"demurrage/api"
	"demurrage/money"
)

// Check validates a list of weights.
func Check(weights []int) api.Errno {
	if len(weights) == 0 {
		return api.ErrForm
	}
	if len(weights) > api.MaxParts {
		return api.ErrMany
	}
	for _, w := range weights {
		if w < 0 || w > api.MaxRate {
			return api.ErrRange
		}
	}
	if slices.Max(weights) == 0 {
		return api.ErrState
	}
	return api.OK
}

// Parts divides a total in proportion to weights; what rounding leaves over goes to the greatest remainders.
func Parts(total int, weights []int) ([]int, api.Errno) {
	if e := Check(weights); e != api.OK {
		return nil, e
	}
	if total < 0 || total > api.MaxSum {
		return nil, api.ErrRange
	}
	sum, _ := money.Total(weights) // valid weights are amounts, and so is their sum
	parts := make([]int, len(weights))
	remainders := make([]int, len(weights))
	left := total
	for i, w := range weights {
		parts[i], remainders[i] = quota(total, w, sum)
		left -= parts[i]
	}
	// Each remainder is less than the sum, so fewer units are left than there are elements.
	for _, i := range greatestFirst(remainders)[:left] {
		parts[i]++
	}
	return parts, api.OK
}

// Seats assigns seats one after the other to the element with the greatest weight for its number of seats.
func Seats(many int, weights []int, kind int) ([]int, api.Errno) {
	if e := Check(weights); e != api.OK {
		return nil, e
	}
	if many < 0 || many > api.MaxSeats {
		return nil, api.ErrRange
	}
	divisor, ok := divisorOf(kind)
	if !ok {
		return nil, api.ErrKind
	}
	seats := make([]int, len(weights))
	for range many {
		seats[nextSeat(weights, seats, divisor)]++
	}
	return seats, api.OK
}

// quota returns the total times a weight divided by the sum of all weights, rounded down, and the remainder.
func quota(total, weight, sum int) (int, int) {
	if sum <= api.MaxRate {
		quotient, remainder, _ := money.Part(total, weight, sum)
		return quotient, remainder
	}
	// Each weight is at most MaxRate but their sum can be greater, and money.Part refuses to divide by that.
	// The quotient is at most the total, as the weight is at most the sum: it fits into one word.
	high, low := bits.Mul64(uint64(total), uint64(weight))
	quotient, remainder := bits.Div64(high, low, uint64(sum))
	return int(quotient), int(remainder)
}

// greatestFirst returns the positions of numbers, those of the greatest first; of equal ones the earlier first.
func greatestFirst(numbers []int) []int {
	order := make([]int, len(numbers))
	for i := range order {
		order[i] = i
	}
	slices.SortStableFunc(order, func(i, j int) int { return cmp.Compare(numbers[j], numbers[i]) })
	return order
}

// divisorOf returns, for a kind, what determines the divisor of a weight from the number of its seats.
func divisorOf(kind int) (func(seats int) int, bool) {
	switch kind {
	case api.ByOnes:
		return func(seats int) int { return seats + 1 }, true
	case api.ByOdds:
		return func(seats int) int { return 2*seats + 1 }, true
	}
	return nil, false
}

// nextSeat returns the first element whose weight divided by its divisor is greatest.
// Fractions are compared crosswise, so that nothing is rounded.
func nextSeat(weights, seats []int, divisor func(seats int) int) int {
	best := 0
	for i, w := range weights {
		if w*divisor(seats[best]) > weights[best]*divisor(seats[i]) {
			best = i
		}
	}
	return best
}
