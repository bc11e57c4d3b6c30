package exact_test

import (
	"math"
	"math/big"
	"math/rand"
	"slices"
	"testing"

	"demurrage/api"
	"demurrage/exact"
)

const top = api.MaxSum

// bigSum adds numbers anew, with numbers of any size.
func bigSum(numbers ...int) *big.Int {
	sum := new(big.Int)
	for _, n := range numbers {
		sum.Add(sum, big.NewInt(int64(n)))
	}
	return sum
}

func wantAmount(sum *big.Int) (int, api.Errno) {
	if new(big.Int).Abs(sum).Cmp(big.NewInt(top)) > 0 {
		return 0, api.ErrWide
	}
	return int(sum.Int64()), api.OK
}

func compareSum(t *testing.T, numbers ...int) {
	t.Helper()
	want, wantErr := wantAmount(bigSum(numbers...))
	if got, err := exact.Of(numbers...).Amount(); got != want || err != wantErr {
		t.Errorf("the sum of %v is %d, %d; want %d, %d", numbers, got, err, want, wantErr)
	}
}

func TestExactSumsOfEdges(t *testing.T) {
	edges := []int{math.MinInt, math.MinInt + 1, -top - 1, -top, -top + 1, -1, 0, 1, top - 1, top, top + 1, math.MaxInt}
	compareSum(t)
	for _, a := range edges {
		compareSum(t, a)
		for _, b := range edges {
			compareSum(t, a, b)
			for _, c := range edges {
				compareSum(t, a, b, c)
			}
		}
	}
}

func TestExactSumsOfMoreThanOneWord(t *testing.T) {
	for many := range 130 {
		for _, n := range []int{top, -top, math.MaxInt, math.MinInt} {
			numbers := slices.Repeat([]int{n}, many)
			compareSum(t, numbers...)
			compareSum(t, append(numbers, slices.Repeat([]int{-n}, many)...)...)
		}
	}
}

func TestExactSumsOfDrawnNumbers(t *testing.T) {
	r := rand.New(rand.NewSource(1))
	for range 20000 {
		numbers := make([]int, r.Intn(60))
		for i := range numbers {
			numbers[i] = int(r.Uint64()) >> r.Intn(64)
		}
		compareSum(t, numbers...)
	}
}

// TestExactSumsAreComparable checks that == tells whether sums are equal, whatever they were made of.
func TestExactSumsAreComparable(t *testing.T) {
	lists := [][]int{
		nil, {0}, {-1, 1}, slices.Repeat([]int{top}, 16), slices.Repeat([]int{-top}, 16), append(slices.Repeat([]int{-top}, 16), 1),
		slices.Repeat([]int{math.MinInt}, 2), {1}, {math.MaxInt, math.MinInt, 2}, append(slices.Repeat([]int{top}, 32), slices.Repeat([]int{-top}, 16)...),
		append(slices.Repeat([]int{top}, 16), slices.Repeat([]int{-top}, 16)...),
	}
	for _, a := range lists {
		for _, b := range lists {
			want := bigSum(a...).Cmp(bigSum(b...)) == 0
			if got := exact.Of(a...) == exact.Of(b...); got != want {
				t.Errorf("the sums of %v and %v are equal: %v, want %v", a, b, got, want)
			}
		}
	}
}

func TestExactAmounts(t *testing.T) {
	for _, c := range []struct {
		name string
		sums []exact.Sum
		want []int
		err  api.Errno
	}{
		{"none", nil, nil, api.OK},
		{"some", []exact.Sum{exact.Of(1, 2), exact.Of(), exact.Of(-top, -top, top)}, []int{3, 0, -top}, api.OK},
		{"the first one too great", []exact.Sum{exact.Of(top, 1), exact.Of(1)}, nil, api.ErrWide},
		{"the last one too small", []exact.Sum{exact.Of(1), exact.Of(-top, -1)}, nil, api.ErrWide},
	} {
		if got, err := exact.Amounts(c.sums); !slices.Equal(got, c.want) || err != c.err {
			t.Errorf("%s: Amounts = %v, %d; want %v, %d", c.name, got, err, c.want, c.err)
		}
	}
}
