package share_test

import (
	"math"
	"math/big"
	"math/rand"
	"slices"
	"testing"

	"demurrage/api"
	"demurrage/share"
)

const (
	top  = api.MaxSum
	rate = api.MaxRate
)

func repeat(n, many int) []int { return slices.Repeat([]int{n}, many) }

// badWeights are lists that are no weights, and why.
var badWeights = []struct {
	name    string
	weights []int
	err     api.Errno
}{
	{"nil", nil, api.ErrForm},
	{"empty", []int{}, api.ErrForm},
	{"one too many", repeat(1, api.MaxParts+1), api.ErrMany},
	{"too many comes before the range", repeat(-1, api.MaxParts+1), api.ErrMany},
	{"below 0", []int{1, -1}, api.ErrRange},
	{"too great", []int{rate + 1}, api.ErrRange},
	{"the range comes before all being 0", []int{0, 0, -1}, api.ErrRange},
	{"least int", []int{math.MinInt}, api.ErrRange},
	{"greatest int", []int{math.MaxInt, 1}, api.ErrRange},
	{"a 0", []int{0}, api.ErrState},
	{"all 0", repeat(0, api.MaxParts), api.ErrState},
}

func TestB1CheckOfWeights(t *testing.T) {
	for _, weights := range [][]int{{1}, {rate}, {0, 0, 1}, {1, 0}, repeat(rate, api.MaxParts)} {
		if err := share.Check(weights); err != api.OK {
			t.Errorf("Check(%v) = %d", weights, err)
		}
	}
	for _, c := range badWeights {
		if err := share.Check(c.weights); err != c.err {
			t.Errorf("%s: Check = %d, want %d", c.name, err, c.err)
		}
	}
}

func TestB2PartsOfBadArguments(t *testing.T) {
	for _, c := range badWeights {
		for _, total := range []int{-1, 0, 10, top + 1} {
			if parts, err := share.Parts(total, c.weights); len(parts) != 0 || err != c.err {
				t.Errorf("%s: Parts(%d) = %v, %d; want %d", c.name, total, parts, err, c.err)
			}
		}
	}
	for _, total := range []int{math.MinInt, -top, -1, top + 1, math.MaxInt} {
		if parts, err := share.Parts(total, []int{1, 2}); len(parts) != 0 || err != api.ErrRange {
			t.Errorf("Parts(%d) = %v, %d; want %d", total, parts, err, api.ErrRange)
		}
	}
}

func TestB2Parts(t *testing.T) {
	for _, c := range []struct {
		name    string
		total   int
		weights []int
		want    []int
	}{
		{"nothing", 0, []int{3, 4}, []int{0, 0}},
		{"all to one", top, []int{5}, []int{top}},
		{"exact quotas", 100, []int{47, 16, 15, 12, 6, 4}, []int{47, 16, 15, 12, 6, 4}},
		{"the greatest remainder", 7, []int{47, 16, 15, 12, 6, 4}, []int{3, 1, 1, 1, 1, 0}},
		{"equal remainders, earlier first", 5, []int{1, 1, 1}, []int{2, 2, 1}},
		{"a later remainder is greater", 1, []int{1, 2, 2}, []int{0, 1, 0}},
		{"weights of 0 get nothing", 8, []int{0, 1, 0, 2, 0}, []int{0, 3, 0, 5, 0}},
		{"a sum of weights beyond MaxRate", 7, []int{rate, rate, 1}, []int{4, 3, 0}},
		{"a sum of weights one beyond MaxRate", 3, []int{rate, 1}, []int{3, 0}},
		{"a sum of weights of MaxRate", 3, []int{rate - 1, 1}, []int{3, 0}},
		{"the greatest of all", top, repeat(rate, 4), repeat(top/4, 4)},
	} {
		parts, err := share.Parts(c.total, c.weights)
		if !slices.Equal(parts, c.want) || err != api.OK {
			t.Errorf("%s: Parts(%d, %v) = %v, %d; want %v", c.name, c.total, c.weights, parts, err, c.want)
		}
	}
}

// wantParts computes Parts anew, with numbers of any size, and by looking for the greatest remainder again and again.
func wantParts(total int, weights []int) []int {
	sum := 0
	for _, w := range weights {
		sum += w
	}
	parts := make([]int, len(weights))
	remainders := make([]int, len(weights))
	left := total
	for i, w := range weights {
		product := new(big.Int).Mul(big.NewInt(int64(total)), big.NewInt(int64(w)))
		q, r := new(big.Int).QuoRem(product, big.NewInt(int64(sum)), new(big.Int))
		parts[i], remainders[i] = int(q.Int64()), int(r.Int64())
		left -= parts[i]
	}
	for ; left > 0; left-- {
		best := slices.Index(remainders, slices.Max(remainders))
		parts[best]++
		remainders[best] = -1
	}
	return parts
}

// drawWeights draws weights, many of them 0 or equal to others.
func drawWeights(r *rand.Rand) []int {
	weights := make([]int, 1+r.Intn(api.MaxParts))
	limit := []int{2, 5, 60, rate}[r.Intn(4)]
	for i := range weights {
		weights[i] = r.Intn(limit + 1)
	}
	weights[r.Intn(len(weights))] = 1 + r.Intn(limit)
	return weights
}

func TestB2PartsAgreeWithExactQuotas(t *testing.T) {
	r := rand.New(rand.NewSource(3))
	for range 5000 {
		weights := drawWeights(r)
		total := r.Intn(top+1) >> r.Intn(60)
		parts, err := share.Parts(total, weights)
		if want := wantParts(total, weights); !slices.Equal(parts, want) || err != api.OK {
			t.Fatalf("Parts(%d, %v) = %v, %d; want %v", total, weights, parts, err, want)
		}
		sum := 0
		for _, p := range parts {
			sum += p
		}
		if sum != total {
			t.Fatalf("Parts(%d, %v) add up to %d", total, weights, sum)
		}
	}
}

func TestB3SeatsOfBadArguments(t *testing.T) {
	for _, c := range badWeights {
		if seats, err := share.Seats(-1, c.weights, 0); len(seats) != 0 || err != c.err {
			t.Errorf("%s: Seats = %v, %d; want %d", c.name, seats, err, c.err)
		}
	}
	for _, c := range []struct {
		many, kind int
		err        api.Errno
	}{
		{-1, api.ByOnes, api.ErrRange},
		{api.MaxSeats + 1, api.ByOdds, api.ErrRange},
		{math.MinInt, api.ByOnes, api.ErrRange},
		{math.MaxInt, api.ByOnes, api.ErrRange},
		{-1, 0, api.ErrRange}, // the number comes before the kind
		{0, 0, api.ErrKind},
		{5, 3, api.ErrKind},
		{5, -1, api.ErrKind},
		{5, math.MinInt, api.ErrKind},
		{5, math.MaxInt, api.ErrKind},
	} {
		if seats, err := share.Seats(c.many, []int{1, 2}, c.kind); len(seats) != 0 || err != c.err {
			t.Errorf("Seats(%d, kind %d) = %v, %d; want %d", c.many, c.kind, seats, err, c.err)
		}
	}
}

func TestB3Seats(t *testing.T) {
	for _, c := range []struct {
		name    string
		many    int
		weights []int
		kind    int
		want    []int
	}{
		{"no seats", 0, []int{3, 4}, api.ByOnes, []int{0, 0}},
		{"by ones", 6, []int{46, 34}, api.ByOnes, []int{4, 2}},
		{"by odds", 6, []int{46, 34}, api.ByOdds, []int{3, 3}},
		{"of several the first", 7, []int{10, 10, 10, 10}, api.ByOnes, []int{2, 2, 2, 1}},
		{"of several the first, by odds", 1, []int{0, 7, 7}, api.ByOdds, []int{0, 1, 0}},
		{"equal after a division, by ones", 2, []int{4, 2}, api.ByOnes, []int{2, 0}},
		{"equal after a division, by odds", 2, []int{6, 2}, api.ByOdds, []int{2, 0}},
		{"weights of 0 get nothing", 9, []int{0, 1, 0, 2}, api.ByOnes, []int{0, 3, 0, 6}},
		{"all seats to one", api.MaxSeats, []int{0, rate}, api.ByOdds, []int{0, api.MaxSeats}},
		{"great weights that differ by one", 1, []int{rate - 1, rate}, api.ByOnes, []int{0, 1}},
	} {
		seats, err := share.Seats(c.many, c.weights, c.kind)
		if !slices.Equal(seats, c.want) || err != api.OK {
			t.Errorf("%s: Seats(%d, %v) = %v, %d; want %v", c.name, c.many, c.weights, seats, err, c.want)
		}
	}
}

// wantSeats computes Seats anew, with exact fractions.
func wantSeats(many int, weights []int, step int) []int {
	seats := make([]int, len(weights))
	for range many {
		best := 0
		most := new(big.Rat)
		for i, w := range weights {
			if q := big.NewRat(int64(w), int64(step*seats[i]+1)); q.Cmp(most) > 0 {
				best, most = i, q
			}
		}
		seats[best]++
	}
	return seats
}

func TestB3SeatsAgreeWithExactFractions(t *testing.T) {
	r := rand.New(rand.NewSource(4))
	for range 200 {
		weights := drawWeights(r)
		many := r.Intn(80)
		for kind, step := range map[int]int{api.ByOnes: 1, api.ByOdds: 2} {
			seats, err := share.Seats(many, weights, kind)
			if want := wantSeats(many, weights, step); !slices.Equal(seats, want) || err != api.OK {
				t.Fatalf("Seats(%d, %v, %d) = %v, %d; want %v", many, weights, kind, seats, err, want)
			}
		}
	}
}

func TestP1NothingBesideAnError(t *testing.T) {
	edges := []int{math.MinInt, -top - 1, -1, 0, 1, 2, api.MaxSeats, api.MaxSeats + 1, rate, rate + 1, top, top + 1, math.MaxInt}
	for _, n := range edges {
		for _, a := range edges {
			for _, b := range edges {
				weights := []int{a, b}
				if parts, err := share.Parts(n, weights); err != api.OK && len(parts) != 0 {
					t.Errorf("Parts(%d, %v) = %v with error %d", n, weights, parts, err)
				}
				for _, kind := range edges {
					if seats, err := share.Seats(n, weights, kind); err != api.OK && len(seats) != 0 {
						t.Errorf("Seats(%d, %v, %d) = %v with error %d", n, weights, kind, seats, err)
					}
				}
			}
		}
	}
}

func TestP2WeightsAreOnlyReadAndResultsAreNew(t *testing.T) {
	whole := []int{3, 0, 5, 77, 78}
	weights := whole[:3]
	share.Check(weights)
	parts, _ := share.Parts(11, weights)
	seats, _ := share.Seats(11, weights, api.ByOdds)
	parts2, _ := share.Parts(11, weights)
	seats2, _ := share.Seats(11, weights, api.ByOdds)
	for _, l := range [][]int{parts, seats} {
		for i := range l {
			l[i] = -1
		}
	}
	if !slices.Equal(whole, []int{3, 0, 5, 77, 78}) {
		t.Errorf("after the calls the weights and what is behind them are %v", whole)
	}
	if !slices.Equal(parts2, []int{4, 0, 7}) || !slices.Equal(seats2, []int{4, 0, 7}) {
		t.Errorf("results share memory: %v, %v", parts2, seats2)
	}
}

func TestP3CallsDoNotSeeEarlierOnes(t *testing.T) {
	weights := []int{2, 1}
	for range 3 {
		parts, _ := share.Parts(6, weights)
		seats, _ := share.Seats(6, weights, api.ByOnes)
		if !slices.Equal(parts, []int{4, 2}) || !slices.Equal(seats, []int{4, 2}) {
			t.Errorf("Parts = %v, Seats = %v; want [4 2] twice", parts, seats)
		}
		weights[0], weights[1] = 1, 2 // weights that were kept would show here
		share.Parts(top, weights)
		share.Seats(-1, weights, api.ByOdds)
		weights[0], weights[1] = 2, 1
	}
}

func TestP4LongListsOfWeights(t *testing.T) {
	long := make([]int, 1<<22)
	if err := share.Check(long); err != api.ErrMany {
		t.Errorf("Check = %d, want %d", err, api.ErrMany)
	}
	if parts, err := share.Parts(1, long); len(parts) != 0 || err != api.ErrMany {
		t.Errorf("Parts = %v, %d; want %d", parts, err, api.ErrMany)
	}
	if seats, err := share.Seats(1, long, api.ByOnes); len(seats) != 0 || err != api.ErrMany {
		t.Errorf("Seats = %v, %d; want %d", seats, err, api.ErrMany)
	}
}
