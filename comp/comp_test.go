package comp_test

import (
	"math"
	"math/big"
	"math/rand"
	"slices"
	"testing"

	"demurrage/api"
	"demurrage/book"
	"demurrage/comp"
	"demurrage/fail"
)

const (
	scale     = 10000
	maxUnits  = 1 << 30
	maxPrice  = 1 << 40
	mostCost  = 118059162071741130 // of the greatest numbers
	mostWorth = 2 * mostCost
)

// edges are the numbers around every limit of the chapter, and the outermost ones.
var edges = []int{
	math.MinInt, -scale, -1, 0, 1, 2, 3, 333, scale - 1, scale, scale + 1, 123456789,
	maxUnits - 1, maxUnits, maxUnits + 1, maxPrice - 1, maxPrice, maxPrice + 1, math.MaxInt,
}

// become is a fail of party 4, which owes papers to party 9, after some of them were delivered, bought and paid.
func become(units, delivered, bought, paid int) api.Fail {
	return api.Fail{Id: 7, From: 4, To: 9, Class: 1, Paper: 3, Day: 739935, Units: units, Delivered: delivered, Bought: bought, Paid: paid}
}

// between is a fail with other parties.
func between(f api.Fail, from, to int) api.Fail {
	f.From, f.To = from, to
	return f
}

// pay makes the postings of an amount of money.
func pay(from, to, amount int) []api.Posting {
	return []api.Posting{{Account: from, Amount: -amount}, {Account: to, Amount: amount}}
}

func isPrice(p int) bool { return p >= 0 && p <= maxPrice }

// wantWorth computes Worth with numbers of any size.
func wantWorth(units, price, extra int) (int, api.Errno) {
	if units < 0 || units > maxUnits || extra < 0 || extra > scale || !isPrice(price) {
		return 0, api.ErrRange
	}
	cost := new(big.Int).Mul(big.NewInt(int64(units)), big.NewInt(int64(price)))
	cost.Quo(cost, big.NewInt(scale))
	more := new(big.Int).Mul(cost, big.NewInt(int64(extra)))
	more.Quo(more, big.NewInt(scale))
	return int(cost.Add(cost, more).Int64()), api.OK
}

// wantPay computes Pay anew.
func wantPay(f api.Fail, price, extra int) (api.Fail, []api.Posting, api.Errno) {
	if e := fail.Check(f); e != api.OK {
		return api.Fail{}, nil, e
	}
	open := f.Units - f.Delivered - f.Bought - f.Paid
	if open == 0 {
		return api.Fail{}, nil, api.ErrNone
	}
	worth, e := wantWorth(open, price, extra)
	if e != api.OK {
		return api.Fail{}, nil, e
	}
	f.Paid = f.Units - f.Delivered - f.Bought
	if worth == 0 {
		return f, nil, api.OK
	}
	return f, pay(f.From, f.To, worth), api.OK
}

// wantMiddle looks for the least price than which at least half of all are not greater.
func wantMiddle(prices []int) (int, api.Errno) {
	if len(prices) == 0 {
		return 0, api.ErrForm
	}
	if len(prices) > 40 {
		return 0, api.ErrMany
	}
	middle := math.MaxInt
	for _, p := range prices {
		if !isPrice(p) {
			return 0, api.ErrRange
		}
		upTo := 0
		for _, other := range prices {
			if other <= p {
				upTo++
			}
		}
		if 2*upTo >= len(prices) {
			middle = min(middle, p)
		}
	}
	return middle, api.OK
}

// wantLimit computes Limit with numbers of any size.
func wantLimit(price, was, most int) (int, api.Errno) {
	if !isPrice(price) || !isPrice(was) || most < 0 || most > scale {
		return 0, api.ErrRange
	}
	apart := new(big.Int).Mul(big.NewInt(int64(was)), big.NewInt(int64(most)))
	d := int(apart.Quo(apart, big.NewInt(scale)).Int64())
	switch {
	case price > was+d:
		return was + d, api.OK
	case price < was-d:
		return was - d, api.OK
	}
	return price, api.OK
}

func compareWorth(t *testing.T, units, price, extra int) {
	t.Helper()
	got, err := comp.Worth(units, price, extra)
	if want, wantErr := wantWorth(units, price, extra); got != want || err != wantErr {
		t.Errorf("Worth(%d, %d, %d) = %d, %d; want %d, %d", units, price, extra, got, err, want, wantErr)
	}
}

func comparePay(t *testing.T, name string, f api.Fail, price, extra int) (api.Fail, []api.Posting) {
	t.Helper()
	paid, postings, err := comp.Pay(f, price, extra)
	if want, wantPostings, wantErr := wantPay(f, price, extra); paid != want || !slices.Equal(postings, wantPostings) || err != wantErr {
		t.Errorf("%s: Pay(%v, %d, %d) = %v, %v, %d; want %v, %v, %d", name, f, price, extra, paid, postings, err, want, wantPostings, wantErr)
	}
	return paid, postings
}

func compareMiddle(t *testing.T, name string, prices []int) {
	t.Helper()
	got, err := comp.Middle(prices)
	if want, wantErr := wantMiddle(prices); got != want || err != wantErr {
		t.Errorf("%s: Middle(%v) = %d, %d; want %d, %d", name, prices, got, err, want, wantErr)
	}
}

func compareLimit(t *testing.T, price, was, most int) {
	t.Helper()
	got, err := comp.Limit(price, was, most)
	if want, wantErr := wantLimit(price, was, most); got != want || err != wantErr {
		t.Errorf("Limit(%d, %d, %d) = %d, %d; want %d, %d", price, was, most, got, err, want, wantErr)
	}
}

func TestP5Worth(t *testing.T) {
	for _, c := range []struct {
		name                string
		units, price, extra int
		want                int
		err                 api.Errno
	}{
		{"without an extra", 2000, 100000, 0, 20000, api.OK},
		{"with an extra", 2000, 100000, 500, 21000, api.OK},
		{"twice", 2000, 100000, scale, 40000, api.OK},
		{"the cost is rounded down", 3, 15000, 0, 4, api.OK},
		{"the extra is rounded down", 3, 10000, 3333, 3, api.OK},
		{"the extra just reaches one", 3, 10000, 3334, 4, api.OK},
		{"the extra is that of the rounded cost", 3, 15000, 2400, 4, api.OK},
		{"the extra of the rounded cost just reaches one", 3, 15000, 2500, 5, api.OK},
		{"nothing is twice nothing", 1, 9999, scale, 0, api.OK},
		{"no units", 0, maxPrice, scale, 0, api.OK},
		{"a price of 0", maxUnits, 0, scale, 0, api.OK},
		{"the greatest numbers", maxUnits, maxPrice, scale, mostWorth, api.OK},
		{"the greatest numbers without an extra", maxUnits, maxPrice, 0, mostCost, api.OK},
		{"the greatest numbers, and nearly twice", maxUnits, maxPrice, scale - 1, mostWorth - 11805916207175, api.OK},
		{"units below 0", -1, 1, 1, 0, api.ErrRange},
		{"too many units", maxUnits + 1, 1, 1, 0, api.ErrRange},
		{"an extra below 0", 1, 1, -1, 0, api.ErrRange},
		{"too great an extra", 1, 1, scale + 1, 0, api.ErrRange},
		{"a price below 0", 1, -1, 1, 0, api.ErrRange},
		{"too great a price", 1, maxPrice + 1, 1, 0, api.ErrRange},
		{"no units at a price below 0", 0, -1, 0, 0, api.ErrRange},
		{"no units with too great an extra", 0, 1, scale + 1, 0, api.ErrRange},
	} {
		if got, err := comp.Worth(c.units, c.price, c.extra); got != c.want || err != c.err {
			t.Errorf("%s: Worth = %d, %d; want %d, %d", c.name, got, err, c.want, c.err)
		}
	}
}

func TestP5WorthOfAllEdges(t *testing.T) {
	for _, units := range edges {
		for _, price := range edges {
			for _, extra := range edges {
				compareWorth(t, units, price, extra)
			}
		}
	}
}

func TestP6Pay(t *testing.T) {
	f := become(3000, 1000, 0, 0)
	for _, c := range []struct {
		name         string
		f            api.Fail
		price, extra int
		paid         api.Fail
		postings     []api.Posting
	}{
		{"what is open", f, 100000, 0, become(3000, 1000, 0, 2000), pay(4, 9, 20000)},
		{"with an extra", f, 100000, 500, become(3000, 1000, 0, 2000), pay(4, 9, 21000)},
		{"all", become(5, 0, 0, 0), 10000, 0, become(5, 0, 0, 5), pay(4, 9, 5)},
		{"some are delivered, bought and paid", become(1000, 400, 200, 100), 10000, 0, become(1000, 400, 200, 400), pay(4, 9, 300)},
		{"one", become(1000, 400, 599, 0), 10000, scale, become(1000, 400, 599, 1), pay(4, 9, 2)},
		{"worth nothing", f, 0, scale, become(3000, 1000, 0, 2000), nil},
		{"worth less than one", become(3000, 2999, 0, 0), 9999, scale, become(3000, 2999, 0, 1), nil},
		{"worth just one", become(3000, 2999, 0, 0), 10000, 0, become(3000, 2999, 0, 1), pay(4, 9, 1)},
		{"to a party with a lesser number", between(f, 30, 0), 10000, 0, between(become(3000, 1000, 0, 2000), 30, 0), pay(30, 0, 2000)},
		{"the greatest numbers", become(maxUnits, 0, 0, 0), maxPrice, scale, become(maxUnits, 0, 0, maxUnits), pay(4, 9, mostWorth)},
	} {
		paid, postings, err := comp.Pay(c.f, c.price, c.extra)
		if paid != c.paid || !slices.Equal(postings, c.postings) || err != api.OK {
			t.Errorf("%s: Pay = %v, %v, %d; want %v, %v", c.name, paid, postings, err, c.paid, c.postings)
		}
		comparePay(t, c.name, c.f, c.price, c.extra)
	}
}

func TestP6ErrorsOfPay(t *testing.T) {
	f, done := become(3000, 1000, 0, 0), become(3000, 1000, 500, 1500)
	for _, c := range []struct {
		name         string
		f            api.Fail
		price, extra int
		want         api.Errno
	}{
		{"no fail", api.Fail{}, 1, 1, api.ErrRange},
		{"units below 0", become(-1, 0, 0, 0), 1, 1, api.ErrRange},
		{"of one party", between(f, 4, 4), 1, 1, api.ErrForm},
		{"too many in all", become(3000, 1000, 2000, 1), 1, 1, api.ErrState},
		{"nothing is open", done, 1, 1, api.ErrNone},
		{"a price below 0", f, -1, 1, api.ErrRange},
		{"too great a price", f, maxPrice + 1, 1, api.ErrRange},
		{"an extra below 0", f, 1, -1, api.ErrRange},
		{"too great an extra", f, 1, scale + 1, api.ErrRange},
		{"the fail comes before the price", between(f, 4, 4), -1, 1, api.ErrForm},
		{"its sum comes before the extra", become(3000, 1000, 2000, 1), 1, scale + 1, api.ErrState},
		{"that nothing is open comes before the price", done, maxPrice + 1, 1, api.ErrNone},
		{"that nothing is open comes before the extra", done, 1, -1, api.ErrNone},
	} {
		if paid, postings, err := comp.Pay(c.f, c.price, c.extra); paid != (api.Fail{}) || len(postings) != 0 || err != c.want {
			t.Errorf("%s: Pay = %v, %v, %d; want error %d", c.name, paid, postings, err, c.want)
		}
	}
}

func TestP6PayOfAllEdges(t *testing.T) {
	for _, price := range edges {
		for _, extra := range edges {
			for _, units := range edges {
				comparePay(t, "edges", become(units, 0, 0, 0), price, extra)
				comparePay(t, "edges", become(maxUnits, units, 1, 0), price, extra)
				comparePay(t, "edges", become(12345, 0, 45, units), price, extra)
			}
		}
	}
}

// drawFail draws a fail without an error.
func drawFail(r *rand.Rand) api.Fail {
	f := become(1+r.Intn(maxUnits)>>r.Intn(30), 0, 0, 0)
	f.Id, f.Class, f.Paper, f.Day = 1+r.Intn(1<<40), r.Intn(6), 1+r.Intn(20), r.Intn(3652059)
	f.From = r.Intn(31)
	f.To = (f.From + 1 + r.Intn(30)) % 31
	f.Delivered = r.Intn(f.Units + 1)
	f.Bought = r.Intn(f.Units - f.Delivered + 1)
	f.Paid = r.Intn(f.Units-f.Delivered-f.Bought+1) >> r.Intn(2)
	return f
}

// TestP6WhatIsPaidGoesIntoABook also checks that each unit is delivered, bought or paid then, and none of it twice.
func TestP6WhatIsPaidGoesIntoABook(t *testing.T) {
	r := rand.New(rand.NewSource(1))
	posted := 0
	for range 5000 {
		f, price, extra := drawFail(r), r.Intn(maxPrice)>>r.Intn(40), r.Intn(scale+1)
		paid, postings := comparePay(t, "drawn", f, price, extra)
		if len(postings) == 0 {
			continue
		}
		posted++
		if open, err := fail.Open(paid); open != 0 || err != api.OK || paid.Delivered+paid.Bought+paid.Paid != paid.Units {
			t.Errorf("of %v are open %d, %d", paid, open, err)
		}
		if again, more, err := comp.Pay(paid, price, extra); again != (api.Fail{}) || len(more) != 0 || err != api.ErrNone {
			t.Errorf("Pay(%v) = %v, %v, %d", paid, again, more, err)
		}
		b, err := book.Post(nil, postings)
		balance, _ := book.Balance(b, f.To, 0)
		if len(b) != 2 || balance != postings[1].Amount || err != api.OK {
			t.Errorf("Post(%v) = %v, %d", postings, b, err)
		}
	}
	if posted < 1000 {
		t.Errorf("only %d of the drawn fails were paid", posted)
	}
}

func TestP7Middle(t *testing.T) {
	for _, c := range []struct {
		name   string
		prices []int
		want   int
		err    api.Errno
	}{
		{"one", []int{5}, 5, api.OK},
		{"the lower one of two", []int{5, 9}, 5, api.OK},
		{"the lower one of two, in another order", []int{9, 5}, 5, api.OK},
		{"of three", []int{9, 2, 5}, 5, api.OK},
		{"of four", []int{9, 2, 7, 5}, 5, api.OK},
		{"of five", []int{9, 2, 7, 5, 8}, 7, api.OK},
		{"equal ones count each", []int{9, 2, 2, 2, 8}, 2, api.OK},
		{"equal ones in the middle", []int{1, 7, 9, 7}, 7, api.OK},
		{"all are equal", []int{7, 7, 7, 7}, 7, api.OK},
		{"not the mean", []int{0, 1, maxPrice}, 1, api.OK},
		{"not in the order of their texts", []int{10, 9, 100}, 10, api.OK},
		{"the outermost prices", []int{maxPrice, 0, maxPrice}, maxPrice, api.OK},
		{"as many as may be", append(slices.Repeat([]int{3}, 20), slices.Repeat([]int{2}, 20)...), 2, api.OK},
		{"nil", nil, 0, api.ErrForm},
		{"none", []int{}, 0, api.ErrForm},
		{"one too many", make([]int, 41), 0, api.ErrMany},
		{"too many come before the range", slices.Repeat([]int{-1}, 41), 0, api.ErrMany},
		{"one below 0", []int{-1}, 0, api.ErrRange},
		{"the first one below 0", []int{-1, 5, 5}, 0, api.ErrRange},
		{"the last one below 0", []int{5, 5, -1}, 0, api.ErrRange},
		{"the first one too great", []int{maxPrice + 1, 0}, 0, api.ErrRange},
		{"the last one of many too great", append(make([]int, 39), maxPrice+1), 0, api.ErrRange},
	} {
		if got, err := comp.Middle(c.prices); got != c.want || err != c.err {
			t.Errorf("%s: Middle = %d, %d; want %d, %d", c.name, got, err, c.want, c.err)
		}
		compareMiddle(t, c.name, c.prices)
	}
}

func TestP7MiddleOfDrawnPrices(t *testing.T) {
	r := rand.New(rand.NewSource(1))
	for many := range 45 {
		for range 100 {
			most := 1 + r.Intn(maxPrice)>>r.Intn(40)
			var prices []int
			for range many {
				prices = append(prices, r.Intn(most+1))
			}
			compareMiddle(t, "drawn", prices)
		}
	}
	for _, a := range edges {
		for _, b := range edges {
			compareMiddle(t, "edges", []int{a, b})
			compareMiddle(t, "edges", []int{a, 7, b})
		}
	}
}

func TestP8Limit(t *testing.T) {
	for _, c := range []struct {
		name             string
		price, was, most int
		want             int
		err              api.Errno
	}{
		{"near enough", 105, 100, 1000, 105, api.OK},
		{"just near enough", 110, 100, 1000, 110, api.OK},
		{"too great", 111, 100, 1000, 110, api.OK},
		{"just not too small", 90, 100, 1000, 90, api.OK},
		{"too small", 89, 100, 1000, 90, api.OK},
		{"the amount is rounded down", 200, 19, 1000, 20, api.OK},
		{"the amount is rounded down, the other way", 0, 19, 1000, 18, api.OK},
		{"the amount is less than one", 200, 9, 1000, 9, api.OK},
		{"no difference is allowed", 101, 100, 0, 100, api.OK},
		{"no difference is allowed, the other way", 99, 100, 0, 100, api.OK},
		{"all of it is allowed", 0, 100, scale, 0, api.OK},
		{"twice is allowed", 201, 100, scale, 200, api.OK},
		{"it was 0", 100, 0, scale, 0, api.OK},
		{"it is the same", 7, 7, 0, 7, api.OK},
		{"the greatest price", maxPrice, maxPrice, scale, maxPrice, api.OK},
		{"the greatest price, to which more could be added", maxPrice, maxPrice - 1, scale, maxPrice, api.OK},
		{"from the greatest price to 0", 0, maxPrice, scale, 0, api.OK},
		{"from the greatest price", 0, maxPrice, 1, maxPrice - 109951162, api.OK},
		{"a price below 0", -1, 100, 1, 0, api.ErrRange},
		{"too great a price", maxPrice + 1, 100, 1, 0, api.ErrRange},
		{"it was below 0", 100, -1, 1, 0, api.ErrRange},
		{"it was too great", 100, maxPrice + 1, 1, 0, api.ErrRange},
		{"most is below 0", 100, 100, -1, 0, api.ErrRange},
		{"most is more than all", 100, 100, scale + 1, 0, api.ErrRange},
	} {
		if got, err := comp.Limit(c.price, c.was, c.most); got != c.want || err != c.err {
			t.Errorf("%s: Limit = %d, %d; want %d, %d", c.name, got, err, c.want, c.err)
		}
	}
}

func TestP8LimitOfAllEdges(t *testing.T) {
	for _, price := range edges {
		for _, was := range edges {
			for _, most := range edges {
				compareLimit(t, price, was, most)
			}
		}
	}
}

// TestP8NoOtherPriceIsNearer compares with all prices that differ by at most as much.
func TestP8NoOtherPriceIsNearer(t *testing.T) {
	for was := range 60 {
		for price := range 130 {
			for _, most := range []int{0, 1, 250, 1000, 3333, 5000, 9999, scale} {
				nearest := was
				for p := range 2*was + 1 {
					isAllowed := max(p-was, was-p) <= was*most/scale
					if isAllowed && max(p-price, price-p) < max(nearest-price, price-nearest) {
						nearest = p
					}
				}
				if got, err := comp.Limit(price, was, most); got != nearest || err != api.OK {
					t.Errorf("Limit(%d, %d, %d) = %d, %d; want %d", price, was, most, got, err, nearest)
				}
			}
		}
	}
}

func TestP1NothingBesideAnError(t *testing.T) {
	for _, a := range edges {
		for _, b := range edges {
			for _, c := range edges {
				if worth, err := comp.Worth(a, b, c); err != api.OK && worth != 0 {
					t.Errorf("Worth(%d, %d, %d) = %d with error %d", a, b, c, worth, err)
				}
				if limit, err := comp.Limit(a, b, c); err != api.OK && limit != 0 {
					t.Errorf("Limit(%d, %d, %d) = %d with error %d", a, b, c, limit, err)
				}
				if middle, err := comp.Middle([]int{a, b, c}); err != api.OK && middle != 0 {
					t.Errorf("Middle(%d, %d, %d) = %d with error %d", a, b, c, middle, err)
				}
				f := become(3000, a, 0, 0)
				if paid, postings, err := comp.Pay(f, b, c); err != api.OK && (paid != api.Fail{} || len(postings) != 0) {
					t.Errorf("Pay(%v, %d, %d) = %v, %v with error %d", f, b, c, paid, postings, err)
				}
			}
		}
	}
}

func TestP2ListsAreOnlyReadAndResultsAreNew(t *testing.T) {
	whole := []int{9, 2, 7, 5, 8, -1, -1}
	for range 2 {
		if middle, err := comp.Middle(whole[:5]); middle != 7 || err != api.OK {
			t.Errorf("Middle = %d, %d; want 7", middle, err)
		}
		_, postings := comparePay(t, "new", become(5, 0, 0, 0), 10000, 0)
		clear(postings[:cap(postings)]) // results that shared memory would show in the next round
	}
	if want := []int{9, 2, 7, 5, 8, -1, -1}; !slices.Equal(whole, want) {
		t.Errorf("after the calls the prices and those behind them are %v", whole)
	}
}

func TestP3CallsDoNotSeeEarlierOnes(t *testing.T) {
	prices, f := []int{9, 2, 7}, become(5, 0, 0, 0)
	for range 3 {
		if middle, err := comp.Middle(prices); middle != 7 || err != api.OK {
			t.Errorf("Middle = %d, %d; want 7", middle, err)
		}
		prices[2] = 1 // prices that were kept would show here
		if middle, err := comp.Middle(prices); middle != 2 || err != api.OK {
			t.Errorf("Middle = %d, %d; want 2", middle, err)
		}
		prices[2] = 7
		if paid, postings, err := comp.Pay(f, 20000, 0); paid != become(5, 0, 0, 5) || !slices.Equal(postings, pay(4, 9, 10)) || err != api.OK {
			t.Errorf("Pay = %v, %v, %d", paid, postings, err)
		}
		if worth, err := comp.Worth(5, 10000, 2000); worth != 6 || err != api.OK {
			t.Errorf("Worth = %d, %d; want 6", worth, err)
		}
		if limit, err := comp.Limit(10, 5, 2000); limit != 6 || err != api.OK {
			t.Errorf("Limit = %d, %d; want 6", limit, err)
		}
	}
}

func TestP4LongLists(t *testing.T) {
	if middle, err := comp.Middle(make([]int, 1<<22)); middle != 0 || err != api.ErrMany {
		t.Errorf("Middle = %d, %d; want error %d", middle, err, api.ErrMany)
	}
}
