package loan_test

import (
	"math"
	"math/big"
	"math/rand"
	"slices"
	"testing"

	"demurrage/api"
	"demurrage/loan"
)

const (
	maxUnits = 1 << 30
	maxPrice = 1 << 40
)

// edges are the numbers around every limit of the chapter, and the outermost ones.
var edges = []int{
	math.MinInt, -maxUnits, -1, 0, 1, 2, 3, 5, 29, 30, 31, 99, 100, 101, 9999, 10000, 10001,
	maxUnits - 1, maxUnits, maxUnits + 1, maxPrice - 1, maxPrice, maxPrice + 1, math.MaxInt,
}

// list makes offers from triples of party, units and price.
func list(numbers ...int) []api.Offer {
	var l []api.Offer
	for t := range slices.Chunk(numbers, 3) {
		l = append(l, api.Offer{Party: t[0], Units: t[1], Price: t[2]})
	}
	return l
}

// upTo makes offers of the parties from 0 on, with the same units and price each.
func upTo(many, units, price int) []api.Offer {
	var l []api.Offer
	for party := range many {
		l = append(l, list(party, units, price)...)
	}
	return l
}

// offered adds up the units of offers.
func offered(l []api.Offer) int {
	sum := 0
	for _, o := range l {
		sum += o.Units
	}
	return sum
}

func sumOf(numbers []int) int {
	sum := 0
	for _, n := range numbers {
		sum += n
	}
	return sum
}

func wantCheck(l []api.Offer) api.Errno {
	if len(l) > 40 {
		return api.ErrMany
	}
	for i, o := range l {
		if o.Party < 0 || o.Party > 30 || o.Units < 1 || o.Units > maxUnits || o.Price < 0 || o.Price > maxPrice {
			return api.ErrRange
		}
		if slices.ContainsFunc(l[:i], func(before api.Offer) bool { return before.Party == o.Party }) {
			return api.ErrTwice
		}
	}
	return api.OK
}

// wantWanted is the error of Share and Best.
func wantWanted(l []api.Offer, units int) api.Errno {
	if e := wantCheck(l); e != api.OK {
		return e
	}
	if units < 1 || units > maxUnits {
		return api.ErrRange
	}
	if offered(l) < units {
		return api.ErrNone
	}
	return api.OK
}

// wantShare gives what rounding leaves over unit by unit, to the offer that lacks most of its exact share.
func wantShare(l []api.Offer, units int) ([]int, api.Errno) {
	if e := wantWanted(l, units); e != api.OK {
		return nil, e
	}
	parts := make([]int, len(l))
	lacks := make([]*big.Rat, len(l))
	for i, o := range l {
		exact := big.NewRat(int64(o.Units), int64(offered(l)))
		exact.Mul(exact, big.NewRat(int64(units), 1))
		parts[i] = int(new(big.Int).Quo(exact.Num(), exact.Denom()).Int64())
		lacks[i] = exact.Sub(exact, big.NewRat(int64(parts[i]), 1))
	}
	for left := units - sumOf(parts); left > 0; left-- {
		most := 0
		for i := range lacks {
			if lacks[i].Cmp(lacks[most]) > 0 {
				most = i
			}
		}
		parts[most]++
		lacks[most] = big.NewRat(-1, 1)
	}
	return parts, api.OK
}

// wantBest looks for the cheapest offer that is left, again and again.
func wantBest(l []api.Offer, units int) ([]int, int, api.Errno) {
	if e := wantWanted(l, units); e != api.OK {
		return nil, 0, e
	}
	taken, sum, left := make([]int, len(l)), new(big.Int), units
	for left > 0 {
		best := -1
		for i, o := range l {
			if taken[i] == 0 && (best < 0 || o.Price < l[best].Price) {
				best = i
			}
		}
		taken[best] = l[best].Units
		if taken[best] > left {
			taken[best] = left
		}
		left -= taken[best]
		cost := new(big.Int).Mul(big.NewInt(int64(taken[best])), big.NewInt(int64(l[best].Price)))
		sum.Add(sum, cost.Quo(cost, big.NewInt(10000)))
	}
	return taken, int(sum.Int64()), api.OK
}

// wantBack computes, for each offer, what is returned to those behind it first.
func wantBack(l []api.Offer, lent []int, units int) ([]int, api.Errno) {
	if e := wantCheck(l); e != api.OK {
		return nil, e
	}
	if len(lent) != len(l) {
		return nil, api.ErrForm
	}
	for i := range lent {
		if lent[i] < 0 || lent[i] > l[i].Units {
			return nil, api.ErrRange
		}
	}
	if units < 0 || units > maxUnits {
		return nil, api.ErrRange
	}
	if units > sumOf(lent) {
		return nil, api.ErrWide
	}
	var still []int
	for i := range lent {
		behind := sumOf(lent[i+1:])
		still = append(still, lent[i]-min(max(units-behind, 0), lent[i]))
	}
	return still, api.OK
}

func compareShare(t *testing.T, name string, l []api.Offer, units int) []int {
	t.Helper()
	parts, err := loan.Share(l, units)
	if want, wantErr := wantShare(l, units); !slices.Equal(parts, want) || err != wantErr {
		t.Errorf("%s: Share(%v, %d) = %v, %d; want %v, %d", name, l, units, parts, err, want, wantErr)
	}
	return parts
}

func compareBest(t *testing.T, name string, l []api.Offer, units int) []int {
	t.Helper()
	taken, cost, err := loan.Best(l, units)
	if want, wantCost, wantErr := wantBest(l, units); !slices.Equal(taken, want) || cost != wantCost || err != wantErr {
		t.Errorf("%s: Best(%v, %d) = %v, %d, %d; want %v, %d, %d", name, l, units, taken, cost, err, want, wantCost, wantErr)
	}
	return taken
}

func compareBack(t *testing.T, name string, l []api.Offer, lent []int, units int) []int {
	t.Helper()
	still, err := loan.Back(l, lent, units)
	if want, wantErr := wantBack(l, lent, units); !slices.Equal(still, want) || err != wantErr {
		t.Errorf("%s: Back(%v, %v, %d) = %v, %d; want %v, %d", name, l, lent, units, still, err, want, wantErr)
	}
	return still
}

func compareAll(t *testing.T, name string, l []api.Offer, units int) {
	t.Helper()
	if err := loan.Check(l); err != wantCheck(l) {
		t.Errorf("%s: Check(%v) = %d, want %d", name, l, err, wantCheck(l))
	}
	compareShare(t, name, l, units)
	compareBest(t, name, l, units)
	compareBack(t, name, l, make([]int, len(l)), units)
}

// checked are offers, with the error of Check.
var checked = []struct {
	name string
	l    []api.Offer
	err  api.Errno
}{
	{"nil", nil, api.OK},
	{"none", []api.Offer{}, api.OK},
	{"the least numbers", list(0, 1, 0), api.OK},
	{"the greatest numbers", list(30, maxUnits, maxPrice), api.OK},
	{"several, in no order", list(5, 3, 9, 30, 1, 1, 0, 3, 9, 2, 3, 9), api.OK},
	{"all parties", upTo(31, maxUnits, maxPrice), api.OK},
	{"a party below 0", list(-1, 1, 1), api.ErrRange},
	{"no party", list(31, 1, 1), api.ErrRange},
	{"no units", list(1, 0, 1), api.ErrRange},
	{"units below 0", list(1, -1, 1), api.ErrRange},
	{"too many units", list(1, maxUnits+1, 1), api.ErrRange},
	{"a price below 0", list(1, 1, -1), api.ErrRange},
	{"too great a price", list(1, 1, maxPrice+1), api.ErrRange},
	{"the last one of many", append(upTo(30, 1, 1), list(30, 1, -1)...), api.ErrRange},
	{"twice in a row", list(3, 1, 1, 3, 2, 2), api.ErrTwice},
	{"twice", list(3, 1, 1, 4, 1, 1, 3, 1, 1), api.ErrTwice},
	{"twice party 0", list(0, 1, 1, 4, 1, 1, 0, 1, 1), api.ErrTwice},
	{"twice party 30", list(30, 1, 1, 4, 1, 1, 30, 1, 1), api.ErrTwice},
	{"one more than there are parties", append(upTo(31, 1, 1), list(30, 1, 1)...), api.ErrTwice},
	{"as many as may be, though not so many parties", slices.Repeat(list(3, 1, 1), 40), api.ErrTwice},
	{"as many as may be, of no party", slices.Repeat(list(31, 1, 1), 40), api.ErrRange},
	{"one too many", slices.Repeat(list(3, 1, 1), 41), api.ErrMany},
	{"too many come before the range", slices.Repeat(list(-1, 0, -1), 41), api.ErrMany},
	{"of one offer the range comes before twice", list(3, 1, 1, 3, 0, 1), api.ErrRange},
	{"of one offer the price comes before twice", list(3, 1, 1, 3, 1, -1), api.ErrRange},
	{"twice comes before the range of a later one", list(3, 1, 1, 3, 1, 1, 4, 0, 1), api.ErrTwice},
	{"the range comes before twice later", list(4, 0, 1, 3, 1, 1, 3, 1, 1), api.ErrRange},
}

func TestN1Check(t *testing.T) {
	for _, c := range checked {
		if err := loan.Check(c.l); err != c.err {
			t.Errorf("%s: Check = %d, want %d", c.name, err, c.err)
		}
	}
}

func TestN1CheckOfAllEdges(t *testing.T) {
	for _, party := range edges {
		for _, units := range edges {
			for _, price := range edges {
				for _, l := range [][]api.Offer{
					list(party, units, price), list(2, 1, 1, party, units, price), list(party, units, price, 2, 1, 1), list(party, units, price, party, 1, -1),
				} {
					if err := loan.Check(l); err != wantCheck(l) {
						t.Errorf("Check(%v) = %d, want %d", l, err, wantCheck(l))
					}
				}
			}
		}
	}
}

func TestN2ToN4ErrorsOfCheck(t *testing.T) {
	for _, c := range checked {
		for _, units := range []int{-1, 0, 1, 2, 7, maxUnits, maxUnits + 1} {
			compareAll(t, c.name, c.l, units)
			if c.err == api.OK {
				continue
			}
			// That of Check comes before all others.
			_, ofShare := loan.Share(c.l, units)
			_, _, ofBest := loan.Best(c.l, units)
			_, ofBack := loan.Back(c.l, []int{-1}, units)
			if ofShare != c.err || ofBest != c.err || ofBack != c.err {
				t.Errorf("%s: errors of Share, Best and Back are %d, %d, %d; want %d", c.name, ofShare, ofBest, ofBack, c.err)
			}
		}
	}
}

func TestN2N3ErrorsOfUnits(t *testing.T) {
	l, full := list(4, 30, 5, 2, 50, 4), upTo(31, maxUnits, maxPrice)
	for _, c := range []struct {
		name  string
		l     []api.Offer
		units int
		want  api.Errno
	}{
		{"one", l, 1, api.OK},
		{"all", l, 80, api.OK},
		{"one too many", l, 81, api.ErrNone},
		{"as many as may be", full, maxUnits, api.OK},
		{"as many as may be, of one", full[:1], maxUnits, api.OK},
		{"as many as may be, of few", l, maxUnits, api.ErrNone},
		{"more than may be, though there are more", full, maxUnits + 1, api.ErrRange},
		{"more than may be, of few", l, maxUnits + 1, api.ErrRange},
		{"none", l, 0, api.ErrRange},
		{"less than none", l, -1, api.ErrRange},
		{"the least number", l, math.MinInt, api.ErrRange},
		{"the greatest number", l, math.MaxInt, api.ErrRange},
		{"one, and no offers", nil, 1, api.ErrNone},
		{"none, and no offers", nil, 0, api.ErrRange},
	} {
		if parts, err := loan.Share(c.l, c.units); err != c.want {
			t.Errorf("%s: Share = %v, %d; want error %d", c.name, parts, err, c.want)
		}
		if taken, cost, err := loan.Best(c.l, c.units); err != c.want {
			t.Errorf("%s: Best = %v, %d, %d; want error %d", c.name, taken, cost, err, c.want)
		}
		compareAll(t, c.name, c.l, c.units)
	}
}

func TestN2Share(t *testing.T) {
	l := list(4, 30, 50000, 2, 50, 40000, 9, 20, 40000)
	for _, c := range []struct {
		name  string
		l     []api.Offer
		units int
		want  []int
	}{
		{"in proportion", l, 10, []int{3, 5, 2}},
		{"one, to the greatest offer", l, 1, []int{0, 1, 0}},
		{"what is left goes to the greatest remainder", l, 4, []int{1, 2, 1}},
		{"two are left", l, 3, []int{1, 1, 1}},
		{"all", l, 100, []int{30, 50, 20}},
		{"all but one", l, 99, []int{30, 49, 20}},
		{"of equal remainders, to the earlier one", list(3, 5, 1, 1, 5, 9, 2, 5, 0), 4, []int{2, 1, 1}},
		{"of equal remainders, to the two earlier ones", list(3, 5, 1, 1, 5, 9, 2, 5, 0), 5, []int{2, 2, 1}},
		{"prices do not count", list(3, 1, maxPrice, 1, 3, 0), 2, []int{1, 1}},
		{"of one offer", list(3, 7, 1), 5, []int{5}},
		{"a small offer lends nothing", list(3, 1, 1, 1, 99, 1), 10, []int{0, 10}},
		{"the greatest numbers", upTo(4, maxUnits, 0), maxUnits, []int{maxUnits / 4, maxUnits / 4, maxUnits / 4, maxUnits / 4}},
		{"the greatest numbers, which do not divide", upTo(3, maxUnits, 0), maxUnits, []int{357913942, 357913941, 357913941}},
	} {
		if parts, err := loan.Share(c.l, c.units); !slices.Equal(parts, c.want) || err != api.OK {
			t.Errorf("%s: Share = %v, %d; want %v", c.name, parts, err, c.want)
		}
		compareAll(t, c.name, c.l, c.units)
	}
}

func TestN3Best(t *testing.T) {
	l := list(4, 30, 50000, 2, 50, 40000, 9, 20, 40000, 0, 1, 0)
	for _, c := range []struct {
		name  string
		l     []api.Offer
		units int
		want  []int
		cost  int
	}{
		{"of the cheapest one", l, 1, []int{0, 0, 0, 1}, 0},
		{"and of the next one", l, 3, []int{0, 2, 0, 1}, 8},
		{"of equal prices, of the earlier one", l, 51, []int{0, 50, 0, 1}, 200},
		{"of equal prices, of the later one then", l, 52, []int{0, 50, 1, 1}, 204},
		{"all of the cheaper ones", l, 71, []int{0, 50, 20, 1}, 280},
		{"of the dearest one", l, 72, []int{1, 50, 20, 1}, 285},
		{"all", l, 101, []int{30, 50, 20, 1}, 430},
		{"of equal prices the units do not count", list(1, 2, 10000, 2, 9, 10000), 3, []int{2, 1}, 3},
		{"the smallest number of a party does not count", list(9, 2, 10000, 2, 2, 10000), 1, []int{1, 0}, 1},
		{"as near as can be", list(1, 5, maxPrice, 2, 5, maxPrice-1), 5, []int{0, 5}, 549755813},
		{"each cost is rounded down", list(1, 1, 19999, 2, 1, 9999, 3, 1, 9999), 3, []int{1, 1, 1}, 1},
		{"all costs of one offer together", list(1, 3, 9999), 3, []int{3}, 2},
		{"free ones", list(1, 3, 0, 2, 3, 0), 5, []int{3, 2}, 0},
		{"the greatest numbers", upTo(2, maxUnits, maxPrice), maxUnits, []int{maxUnits, 0}, 118059162071741130},
	} {
		if taken, cost, err := loan.Best(c.l, c.units); !slices.Equal(taken, c.want) || cost != c.cost || err != api.OK {
			t.Errorf("%s: Best = %v, %d, %d; want %v, %d", c.name, taken, cost, err, c.want, c.cost)
		}
		compareAll(t, c.name, c.l, c.units)
	}
}

func TestN4Back(t *testing.T) {
	l := list(4, 30, 50000, 2, 50, 40000, 9, 20, 40000, 0, 1, 0)
	lent := []int{5, 50, 20, 0}
	most := upTo(2, maxUnits, 1)
	for _, c := range []struct {
		name  string
		l     []api.Offer
		lent  []int
		units int
		want  []int
		err   api.Errno
	}{
		{"none", l, lent, 0, []int{5, 50, 20, 0}, api.OK},
		{"one, to the last offer that lends some", l, lent, 1, []int{5, 50, 19, 0}, api.OK},
		{"all of the last one", l, lent, 20, []int{5, 50, 0, 0}, api.OK},
		{"and one more", l, lent, 21, []int{5, 49, 0, 0}, api.OK},
		{"all but one", l, lent, 74, []int{1, 0, 0, 0}, api.OK},
		{"all", l, lent, 75, []int{0, 0, 0, 0}, api.OK},
		{"one too many", l, lent, 76, nil, api.ErrWide},
		{"as many as were offered", l, lent, 101, nil, api.ErrWide},
		{"as many as may be", l, lent, maxUnits, nil, api.ErrWide},
		{"too many", l, lent, maxUnits + 1, nil, api.ErrRange},
		{"too many, though more are lent", most, []int{maxUnits, maxUnits}, maxUnits + 1, nil, api.ErrRange},
		{"as many as may be, and more are lent", most, []int{maxUnits, maxUnits - 1}, maxUnits, []int{maxUnits - 1, 0}, api.OK},
		{"less than none", l, lent, -1, nil, api.ErrRange},
		{"the least number", l, lent, math.MinInt, nil, api.ErrRange},
		{"the greatest number", l, lent, math.MaxInt, nil, api.ErrRange},
		{"everything is lent", l, []int{30, 50, 20, 1}, 2, []int{30, 50, 19, 0}, api.OK},
		{"nothing is lent", l, []int{0, 0, 0, 0}, 0, []int{0, 0, 0, 0}, api.OK},
		{"one, and nothing is lent", l, []int{0, 0, 0, 0}, 1, nil, api.ErrWide},
		{"no offers", nil, nil, 0, nil, api.OK},
		{"one, and no offers", nil, nil, 1, nil, api.ErrWide},
		{"no numbers", l, nil, 0, nil, api.ErrForm},
		{"one number too few", l, lent[1:], 0, nil, api.ErrForm},
		{"one number too many", l, []int{5, 50, 20, 0, 0}, 0, nil, api.ErrForm},
		{"a number, and no offers", nil, []int{0}, 0, nil, api.ErrForm},
		{"lent below 0", l, []int{5, 50, 20, -1}, 1, nil, api.ErrRange},
		{"more lent than the first one offered", l, []int{31, 50, 20, 0}, 1, nil, api.ErrRange},
		{"more lent than the last one offered", l, []int{5, 50, 20, 2}, 1, nil, api.ErrRange},
		{"how many numbers there are comes before their range", l, []int{-1}, -1, nil, api.ErrForm},
		{"the range of what is lent comes before what is returned", l, []int{5, 50, 20, 2}, 80, nil, api.ErrRange},
	} {
		if still, err := loan.Back(c.l, c.lent, c.units); !slices.Equal(still, c.want) || err != c.err {
			t.Errorf("%s: Back = %v, %d; want %v, %d", c.name, still, err, c.want, c.err)
		}
		compareBack(t, c.name, c.l, c.lent, c.units)
	}
}

func TestN2ToN4AllEdges(t *testing.T) {
	for _, units := range edges {
		for _, a := range edges {
			for _, b := range edges {
				compareAll(t, "edges", list(1, a, b, 3, b, a), units)
				compareAll(t, "edges", list(1, 100, a, 3, b, 7), units)
				compareBack(t, "edges", list(1, 100, 5, 3, maxUnits, 7), []int{a, b}, units)
			}
		}
	}
}

func draw(r *rand.Rand) []api.Offer {
	var l []api.Offer
	mostUnits, mostPrice := 1+r.Intn(maxUnits)>>r.Intn(30), r.Intn(maxPrice)>>r.Intn(40)
	for _, party := range r.Perm(31)[:1+r.Intn(31)] {
		l = append(l, list(party, 1+r.Intn(mostUnits), r.Intn(mostPrice+1))...)
	}
	return l
}

// TestN2ToN4NobodyLendsMoreThanOffered also follows what is lent until all of it is returned.
func TestN2ToN4NobodyLendsMoreThanOffered(t *testing.T) {
	r := rand.New(rand.NewSource(1))
	for range 3000 {
		l := draw(r)
		units := 1 + r.Intn(min(offered(l), maxUnits))
		for _, lent := range [][]int{compareShare(t, "drawn", l, units), compareBest(t, "drawn", l, units)} {
			for i := range l {
				if lent[i] < 0 || lent[i] > l[i].Units {
					t.Errorf("of %v are lent %v", l, lent)
				}
			}
			for left := units; left > 0; {
				if sumOf(lent) != left {
					t.Fatalf("of %v are lent %v, which are not %d", l, lent, left)
				}
				back := 1 + r.Intn(left)
				lent = compareBack(t, "drawn", l, lent, back)
				left -= back
			}
			if sumOf(lent) != 0 {
				t.Errorf("of %v are still lent %v", l, lent)
			}
		}
	}
}

// cheapest returns, of all selections of units from offers, the least cost, in parts of Scale.
func cheapest(l []api.Offer, units int) int {
	if units == 0 {
		return 0
	}
	if len(l) == 0 {
		return math.MaxInt / 2
	}
	least := math.MaxInt / 2
	for many := 0; many <= min(units, l[0].Units); many++ {
		least = min(least, many*l[0].Price+cheapest(l[1:], units-many))
	}
	return least
}

// TestN3NoOtherWayCostsLess compares costs before they are rounded.
func TestN3NoOtherWayCostsLess(t *testing.T) {
	r := rand.New(rand.NewSource(1))
	for range 2000 {
		var l []api.Offer
		for party := range 1 + r.Intn(4) {
			l = append(l, list(party, 1+r.Intn(5), r.Intn(30000))...)
		}
		for units := 1; units <= offered(l); units++ {
			cost := 0
			for i, many := range compareBest(t, "drawn", l, units) {
				cost += many * l[i].Price
			}
			if least := cheapest(l, units); cost != least {
				t.Errorf("Best(%v, %d) costs %d, and the least are %d", l, units, cost, least)
			}
		}
	}
}

func TestP1NothingBesideAnError(t *testing.T) {
	for _, a := range edges {
		for _, b := range edges {
			for _, units := range edges {
				for _, l := range [][]api.Offer{list(1, 2, 3, a, b, 5), list(1, 2, 3, 4, a, b), list(1, 2, 3, 4, 5, 6)} {
					if parts, err := loan.Share(l, units); err != api.OK && len(parts) != 0 {
						t.Errorf("Share(%v, %d) = %v with error %d", l, units, parts, err)
					}
					if taken, cost, err := loan.Best(l, units); err != api.OK && (len(taken) != 0 || cost != 0) {
						t.Errorf("Best(%v, %d) = %v, %d with error %d", l, units, taken, cost, err)
					}
					if still, err := loan.Back(l, []int{a, b}, units); err != api.OK && len(still) != 0 {
						t.Errorf("Back(%v, %d, %d, %d) = %v with error %d", l, a, b, units, still, err)
					}
				}
			}
		}
	}
}

func TestP2ListsAreOnlyReadAndResultsAreNew(t *testing.T) {
	offers, numbers := list(4, 3, 20000, 2, 5, 10000, 9, 2, 10000, 9, 77, 77), []int{3, 5, 1, 77, 77}
	whole, wholeLent := slices.Clone(offers), slices.Clone(numbers)
	l, lent := whole[:3], wholeLent[:3]
	for range 2 {
		loan.Check(l)
		parts := compareShare(t, "read only", l, 10)
		clear(parts[:cap(parts)]) // results that shared memory would show in the next round
		for units := 1; units < 10; units++ {
			taken := compareBest(t, "read only", l, units)
			clear(taken[:cap(taken)])
		}
		for units := range 10 {
			still := compareBack(t, "read only", l, lent, units)
			clear(still[:cap(still)])
		}
	}
	if !slices.Equal(whole, offers) || !slices.Equal(wholeLent, numbers) {
		t.Errorf("after the calls the offers and what is lent, and what is behind them, are %v, %v", whole, wholeLent)
	}
}

func TestP3CallsDoNotSeeEarlierOnes(t *testing.T) {
	l := list(4, 3, 20000, 2, 5, 10000)
	for range 3 {
		if err := loan.Check(l); err != api.OK { // parties that were kept would occur twice
			t.Errorf("Check = %d", err)
		}
		if taken, cost, err := loan.Best(l, 6); !slices.Equal(taken, []int{1, 5}) || cost != 7 || err != api.OK {
			t.Errorf("Best = %v, %d, %d", taken, cost, err)
		}
		l[1].Price, l[1].Units = 30000, 3 // an offer that was kept would show here
		if taken, cost, err := loan.Best(l, 4); !slices.Equal(taken, []int{3, 1}) || cost != 9 || err != api.OK {
			t.Errorf("Best = %v, %d, %d", taken, cost, err)
		}
		if parts, err := loan.Share(l, 4); !slices.Equal(parts, []int{2, 2}) || err != api.OK {
			t.Errorf("Share = %v, %d", parts, err)
		}
		if still, err := loan.Back(l, []int{1, 3}, 2); !slices.Equal(still, []int{1, 1}) || err != api.OK {
			t.Errorf("Back = %v, %d", still, err)
		}
		l[1].Price, l[1].Units = 10000, 5
	}
}

func TestP4LongLists(t *testing.T) {
	long := make([]api.Offer, 1<<22)
	_, ofShare := loan.Share(long, 1)
	_, _, ofBest := loan.Best(long, 1)
	_, ofBack := loan.Back(long, nil, 1)
	if err := loan.Check(long); err != api.ErrMany || ofShare != api.ErrMany || ofBest != api.ErrMany || ofBack != api.ErrMany {
		t.Errorf("errors are %d, %d, %d, %d; want %d", err, ofShare, ofBest, ofBack, api.ErrMany)
	}
	if still, err := loan.Back(list(1, 1, 1), make([]int, 1<<22), 1); len(still) != 0 || err != api.ErrForm {
		t.Errorf("Back = %d numbers, %d; want error %d", len(still), err, api.ErrForm)
	}
}
