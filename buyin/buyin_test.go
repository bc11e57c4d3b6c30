package buyin_test

import (
	"math"
	"math/big"
	"math/rand"
	"slices"
	"testing"

	"demurrage/api"
	"demurrage/buyin"
	"demurrage/loan"
)

const (
	maxUnits = 1 << 30
	maxPrice = 1 << 40
	mostCost = 118059162071741130 // of the greatest numbers
)

// edges are the numbers around every limit of the chapter, and the outermost ones.
var edges = []int{
	math.MinInt, -maxUnits, -1, 0, 1, 2, 3, 5, 7, 29, 30, 31, 9999, 10000, 10001,
	maxUnits - 1, maxUnits, maxUnits + 1, maxPrice - 1, maxPrice, maxPrice + 1, math.MaxInt,
}

// list makes offers from triples of party, units and price.
func list(numbers ...int) []api.Offer {
	var l []api.Offer
	for t := range slices.Chunk(numbers, 3) {
		l = append(l, api.Offer{Party: t[0], Units: t[1], Price: t[2]})
	}
	return l
}

// upTo makes offers of the parties from 0 on, with the same units and price each.
func upTo(many, units, price int) []api.Offer {
	var l []api.Offer
	for party := range many {
		l = append(l, list(party, units, price)...)
	}
	return l
}

// isBefore reports whether the offer i comes before the offer j.
func isBefore(l []api.Offer, i, j int) bool {
	if l[i].Price != l[j].Price {
		return l[i].Price < l[j].Price
	}
	if l[i].Units != l[j].Units {
		return l[i].Units > l[j].Units
	}
	return i < j
}

// wantOrder puts each offer behind as many as come before it.
func wantOrder(l []api.Offer) ([]int, api.Errno) {
	if e := loan.Check(l); e != api.OK {
		return nil, e
	}
	order := make([]int, len(l))
	for i := range l {
		place := 0
		for j := range l {
			if isBefore(l, j, i) {
				place++
			}
		}
		order[place] = i
	}
	return order, api.OK
}

// wantUnits is the error of Take and One that does not depend on a limit.
func wantUnits(l []api.Offer, units int) api.Errno {
	if e := loan.Check(l); e != api.OK {
		return e
	}
	if units < 1 || units > maxUnits {
		return api.ErrRange
	}
	return api.OK
}

// wantTake computes, for each offer, how many are wanted from it after those before it.
func wantTake(l []api.Offer, units, limit int) ([]int, int, api.Errno) {
	if e := wantUnits(l, units); e != api.OK {
		return nil, 0, e
	}
	if limit < 0 || limit > maxPrice {
		return nil, 0, api.ErrRange
	}
	taken, offered := make([]int, len(l)), 0
	for i, o := range l {
		if o.Price > limit {
			continue
		}
		offered += o.Units
		wanted := units
		for j := range l {
			if isBefore(l, j, i) {
				wanted -= l[j].Units
			}
		}
		taken[i] = max(0, min(wanted, o.Units))
	}
	return taken, max(0, units-offered), api.OK
}

// wantOne tries, from the least one on, the limits with which another number can be taken.
func wantOne(l []api.Offer, units int) (int, []int, api.Errno) {
	if e := wantUnits(l, units); e != api.OK {
		return 0, nil, e
	}
	limits := []int{0, maxPrice}
	for _, o := range l {
		limits = append(limits, o.Price-1, o.Price, o.Price+1)
	}
	slices.Sort(limits)
	for _, limit := range limits {
		if taken, missing, e := wantTake(l, units, limit); e == api.OK && missing == 0 {
			return limit, taken, api.OK
		}
	}
	return 0, nil, api.ErrNone
}

// wantApart computes Apart with numbers of any size.
func wantApart(units, agreed, paid int) (int, api.Errno) {
	if units < 0 || units > maxUnits || agreed < 0 || agreed > maxPrice || paid < 0 || paid > maxPrice {
		return 0, api.ErrRange
	}
	cost := func(price int) *big.Int {
		n := new(big.Int).Mul(big.NewInt(int64(units)), big.NewInt(int64(price)))
		return n.Quo(n, big.NewInt(10000))
	}
	return int(new(big.Int).Sub(cost(paid), cost(agreed)).Int64()), api.OK
}

func compareOrder(t *testing.T, name string, l []api.Offer) []int {
	t.Helper()
	order, err := buyin.Order(l)
	if want, wantErr := wantOrder(l); !slices.Equal(order, want) || err != wantErr {
		t.Errorf("%s: Order(%v) = %v, %d; want %v, %d", name, l, order, err, want, wantErr)
	}
	return order
}

func compareTake(t *testing.T, name string, l []api.Offer, units, limit int) ([]int, int) {
	t.Helper()
	taken, missing, err := buyin.Take(l, units, limit)
	if want, wantMissing, wantErr := wantTake(l, units, limit); !slices.Equal(taken, want) || missing != wantMissing || err != wantErr {
		t.Errorf("%s: Take(%v, %d, %d) = %v, %d, %d; want %v, %d, %d", name, l, units, limit, taken, missing, err, want, wantMissing, wantErr)
	}
	return taken, missing
}

func compareOne(t *testing.T, name string, l []api.Offer, units int) (int, []int) {
	t.Helper()
	limit, taken, err := buyin.One(l, units)
	if wantLimit, want, wantErr := wantOne(l, units); limit != wantLimit || !slices.Equal(taken, want) || err != wantErr {
		t.Errorf("%s: One(%v, %d) = %d, %v, %d; want %d, %v, %d", name, l, units, limit, taken, err, wantLimit, want, wantErr)
	}
	return limit, taken
}

func compareAll(t *testing.T, name string, l []api.Offer, units int, limits ...int) {
	t.Helper()
	compareOrder(t, name, l)
	compareOne(t, name, l, units)
	for _, limit := range limits {
		compareTake(t, name, l, units, limit)
	}
}

// checked are offers, with the error of loan.Check.
var checked = []struct {
	name string
	l    []api.Offer
	err  api.Errno
}{
	{"nil", nil, api.OK},
	{"none", []api.Offer{}, api.OK},
	{"the least numbers", list(0, 1, 0), api.OK},
	{"the greatest numbers", list(30, maxUnits, maxPrice), api.OK},
	{"all parties", upTo(31, maxUnits, maxPrice), api.OK},
	{"a party below 0", list(-1, 1, 1), api.ErrRange},
	{"no party", list(31, 1, 1), api.ErrRange},
	{"no units", list(1, 0, 1), api.ErrRange},
	{"too many units", list(1, maxUnits+1, 1), api.ErrRange},
	{"a price below 0", list(1, 1, -1), api.ErrRange},
	{"too great a price", list(1, 1, maxPrice+1), api.ErrRange},
	{"the last one of many", append(upTo(30, 1, 1), list(30, 1, -1)...), api.ErrRange},
	{"twice in a row", list(3, 1, 1, 3, 2, 2), api.ErrTwice},
	{"twice", list(3, 1, 1, 4, 1, 1, 3, 1, 1), api.ErrTwice},
	{"as many as may be, though not so many parties", slices.Repeat(list(3, 1, 1), 40), api.ErrTwice},
	{"one too many", slices.Repeat(list(3, 1, 1), 41), api.ErrMany},
	{"too many come before the range", slices.Repeat(list(-1, 0, -1), 41), api.ErrMany},
	{"of one offer the range comes before twice", list(3, 1, 1, 3, 0, 1), api.ErrRange},
	{"twice comes before the range of a later one", list(3, 1, 1, 3, 1, 1, 4, 0, 1), api.ErrTwice},
}

func TestO1O2O4ErrorsOfCheck(t *testing.T) {
	for _, c := range checked {
		for _, units := range []int{math.MinInt, 0, 1, 7, maxUnits, maxUnits + 1} {
			compareAll(t, c.name, c.l, units, -1, 0, 1, maxPrice, maxPrice+1)
			if c.err == api.OK {
				continue
			}
			// That of Check comes before all others.
			_, ofOrder := buyin.Order(c.l)
			_, _, ofTake := buyin.Take(c.l, units, -1)
			_, _, ofOne := buyin.One(c.l, units)
			if ofOrder != c.err || ofTake != c.err || ofOne != c.err {
				t.Errorf("%s: errors of Order, Take and One are %d, %d, %d; want %d", c.name, ofOrder, ofTake, ofOne, c.err)
			}
		}
	}
}

func TestO1Order(t *testing.T) {
	for _, c := range []struct {
		name string
		l    []api.Offer
		want []int
	}{
		{"none", nil, nil},
		{"one", list(3, 5, 7), []int{0}},
		{"the cheaper ones first", list(1, 5, 9, 2, 5, 7, 3, 5, 8), []int{1, 2, 0}},
		{"the cheapest one first, though it is the smallest", list(1, 5, 9, 2, 1, 0), []int{1, 0}},
		{"of equal prices the greater ones first", list(1, 5, 9, 2, 7, 9, 3, 6, 9), []int{1, 2, 0}},
		{"of equal ones the earlier first", list(9, 5, 7, 1, 5, 7, 5, 5, 7), []int{0, 1, 2}},
		{"all of it", list(4, 30, 5, 2, 50, 4, 9, 60, 4, 0, 1, 0, 8, 60, 4), []int{3, 2, 4, 1, 0}},
		{"the outermost numbers", list(0, 1, maxPrice, 30, maxUnits, maxPrice, 1, 1, 0, 2, maxUnits, 0), []int{3, 2, 1, 0}},
		{"as near as can be", list(0, 1, maxPrice, 1, 1, maxPrice-1, 2, maxUnits-1, 3, 3, maxUnits, 3), []int{3, 2, 1, 0}},
	} {
		if order, err := buyin.Order(c.l); !slices.Equal(order, c.want) || err != api.OK {
			t.Errorf("%s: Order = %v, %d; want %v", c.name, order, err, c.want)
		}
		compareOrder(t, c.name, c.l)
	}
}

// TestO1OrderOfManyEqualOnes has more offers than are sorted one by one.
func TestO1OrderOfManyEqualOnes(t *testing.T) {
	for many := range 32 {
		l := upTo(many, 5, 7)
		for i, place := range compareOrder(t, "all are equal", l) {
			if i != place {
				t.Errorf("of %d equal ones, place %d has the offer %d", many, i, place)
			}
		}
		for i := range l {
			l[i].Units, l[i].Price = 1+i%2, i%3
		}
		compareOrder(t, "many are equal", l)
	}
}

func TestO2Take(t *testing.T) {
	l := list(4, 30, 50000, 2, 50, 40000, 9, 60, 40000, 0, 1, 0, 8, 60, 40000)
	for _, c := range []struct {
		name         string
		units, limit int
		want         []int
		missing      int
		err          api.Errno
	}{
		{"of the cheapest one", 1, 40000, []int{0, 0, 0, 1, 0}, 0, api.OK},
		{"and of the next one", 3, 40000, []int{0, 0, 2, 1, 0}, 0, api.OK},
		{"all of the greatest one at that price", 61, 40000, []int{0, 0, 60, 1, 0}, 0, api.OK},
		{"then of the one that is as great", 62, 40000, []int{0, 0, 60, 1, 1}, 0, api.OK},
		{"then of the smaller one", 122, 40000, []int{0, 1, 60, 1, 60}, 0, api.OK},
		{"all up to the limit", 171, 40000, []int{0, 50, 60, 1, 60}, 0, api.OK},
		{"one is missing", 172, 40000, []int{0, 50, 60, 1, 60}, 1, api.OK},
		{"one below the limit of the dearest", 172, 49999, []int{0, 50, 60, 1, 60}, 1, api.OK},
		{"of the dearest one", 172, 50000, []int{1, 50, 60, 1, 60}, 0, api.OK},
		{"all", 201, maxPrice, []int{30, 50, 60, 1, 60}, 0, api.OK},
		{"more than all", 202, maxPrice, []int{30, 50, 60, 1, 60}, 1, api.OK},
		{"a limit of 0", 10, 0, []int{0, 0, 0, 1, 0}, 9, api.OK},
		{"a limit below the next one", 10, 39999, []int{0, 0, 0, 1, 0}, 9, api.OK},
		{"as many as may be", maxUnits, 50000, []int{30, 50, 60, 1, 60}, maxUnits - 201, api.OK},
		{"more than may be", maxUnits + 1, 50000, nil, 0, api.ErrRange},
		{"none", 0, 50000, nil, 0, api.ErrRange},
		{"less than none", -1, 50000, nil, 0, api.ErrRange},
		{"a limit below 0", 1, -1, nil, 0, api.ErrRange},
		{"too great a limit", 1, maxPrice + 1, nil, 0, api.ErrRange},
	} {
		if taken, missing, err := buyin.Take(l, c.units, c.limit); !slices.Equal(taken, c.want) || missing != c.missing || err != c.err {
			t.Errorf("%s: Take = %v, %d, %d; want %v, %d, %d", c.name, taken, missing, err, c.want, c.missing, c.err)
		}
		compareTake(t, c.name, l, c.units, c.limit)
	}
}

func TestO2TakeFromFewOffers(t *testing.T) {
	for _, c := range []struct {
		name         string
		l            []api.Offer
		units, limit int
		want         []int
		missing      int
	}{
		{"no offers", nil, 7, 5, nil, 7},
		{"all are too dear", list(1, 9, 6, 2, 9, 7), 7, 5, []int{0, 0}, 7},
		{"the greatest numbers", upTo(2, maxUnits, maxPrice), maxUnits, maxPrice, []int{maxUnits, 0}, 0},
		{"the greatest numbers, a little too dear", upTo(2, maxUnits, maxPrice), maxUnits, maxPrice - 1, []int{0, 0}, maxUnits},
		{"half of the greatest numbers each", list(1, maxUnits/2, 3, 2, maxUnits/2, 2), maxUnits, 3, []int{maxUnits / 2, maxUnits / 2}, 0},
	} {
		if taken, missing, err := buyin.Take(c.l, c.units, c.limit); !slices.Equal(taken, c.want) || missing != c.missing || err != api.OK {
			t.Errorf("%s: Take = %v, %d, %d; want %v, %d", c.name, taken, missing, err, c.want, c.missing)
		}
		compareTake(t, c.name, c.l, c.units, c.limit)
	}
}

func TestO3Apart(t *testing.T) {
	for _, c := range []struct {
		name                string
		units, agreed, paid int
		want                int
		err                 api.Errno
	}{
		{"dearer", 3, 15000, 20000, 2, api.OK},
		{"cheaper", 3, 20000, 15000, -2, api.OK},
		{"the same", 3, 20000, 20000, 0, api.OK},
		{"each cost is rounded down by itself", 1, 19999, 20000, 1, api.OK},
		{"and then nothing is apart", 1, 10000, 19999, 0, api.OK},
		{"the other way", 1, 20000, 19999, -1, api.OK},
		{"no units", 0, 0, maxPrice, 0, api.OK},
		{"agreed on for nothing", 7, 0, 10000, 7, api.OK},
		{"bought for nothing", 7, 10000, 0, -7, api.OK},
		{"the greatest numbers", maxUnits, 0, maxPrice, mostCost, api.OK},
		{"the greatest numbers, the other way", maxUnits, maxPrice, 0, -mostCost, api.OK},
		{"units below 0", -1, 1, 1, 0, api.ErrRange},
		{"too many units", maxUnits + 1, 1, 1, 0, api.ErrRange},
		{"agreed on below 0", 1, -1, 1, 0, api.ErrRange},
		{"agreed on for too much", 1, maxPrice + 1, 1, 0, api.ErrRange},
		{"paid below 0", 1, 1, -1, 0, api.ErrRange},
		{"paid too much", 1, 1, maxPrice + 1, 0, api.ErrRange},
		{"no units, agreed on below 0", 0, -1, 1, 0, api.ErrRange},
		{"no units, paid too much", 0, 1, maxPrice + 1, 0, api.ErrRange},
	} {
		if got, err := buyin.Apart(c.units, c.agreed, c.paid); got != c.want || err != c.err {
			t.Errorf("%s: Apart = %d, %d; want %d, %d", c.name, got, err, c.want, c.err)
		}
	}
}

func TestO3ApartOfAllEdges(t *testing.T) {
	for _, units := range edges {
		for _, agreed := range edges {
			for _, paid := range edges {
				want, wantErr := wantApart(units, agreed, paid)
				if got, err := buyin.Apart(units, agreed, paid); got != want || err != wantErr {
					t.Errorf("Apart(%d, %d, %d) = %d, %d; want %d, %d", units, agreed, paid, got, err, want, wantErr)
				}
			}
		}
	}
}

func TestO4One(t *testing.T) {
	l := list(4, 30, 50000, 2, 50, 40000, 9, 60, 40000, 0, 1, 0, 8, 60, 40000)
	for _, c := range []struct {
		name  string
		l     []api.Offer
		units int
		limit int
		want  []int
		err   api.Errno
	}{
		{"of the cheapest one", l, 1, 0, []int{0, 0, 0, 1, 0}, api.OK},
		{"of the next one", l, 2, 40000, []int{0, 0, 1, 1, 0}, api.OK},
		{"all of the cheaper ones", l, 171, 40000, []int{0, 50, 60, 1, 60}, api.OK},
		{"of the dearest one", l, 172, 50000, []int{1, 50, 60, 1, 60}, api.OK},
		{"all", l, 201, 50000, []int{30, 50, 60, 1, 60}, api.OK},
		{"one too many", l, 202, 0, nil, api.ErrNone},
		{"as many as may be, of few", l, maxUnits, 0, nil, api.ErrNone},
		{"too many", l, maxUnits + 1, 0, nil, api.ErrRange},
		{"none", l, 0, 0, nil, api.ErrRange},
		{"less than none", l, -1, 0, nil, api.ErrRange},
		{"no offers", nil, 1, 0, nil, api.ErrNone},
		{"none, and no offers", nil, 0, 0, nil, api.ErrRange},
		{"too many, and no offers", nil, maxUnits + 1, 0, nil, api.ErrRange},
		{"the greatest numbers", upTo(31, maxUnits, maxPrice), maxUnits, maxPrice, append([]int{maxUnits}, make([]int, 30)...), api.OK},
		{"the greatest numbers, one too many", list(1, maxUnits-1, maxPrice), maxUnits, 0, nil, api.ErrNone},
		{"the limit is no higher than the offer that completes it", list(1, 5, 3, 2, 5, 9), 5, 3, []int{5, 0}, api.OK},
		{"one more, and it is", list(1, 5, 3, 2, 5, 9), 6, 9, []int{5, 1}, api.OK},
	} {
		if limit, taken, err := buyin.One(c.l, c.units); limit != c.limit || !slices.Equal(taken, c.want) || err != c.err {
			t.Errorf("%s: One = %d, %v, %d; want %d, %v, %d", c.name, limit, taken, err, c.limit, c.want, c.err)
		}
		compareOne(t, c.name, c.l, c.units)
	}
}

func TestO1O2O4AllEdges(t *testing.T) {
	for _, units := range edges {
		for _, a := range edges {
			for _, b := range edges {
				compareAll(t, "edges", list(1, a, b, 3, b, a), units, a, b)
				compareAll(t, "edges", list(1, 100, a, 3, b, 7, 2, 5, 7), units, a, b)
			}
		}
	}
}

// draw draws offers; of small numbers many are equal.
func draw(r *rand.Rand) []api.Offer {
	var l []api.Offer
	mostUnits, mostPrice := 1+r.Intn(maxUnits)>>r.Intn(30), r.Intn(maxPrice)>>r.Intn(40)
	for _, party := range r.Perm(31)[:1+r.Intn(31)] {
		l = append(l, list(party, 1+r.Intn(mostUnits), r.Intn(mostPrice+1))...)
	}
	return l
}

// checkTaken checks that what is taken is offered, is not too dear, and is, with what is missing, all that was wanted.
func checkTaken(t *testing.T, l []api.Offer, units, limit int, taken []int, missing int) {
	t.Helper()
	sum := missing
	for i, o := range l {
		sum += taken[i]
		if taken[i] < 0 || taken[i] > o.Units || taken[i] > 0 && o.Price > limit {
			t.Errorf("of %v are taken %v with the limit %d", l, taken, limit)
		}
		if missing > 0 && taken[i] < o.Units && o.Price <= limit {
			t.Errorf("of %v are taken only %v with the limit %d, and %d are missing", l, taken, limit, missing)
		}
	}
	if sum != units || missing < 0 {
		t.Errorf("of %v are taken %v, and %d are missing, of %d", l, taken, missing, units)
	}
}

func TestO1O2O4NobodySellsMoreThanOffered(t *testing.T) {
	r := rand.New(rand.NewSource(1))
	for range 3000 {
		l := draw(r)
		compareOrder(t, "drawn", l)
		offered := 0
		for _, o := range l {
			offered += o.Units
		}
		for range 5 {
			units := 1 + r.Intn(min(offered, maxUnits))
			limit := max(0, l[r.Intn(len(l))].Price-r.Intn(2))
			taken, missing := compareTake(t, "drawn", l, units, limit)
			checkTaken(t, l, units, limit, taken, missing)
			limit, taken = compareOne(t, "drawn", l, units)
			checkTaken(t, l, units, limit, taken, 0)
		}
	}
}

// cheapest returns, of all selections of units from offers, the least cost, in parts of Scale.
func cheapest(l []api.Offer, units int) int {
	if units == 0 {
		return 0
	}
	if len(l) == 0 {
		return math.MaxInt / 2
	}
	least := math.MaxInt / 2
	for many := 0; many <= min(units, l[0].Units); many++ {
		least = min(least, many*l[0].Price+cheapest(l[1:], units-many))
	}
	return least
}

// TestO2O4NoOtherWayCostsLess compares costs before they are rounded, and the limit of One with all lesser ones.
func TestO2O4NoOtherWayCostsLess(t *testing.T) {
	r := rand.New(rand.NewSource(1))
	for range 1000 {
		var l []api.Offer
		offered := 0
		for party := range 1 + r.Intn(4) {
			l = append(l, list(party, 1+r.Intn(5), r.Intn(12))...)
			offered += l[party].Units
		}
		for units := 1; units <= offered; units++ {
			taken, _ := compareTake(t, "drawn", l, units, maxPrice)
			cost := 0
			for i, many := range taken {
				cost += many * l[i].Price
			}
			if least := cheapest(l, units); cost != least {
				t.Errorf("Take(%v, %d) costs %d, and the least are %d", l, units, cost, least)
			}
			limit, atOne := compareOne(t, "drawn", l, units)
			if !slices.Equal(atOne, taken) {
				t.Errorf("Take and One of %v, %d are %v and %v", l, units, taken, atOne)
			}
			for lesser := range limit {
				if _, missing, err := buyin.Take(l, units, lesser); missing == 0 || err != api.OK {
					t.Errorf("One(%v, %d) has the limit %d, and with %d are missing %d, %d", l, units, limit, lesser, missing, err)
				}
			}
		}
	}
}

func TestP1NothingBesideAnError(t *testing.T) {
	for _, a := range edges {
		for _, b := range edges {
			for _, c := range edges {
				if apart, err := buyin.Apart(a, b, c); err != api.OK && apart != 0 {
					t.Errorf("Apart(%d, %d, %d) = %d with error %d", a, b, c, apart, err)
				}
				for _, l := range [][]api.Offer{list(1, 2, 3, a, b, 5), list(1, 2, 3, 4, a, b), list(1, 2, 3, 4, 5, 6)} {
					if order, err := buyin.Order(l); err != api.OK && len(order) != 0 {
						t.Errorf("Order(%v) = %v with error %d", l, order, err)
					}
					if taken, missing, err := buyin.Take(l, c, a); err != api.OK && (len(taken) != 0 || missing != 0) {
						t.Errorf("Take(%v, %d, %d) = %v, %d with error %d", l, c, a, taken, missing, err)
					}
					if limit, taken, err := buyin.One(l, c); err != api.OK && (limit != 0 || len(taken) != 0) {
						t.Errorf("One(%v, %d) = %d, %v with error %d", l, c, limit, taken, err)
					}
				}
			}
		}
	}
}

func TestP2ListsAreOnlyReadAndResultsAreNew(t *testing.T) {
	offers := list(4, 3, 20000, 2, 5, 10000, 9, 6, 10000, 9, 77, 77)
	whole := slices.Clone(offers)
	l := whole[:3]
	for range 2 {
		order := compareOrder(t, "read only", l)
		clear(order[:cap(order)]) // results that shared memory would show in the next round
		for units := 1; units < 16; units++ {
			taken, _ := compareTake(t, "read only", l, units, 10000)
			clear(taken[:cap(taken)])
			_, taken = compareOne(t, "read only", l, units)
			clear(taken[:cap(taken)])
		}
	}
	if !slices.Equal(whole, offers) {
		t.Errorf("after the calls the offers and the one behind them are %v", whole)
	}
}

func TestP3CallsDoNotSeeEarlierOnes(t *testing.T) {
	l := list(4, 3, 20000, 2, 5, 10000)
	for range 3 {
		if order, err := buyin.Order(l); !slices.Equal(order, []int{1, 0}) || err != api.OK {
			t.Errorf("Order = %v, %d", order, err)
		}
		if limit, taken, err := buyin.One(l, 6); limit != 20000 || !slices.Equal(taken, []int{1, 5}) || err != api.OK {
			t.Errorf("One = %d, %v, %d", limit, taken, err)
		}
		l[1].Price, l[1].Units = 30000, 2 // offers that were kept would show here
		if order, err := buyin.Order(l); !slices.Equal(order, []int{0, 1}) || err != api.OK {
			t.Errorf("Order = %v, %d", order, err)
		}
		if taken, missing, err := buyin.Take(l, 6, 20000); !slices.Equal(taken, []int{3, 0}) || missing != 3 || err != api.OK {
			t.Errorf("Take = %v, %d, %d", taken, missing, err)
		}
		if apart, err := buyin.Apart(4, 20000, 30000); apart != 4 || err != api.OK {
			t.Errorf("Apart = %d, %d", apart, err)
		}
		l[1].Price, l[1].Units = 10000, 5
	}
}

func TestP4LongLists(t *testing.T) {
	long := make([]api.Offer, 1<<22)
	_, ofOrder := buyin.Order(long)
	_, _, ofTake := buyin.Take(long, 1, 1)
	_, _, ofOne := buyin.One(long, 1)
	if ofOrder != api.ErrMany || ofTake != api.ErrMany || ofOne != api.ErrMany {
		t.Errorf("errors are %d, %d, %d; want %d", ofOrder, ofTake, ofOne, api.ErrMany)
	}
}
