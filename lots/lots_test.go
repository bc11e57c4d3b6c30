package lots_test

import (
	"math"
	"math/big"
	"math/rand"
	"slices"
	"testing"

	"demurrage/api"
	"demurrage/lots"
)

const (
	maxUnits = 1 << 30
	maxCost  = 1 << 32
	maxDay   = 3652058
)

// kinds are all of them, and no others.
var kinds = []int{api.Oldest, api.Newest, api.Dearest}

// edges are the numbers around every limit of the chapter, and the outermost ones.
var edges = []int{
	math.MinInt, -maxCost, -1, 0, 1, 2, 3, 4, maxDay - 1, maxDay, maxDay + 1,
	maxUnits - 1, maxUnits, maxUnits + 1, maxCost - 1, maxCost, maxCost + 1, 40 * maxUnits, 40*maxUnits + 1, math.MaxInt,
}

// list makes lots from triples of day, units and cost.
func list(numbers ...int) []api.Lot {
	var l []api.Lot
	for t := range slices.Chunk(numbers, 3) {
		l = append(l, api.Lot{Day: t[0], Units: t[1], Cost: t[2]})
	}
	return l
}

// repeat makes a list of one lot many times.
func repeat(many, day, units, cost int) []api.Lot {
	return slices.Repeat(list(day, units, cost), many)
}

func wantCheck(l []api.Lot) api.Errno {
	if len(l) > 40 {
		return api.ErrMany
	}
	for i, lot := range l {
		if lot.Day < 0 || lot.Day > maxDay || lot.Units < 1 || lot.Units > maxUnits || lot.Cost < 0 || lot.Cost > maxCost {
			return api.ErrRange
		}
		if i > 0 && lot.Day < l[i-1].Day {
			return api.ErrState
		}
	}
	return api.OK
}

func wantBuy(l []api.Lot, b api.Lot) ([]api.Lot, api.Errno) {
	all := append(append([]api.Lot{}, l...), b)
	if e := wantCheck(all); e != api.OK {
		return nil, e
	}
	return all, api.OK
}

func wantHas(l []api.Lot) (int, int, api.Errno) {
	if e := wantCheck(l); e != api.OK {
		return 0, 0, e
	}
	units, cost := 0, 0
	for i := range l {
		units, cost = units+l[i].Units, cost+l[i].Cost
	}
	return units, cost, api.OK
}

// inOrder lists the indices of lots in the order in which all of them would be sold.
func inOrder(l []api.Lot, kind int) []int {
	var order []int
	for i := range l {
		order = append(order, i)
	}
	switch kind {
	case api.Newest:
		slices.Reverse(order)
	case api.Dearest:
		ofOne := func(i int) *big.Rat { return big.NewRat(int64(l[i].Cost), int64(l[i].Units)) }
		slices.SortStableFunc(order, func(a, b int) int { return ofOne(b).Cmp(ofOne(a)) })
	}
	return order
}

// wantSell sells lots in an order that is known from the start, with numbers of any size.
func wantSell(l []api.Lot, units, kind int) ([]api.Lot, int, api.Errno) {
	if e := wantCheck(l); e != api.OK {
		return nil, 0, e
	}
	if !slices.Contains(kinds, kind) {
		return nil, 0, api.ErrKind
	}
	if units < 1 || units > 40*maxUnits {
		return nil, 0, api.ErrRange
	}
	if all, _, _ := wantHas(l); units > all {
		return nil, 0, api.ErrNone
	}
	cost, left := 0, slices.Clone(l)
	for _, i := range inOrder(l, kind) {
		sold := units
		if l[i].Units < sold {
			sold = l[i].Units
		}
		part := new(big.Int).Mul(big.NewInt(int64(l[i].Cost)), big.NewInt(int64(sold)))
		part.Quo(part, big.NewInt(int64(l[i].Units)))
		left[i].Units -= sold
		left[i].Cost -= int(part.Int64())
		units, cost = units-sold, cost+int(part.Int64())
	}
	left = slices.DeleteFunc(left, func(lot api.Lot) bool { return lot.Units == 0 })
	return left, cost, api.OK
}

func compareSell(t *testing.T, name string, l []api.Lot, units, kind int) {
	t.Helper()
	left, cost, err := lots.Sell(l, units, kind)
	wantLeft, wantCost, wantErr := wantSell(l, units, kind)
	if !slices.Equal(left, wantLeft) || cost != wantCost || err != wantErr {
		t.Errorf("%s: Sell(%v, %d, %d) = %v, %d, %d; want %v, %d, %d", name, l, units, kind, left, cost, err, wantLeft, wantCost, wantErr)
	}
}

func compareAll(t *testing.T, name string, l []api.Lot) {
	t.Helper()
	if err := lots.Check(l); err != wantCheck(l) {
		t.Errorf("%s: Check(%v) = %d, want %d", name, l, err, wantCheck(l))
	}
	units, cost, err := lots.Has(l)
	if wantUnits, wantCost, wantErr := wantHas(l); units != wantUnits || cost != wantCost || err != wantErr {
		t.Errorf("%s: Has(%v) = %d, %d, %d; want %d, %d, %d", name, l, units, cost, err, wantUnits, wantCost, wantErr)
	}
	for kind := range 5 {
		for _, many := range []int{0, 1, 2, units / 3, units/2 + 1, units - 1, units, units + 1} {
			compareSell(t, name, l, many, kind)
		}
	}
}

// checked are lists with the error of Check.
var checked = []struct {
	name string
	l    []api.Lot
	err  api.Errno
}{
	{"nil", nil, api.OK},
	{"empty", []api.Lot{}, api.OK},
	{"the least numbers", list(0, 1, 0), api.OK},
	{"the greatest numbers", list(maxDay, maxUnits, maxCost), api.OK},
	{"several on one day", list(5, 1, 1, 5, 2, 2, 5, 1, 1), api.OK},
	{"day after day", list(0, 3, 4, 1, 3, 4, 9, 1, 1), api.OK},
	{"as many as may be", repeat(40, 3, maxUnits, maxCost), api.OK},
	{"one too many", repeat(41, 3, 1, 1), api.ErrMany},
	{"too many comes before the range", repeat(41, -1, 0, -1), api.ErrMany},
	{"too many comes before the order", append(list(4, 1, 1), repeat(40, 3, 1, 1)...), api.ErrMany},
	{"a day below 0", list(-1, 1, 1), api.ErrRange},
	{"a day after the last one", list(maxDay+1, 1, 1), api.ErrRange},
	{"no units", list(1, 0, 1), api.ErrRange},
	{"units below 0", list(1, -1, 1), api.ErrRange},
	{"too many units", list(1, maxUnits+1, 1), api.ErrRange},
	{"a cost below 0", list(1, 1, -1), api.ErrRange},
	{"too great a cost", list(1, 1, maxCost+1), api.ErrRange},
	{"the last one of many", append(repeat(39, 1, 1, 1), list(1, 1, -1)...), api.ErrRange},
	{"one day back", list(5, 1, 1, 4, 1, 1), api.ErrState},
	{"back, and later again", list(5, 1, 1, 9, 1, 1, 8, 1, 1, 9, 1, 1), api.ErrState},
	{"below the one before, not below the first one", list(5, 1, 1, 9, 1, 1, 8, 1, 1), api.ErrState},
	{"of one lot the range comes before the order", list(5, 1, 1, -1, 1, 1), api.ErrRange},
	{"of one lot the range of the cost comes before the order", list(5, 1, 1, 4, 1, -1), api.ErrRange},
	{"the order of an earlier lot comes first", list(5, 1, 1, 4, 1, 1, 4, 0, 1), api.ErrState},
	{"the range of an earlier lot comes first", list(5, 0, 1, 4, 1, 1), api.ErrRange},
}

func TestJ1Check(t *testing.T) {
	for _, c := range checked {
		if err := lots.Check(c.l); err != c.err {
			t.Errorf("%s: Check = %d, want %d", c.name, err, c.err)
		}
	}
}

func TestJ1CheckOfAllEdges(t *testing.T) {
	for _, day := range edges {
		for _, units := range edges {
			for _, cost := range edges {
				for _, l := range [][]api.Lot{
					list(day, units, cost), list(2, 1, 1, day, units, cost), list(day, units, cost, 2, 1, 1), list(day, units, cost, day, 1, -1),
				} {
					if err := lots.Check(l); err != wantCheck(l) {
						t.Errorf("Check(%v) = %d, want %d", l, err, wantCheck(l))
					}
				}
			}
		}
	}
}

func TestJ1Buy(t *testing.T) {
	full := repeat(39, 3, 1, 1)
	for _, c := range []struct {
		name    string
		l       []api.Lot
		b       api.Lot
		want    []api.Lot
		wantErr api.Errno
	}{
		{"the first one", nil, api.Lot{Day: 3, Units: 1}, list(3, 1, 0), api.OK},
		{"on the same day", list(3, 4, 5), api.Lot{Day: 3, Units: 4, Cost: 5}, list(3, 4, 5, 3, 4, 5), api.OK},
		{"later", list(3, 4, 5), api.Lot{Day: 4, Units: 6, Cost: 7}, list(3, 4, 5, 4, 6, 7), api.OK},
		{"the greatest numbers", nil, api.Lot{Day: maxDay, Units: maxUnits, Cost: maxCost}, list(maxDay, maxUnits, maxCost), api.OK},
		{"the last one that may be", full, api.Lot{Day: 3, Units: 1}, append(slices.Clone(full), list(3, 1, 0)...), api.OK},
		{"one too many", repeat(40, 3, 1, 1), api.Lot{Day: 3, Units: 1}, nil, api.ErrMany},
		{"too many already", repeat(41, 3, 1, 1), api.Lot{Day: 3, Units: 1}, nil, api.ErrMany},
		{"one too many comes before the lots that there are", repeat(40, -1, 1, 1), api.Lot{Day: 3, Units: 1}, nil, api.ErrMany},
		{"one too many comes before the new lot", repeat(40, 3, 1, 1), api.Lot{}, nil, api.ErrMany},
		{"no lot", nil, api.Lot{}, nil, api.ErrRange},
		{"no day", nil, api.Lot{Day: maxDay + 1, Units: 1}, nil, api.ErrRange},
		{"no units", list(3, 4, 5), api.Lot{Day: 3, Cost: 1}, nil, api.ErrRange},
		{"too great a cost", list(3, 4, 5), api.Lot{Day: 3, Units: 1, Cost: maxCost + 1}, nil, api.ErrRange},
		{"earlier", list(3, 4, 5), api.Lot{Day: 2, Units: 1}, nil, api.ErrState},
		{"the range comes before the order", list(3, 4, 5), api.Lot{Day: 2, Units: 0}, nil, api.ErrRange},
		{"a lot that there is comes before the new one", list(3, 4, 5, 2, 1, 1), api.Lot{Day: -1}, nil, api.ErrState},
	} {
		if all, err := lots.Buy(c.l, c.b); !slices.Equal(all, c.want) || err != c.wantErr {
			t.Errorf("%s: Buy = %v, %d; want %v, %d", c.name, all, err, c.want, c.wantErr)
		}
	}
}

func TestJ1BuyOfAllEdges(t *testing.T) {
	for _, c := range checked {
		for _, day := range edges {
			for _, other := range edges {
				for _, b := range []api.Lot{{Day: day, Units: other, Cost: 5}, {Day: day, Units: 5, Cost: other}} {
					all, err := lots.Buy(c.l, b)
					if want, wantErr := wantBuy(c.l, b); !slices.Equal(all, want) || err != wantErr {
						t.Errorf("%s: Buy(%v) = %v, %d; want %v, %d", c.name, b, all, err, want, wantErr)
					}
				}
			}
		}
	}
}

func TestJ2J3ErrorsOfCheck(t *testing.T) {
	for _, c := range checked {
		compareAll(t, c.name, c.l)
		if units, cost, err := lots.Has(c.l); err != c.err {
			t.Errorf("%s: Has = %d, %d, %d; want error %d", c.name, units, cost, err, c.err)
		}
		// That of Check comes before all others.
		if left, cost, err := lots.Sell(c.l, 0, 4); c.err != api.OK && err != c.err {
			t.Errorf("%s: Sell = %v, %d, %d; want error %d", c.name, left, cost, err, c.err)
		}
	}
}

func TestJ2SellErrors(t *testing.T) {
	l := list(3, 4, 5, 9, 6, 0)
	full := repeat(40, 3, maxUnits, maxCost)
	for _, c := range []struct {
		name        string
		l           []api.Lot
		units, kind int
		want        api.Errno
	}{
		{"all units", l, 10, api.Oldest, api.OK},
		{"one unit too many", l, 11, api.Oldest, api.ErrNone},
		{"one unit too many of the newest", l, 11, api.Newest, api.ErrNone},
		{"one unit too many of the dearest", l, 11, api.Dearest, api.ErrNone},
		{"no lots", nil, 1, api.Newest, api.ErrNone},
		{"as many units as there can be", full, 40 * maxUnits, api.Dearest, api.OK},
		{"more units than there can be", full, 40*maxUnits + 1, api.Dearest, api.ErrRange},
		{"as many as there can be, of few", l, 40 * maxUnits, api.Oldest, api.ErrNone},
		{"none", l, 0, api.Oldest, api.ErrRange},
		{"less than none", l, -1, api.Newest, api.ErrRange},
		{"the least number", l, math.MinInt, api.Newest, api.ErrRange},
		{"the greatest number", l, math.MaxInt, api.Newest, api.ErrRange},
		{"no kind", l, 1, 0, api.ErrKind},
		{"no kind below", l, 1, -1, api.ErrKind},
		{"no kind above", l, 1, 4, api.ErrKind},
		{"the kind comes before the range", l, 0, 4, api.ErrKind},
		{"the kind comes before the number of units", l, 11, 0, api.ErrKind},
		{"no kind, of no lots", nil, 1, 0, api.ErrKind},
		{"none, of no lots", nil, 0, api.Oldest, api.ErrRange},
	} {
		if left, cost, err := lots.Sell(c.l, c.units, c.kind); err != c.want {
			t.Errorf("%s: Sell = %v, %d, %d; want error %d", c.name, left, cost, err, c.want)
		}
		compareSell(t, c.name, c.l, c.units, c.kind)
	}
}

func TestJ2SellOfAllEdges(t *testing.T) {
	for _, units := range edges {
		for _, kind := range edges {
			for _, l := range [][]api.Lot{nil, list(3, 4, 5, 9, 6, 0), repeat(40, 3, maxUnits, maxCost), list(3, 0, 5)} {
				compareSell(t, "edges", l, units, kind)
			}
		}
	}
}

func TestJ2Sell(t *testing.T) {
	l := list(1, 10, 101, 2, 4, 100, 2, 6, 150, 7, 3, 10)
	for _, c := range []struct {
		name        string
		units, kind int
		left        []api.Lot
		cost        int
	}{
		{"some of the oldest", 3, api.Oldest, list(1, 7, 71, 2, 4, 100, 2, 6, 150, 7, 3, 10), 30},
		{"all of the oldest but one", 9, api.Oldest, list(1, 1, 11, 2, 4, 100, 2, 6, 150, 7, 3, 10), 90},
		{"all of the oldest", 10, api.Oldest, list(2, 4, 100, 2, 6, 150, 7, 3, 10), 101},
		{"all of the oldest, and one more", 11, api.Oldest, list(2, 3, 75, 2, 6, 150, 7, 3, 10), 126},
		{"several of the oldest", 19, api.Oldest, list(2, 1, 25, 7, 3, 10), 326},
		{"all, from the oldest", 23, api.Oldest, nil, 361},
		{"some of the newest", 1, api.Newest, list(1, 10, 101, 2, 4, 100, 2, 6, 150, 7, 2, 7), 3},
		{"all of the newest", 3, api.Newest, list(1, 10, 101, 2, 4, 100, 2, 6, 150), 10},
		{"several of the newest", 10, api.Newest, list(1, 10, 101, 2, 3, 75), 185},
		{"all but one, from the newest", 22, api.Newest, list(1, 1, 11), 350},
		{"all, from the newest", 23, api.Newest, nil, 361},
		{"of equally dear ones the first", 3, api.Dearest, list(1, 10, 101, 2, 1, 25, 2, 6, 150, 7, 3, 10), 75},
		{"all of the dearest", 4, api.Dearest, list(1, 10, 101, 2, 6, 150, 7, 3, 10), 100},
		{"and then of the next one", 5, api.Dearest, list(1, 10, 101, 2, 5, 125, 7, 3, 10), 125},
		{"several of the dearest", 12, api.Dearest, list(1, 8, 81, 7, 3, 10), 270},
		{"all but one, from the dearest", 22, api.Dearest, list(7, 1, 4), 357},
		{"all, from the dearest", 23, api.Dearest, nil, 361},
	} {
		if left, cost, err := lots.Sell(l, c.units, c.kind); !slices.Equal(left, c.left) || cost != c.cost || err != api.OK {
			t.Errorf("%s: Sell = %v, %d, %d; want %v, %d", c.name, left, cost, err, c.left, c.cost)
		}
	}
}

// TestJ2DearestIsExact has lots whose costs of one unit differ by less than a float, or a quotient rounded down, can tell.
func TestJ2DearestIsExact(t *testing.T) {
	for _, c := range []struct {
		name string
		l    []api.Lot
		want int
	}{
		{"not the dearest as a whole", list(1, 100, 200, 1, 1, 3), 1},
		{"of equal quotients rounded down the greater one", list(1, 3, 10, 1, 3, 11), 1},
		{"equal, with other units", list(1, 3, 9, 1, 1, 3, 1, 2, 6), 0},
		{"free ones", list(1, 3, 0, 1, 9, 0, 1, 1, 0), 0},
		{"free ones last", list(1, 3, 0, 1, maxUnits, 1), 1},
		{"as near as can be", list(1, maxUnits, maxCost-5, 1, maxUnits-1, maxCost-8), 1},
		{"as near as can be, the other way", list(1, maxUnits-1, maxCost-9, 1, maxUnits, maxCost-5), 1},
		{"the greatest ones", list(1, maxUnits, maxCost-1, 1, maxUnits, maxCost), 1},
		{"the greatest and the least cost of one", list(1, maxUnits, maxCost, 1, 1, maxCost), 1},
	} {
		lot := c.l[c.want]
		want := slices.Delete(slices.Clone(c.l), c.want, c.want+1)
		if left, cost, err := lots.Sell(c.l, lot.Units, api.Dearest); !slices.Equal(left, want) || cost != lot.Cost || err != api.OK {
			t.Errorf("%s: Sell = %v, %d, %d; want %v, %d", c.name, left, cost, err, want, lot.Cost)
		}
		compareAll(t, c.name, c.l)
	}
}

func TestJ2CostIsRoundedDown(t *testing.T) {
	for _, c := range []struct{ units, cost, sold, want int }{
		{3, 10, 1, 3}, {3, 10, 2, 6}, {3, 10, 3, 10}, {3, 11, 2, 7}, {2, 1, 1, 0}, {2, 0, 1, 0}, {7, 6, 6, 5},
		{maxUnits, maxCost, 1, 4}, {maxUnits, maxCost, maxUnits - 1, maxCost - 4}, {maxUnits, maxCost - 1, maxUnits - 1, maxCost - 5},
		{maxUnits, 1, maxUnits - 1, 0}, {maxUnits, 1, maxUnits, 1}, {maxUnits - 1, maxCost, maxUnits - 2, maxCost - 5},
	} {
		want := list(5, c.units-c.sold, c.cost-c.want)
		if c.units == c.sold {
			want = nil
		}
		for _, kind := range kinds {
			left, cost, err := lots.Sell(list(5, c.units, c.cost), c.sold, kind)
			if !slices.Equal(left, want) || cost != c.want || err != api.OK {
				t.Errorf("Sell %d of %d at %d by %d = %v, %d, %d; want %d", c.sold, c.units, c.cost, kind, left, cost, err, c.want)
			}
		}
	}
}

func TestJ3Has(t *testing.T) {
	for _, c := range []struct {
		name        string
		l           []api.Lot
		units, cost int
	}{
		{"no lots", nil, 0, 0},
		{"one", list(1, 2, 3), 2, 3},
		{"several", list(1, 2, 3, 1, 2, 3, 5, 10, 0), 14, 6},
		{"as much as can be", repeat(40, maxDay, maxUnits, maxCost), 40 << 30, 40 << 32},
	} {
		if units, cost, err := lots.Has(c.l); units != c.units || cost != c.cost || err != api.OK {
			t.Errorf("%s: Has = %d, %d, %d; want %d, %d", c.name, units, cost, err, c.units, c.cost)
		}
	}
}

func drawLots(r *rand.Rand) []api.Lot {
	var l []api.Lot
	day := 0
	mostUnits, mostCost := 1+r.Intn(maxUnits)>>r.Intn(30), 1+r.Intn(maxCost)>>r.Intn(32)
	for range r.Intn(41) {
		day += r.Intn(3)
		l = append(l, list(day, 1+r.Intn(mostUnits), r.Intn(mostCost+1))...)
	}
	return l
}

// TestJ2J3NothingIsLost checks that units and costs add up, over sale after sale.
func TestJ2J3NothingIsLost(t *testing.T) {
	r := rand.New(rand.NewSource(1))
	for range 1000 {
		l := drawLots(r)
		compareAll(t, "drawn", l)
		for len(l) > 0 {
			units, cost, _ := lots.Has(l)
			sold, kind := 1+r.Intn(units), kinds[r.Intn(3)]
			compareSell(t, "drawn", l, sold, kind)
			left, sum, err := lots.Sell(l, sold, kind)
			unitsLeft, costLeft, errLeft := lots.Has(left)
			if unitsLeft != units-sold || costLeft != cost-sum || err != api.OK || errLeft != api.OK {
				t.Fatalf("Sell(%v, %d, %d) = %v, %d, %d", l, sold, kind, left, sum, err)
			}
			l = left
		}
	}
}

func TestP1NothingBesideAnError(t *testing.T) {
	for _, a := range edges {
		for _, b := range edges {
			for _, c := range edges {
				l := list(1, 2, 3, a, b, c)
				if all, err := lots.Buy(l, l[1]); err != api.OK && len(all) != 0 {
					t.Errorf("Buy(%v) = %v with error %d", l, all, err)
				}
				if units, cost, err := lots.Has(l); err != api.OK && (units != 0 || cost != 0) {
					t.Errorf("Has(%v) = %d, %d with error %d", l, units, cost, err)
				}
				for _, valid := range [][]api.Lot{l, list(1, 2, 3)} {
					if left, cost, err := lots.Sell(valid, a, b); err != api.OK && (len(left) != 0 || cost != 0) {
						t.Errorf("Sell(%v, %d, %d) = %v, %d with error %d", valid, a, b, left, cost, err)
					}
				}
			}
		}
	}
}

func TestP2ListsAreOnlyReadAndResultsAreNew(t *testing.T) {
	numbers := []int{1, 4, 8, 2, 5, 15, 3, 6, 12, 77, 7, 7, 78, 8, 8}
	whole := list(numbers...)
	l := whole[:3]
	for range 2 {
		lots.Check(l)
		lots.Has(l)
		all, _ := lots.Buy(l, api.Lot{Day: 3, Units: 9, Cost: 9})
		first, _ := lots.Buy(whole[3:3], api.Lot{Day: 3, Units: 9, Cost: 9})
		if !slices.Equal(all, list(1, 4, 8, 2, 5, 15, 3, 6, 12, 3, 9, 9)) || !slices.Equal(first, list(3, 9, 9)) {
			t.Errorf("Buy = %v and %v", all, first)
		}
		clear(all[:cap(all)]) // results that shared memory would show in the next round
		clear(first[:cap(first)])
		for _, kind := range kinds {
			for _, units := range []int{2, 6, 13, 15} {
				compareSell(t, "read only", l, units, kind)
				left, _, _ := lots.Sell(l, units, kind)
				clear(left[:cap(left)])
			}
		}
	}
	if !slices.Equal(whole, list(numbers...)) {
		t.Errorf("after the calls the lots and those behind them are %v", whole)
	}
}

func TestP3CallsDoNotSeeEarlierOnes(t *testing.T) {
	l := list(1, 2, 5, 1, 3, 9)
	for range 3 {
		if left, cost, err := lots.Sell(l, 3, api.Dearest); !slices.Equal(left, list(1, 2, 5)) || cost != 9 || err != api.OK {
			t.Errorf("Sell = %v, %d, %d", left, cost, err)
		}
		l[0].Cost = 7 // a lot that was kept would show here
		if left, cost, err := lots.Sell(l, 3, api.Dearest); !slices.Equal(left, list(1, 2, 6)) || cost != 10 || err != api.OK {
			t.Errorf("Sell = %v, %d, %d", left, cost, err)
		}
		if units, cost, err := lots.Has(l); units != 5 || cost != 16 || err != api.OK {
			t.Errorf("Has = %d, %d, %d", units, cost, err)
		}
		l[0].Cost = 5
	}
}

func TestP4LongLists(t *testing.T) {
	long := make([]api.Lot, 1<<22)
	_, ofBuy := lots.Buy(long, api.Lot{})
	_, _, ofSell := lots.Sell(long, 1, api.Oldest)
	_, _, ofHas := lots.Has(long)
	if err := lots.Check(long); err != api.ErrMany || ofBuy != api.ErrMany || ofSell != api.ErrMany || ofHas != api.ErrMany {
		t.Errorf("errors are %d, %d, %d, %d; want %d", err, ofBuy, ofSell, ofHas, api.ErrMany)
	}
}
