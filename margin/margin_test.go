package margin_test

import (
	"math"
	"math/big"
	"math/rand"
	"slices"
	"testing"

	"demurrage/api"
	"demurrage/fail"
	"demurrage/margin"
	"demurrage/penalty"
)

const (
	top      = 1 << 60
	scale    = 10000
	maxUnits = 1 << 30
	maxPrice = 1 << 40
	mostCost = 118059162071741130 // of the greatest numbers: nine times this is still an amount
	tenth    = top - 9*mostCost   // what is missing then
)

// edges are the numbers around every limit of the chapter, and the outermost ones.
var edges = []int{
	math.MinInt, -1, 0, 1, 2, 3, 19, 20, 21, 29, 30, 31, 333, scale - 1, scale, scale + 1, 123456789,
	maxUnits - 1, maxUnits, maxUnits + 1, top - 1, top, top + 1, math.MaxInt,
}

// prices are those of all papers: paper 1 at 1, paper 2 at 2, and so on.
func prices() []int {
	var l []int
	for paper := 1; paper <= 20; paper++ {
		l = append(l, 10000*paper)
	}
	return l
}

// priced are those prices, but with another one of a paper.
func priced(paper, price int) []int {
	l := prices()
	l[paper-1] = price
	return l
}

// dearest are the greatest prices, except for those of two papers that make up what is missing from nine costs to MaxSum.
func dearest() []int {
	l := slices.Repeat([]int{maxPrice}, 20)
	l[0], l[1] = tenth/maxUnits*scale, scale
	return l
}

// nearTop are stakes that count for MaxSum and some more at the dearest prices.
func nearTop(more int) []api.Stake {
	return append(slices.Repeat(put(20, maxUnits, scale), 9), put(1, maxUnits, scale, 2, tenth%maxUnits+more, scale)...)
}

// owingTop are fails of a party that cost as much.
func owingTop(from, more int) []api.Fail {
	var l []api.Fail
	for i, s := range nearTop(more) {
		l = append(l, owing(i+1, from, s.Paper, s.Units))
	}
	return l
}

// put makes stakes from triples of paper, units and what counts.
func put(numbers ...int) []api.Stake {
	var l []api.Stake
	for t := range slices.Chunk(numbers, 3) {
		l = append(l, api.Stake{Paper: t[0], Units: t[1], Counts: t[2]})
	}
	return l
}

// owing is a fail of units of a paper, from a party to the one after it.
func owing(id, from, paper, units int) api.Fail {
	return api.Fail{Id: id, From: from, To: (from + 1) % 31, Class: 1, Paper: paper, Day: 739935, Units: units}
}

// become is a fail after some of its units were delivered, bought and paid.
func become(f api.Fail, delivered, bought, paid int) api.Fail {
	f.Delivered, f.Bought, f.Paid = delivered, bought, paid
	return f
}

func isWithin(n, least, greatest int) bool { return n >= least && n <= greatest }

// wantCheck checks stakes anew.
func wantCheck(l []api.Stake) api.Errno {
	if len(l) >= 41 {
		return api.ErrMany
	}
	for _, s := range l {
		if !isWithin(s.Paper, 1, 20) || !isWithin(s.Units, 1, maxUnits) || !isWithin(s.Counts, 0, scale) {
			return api.ErrRange
		}
	}
	return api.OK
}

// divided is a times b divided by c, rounded down, for numbers of any size from 0 on.
func divided(a *big.Int, b, c int) *big.Int {
	n := new(big.Int).Mul(a, big.NewInt(int64(b)))
	return n.Quo(n, big.NewInt(int64(c)))
}

func asAmount(n *big.Int) (int, api.Errno) {
	if n.Cmp(big.NewInt(top)) > 0 {
		return 0, api.ErrWide
	}
	return int(n.Int64()), api.OK
}

// wantSum adds what stakes without an error count for; they can also be without units.
func wantSum(l []api.Stake, prices []int) (int, api.Errno) {
	sum := new(big.Int)
	for _, s := range l {
		cost := divided(big.NewInt(int64(s.Units)), prices[s.Paper-1], scale)
		sum.Add(sum, divided(cost, s.Counts, scale))
	}
	return asAmount(sum)
}

// wantValue computes Value anew.
func wantValue(l []api.Stake, prices []int) (int, api.Errno) {
	if e := wantCheck(l); e != api.OK {
		return 0, e
	}
	if e := penalty.Prices(prices); e != api.OK {
		return 0, e
	}
	return wantSum(l, prices)
}

// wantNeed computes Need with numbers of any size.
func wantNeed(l []api.Fail, prices []int, party, rate int) (int, api.Errno) {
	if e := fail.Checks(l); e != api.OK {
		return 0, e
	}
	if e := penalty.Prices(prices); e != api.OK {
		return 0, e
	}
	if !isWithin(party, 0, 30) || !isWithin(rate, 0, scale) {
		return 0, api.ErrRange
	}
	sum := new(big.Int)
	for _, f := range l {
		if f.From == party {
			sum.Add(sum, divided(big.NewInt(int64(f.Units-f.Delivered-f.Bought-f.Paid)), prices[f.Paper-1], scale))
		}
	}
	if _, e := asAmount(sum); e != api.OK {
		return 0, e
	}
	return asAmount(divided(sum, rate, scale))
}

// wantCall computes Call anew.
func wantCall(has, need, least int) (int, api.Errno) {
	switch {
	case !isWithin(has, 0, top), !isWithin(need, 0, top), !isWithin(least, 0, top):
		return 0, api.ErrRange
	case need < has, need-has < least:
		return 0, api.OK
	}
	return need - has, api.OK
}

// spareError is the error of Spare.
func spareError(l []api.Stake, prices []int, need, at int) api.Errno {
	if e := wantCheck(l); e != api.OK {
		return e
	}
	if e := penalty.Prices(prices); e != api.OK {
		return e
	}
	if !isWithin(need, 0, top) {
		return api.ErrRange
	}
	if !isWithin(at, 0, len(l)-1) {
		return api.ErrNone
	}
	value, e := wantSum(l, prices)
	if e == api.OK && value < need {
		return api.ErrState
	}
	return e
}

// without are the stakes after units of one of them were taken back.
func without(l []api.Stake, at, units int) []api.Stake {
	rest := slices.Clone(l)
	rest[at].Units -= units
	return rest
}

func compareValue(t *testing.T, name string, l []api.Stake, prices []int) int {
	t.Helper()
	got, err := margin.Value(l, prices)
	if want, wantErr := wantValue(l, prices); got != want || err != wantErr {
		t.Errorf("%s: Value(%v, %v) = %d, %d; want %d, %d", name, l, prices, got, err, want, wantErr)
	}
	return got
}

func compareNeed(t *testing.T, name string, l []api.Fail, prices []int, party, rate int) int {
	t.Helper()
	got, err := margin.Need(l, prices, party, rate)
	if want, wantErr := wantNeed(l, prices, party, rate); got != want || err != wantErr {
		t.Errorf("%s: Need(%v, %v, %d, %d) = %d, %d; want %d, %d", name, l, prices, party, rate, got, err, want, wantErr)
	}
	return got
}

func compareCall(t *testing.T, has, need, least int) int {
	t.Helper()
	got, err := margin.Call(has, need, least)
	if want, wantErr := wantCall(has, need, least); got != want || err != wantErr {
		t.Errorf("Call(%d, %d, %d) = %d, %d; want %d, %d", has, need, least, got, err, want, wantErr)
	}
	return got
}

// compareSpare checks that so many units can be taken back, and not one more: fewer units never count for more.
func compareSpare(t *testing.T, name string, l []api.Stake, prices []int, need, at int) int {
	t.Helper()
	got, err := margin.Spare(l, prices, need, at)
	wantErr := spareError(l, prices, need, at)
	if err != wantErr || err != api.OK && got != 0 {
		t.Errorf("%s: Spare(%v, %v, %d, %d) = %d, %d; want error %d", name, l, prices, need, at, got, err, wantErr)
	}
	if err != api.OK || wantErr != api.OK {
		return got
	}
	if !isWithin(got, 0, l[at].Units) {
		t.Errorf("%s: Spare(%v, %v, %d, %d) = %d units, which are not there", name, l, prices, need, at, got)
		return got
	}
	if left, _ := wantSum(without(l, at, got), prices); left < need {
		t.Errorf("%s: Spare(%v, %v, %d, %d) = %d, which leaves only %d", name, l, prices, need, at, got, left)
	}
	if got == l[at].Units {
		return got
	}
	if left, _ := wantSum(without(l, at, got+1), prices); left >= need {
		t.Errorf("%s: Spare(%v, %v, %d, %d) = %d, but one more leaves %d", name, l, prices, need, at, got, left)
	}
	return got
}

// stakes are lists of stakes, with the error of Check.
var stakes = []struct {
	name string
	l    []api.Stake
	err  api.Errno
}{
	{"none", nil, api.OK},
	{"one", put(3, 100, 5000), api.OK},
	{"the least numbers", put(1, 1, 0), api.OK},
	{"the greatest numbers", put(20, maxUnits, scale), api.OK},
	{"a paper twice", put(3, 100, 5000, 3, 100, 5000), api.OK},
	{"as many as may be", slices.Repeat(put(3, 100, 5000), 40), api.OK},
	{"one too many", slices.Repeat(put(3, 100, 5000), 41), api.ErrMany},
	{"too many come before the range", make([]api.Stake, 41), api.ErrMany},
	{"no paper, but money", put(0, 100, 5000), api.ErrRange},
	{"a paper below 0", put(-1, 100, 5000), api.ErrRange},
	{"too great a paper", put(21, 100, 5000), api.ErrRange},
	{"no units", put(3, 0, 5000), api.ErrRange},
	{"units below 0", put(3, -1, 5000), api.ErrRange},
	{"too many units", put(3, maxUnits+1, 5000), api.ErrRange},
	{"counts for less than nothing", put(3, 100, -1), api.ErrRange},
	{"counts for more than all", put(3, 100, scale+1), api.ErrRange},
	{"a wrong first one", put(0, 1, 1, 3, 100, 5000, 3, 100, 5000), api.ErrRange},
	{"a wrong one in between", put(3, 100, 5000, 3, 0, 5000, 3, 100, 5000), api.ErrRange},
	{"a wrong last one", put(3, 100, 5000, 3, 100, 5000, 3, 100, scale+1), api.ErrRange},
	{"a wrong last one of as many as may be", append(slices.Repeat(put(3, 100, 5000), 39), api.Stake{}), api.ErrRange},
}

func TestR1Check(t *testing.T) {
	for _, c := range stakes {
		if err := margin.Check(c.l); err != c.err || wantCheck(c.l) != c.err {
			t.Errorf("%s: Check = %d, want %d", c.name, err, c.err)
		}
	}
	for _, a := range edges {
		for _, b := range edges {
			for _, c := range edges {
				for _, l := range [][]api.Stake{put(a, b, c), put(1, 1, 1, a, b, c, 1, 1, 1)} {
					if err := margin.Check(l); err != wantCheck(l) {
						t.Errorf("Check(%v) = %d, want %d", l, err, wantCheck(l))
					}
				}
			}
		}
	}
}

func TestR1Value(t *testing.T) {
	most := put(20, maxUnits, scale)
	for _, c := range []struct {
		name   string
		l      []api.Stake
		prices []int
		want   int
		err    api.Errno
	}{
		{"none", nil, prices(), 0, api.OK},
		{"one", put(3, 100, scale), prices(), 300, api.OK},
		{"of which a half counts", put(3, 100, 5000), prices(), 150, api.OK},
		{"of which nothing counts", put(3, 100, 0), prices(), 0, api.OK},
		{"of the first paper", put(1, 100, scale), prices(), 100, api.OK},
		{"of the last paper", put(20, 100, scale), prices(), 2000, api.OK},
		{"the cost is rounded down", put(3, 3, scale), priced(3, 15000), 4, api.OK},
		{"the part is rounded down", put(3, 1, 6666), prices(), 1, api.OK},
		{"the part just reaches one more", put(3, 1, 6667), prices(), 2, api.OK},
		{"the part is that of the rounded cost", put(3, 3, 9000), priced(3, 15000), 3, api.OK},
		{"each one is rounded down by itself", put(3, 1, 5000, 3, 1, 5000), prices(), 2, api.OK},
		{"at a price of 0", put(3, maxUnits, scale), priced(3, 0), 0, api.OK},
		{"several", put(3, 100, scale, 1, 7, 5000, 20, 2, 2500), prices(), 313, api.OK},
		{"a paper twice", put(3, 100, scale, 3, 10, 5000), prices(), 315, api.OK},
		{"the greatest numbers", most, dearest(), mostCost, api.OK},
		{"nine times the greatest numbers", slices.Repeat(most, 9), dearest(), 9 * mostCost, api.OK},
		{"ten times the greatest numbers", slices.Repeat(most, 10), dearest(), 0, api.ErrWide},
		{"as much as can be", slices.Repeat(most, 40), dearest(), 0, api.ErrWide},
		{"as much as can be, of which nothing counts", slices.Repeat(put(20, maxUnits, 0), 40), dearest(), 0, api.OK},
		{"just an amount", nearTop(0), dearest(), top, api.OK},
		{"just no amount", nearTop(1), dearest(), 0, api.ErrWide},
	} {
		if got, err := margin.Value(c.l, c.prices); got != c.want || err != c.err {
			t.Errorf("%s: Value = %d, %d; want %d, %d", c.name, got, err, c.want, c.err)
		}
		compareValue(t, c.name, c.l, c.prices)
	}
}

// listed are prices with an error.
var listed = []struct {
	name string
	l    []int
	err  api.Errno
}{
	{"no prices", nil, api.ErrForm},
	{"one price too few", prices()[1:], api.ErrForm},
	{"one price too many", append(prices(), 1), api.ErrForm},
	{"too few prices, and a wrong one", []int{-1}, api.ErrForm},
	{"a first price below 0", priced(1, -1), api.ErrRange},
	{"a last price that is too great", priced(20, maxPrice+1), api.ErrRange},
	{"a price below 0 of a paper that is not there", priced(7, -1), api.ErrRange},
}

func TestR1ErrorsOfValue(t *testing.T) {
	for _, c := range stakes {
		if c.err == api.OK {
			continue
		}
		if value, err := margin.Value(c.l, prices()); value != 0 || err != c.err {
			t.Errorf("%s: Value = %d, %d; want error %d", c.name, value, err, c.err)
		}
		for _, p := range listed {
			if value, err := margin.Value(c.l, p.l); value != 0 || err != c.err {
				t.Errorf("%s comes before %s: Value = %d, %d; want error %d", c.name, p.name, value, err, c.err)
			}
		}
	}
	for _, p := range listed {
		for _, l := range [][]api.Stake{nil, put(3, 100, scale), slices.Repeat(put(20, maxUnits, scale), 40)} {
			if value, err := margin.Value(l, p.l); value != 0 || err != p.err {
				t.Errorf("%s: Value of %v = %d, %d; want error %d", p.name, l, value, err, p.err)
			}
		}
	}
	wide := append(dearest()[:19], maxPrice+1)
	if value, err := margin.Value(slices.Repeat(put(19, maxUnits, scale), 40), wide); value != 0 || err != api.ErrRange {
		t.Errorf("a price that is too great comes before the sum: Value = %d, %d", value, err)
	}
}

func TestR2Need(t *testing.T) {
	one, two := owing(1, 4, 3, 100), owing(2, 4, 5, 10)
	for _, c := range []struct {
		name        string
		l           []api.Fail
		prices      []int
		party, rate int
		want        int
		err         api.Errno
	}{
		{"no fails", nil, prices(), 4, scale, 0, api.OK},
		{"one", []api.Fail{one}, prices(), 4, scale, 300, api.OK},
		{"a tenth of it", []api.Fail{one}, prices(), 4, 1000, 30, api.OK},
		{"nothing of it", []api.Fail{one}, prices(), 4, 0, 0, api.OK},
		{"only of what is open", []api.Fail{become(one, 10, 20, 30)}, prices(), 4, scale, 120, api.OK},
		{"of which nothing is open", []api.Fail{become(one, 10, 20, 70)}, prices(), 4, scale, 0, api.OK},
		{"several", []api.Fail{one, two}, prices(), 4, scale, 350, api.OK},
		{"to it", []api.Fail{one, two}, prices(), 5, scale, 0, api.OK},
		{"from another party, too", []api.Fail{one, owing(7, 5, 3, 1000), two}, prices(), 4, scale, 350, api.OK},
		{"of the other party", []api.Fail{one, owing(7, 5, 3, 1000), two}, prices(), 5, scale, 3000, api.OK},
		{"of the first party", []api.Fail{owing(7, 0, 1, 8)}, prices(), 0, scale, 8, api.OK},
		{"of the last party", []api.Fail{owing(7, 30, 20, 8)}, prices(), 30, scale, 160, api.OK},
		{"each cost is rounded down by itself", []api.Fail{owing(1, 4, 3, 1), owing(2, 4, 3, 1)}, priced(3, 15000), 4, scale, 2, api.OK},
		{"but not each part", []api.Fail{owing(1, 4, 1, 1), owing(2, 4, 1, 1)}, prices(), 4, 5000, 1, api.OK},
		{"the part is rounded down", []api.Fail{owing(1, 4, 1, 1), owing(2, 4, 1, 1)}, prices(), 4, 4999, 0, api.OK},
		{"at a price of 0", []api.Fail{one}, priced(3, 0), 4, scale, 0, api.OK},
		{"the greatest numbers", []api.Fail{owing(1, 4, 20, maxUnits)}, dearest(), 4, scale, mostCost, api.OK},
		{"just an amount", owingTop(4, 0), dearest(), 4, scale, top, api.OK},
		{"a part of just an amount", owingTop(4, 0), dearest(), 4, 5000, top / 2, api.OK},
		{"just no amount", owingTop(4, 1), dearest(), 4, scale, 0, api.ErrWide},
		{"a part of just no amount", owingTop(4, 1), dearest(), 4, 1, 0, api.ErrWide},
		{"nothing of just no amount", owingTop(4, 1), dearest(), 4, 0, 0, api.ErrWide},
		{"just no amount of another party", owingTop(4, 1), dearest(), 5, scale, 0, api.OK},
	} {
		if got, err := margin.Need(c.l, c.prices, c.party, c.rate); got != c.want || err != c.err {
			t.Errorf("%s: Need = %d, %d; want %d, %d", c.name, got, err, c.want, c.err)
		}
		compareNeed(t, c.name, c.l, c.prices, c.party, c.rate)
	}
}

// TestR2AsManyFailsAsMayBe has all sums up to the greatest one that there can be.
func TestR2AsManyFailsAsMayBe(t *testing.T) {
	var l []api.Fail
	for id := 1; id <= 60; id++ {
		l = append(l, owing(id, 4, 20, maxUnits))
		want, wantErr := id*mostCost, api.OK
		if id > 9 {
			want, wantErr = 0, api.ErrWide
		}
		if need, err := margin.Need(l, dearest(), 4, scale); need != want || err != wantErr {
			t.Errorf("Need of %d fails = %d, %d; want %d, %d", id, need, err, want, wantErr)
		}
	}
}

// needed is what Need is asked.
type needed struct {
	l           []api.Fail
	prices      []int
	party, rate int
}

// needFault is a change of what Need is asked, with the error that it causes.
type needFault struct {
	name   string
	change func(q *needed)
	err    api.Errno
}

// needFaults are in the order of the errors of Need; those of one group cannot be combined.
func needFaults() [][]needFault {
	groups := [][]needFault{
		{
			{"too many fails", func(q *needed) { q.l = append(q.l, make([]api.Fail, 60)...) }, api.ErrMany},
			{"a fail that is none", func(q *needed) { q.l = append(q.l, api.Fail{}) }, api.ErrRange},
			{"a fail of one party", func(q *needed) { q.l = append(q.l, api.Fail{Id: 77, Paper: 1, Units: 1}) }, api.ErrForm},
			{"a fail with too much delivered", func(q *needed) { q.l = append(q.l, become(owing(77, 9, 1, 10), 10, 1, 0)) }, api.ErrState},
			{"a fail twice", func(q *needed) { q.l = append(q.l, q.l[0]) }, api.ErrTwice},
			{"a fail of money", func(q *needed) { q.l = append(q.l, owing(77, 4, 0, 10)) }, api.ErrRange},
			{"a fail of no such paper", func(q *needed) { q.l = append(q.l, owing(77, 4, 21, 10)) }, api.ErrRange},
		},
		nil,
		{
			{"a party below 0", func(q *needed) { q.party = -1 }, api.ErrRange},
			{"too great a party", func(q *needed) { q.party = 31 }, api.ErrRange},
			{"a rate below 0", func(q *needed) { q.rate = -1 }, api.ErrRange},
			{"too great a rate", func(q *needed) { q.rate = scale + 1 }, api.ErrRange},
		},
		{
			{"too great a sum", func(q *needed) { q.l, q.prices = owingTop(4, 1), dearest() }, api.ErrWide},
		},
	}
	for _, p := range listed {
		groups[1] = append(groups[1], needFault{p.name, func(q *needed) { q.prices = slices.Clone(p.l) }, p.err})
	}
	return groups
}

func TestR2ErrorsOfNeed(t *testing.T) {
	fresh := func() needed { return needed{[]api.Fail{owing(1, 4, 3, 100)}, prices(), 4, 5000} }
	groups := needFaults()
	for i, group := range groups {
		for _, first := range group {
			q := fresh()
			first.change(&q)
			if need, err := margin.Need(q.l, q.prices, q.party, q.rate); need != 0 || err != first.err {
				t.Errorf("%s: Need = %d, %d; want error %d", first.name, need, err, first.err)
			}
			for _, second := range slices.Concat(groups[i+1:]...) {
				q := fresh()
				second.change(&q)
				first.change(&q)
				if need, err := margin.Need(q.l, q.prices, q.party, q.rate); need != 0 || err != first.err {
					t.Errorf("%s comes before %s: Need = %d, %d; want error %d", first.name, second.name, need, err, first.err)
				}
			}
		}
	}
}

func TestR2NeedOfAllEdges(t *testing.T) {
	l := []api.Fail{owing(1, 4, 3, 100), become(owing(2, 0, 20, maxUnits), 7, 8, 9), owing(3, 30, 1, 12345), owing(4, 4, 20, maxUnits), owing(5, 29, 2, 6)}
	for _, party := range edges {
		for _, rate := range edges {
			compareNeed(t, "edges", l, prices(), party, rate)
			compareNeed(t, "edges", l, dearest(), party, rate)
			compareNeed(t, "edges", append(l, owing(6, 4, 3, max(1, rate))), prices(), party, 333)
		}
	}
}

func TestR3Call(t *testing.T) {
	for _, c := range []struct {
		name             string
		has, need, least int
		want             int
		err              api.Errno
	}{
		{"some is missing", 150, 200, 10, 50, api.OK},
		{"just enough is missing", 150, 200, 50, 50, api.OK},
		{"too little is missing", 150, 200, 51, 0, api.OK},
		{"nothing is missing", 200, 200, 0, 0, api.OK},
		{"there is more than is needed", 200, 150, 0, 0, api.OK},
		{"there is more than is needed, by as much as is worth asking for", 200, 150, 50, 0, api.OK},
		{"one is missing", 0, 1, 0, 1, api.OK},
		{"one is missing, which is worth asking for", 0, 1, 1, 1, api.OK},
		{"one is missing, which is not worth asking for", 0, 1, 2, 0, api.OK},
		{"all zeros", 0, 0, 0, 0, api.OK},
		{"the greatest amount is missing", 0, top, top, top, api.OK},
		{"nearly the greatest amount is missing", 1, top, top, 0, api.OK},
		{"the greatest amount is too much", top, 0, 0, 0, api.OK},
		{"it has less than 0", -1, 0, 0, 0, api.ErrRange},
		{"it has too much", top + 1, 0, 0, 0, api.ErrRange},
		{"it needs less than 0", 0, -1, 0, 0, api.ErrRange},
		{"it needs too much", 0, top + 1, 0, 0, api.ErrRange},
		{"less than 0 is worth asking for", 0, 0, -1, 0, api.ErrRange},
		{"too much is worth asking for", 0, 0, top + 1, 0, api.ErrRange},
	} {
		if got, err := margin.Call(c.has, c.need, c.least); got != c.want || err != c.err {
			t.Errorf("%s: Call = %d, %d; want %d, %d", c.name, got, err, c.want, c.err)
		}
	}
}

func TestR3CallOfAllEdges(t *testing.T) {
	for _, has := range edges {
		for _, need := range edges {
			for _, least := range edges {
				compareCall(t, has, need, least)
			}
		}
	}
}

func TestR4Spare(t *testing.T) {
	l := put(1, 100, 9000, 2, 10, 5000, 1, 7, scale, 3, 1000, 0) // they count for 90, 10, 7 and 0
	for _, c := range []struct {
		name     string
		l        []api.Stake
		prices   []int
		need, at int
		want     int
	}{
		{"nothing is needed", l, prices(), 0, 0, 100},
		{"the others are enough", l, prices(), 17, 0, 100},
		{"the others are not quite enough", l, prices(), 18, 0, 98},
		{"just all is needed", l, prices(), 107, 0, 0},
		{"one less than all is needed", l, prices(), 106, 0, 1},
		{"two less than all are needed", l, prices(), 105, 0, 2},
		{"more can be taken back than what they count for", l, prices(), 97, 1, 10},
		{"of the second one", l, prices(), 102, 1, 5},
		{"of the third one", l, prices(), 102, 2, 5},
		{"of one that counts for nothing", l, prices(), 107, 3, 1000},
		{"of one that costs nothing", put(1, 5, scale, 2, 8, scale), priced(2, 0), 5, 1, 8},
		{"of one that needs all of it beside one that costs nothing", put(1, 5, scale, 2, 8, scale), priced(2, 0), 5, 0, 0},
		{"what is rounded away can be taken back", put(1, 19, 1000), prices(), 1, 0, 9},
		{"what is rounded away of the cost, too", put(1, 19, scale), priced(1, 1000), 1, 0, 9},
		{"just as much as is rounded away", put(1, 10, 1000), prices(), 1, 0, 0},
		{"one stake", put(3, 100, scale), prices(), 150, 0, 50},
		{"one stake, rounded up to what has to stay", put(3, 100, scale), prices(), 151, 0, 49},
		{"one unit", put(3, 1, scale), prices(), 3, 0, 0},
		{"one unit, which is needed for the least amount", put(3, 1, scale), prices(), 1, 0, 0},
		{"one unit, which is not needed", put(3, 1, scale), prices(), 0, 0, 1},
		{"the last one of as many as may be", slices.Repeat(put(3, 100, scale), 40), prices(), 39 * 300, 39, 100},
		{"the first one of as many as may be", slices.Repeat(put(3, 100, scale), 40), prices(), 39*300 + 30, 0, 90},
		{"the same paper twice", put(3, 100, scale, 3, 50, scale), prices(), 360, 1, 30},
		{"of the greatest numbers", put(20, maxUnits, scale), dearest(), mostCost, 0, 0},
		{"of the greatest numbers, one less", put(20, maxUnits, scale), dearest(), mostCost - 109951163, 0, 1},
		{"of the greatest numbers, all", put(20, maxUnits, scale), dearest(), 0, 0, maxUnits},
		{"of the greatest numbers, all but one", put(20, maxUnits, scale), dearest(), 1, 0, maxUnits - 1},
		{"of just an amount, which is needed", nearTop(0), dearest(), top, 10, 0},
		{"of just an amount, which is needed but for one", nearTop(0), dearest(), top - 1, 10, 1},
	} {
		if got, err := margin.Spare(c.l, c.prices, c.need, c.at); got != c.want || err != api.OK {
			t.Errorf("%s: Spare = %d, %d; want %d", c.name, got, err, c.want)
		}
		compareSpare(t, c.name, c.l, c.prices, c.need, c.at)
	}
}

// asked is what Spare is asked.
type asked struct {
	l        []api.Stake
	prices   []int
	need, at int
}

// fault is a change of what Spare is asked, with the error that it causes.
type fault struct {
	name   string
	change func(q *asked)
	err    api.Errno
}

// faults are in the order of the errors of Spare; those of one group cannot be combined.
func faults() [][]fault {
	groups := [][]fault{
		nil, nil,
		{
			{"less than 0 is needed", func(q *asked) { q.need = -1 }, api.ErrRange},
			{"too much is needed", func(q *asked) { q.need = top + 1 }, api.ErrRange},
			{"the greatest number is needed", func(q *asked) { q.need = math.MaxInt }, api.ErrRange},
		},
		{
			{"a stake before the first one", func(q *asked) { q.at = -1 }, api.ErrNone},
			{"a stake behind the last one", func(q *asked) { q.at = 40 }, api.ErrNone},
			{"the outermost stake", func(q *asked) { q.at = math.MaxInt }, api.ErrNone},
			{"the outermost stake, the other way", func(q *asked) { q.at = math.MinInt }, api.ErrNone},
		},
		{
			{"too great a value", func(q *asked) { q.l, q.prices = nearTop(1), dearest() }, api.ErrWide},
			{"a value that is far too great", func(q *asked) { q.l, q.prices = slices.Repeat(put(20, maxUnits, scale), 40), dearest() }, api.ErrWide},
		},
		{
			{"more than all is needed", func(q *asked) { q.need = 401 }, api.ErrState},
			{"the greatest amount is needed", func(q *asked) { q.need = top }, api.ErrState},
		},
	}
	for _, c := range stakes {
		if c.err != api.OK {
			groups[0] = append(groups[0], fault{c.name, func(q *asked) { q.l = slices.Clone(c.l) }, c.err})
		}
	}
	for _, p := range listed {
		groups[1] = append(groups[1], fault{p.name, func(q *asked) { q.prices = slices.Clone(p.l) }, p.err})
	}
	return groups
}

func TestR4ErrorsOfSpare(t *testing.T) {
	fresh := func() asked { return asked{put(3, 100, scale, 2, 50, scale), prices(), 200, 1} }
	groups := faults()
	for i, group := range groups {
		for _, first := range group {
			q := fresh()
			first.change(&q)
			if spare, err := margin.Spare(q.l, q.prices, q.need, q.at); spare != 0 || err != first.err {
				t.Errorf("%s: Spare = %d, %d; want error %d", first.name, spare, err, first.err)
			}
			for _, second := range slices.Concat(groups[i+1:]...) {
				q := fresh()
				second.change(&q)
				first.change(&q)
				if spare, err := margin.Spare(q.l, q.prices, q.need, q.at); spare != 0 || err != first.err {
					t.Errorf("%s comes before %s: Spare = %d, %d; want error %d", first.name, second.name, spare, err, first.err)
				}
			}
		}
	}
	for at := range 3 { // a list without stakes has none
		if spare, err := margin.Spare(nil, prices(), 0, at); spare != 0 || err != api.ErrNone {
			t.Errorf("Spare of no stakes = %d, %d; want error %d", spare, err, api.ErrNone)
		}
		if spare, err := margin.Spare(put(1, 1, 1, 1, 1, 1)[:min(at, 2)], prices(), 0, min(at, 2)); spare != 0 || err != api.ErrNone {
			t.Errorf("Spare of the stake behind the last one = %d, %d; want error %d", spare, err, api.ErrNone)
		}
	}
}

// TestR4NoOtherNumberIsGreater tries all numbers of units, for all that can be needed.
func TestR4NoOtherNumberIsGreater(t *testing.T) {
	r := rand.New(rand.NewSource(1))
	for range 400 {
		var l []api.Stake
		for range 1 + r.Intn(3) {
			l = append(l, put(1+r.Intn(2), 1+r.Intn(12), r.Intn(scale+1))...)
		}
		p := priced(1, r.Intn(30000))
		p[1] = r.Intn(30000)
		value := compareValue(t, "drawn", l, p)
		for at := range l {
			for need := range value + 2 {
				want := -1
				for units := range l[at].Units + 1 {
					if left, _ := wantSum(without(l, at, units), p); left >= need {
						want = units
					}
				}
				spare, err := margin.Spare(l, p, need, at)
				if want < 0 && (spare != 0 || err != api.ErrState) || want >= 0 && (spare != want || err != api.OK) {
					t.Errorf("Spare(%v, %v, %d, %d) = %d, %d; want %d", l, p, need, at, spare, err, want)
				}
			}
		}
	}
}

func TestR4SpareOfAllEdges(t *testing.T) {
	for _, need := range edges {
		for _, at := range edges {
			for _, units := range edges {
				for _, l := range [][]api.Stake{put(20, units, scale, 20, units, 3333), nearTop(0), slices.Repeat(put(19, maxUnits, scale, 3, units, 777), 20)} {
					compareSpare(t, "edges", l, dearest(), need, at)
					compareSpare(t, "edges", l, prices(), need, at)
				}
			}
		}
	}
}

// drawn draws stakes of up to all kinds, and prices.
func drawn(r *rand.Rand) ([]api.Stake, []int) {
	var l []api.Stake
	for range 1 + r.Intn(40)>>r.Intn(7) {
		l = append(l, put(1+r.Intn(20), 1+r.Intn(maxUnits)>>r.Intn(30), r.Intn(scale+1)>>r.Intn(3))...)
	}
	p := make([]int, 20)
	for i := range p {
		p[i] = r.Intn(maxPrice+1) >> r.Intn(41)
	}
	return l, p
}

// TestR1ToR4WhatIsSpareIsNotCalled also checks that nothing is spare once it has been taken back.
func TestR1ToR4WhatIsSpareIsNotCalled(t *testing.T) {
	r := rand.New(rand.NewSource(2))
	spares, calls := 0, 0
	for range 5000 {
		l, p := drawn(r)
		fails := make([]api.Fail, 0, 60)
		for id := range r.Intn(61) {
			f := owing(id+1, r.Intn(3), 1+r.Intn(20), 1+r.Intn(maxUnits)>>r.Intn(30))
			f.Delivered = r.Intn(f.Units + 1)
			f.Paid = r.Intn(f.Units - f.Delivered + 1)
			fails = append(fails, f)
		}
		at, has := r.Intn(len(l)), compareValue(t, "drawn", l, p)
		need := compareNeed(t, "drawn", fails, p, r.Intn(3), r.Intn(scale+1))
		call := compareCall(t, has, need, 0)
		spare := compareSpare(t, "drawn", l, p, need, at)
		if call > 0 {
			calls++
			if spare != 0 {
				t.Errorf("%d are called of one who has %d and needs %d, and %d units are spare", call, has, need, spare)
			}
			continue
		}
		if spare == 0 || spare == l[at].Units { // no stake is without units
			continue
		}
		spares++
		rest := without(l, at, spare)
		if again, err := margin.Spare(rest, p, need, at); again != 0 || err != api.OK {
			t.Errorf("after %d units of %v were taken back, %d, %d are spare", spare, l[at], again, err)
		}
		if call := compareCall(t, compareValue(t, "rest", rest, p), need, 0); call != 0 {
			t.Errorf("after %d units of %v were taken back, %d are called", spare, l[at], call)
		}
	}
	if spares < 200 || calls < 200 {
		t.Errorf("only %d of the drawn stakes are spare, and %d are called", spares, calls)
	}
}

func TestP1NothingBesideAnError(t *testing.T) {
	for _, a := range edges {
		for _, b := range edges {
			for _, c := range edges {
				l, fails := put(20, a, b), []api.Fail{owing(1, 4, 20, a)}
				if value, err := margin.Value(l, dearest()); err != api.OK && value != 0 {
					t.Errorf("Value(%v) = %d with error %d", l, value, err)
				}
				if need, err := margin.Need(fails, dearest(), b, c); err != api.OK && need != 0 {
					t.Errorf("Need(%v, %d, %d) = %d with error %d", fails, b, c, need, err)
				}
				if call, err := margin.Call(a, b, c); err != api.OK && call != 0 {
					t.Errorf("Call(%d, %d, %d) = %d with error %d", a, b, c, call, err)
				}
				if spare, err := margin.Spare(l, dearest(), c, 0); err != api.OK && spare != 0 {
					t.Errorf("Spare(%v, %d) = %d with error %d", l, c, spare, err)
				}
			}
		}
	}
}

func TestP2ListsAreOnlyRead(t *testing.T) {
	fresh := func() ([]api.Stake, []api.Fail, []int) {
		return put(3, 100, 5000, 2, 50, scale, 0, 0, 0), []api.Fail{owing(1, 4, 3, 100), owing(1, 4, 3, 100)}, append(prices(), -1)
	}
	stakes, fails, p := fresh()
	for range 2 {
		value, errOfValue := margin.Value(stakes[:2], p[:20])
		need, errOfNeed := margin.Need(fails[:1], p[:20], 4, 5000)
		spare, errOfSpare := margin.Spare(stakes[:2], p[:20], 200, 1)
		if value != 250 || need != 150 || spare != 25 || errOfValue != api.OK || errOfNeed != api.OK || errOfSpare != api.OK {
			t.Errorf("Value, Need and Spare = %d, %d, %d; %d, %d, %d", value, need, spare, errOfValue, errOfNeed, errOfSpare)
		}
	}
	wantStakes, wantFails, wantPrices := fresh()
	if !slices.Equal(stakes, wantStakes) || !slices.Equal(fails, wantFails) || !slices.Equal(p, wantPrices) {
		t.Errorf("after the calls the lists and what is behind them are %v, %v, %v", stakes, fails, p)
	}
}

func TestP3CallsDoNotSeeEarlierOnes(t *testing.T) {
	l, fails, p := put(3, 100, 5000, 2, 50, scale), []api.Fail{owing(1, 4, 3, 100)}, prices()
	for range 3 {
		for _, c := range []struct{ price, value, need, spare int }{{30000, 250, 150, 25}, {50000, 350, 250, 50}} {
			p[2] = c.price // prices that were kept would show here
			if value, err := margin.Value(l, p); value != c.value || err != api.OK {
				t.Errorf("Value = %d, %d; want %d", value, err, c.value)
			}
			if need, err := margin.Need(fails, p, 4, 5000); need != c.need || err != api.OK {
				t.Errorf("Need = %d, %d; want %d", need, err, c.need)
			}
			if spare, err := margin.Spare(l, p, 200, 1); spare != c.spare || err != api.OK {
				t.Errorf("Spare = %d, %d; want %d", spare, err, c.spare)
			}
			if call, err := margin.Call(c.need, c.value, 10); call != c.value-c.need || err != api.OK {
				t.Errorf("Call = %d, %d; want %d", call, err, c.value-c.need)
			}
		}
	}
}

func TestP4LongLists(t *testing.T) {
	const many = 1 << 22
	stakes, fails, p := make([]api.Stake, many), make([]api.Fail, many), make([]int, many)
	_, ofValue := margin.Value(stakes, p)
	_, ofPrices := margin.Value(nil, p)
	_, ofSpare := margin.Spare(stakes, p, 0, 0)
	_, ofNeed := margin.Need(fails, p, 0, 0)
	if err := margin.Check(stakes); err != api.ErrMany || ofValue != api.ErrMany || ofPrices != api.ErrForm || ofSpare != api.ErrMany || ofNeed != api.ErrMany {
		t.Errorf("errors of Check, Value, Spare and Need are %d, %d and %d, %d, %d", err, ofValue, ofPrices, ofSpare, ofNeed)
	}
}
