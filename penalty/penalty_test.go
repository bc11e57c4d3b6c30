package penalty_test

import (
	"math"
	"math/big"
	"math/rand"
	"slices"
	"testing"

	"demurrage/age"
	"demurrage/api"
	"demurrage/book"
	"demurrage/penalty"
)

const (
	top      = 1 << 60
	maxUnits = 1 << 30
	maxPrice = 1 << 40
	million  = 1000000
	last     = 3652058
	monday   = 739935             // November 16 of 2026
	mostEach = 118059162071741130 // what the greatest numbers cost for a day
)

// edges are the numbers around every limit of the chapter, and the outermost ones.
var edges = []int{
	math.MinInt, -million, -1, 0, 1, 2, 3, 9999, 10000, 10001, million - 1, million, million + 1, 123456789,
	maxUnits - 1, maxUnits, maxUnits + 1, maxPrice - 1, maxPrice, maxPrice + 1, top, top + 1, math.MaxInt,
}

// week is a calendar of Saturdays and Sundays, without the holidays given.
func week(holidays ...int) api.Cal { return api.Cal{Weekend: 96, Holidays: holidays} }

// owing is a fail of 3000 units of a paper, from party 1 to party 2.
func owing(id, class, paper, day int) api.Fail {
	return api.Fail{Id: id, From: 1, To: 2, Class: class, Paper: paper, Day: day, Units: 3000}
}

// between is a fail with other parties.
func between(f api.Fail, from, to int) api.Fail {
	f.From, f.To = from, to
	return f
}

// become is a fail after some of its units were delivered, bought and paid.
func become(f api.Fail, delivered, bought, paid int) api.Fail {
	f.Delivered, f.Bought, f.Paid = delivered, bought, paid
	return f
}

// classes are the terms of all classes, each with its own rate.
func classes() []api.Terms {
	return []api.Terms{
		{Extend: 4, Buy: 7, Defer: 2, Rate: 100}, {Rate: 1000}, {Extend: 1, Buy: 1, Defer: 1, Rate: million},
		{Buy: 5}, {Defer: 9, Rate: 7}, {Rate: 1},
	}
}

// prices are those of all papers: paper 1 at 1, paper 2 at 2, and so on.
func prices() []int {
	var l []int
	for paper := 1; paper <= 20; paper++ {
		l = append(l, 10000*paper)
	}
	return l
}

// list makes dues from triples of from, to and amount.
func list(numbers ...int) []api.Due {
	var l []api.Due
	for t := range slices.Chunk(numbers, 3) {
		l = append(l, api.Due{From: t[0], To: t[1], Amount: t[2]})
	}
	return l
}

// pay makes postings of money from pairs of a party and an amount.
func pay(numbers ...int) []api.Posting {
	var l []api.Posting
	for p := range slices.Chunk(numbers, 2) {
		l = append(l, api.Posting{Account: p[0], Amount: p[1]})
	}
	return l
}

// question is what Day is asked.
type question struct {
	c      api.Cal
	t      []api.Terms
	l      []api.Fail
	prices []int
	today  int
}

// ask makes a question of fails, for a Wednesday after a holiday.
func ask(l ...api.Fail) question {
	return question{week(monday + 1), classes(), l, prices(), monday + 2}
}

func (q question) day() ([]api.Due, api.Errno) {
	return penalty.Day(q.c, q.t, q.l, q.prices, q.today)
}

// wantDaily computes Daily with numbers of any size.
func wantDaily(units, price, rate int) (int, api.Errno) {
	if units < 0 || units > maxUnits || rate < 0 || rate > million || price < 0 || price > maxPrice {
		return 0, api.ErrRange
	}
	n := new(big.Int).Mul(big.NewInt(int64(units)), big.NewInt(int64(price)))
	n.Quo(n, big.NewInt(10000))
	n.Mul(n, big.NewInt(int64(rate)))
	n.Quo(n, big.NewInt(million))
	return int(n.Int64()), api.OK
}

// wantDay computes Day anew, for a question without an error up to its fails.
func wantDay(q question) ([]api.Due, api.Errno) {
	var dues []api.Due
	for _, f := range q.l {
		stage, e := age.Stage(q.c, q.t[f.Class], f, q.today)
		if e != api.OK {
			return nil, e
		}
		if !slices.Contains([]int{api.Waiting, api.Buying, api.Late, api.Paying}, stage) {
			continue
		}
		amount, _ := wantDaily(f.Units-f.Delivered-f.Bought-f.Paid, q.prices[f.Paper-1], q.t[f.Class].Rate)
		if amount != 0 {
			dues = append(dues, list(f.From, f.To, amount)...)
		}
	}
	return dues, api.OK
}

// wantSum computes Sum with numbers of any size, for dues without an error.
func wantSum(l []api.Due) ([]api.Posting, api.Errno) {
	var postings []api.Posting
	for party := range 31 {
		sum := new(big.Int)
		for _, d := range l {
			if d.To == party {
				sum.Add(sum, big.NewInt(int64(d.Amount)))
			}
			if d.From == party {
				sum.Sub(sum, big.NewInt(int64(d.Amount)))
			}
		}
		if new(big.Int).Abs(sum).Cmp(big.NewInt(top)) > 0 {
			return nil, api.ErrWide
		}
		if sum.Sign() != 0 {
			postings = append(postings, pay(party, int(sum.Int64()))...)
		}
	}
	if len(postings) == 0 {
		return nil, api.ErrNone
	}
	return postings, api.OK
}

func compareDay(t *testing.T, name string, q question) []api.Due {
	t.Helper()
	dues, err := q.day()
	if want, wantErr := wantDay(q); !slices.Equal(dues, want) || err != wantErr {
		t.Errorf("%s: Day(%v) = %v, %d; want %v, %d", name, q, dues, err, want, wantErr)
	}
	return dues
}

func compareSum(t *testing.T, name string, l []api.Due) []api.Posting {
	t.Helper()
	postings, err := penalty.Sum(l)
	if want, wantErr := wantSum(l); !slices.Equal(postings, want) || err != wantErr {
		t.Errorf("%s: Sum(%v) = %v, %d; want %v, %d", name, l, postings, err, want, wantErr)
	}
	return postings
}

func TestM1Daily(t *testing.T) {
	for _, c := range []struct {
		name               string
		units, price, rate int
		want               int
		err                api.Errno
	}{
		{"the example of the document", 2000, 100000, 100, 2, api.OK},
		{"rounded down", 2999, 100000, 100, 2, api.OK},
		{"less than one", 999, 100000, 1000, 9, api.OK},
		{"nothing, as it is less than one", 999, 100000, 100, 0, api.OK},
		{"the cost is rounded before the rate counts", 1, 15000, 700000, 0, api.OK},
		{"and is more when it is not rounded", 2, 15000, 700000, 2, api.OK},
		{"less than one of money for all units", 1, 9999, million, 0, api.OK},
		{"one of money", 1, 10000, million, 1, api.OK},
		{"one of money, at less than the whole rate", 1, 10000, million - 1, 0, api.OK},
		{"no units", 0, maxPrice, million, 0, api.OK},
		{"a price of 0", maxUnits, 0, million, 0, api.OK},
		{"a rate of 0", maxUnits, maxPrice, 0, 0, api.OK},
		{"the greatest numbers", maxUnits, maxPrice, million, mostEach, api.OK},
		{"units below 0", -1, 1, 1, 0, api.ErrRange},
		{"too many units", maxUnits + 1, 1, 1, 0, api.ErrRange},
		{"a price below 0", 1, -1, 1, 0, api.ErrRange},
		{"too great a price", 1, maxPrice + 1, 1, 0, api.ErrRange},
		{"a rate below 0", 1, 1, -1, 0, api.ErrRange},
		{"too great a rate", 1, 1, million + 1, 0, api.ErrRange},
		{"no units at no price", 0, -1, 0, 0, api.ErrRange},
	} {
		if got, err := penalty.Daily(c.units, c.price, c.rate); got != c.want || err != c.err {
			t.Errorf("%s: Daily = %d, %d; want %d, %d", c.name, got, err, c.want, c.err)
		}
	}
}

func TestM1DailyOfAllEdges(t *testing.T) {
	for _, units := range edges {
		for _, price := range edges {
			for _, rate := range edges {
				want, wantErr := wantDaily(units, price, rate)
				if got, err := penalty.Daily(units, price, rate); got != want || err != wantErr {
					t.Errorf("Daily(%d, %d, %d) = %d, %d; want %d, %d", units, price, rate, got, err, want, wantErr)
				}
			}
		}
	}
}

// listed are prices, with the error of Prices.
var listed = []struct {
	name string
	l    []int
	err  api.Errno
}{
	{"as many as there are papers", prices(), api.OK},
	{"the least prices", make([]int, 20), api.OK},
	{"the greatest prices", slices.Repeat([]int{maxPrice}, 20), api.OK},
	{"nil", nil, api.ErrForm},
	{"one too few", prices()[1:], api.ErrForm},
	{"one too many", append(prices(), 1), api.ErrForm},
	{"one for money, too", make([]int, 21), api.ErrForm},
	{"too few come before the range", slices.Repeat([]int{-1}, 19), api.ErrForm},
	{"too many come before the range", slices.Repeat([]int{-1}, 21), api.ErrForm},
	{"the first one below 0", append([]int{-1}, prices()[1:]...), api.ErrRange},
	{"the last one below 0", append(prices()[1:], -1), api.ErrRange},
	{"the first one too great", append([]int{maxPrice + 1}, prices()[1:]...), api.ErrRange},
	{"the last one too great", append(prices()[1:], maxPrice+1), api.ErrRange},
	{"the outermost numbers", append(prices()[2:], math.MinInt, math.MaxInt), api.ErrRange},
}

func TestM2Prices(t *testing.T) {
	for _, c := range listed {
		if err := penalty.Prices(c.l); err != c.err {
			t.Errorf("%s: Prices = %d, want %d", c.name, err, c.err)
		}
		q := ask()
		q.prices = c.l
		if _, err := q.day(); err != c.err {
			t.Errorf("%s: error of Day is %d, want %d", c.name, err, c.err)
		}
	}
}

// TestM2DayOfOneFail has the paper 10, at a price of 10, and 3000 units of it.
func TestM2DayOfOneFail(t *testing.T) {
	f := owing(1, 0, 10, monday)
	for _, c := range []struct {
		name  string
		f     api.Fail
		today int
		want  []api.Due
	}{
		{"the example of the document", become(f, 1000, 0, 0), monday + 2, list(1, 2, 2)},
		{"long before", f, monday - 14, nil},
		{"its day", f, monday, nil},
		{"waiting", f, monday + 2, list(1, 2, 3)},
		{"waiting for the last day", f, monday + 7, list(1, 2, 3)},
		{"buying", f, monday + 8, list(1, 2, 3)},
		{"late", f, monday + 17, list(1, 2, 3)},
		{"paying", f, monday + 21, list(1, 2, 3)},
		{"long after", f, last, list(1, 2, 3)},
		{"some are delivered, bought and paid", become(f, 100, 200, 700), monday + 2, list(1, 2, 2)},
		{"too few are open", become(f, 2001, 0, 0), monday + 2, nil},
		{"just enough are open", become(f, 2000, 0, 0), monday + 2, list(1, 2, 1)},
		{"all are delivered", become(f, 3000, 0, 0), monday + 2, nil},
		{"all are bought", become(f, 0, 3000, 0), monday + 2, nil},
		{"all are paid", become(f, 0, 0, 3000), monday + 21, nil},
		{"to a party with a lesser number", between(f, 30, 0), monday + 2, list(30, 0, 3)},
		{"of another class", owing(1, 1, 10, monday), monday + 2, list(1, 2, 30)},
		{"of a class that costs all", owing(1, 2, 10, monday), monday + 2, list(1, 2, 30000)},
		{"of a class that costs nothing", owing(1, 3, 10, monday), monday + 2, nil},
		{"of the last class", owing(1, 5, 20, monday), monday + 2, nil},
		{"of another paper", owing(1, 1, 1, monday), monday + 2, list(1, 2, 3)},
		{"of the last paper", owing(1, 1, 20, monday), monday + 2, list(1, 2, 60)},
		{"of a Sunday", owing(1, 0, 10, monday-1), monday, list(1, 2, 3)},
		{"of a holiday", owing(1, 0, 10, monday+1), monday + 2, list(1, 2, 3)},
	} {
		q := ask(c.f)
		q.today = c.today
		if dues, err := q.day(); !slices.Equal(dues, c.want) || err != api.OK {
			t.Errorf("%s: Day = %v, %d; want %v", c.name, dues, err, c.want)
		}
		compareDay(t, c.name, q)
	}
}

func TestM2DayOfSeveralFails(t *testing.T) {
	a, b, c := owing(7, 0, 10, monday), owing(3, 1, 4, monday), owing(5, 2, 1, monday)
	early, done := owing(9, 2, 1, monday+2), become(owing(2, 2, 1, monday), 0, 3000, 0)
	for _, x := range []struct {
		name string
		l    []api.Fail
		want []api.Due
	}{
		{"none", nil, nil},
		{"in the order of the list", []api.Fail{a, b, c}, list(1, 2, 3, 1, 2, 12, 1, 2, 3000)},
		{"in another order", []api.Fail{c, a, b}, list(1, 2, 3000, 1, 2, 3, 1, 2, 12)},
		{"either way", []api.Fail{a, between(b, 2, 1)}, list(1, 2, 3, 2, 1, 12)},
		{"the same both ways", []api.Fail{a, between(owing(1, 0, 10, 0), 2, 1)}, list(1, 2, 3, 2, 1, 3)},
		{"without those that cost nothing", []api.Fail{early, a, done, owing(1, 3, 20, monday), b}, list(1, 2, 3, 1, 2, 12)},
		{"only those that cost nothing", []api.Fail{early, done}, nil},
	} {
		q := ask(x.l...)
		if dues, err := q.day(); !slices.Equal(dues, x.want) || err != api.OK {
			t.Errorf("%s: Day = %v, %d; want %v", x.name, dues, err, x.want)
		}
		compareDay(t, x.name, q)
	}
}

// fault is a change of a question, with the error that it causes.
type fault struct {
	name   string
	change func(q *question)
	err    api.Errno
}

// faults are in the order of the errors of Day; those of one group cannot be combined.
func faults() [][]fault {
	return [][]fault{
		{
			{"no such weekend", func(q *question) { q.c.Weekend = 127 }, api.ErrRange},
			{"too many holidays", func(q *question) { q.c.Holidays = make([]int, 61) }, api.ErrMany},
			{"a holiday twice", func(q *question) { q.c.Holidays = []int{5, 5} }, api.ErrTwice},
			{"holidays in no order", func(q *question) { q.c.Holidays = []int{5, 4} }, api.ErrState},
		},
		{
			{"no terms", func(q *question) { q.t = nil }, api.ErrForm},
			{"one too few terms", func(q *question) { q.t = q.t[:5] }, api.ErrForm},
			{"one too many terms", func(q *question) { q.t = append(q.t, api.Terms{}) }, api.ErrForm},
			{"too few terms, and a wrong one", func(q *question) { q.t = []api.Terms{{Rate: -1}} }, api.ErrForm},
			{"a wrong first class", func(q *question) { q.t[0].Extend = -1 }, api.ErrRange},
			{"a wrong last class", func(q *question) { q.t[5].Rate = million + 1 }, api.ErrRange},
		},
		{
			{"too many fails", func(q *question) { q.l = append(q.l, make([]api.Fail, 60)...) }, api.ErrMany},
			{"a fail that is none", func(q *question) { q.l = append(q.l, api.Fail{}) }, api.ErrRange},
			{"a fail of one party", func(q *question) { q.l = append(q.l, between(owing(3, 0, 1, 1), 2, 2)) }, api.ErrForm},
			{"a fail with too much delivered", func(q *question) { q.l = append(q.l, become(owing(3, 0, 1, 1), 1, 3000, 0)) }, api.ErrState},
			{"a fail twice", func(q *question) { q.l = append(q.l, q.l[0]) }, api.ErrTwice},
			{"a class that there is not", func(q *question) { q.l = append(q.l, owing(3, 6, 1, 1)) }, api.ErrRange},
			{"a paper that there is not", func(q *question) { q.l = append(q.l, owing(3, 0, 21, 1)) }, api.ErrRange},
			{"money, which is no paper", func(q *question) { q.l = append(q.l, owing(3, 0, 0, 1)) }, api.ErrRange},
		},
		{
			{"no prices", func(q *question) { q.prices = nil }, api.ErrForm},
			{"too few prices, and a wrong one", func(q *question) { q.prices = []int{-1} }, api.ErrForm},
			{"a price below 0", func(q *question) { q.prices[19] = -1 }, api.ErrRange},
		},
		{
			{"today is below 0", func(q *question) { q.today = -1 }, api.ErrRange},
			{"today is after the last day", func(q *question) { q.today = last + 1 }, api.ErrRange},
			{"today is a Saturday", func(q *question) { q.today = monday - 2 }, api.ErrState},
			{"today is a Sunday", func(q *question) { q.today = monday + 6 }, api.ErrState},
			{"today is a holiday", func(q *question) { q.today = monday + 1 }, api.ErrState},
		},
		{
			{"an early fail without its days", func(q *question) { q.l = append(q.l, owing(8, 0, 1, last-5)) }, api.ErrWide},
			{"a late fail without its days", func(q *question) { q.l, q.today = append(q.l, owing(8, 0, 1, last-5)), last-1 }, api.ErrWide},
			{"a fail without its days, of which nothing is open", func(q *question) { q.l = append(q.l, become(owing(8, 0, 1, last-5), 3000, 0, 0)) }, api.ErrWide},
			{"an early fail without its days, before the others", func(q *question) { q.l = append([]api.Fail{owing(8, 0, 1, last-5)}, q.l...) }, api.ErrWide},
		},
	}
}

func TestM2ErrorsOfDay(t *testing.T) {
	groups := faults()
	for i, group := range groups {
		for _, first := range group {
			q := ask(owing(7, 0, 10, monday))
			first.change(&q)
			if dues, err := q.day(); len(dues) != 0 || err != first.err {
				t.Errorf("%s: Day = %v, %d; want error %d", first.name, dues, err, first.err)
			}
			for _, second := range slices.Concat(groups[i+1:]...) {
				q := ask(owing(7, 0, 10, monday))
				second.change(&q)
				first.change(&q)
				if dues, err := q.day(); len(dues) != 0 || err != first.err {
					t.Errorf("%s comes before %s: Day = %v, %d; want error %d", first.name, second.name, dues, err, first.err)
				}
			}
		}
	}
}

func TestM3Sum(t *testing.T) {
	for _, c := range []struct {
		name string
		l    []api.Due
		want []api.Posting
		err  api.Errno
	}{
		{"one", list(1, 2, 5), pay(1, -5, 2, 5), api.OK},
		{"to a party with a lesser number", list(30, 0, 5), pay(0, 5, 30, -5), api.OK},
		{"several between two", list(1, 2, 5, 1, 2, 7, 2, 1, 2), pay(1, -10, 2, 10), api.OK},
		{"a party that receives as much as it pays", list(1, 2, 5, 2, 3, 5), pay(1, -5, 3, 5), api.OK},
		{"a party that keeps some", list(3, 2, 9, 2, 1, 5), pay(1, 5, 2, 4, 3, -9), api.OK},
		{"in the order of the parties, not of the dues", list(9, 8, 1, 3, 2, 1, 5, 30, 1), pay(2, 1, 3, -1, 5, -1, 8, 1, 9, -1, 30, 1), api.OK},
		{"the greatest amount", list(4, 5, top), pay(4, -top, 5, top), api.OK},
		{"more than an amount, of which much goes back", list(4, 5, top, 4, 5, top, 5, 4, top), pay(4, -top, 5, top), api.OK},
		{"no dues", nil, nil, api.ErrNone},
		{"both owe as much", list(1, 2, 5, 2, 1, 5), nil, api.ErrNone},
		{"all owe as much", list(1, 2, 5, 2, 3, 5, 3, 1, 5), nil, api.ErrNone},
		{"too many", slices.Repeat(list(1, 2, 1), 61), nil, api.ErrMany},
		{"as many as may be", slices.Repeat(list(1, 2, 1), 60), pay(1, -60, 2, 60), api.OK},
		{"from no party", list(31, 2, 1), nil, api.ErrRange},
		{"to no party", list(1, -1, 1), nil, api.ErrRange},
		{"an amount of 0", list(1, 2, 0), nil, api.ErrRange},
		{"an amount below 0", list(1, 2, -5), nil, api.ErrRange},
		{"too great an amount", list(1, 2, top+1), nil, api.ErrRange},
		{"to itself", list(1, 1, 5), nil, api.ErrForm},
		{"too great a position", list(0, 1, top, 2, 1, 1), nil, api.ErrWide},
		{"too low a position", list(1, 0, top, 1, 2, 1), nil, api.ErrWide},
		{"the dues come before the positions", list(0, 1, top, 2, 1, 1, 3, 3, 1), nil, api.ErrForm},
	} {
		if postings, err := penalty.Sum(c.l); !slices.Equal(postings, c.want) || err != c.err {
			t.Errorf("%s: Sum = %v, %d; want %v, %d", c.name, postings, err, c.want, c.err)
		}
	}
}

// TestM1ToM3TheGreatestNumbers has fails that cost as much as can be: nine of them are still an amount.
func TestM1ToM3TheGreatestNumbers(t *testing.T) {
	q := ask()
	q.prices = slices.Repeat([]int{maxPrice}, 20)
	for id := 1; id <= 60; id++ {
		f := owing(id, 2, 20, monday)
		f.Units = maxUnits
		q.l = append(q.l, f)
		dues := compareDay(t, "as much as can be", q)
		if want := slices.Repeat(list(1, 2, mostEach), id); !slices.Equal(dues, want) {
			t.Errorf("%d fails: Day = %v", id, dues)
		}
		want, wantErr := pay(1, -id*mostEach, 2, id*mostEach), api.OK
		if id > 9 {
			want, wantErr = nil, api.ErrWide
		}
		if postings, err := penalty.Sum(dues); !slices.Equal(postings, want) || err != wantErr {
			t.Errorf("%d fails: Sum = %v, %d; want %v, %d", id, postings, err, want, wantErr)
		}
	}
}

// draw draws a question on a business day, without an error.
func draw(r *rand.Rand) question {
	q := question{week(monday+1, monday+18), classes(), nil, prices(), monday + 7*r.Intn(6)}
	for i := range q.t {
		q.t[i] = api.Terms{Extend: r.Intn(5), Buy: r.Intn(5), Defer: r.Intn(5), Rate: r.Intn(million) >> r.Intn(20)}
	}
	for i := range q.prices {
		q.prices[i] = r.Intn(maxPrice) >> r.Intn(40)
	}
	for id := range r.Intn(61) {
		f := owing(id+1, r.Intn(6), 1+r.Intn(20), monday+r.Intn(50)-10)
		f.From = r.Intn(31)
		f.To = (f.From + 1 + r.Intn(30)) % 31
		f.Units = 1 + r.Intn(maxUnits)>>r.Intn(30)
		f.Delivered = r.Intn(f.Units + 1)
		f.Bought = r.Intn(f.Units - f.Delivered + 1)
		f.Paid = r.Intn(f.Units-f.Delivered-f.Bought+1) >> r.Intn(2)
		q.l = append(q.l, f)
	}
	return q
}

// TestM2M3PenaltiesGoIntoABook also checks that nothing is lost: postings of penalties always balance.
func TestM2M3PenaltiesGoIntoABook(t *testing.T) {
	r := rand.New(rand.NewSource(1))
	posted := 0
	for range 3000 {
		q := draw(r)
		postings := compareSum(t, "drawn", compareDay(t, "drawn", q))
		if len(postings) == 0 {
			continue
		}
		posted++
		if b, err := book.Post(nil, postings); !slices.Equal(b, postings) || err != api.OK {
			t.Errorf("Post(%v) = %v, %d", postings, b, err)
		}
	}
	if posted < 1000 {
		t.Errorf("only %d of the drawn questions have penalties", posted)
	}
}

func TestP1NothingBesideAnError(t *testing.T) {
	for _, a := range edges {
		for _, b := range edges {
			for _, c := range edges {
				if daily, err := penalty.Daily(a, b, c); err != api.OK && daily != 0 {
					t.Errorf("Daily(%d, %d, %d) = %d with error %d", a, b, c, daily, err)
				}
				l := list(1, 2, 3, a, b, c)
				if postings, err := penalty.Sum(l); err != api.OK && len(postings) != 0 {
					t.Errorf("Sum(%v) = %v with error %d", l, postings, err)
				}
			}
		}
	}
	for _, today := range edges {
		for _, number := range edges {
			q := ask(owing(7, 0, 10, monday), owing(8, number, 10, number))
			q.today, q.prices[3] = today, number
			if dues, err := q.day(); err != api.OK && len(dues) != 0 {
				t.Errorf("Day(%v) = %v with error %d", q, dues, err)
			}
		}
	}
}

// long is a question whose lists have something behind their lengths.
func long() question {
	q := ask(owing(7, 0, 10, monday), between(owing(8, 1, 10, monday), 4, 3), owing(8, 0, 0, 0))
	q.c.Holidays = []int{monday + 1, monday + 9, 77, 77}
	q.t = append(q.t, api.Terms{Rate: -1})
	q.prices = append(q.prices, -1)
	return q
}

func TestP2ListsAreOnlyReadAndResultsAreNew(t *testing.T) {
	whole, want, wantDues, wantPostings := long(), long(), list(1, 2, 3, 4, 3, 30), pay(1, -3, 2, 3, 3, 30, 4, -30)
	q := question{week(whole.c.Holidays[:2]...), whole.t[:6], whole.l[:2], whole.prices[:20], monday + 2}
	for range 2 {
		dues, err := q.day()
		if !slices.Equal(dues, wantDues) || err != api.OK {
			t.Errorf("Day = %v, %d; want %v", dues, err, wantDues)
		}
		behind := append(dues, list(77, 77, 77)...)
		postings, err := penalty.Sum(behind[:2])
		if !slices.Equal(postings, wantPostings) || err != api.OK {
			t.Errorf("Sum = %v, %d; want %v", postings, err, wantPostings)
		}
		if !slices.Equal(behind, append(wantDues, list(77, 77, 77)...)) {
			t.Errorf("after Sum the dues and the one behind them are %v", behind)
		}
		penalty.Prices(q.prices)
		clear(dues[:cap(dues)]) // results that shared memory would show in the next round
		clear(postings[:cap(postings)])
	}
	if !slices.Equal(whole.c.Holidays, want.c.Holidays) || !slices.Equal(whole.t, want.t) || !slices.Equal(whole.l, want.l) || !slices.Equal(whole.prices, want.prices) {
		t.Errorf("after the calls the lists and what is behind them are %v", whole)
	}
}

func TestP3CallsDoNotSeeEarlierOnes(t *testing.T) {
	q := ask(owing(7, 0, 10, monday))
	for range 3 {
		if dues, err := q.day(); !slices.Equal(dues, list(1, 2, 3)) || err != api.OK {
			t.Errorf("Day = %v, %d", dues, err)
		}
		q.prices[9], q.t[0].Rate, q.l[0].Units = 200000, 200, 1000 // what was kept would show here
		if dues, err := q.day(); !slices.Equal(dues, list(1, 2, 4)) || err != api.OK {
			t.Errorf("Day = %v, %d", dues, err)
		}
		q.prices[9], q.t[0].Rate, q.l[0].Units = 100000, 100, 3000
		if postings, err := penalty.Sum(list(1, 2, 3)); !slices.Equal(postings, pay(1, -3, 2, 3)) || err != api.OK {
			t.Errorf("Sum = %v, %d", postings, err)
		}
	}
}

func TestP4LongLists(t *testing.T) {
	const many = 1 << 22
	for _, c := range []struct {
		name   string
		change func(q *question)
		want   api.Errno
	}{
		{"holidays", func(q *question) { q.c.Holidays = make([]int, many) }, api.ErrMany},
		{"terms", func(q *question) { q.t = make([]api.Terms, many) }, api.ErrForm},
		{"fails", func(q *question) { q.l = make([]api.Fail, many) }, api.ErrMany},
		{"prices", func(q *question) { q.prices = make([]int, many) }, api.ErrForm},
	} {
		q := ask(owing(7, 0, 10, monday))
		c.change(&q)
		if dues, err := q.day(); len(dues) != 0 || err != c.want {
			t.Errorf("%s: Day = %v, %d; want error %d", c.name, dues, err, c.want)
		}
	}
	_, ofSum := penalty.Sum(make([]api.Due, many))
	if err := penalty.Prices(make([]int, many)); err != api.ErrForm || ofSum != api.ErrMany {
		t.Errorf("errors of Prices and Sum are %d, %d", err, ofSum)
	}
}
