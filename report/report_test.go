package report_test

import (
	"math"
	"math/big"
	"math/rand"
	"slices"
	"testing"

	"demurrage/api"
	"demurrage/fail"
	"demurrage/report"
)

const (
	mostFails = 60
	mostEdges = 40
	maxUnits  = 1 << 30
	maxPrice  = 1 << 40
	last      = 3652058
	monday    = 739935 // November 16 of 2026
)

// numbers are those around every limit of the chapter, and the outermost ones.
var numbers = []int{
	math.MinInt, -maxPrice - 1, -monday, -1, 0, 1, 2, 5, 19, 20, 21, 59, 60, 61, 126, 127, 10000, monday, last - 1, last, last + 1,
	maxUnits, maxUnits + 1, maxPrice, maxPrice + 1, math.MaxInt,
}

// week is a calendar of Saturdays and Sundays, without the holidays given.
func week(holidays ...int) api.Cal { return api.Cal{Weekend: 96, Holidays: holidays} }

// owing is a fail of units of a paper, from party 1 to party 2.
func owing(id, paper, day, units int) api.Fail {
	return api.Fail{Id: id, From: 1, To: 2, Paper: paper, Day: day, Units: units}
}

// between is a fail with other parties.
func between(f api.Fail, from, to int) api.Fail {
	f.From, f.To = from, to
	return f
}

// become is a fail after some of its units were delivered, bought and paid.
func become(f api.Fail, delivered, bought, paid int) api.Fail {
	f.Delivered, f.Bought, f.Paid = delivered, bought, paid
	return f
}

// fails make a list.
func fails(l ...api.Fail) []api.Fail { return l }

// dueOn are fails of 100 units each, one for each day.
func dueOn(days ...int) []api.Fail {
	var l []api.Fail
	for i, day := range days {
		l = append(l, owing(i+1, 3, day, 100))
	}
	return l
}

// ofUnits are fails of paper 3, one for each number of units.
func ofUnits(units ...int) []api.Fail {
	var l []api.Fail
	for i, n := range units {
		l = append(l, owing(i+1, 3, monday, n))
	}
	return l
}

// prices are those of all papers: paper 1 at 1, paper 2 at 2, and so on.
func prices() []int {
	var l []int
	for paper := 1; paper <= 20; paper++ {
		l = append(l, 10000*paper)
	}
	return l
}

// priced are prices with another one of a paper.
func priced(paper, price int) []int {
	l := prices()
	l[paper-1] = price
	return l
}

// upTo are the numbers from 1 on, so many.
func upTo(many int) []int {
	var l []int
	for i := range many {
		l = append(l, i+1)
	}
	return l
}

// wantChecks is the error of a list of fails.
func wantChecks(l []api.Fail) api.Errno {
	if len(l) > mostFails {
		return api.ErrMany
	}
	for i, f := range l {
		if e := fail.Check(f); e != api.OK {
			return e
		}
		for _, before := range l[:i] {
			if before.Id == f.Id {
				return api.ErrTwice
			}
		}
	}
	return api.OK
}

func open(f api.Fail) int { return f.Units - f.Delivered - f.Bought - f.Paid }

// age counts the business days after a day one by one; day 0 is a Monday.
func age(c api.Cal, day, today int) int {
	count := 0
	for n := day + 1; n <= today; n++ {
		if c.Weekend>>(n%7)%2 == 0 && !slices.Contains(c.Holidays, n) {
			count++
		}
	}
	return count
}

// wantAges computes Ages anew, for what has no error.
func wantAges(c api.Cal, l []api.Fail, today int, edges []int) []int {
	bounds := append([]int{0}, edges...)
	bounds = append(bounds, math.MaxInt)
	var want []int
	for i := range len(edges) + 1 {
		count := 0
		for _, f := range l {
			days := age(c, f.Day, today)
			if open(f) != 0 && f.Day < today && days >= bounds[i] && days < bounds[i+1] {
				count++
			}
		}
		want = append(want, count)
	}
	return want
}

// wantParties computes Parties anew, for fails without an error.
func wantParties(l []api.Fail) ([]int, []int) {
	var from, to []int
	for party := range 31 {
		out, in := 0, 0
		for _, f := range l {
			if f.From == party {
				out += open(f)
			}
			if f.To == party {
				in += open(f)
			}
		}
		from, to = append(from, out), append(to, in)
	}
	return from, to
}

// value is what the open units of a fail cost, rounded down.
func value(f api.Fail, prices []int) int {
	n := new(big.Int).Mul(big.NewInt(int64(open(f))), big.NewInt(int64(prices[f.Paper-1])))
	return int(n.Quo(n, big.NewInt(10000)).Int64())
}

// wantTop computes Top anew, for what has no error: it takes the greatest one of those that are left, again and again.
func wantTop(l []api.Fail, prices []int, many int) []int {
	var ids []int
	for len(ids) < many {
		best := -1
		for i, f := range l {
			if open(f) == 0 || slices.Contains(ids, f.Id) {
				continue
			}
			if best < 0 || value(f, prices) > value(l[best], prices) || value(f, prices) == value(l[best], prices) && f.Id < l[best].Id {
				best = i
			}
		}
		if best < 0 {
			break
		}
		ids = append(ids, l[best].Id)
	}
	return ids
}

// wantRate computes Rate with numbers of any size.
func wantRate(l []api.Fail) (int, api.Errno) {
	if e := wantChecks(l); e != api.OK {
		return 0, e
	}
	delivered, units := new(big.Int), new(big.Int)
	for _, f := range l {
		delivered.Add(delivered, big.NewInt(10000*int64(f.Delivered)))
		units.Add(units, big.NewInt(int64(f.Units)))
	}
	if len(l) == 0 {
		return 0, api.ErrNone
	}
	return int(delivered.Quo(delivered, units).Int64()), api.OK
}

func compareAges(t *testing.T, name string, c api.Cal, l []api.Fail, today int, edges []int) []int {
	t.Helper()
	many, err := report.Ages(c, l, today, edges)
	if want := wantAges(c, l, today, edges); !slices.Equal(many, want) || err != api.OK {
		t.Errorf("%s: Ages(%v, %v, %d, %v) = %v, %d; want %v", name, c, l, today, edges, many, err, want)
	}
	return many
}

func compareParties(t *testing.T, name string, l []api.Fail) ([]int, []int) {
	t.Helper()
	from, to, err := report.Parties(l)
	if wantFrom, wantTo := wantParties(l); !slices.Equal(from, wantFrom) || !slices.Equal(to, wantTo) || err != api.OK {
		t.Errorf("%s: Parties(%v) = %v, %v, %d; want %v, %v", name, l, from, to, err, wantFrom, wantTo)
	}
	return from, to
}

func compareTop(t *testing.T, name string, l []api.Fail, prices []int, many int) []int {
	t.Helper()
	ids, err := report.Top(l, prices, many)
	if want := wantTop(l, prices, many); !slices.Equal(ids, want) || err != api.OK {
		t.Errorf("%s: Top(%v, %v, %d) = %v, %d; want %v", name, l, prices, many, ids, err, want)
	}
	return ids
}

func compareRate(t *testing.T, name string, l []api.Fail) int {
	t.Helper()
	rate, err := report.Rate(l)
	if want, wantErr := wantRate(l); rate != want || err != wantErr {
		t.Errorf("%s: Rate(%v) = %d, %d; want %d, %d", name, l, rate, err, want, wantErr)
	}
	return rate
}

func TestV1Ages(t *testing.T) {
	c := week(monday+1, monday+9) // Tuesday, and the Wednesday of the week after
	some := dueOn(monday, monday+2, monday+3, monday+4, monday+7)
	done := dueOn(monday, monday, monday, monday)
	done[0].Delivered, done[1].Bought, done[2].Paid = 100, 100, 100
	done[3] = become(done[3], 40, 30, 30)
	partly := fails(become(owing(1, 3, monday, 100), 40, 30, 29))
	for _, c := range []struct {
		name  string
		c     api.Cal
		l     []api.Fail
		today int
		edges []int
		want  []int
	}{
		{"no edges", c, some, monday + 7, nil, []int{4}},
		{"an empty list of edges", c, some, monday + 7, []int{}, []int{4}},
		{"counts of 1, 2, 3 and 4", c, some, monday + 7, []int{1, 2, 3, 4}, []int{0, 1, 1, 1, 1}},
		{"from an edge on", c, some, monday + 7, []int{3}, []int{2, 2}},
		{"less than all edges", c, some, monday + 7, []int{5, 6}, []int{4, 0, 0}},
		{"from the last edge on", c, some, monday + 700, []int{2, 5, 10}, []int{0, 0, 0, 5}},
		{"the least and the greatest edge", c, some, monday + 7, []int{1, last}, []int{0, 4, 0}},
		{"a count of 0, as there is only a holiday", c, some, monday + 1, []int{1}, []int{1, 0}},
		{"a count of 0, on a weekend", c, dueOn(monday + 4), monday + 6, []int{1}, []int{1, 0}},
		{"today is a weekend", c, dueOn(monday + 3), monday + 6, []int{1, 2}, []int{0, 1, 0}},
		{"due on a weekend", c, dueOn(monday + 5), monday + 8, []int{1, 2, 3}, []int{0, 0, 1, 0}},
		{"over a holiday", c, dueOn(monday + 8), monday + 10, []int{1, 2}, []int{0, 1, 0}},
		{"no holidays", week(), dueOn(monday), monday + 7, []int{5, 6}, []int{0, 1, 0}},
		{"no weekend", api.Cal{}, dueOn(monday), monday + 7, []int{7, 8}, []int{0, 1, 0}},
		{"just Sundays are business days", api.Cal{Weekend: 63}, dueOn(monday), monday + 20, []int{3, 4}, []int{0, 1, 0}},
		{"due today", c, dueOn(monday + 2), monday + 2, []int{1}, []int{0, 0}},
		{"due tomorrow", c, dueOn(monday + 3), monday + 2, []int{1}, []int{0, 0}},
		{"due yesterday", c, dueOn(monday + 2), monday + 3, []int{1}, []int{0, 1}},
		{"nothing is open", c, done, monday + 7, []int{1}, []int{0, 0}},
		{"little is open", c, partly, monday + 7, []int{1}, []int{0, 1}},
		{"no fails", c, nil, monday + 7, []int{1, 2, 3}, []int{0, 0, 0, 0}},
		{"on the first day", c, dueOn(0, 1, last), 0, []int{1}, []int{0, 0}},
		{"on the last day", c, dueOn(0, last-1, last), last, []int{1, 1000000}, []int{0, 1, 1}},
		{"as many edges as may be", c, some, monday + 7, upTo(mostEdges), append([]int{0, 1, 1, 1, 1}, make([]int, 36)...)},
		{"as many fails as may be", c, dueOn(slices.Repeat([]int{monday}, mostFails)...), monday + 7, []int{4}, []int{0, mostFails}},
	} {
		if many, err := report.Ages(c.c, c.l, c.today, c.edges); !slices.Equal(many, c.want) || err != api.OK {
			t.Errorf("%s: Ages = %v, %d; want %v", c.name, many, err, c.want)
		}
		compareAges(t, c.name, c.c, c.l, c.today, c.edges)
	}
}

// TestV1EachDay follows a fail day by day, with an edge for each number of days.
func TestV1EachDay(t *testing.T) {
	c := week(monday+1, monday+9, monday+14, monday+18)
	for today := monday - 20; today <= monday+50; today++ {
		many := compareAges(t, "each day", c, dueOn(monday), today, upTo(mostEdges))
		if at := slices.Index(many, 1); today <= monday && at != -1 || today > monday && at != age(c, monday, today) {
			t.Errorf("on day %d its age is %d", today-monday, at)
		}
	}
}

// question is what a function is asked.
type question struct {
	c      api.Cal
	l      []api.Fail
	today  int
	edges  []int
	prices []int
	many   int
}

func ask() question {
	return question{week(monday + 1), dueOn(monday, monday-1), monday + 7, []int{2, 3, 4}, prices(), 5}
}

func (q question) ages() (bool, api.Errno) {
	many, err := report.Ages(q.c, q.l, q.today, q.edges)
	return len(many) == 0, err
}

func (q question) parties() (bool, api.Errno) {
	from, to, err := report.Parties(q.l)
	return len(from) == 0 && len(to) == 0, err
}

func (q question) top() (bool, api.Errno) {
	ids, err := report.Top(q.l, q.prices, q.many)
	return len(ids) == 0, err
}

func (q question) rate() (bool, api.Errno) {
	rate, err := report.Rate(q.l)
	return rate == 0, err
}

type fault struct {
	name   string
	change func(q *question)
	err    api.Errno
}

func failFaults() []fault {
	return []fault{
		{"too many fails", func(q *question) { q.l = append(dueOn(slices.Repeat([]int{monday}, mostFails)...), api.Fail{}) }, api.ErrMany},
		{"too many fails that are none", func(q *question) { q.l = make([]api.Fail, mostFails+1) }, api.ErrMany},
		{"a fail that is none", func(q *question) { q.l[1] = api.Fail{} }, api.ErrRange},
		{"a fail from no party", func(q *question) { q.l[1].From = 31 }, api.ErrRange},
		{"a fail to no party", func(q *question) { q.l[1].To = -1 }, api.ErrRange},
		{"a fail of no day", func(q *question) { q.l[1].Day = last + 1 }, api.ErrRange},
		{"a fail of money", func(q *question) { q.l[1].Paper = 0 }, api.ErrRange},
		{"a fail of one party", func(q *question) { q.l[1].To = 1 }, api.ErrForm},
		{"a fail with too much delivered", func(q *question) { q.l[1].Delivered = 101 }, api.ErrRange},
		{"a fail with too much delivered and paid", func(q *question) { q.l[1] = become(q.l[1], 100, 0, 1) }, api.ErrState},
		{"an Id twice", func(q *question) { q.l[1].Id = q.l[0].Id }, api.ErrTwice},
		{"a wrong fail before an Id twice", func(q *question) { q.l = append(q.l, owing(9, 21, 1, 1), q.l[0]) }, api.ErrRange},
		{"an Id twice before a wrong fail", func(q *question) { q.l = append(q.l, q.l[0], owing(9, 21, 1, 1)) }, api.ErrTwice},
	}
}

// agesFaults are in the order of the errors of Ages; those of one group cannot be combined.
func agesFaults() [][]fault {
	edges := func(l ...int) func(q *question) { return func(q *question) { q.edges = l } }
	return [][]fault{
		{
			{"no such weekend", func(q *question) { q.c.Weekend = 127 }, api.ErrRange},
			{"a weekend below 0", func(q *question) { q.c.Weekend = -1 }, api.ErrRange},
			{"too many holidays", func(q *question) { q.c.Holidays = make([]int, 61) }, api.ErrMany},
			{"a holiday twice", func(q *question) { q.c.Holidays = []int{5, 5} }, api.ErrTwice},
			{"holidays in no order", func(q *question) { q.c.Holidays = []int{5, 4} }, api.ErrState},
		},
		failFaults(),
		{
			{"today is below 0", func(q *question) { q.today = -1 }, api.ErrRange},
			{"today is after the last day", func(q *question) { q.today = last + 1 }, api.ErrRange},
		},
		{
			{"too many edges", edges(upTo(mostEdges + 1)...), api.ErrMany},
			{"too many edges that are none", edges(make([]int, mostEdges+1)...), api.ErrMany},
			{"an edge of 0", edges(0), api.ErrRange},
			{"an edge below 0", edges(-1), api.ErrRange},
			{"too great an edge", edges(last + 1), api.ErrRange},
			{"too great a last edge", edges(1, 2, last+1), api.ErrRange},
			{"an edge of 0 behind another one", edges(5, 0), api.ErrRange},
			{"two equal edges", edges(5, 5), api.ErrState},
			{"a lesser edge", edges(6, 5), api.ErrState},
			{"a lesser last edge", edges(1, 2, 3, 2), api.ErrState},
			{"a lesser edge than the one before, but not than the first one", edges(1, 6, 5), api.ErrState},
			{"a lesser edge before one of 0", edges(6, 5, 0), api.ErrState},
			{"an edge of 0 before a lesser one", edges(6, 0, 5), api.ErrRange},
			{"the greatest edge twice", edges(last, last), api.ErrState},
		},
	}
}

// topFaults are in the order of the errors of Top.
func topFaults() [][]fault {
	return [][]fault{
		failFaults(),
		{
			{"no prices", func(q *question) { q.prices = nil }, api.ErrForm},
			{"one price too few", func(q *question) { q.prices = q.prices[:19] }, api.ErrForm},
			{"one price too many", func(q *question) { q.prices = append(q.prices, 0) }, api.ErrForm},
			{"too few prices, and a wrong one", func(q *question) { q.prices = []int{-1} }, api.ErrForm},
			{"a price below 0", func(q *question) { q.prices[0] = -1 }, api.ErrRange},
			{"too great a price", func(q *question) { q.prices[19] = maxPrice + 1 }, api.ErrRange},
		},
		{
			{"one less than none", func(q *question) { q.many = -1 }, api.ErrRange},
			{"one more than there can be", func(q *question) { q.many = mostFails + 1 }, api.ErrRange},
			{"the least number", func(q *question) { q.many = math.MinInt }, api.ErrRange},
			{"the greatest number", func(q *question) { q.many = math.MaxInt }, api.ErrRange},
		},
	}
}

// checkFaults checks each fault alone, and with each one of a later group.
func checkFaults(t *testing.T, function string, groups [][]fault, answer func(q question) (bool, api.Errno)) {
	t.Helper()
	if _, err := answer(ask()); err != api.OK {
		t.Errorf("%s without a fault: error %d", function, err)
	}
	for i, group := range groups {
		for _, first := range group {
			q := ask()
			first.change(&q)
			if empty, err := answer(q); !empty || err != first.err {
				t.Errorf("%s, %s: nothing else is %t, error %d; want error %d", function, first.name, empty, err, first.err)
			}
			for _, second := range slices.Concat(groups[i+1:]...) {
				q := ask()
				second.change(&q)
				first.change(&q)
				if empty, err := answer(q); !empty || err != first.err {
					t.Errorf("%s, %s comes before %s: nothing else is %t, error %d; want error %d", function, first.name, second.name, empty, err, first.err)
				}
			}
		}
	}
}

func TestV1ErrorsOfAges(t *testing.T) { checkFaults(t, "Ages", agesFaults(), question.ages) }

func TestV2ErrorsOfParties(t *testing.T) {
	checkFaults(t, "Parties", [][]fault{failFaults()}, question.parties)
}

func TestV3ErrorsOfTop(t *testing.T) { checkFaults(t, "Top", topFaults(), question.top) }

func TestV4ErrorsOfRate(t *testing.T) {
	none := []fault{
		{"nil", func(q *question) { q.l = nil }, api.ErrNone},
		{"no fails", func(q *question) { q.l = []api.Fail{} }, api.ErrNone},
	}
	checkFaults(t, "Rate", [][]fault{failFaults()}, question.rate)
	checkFaults(t, "Rate", [][]fault{none}, question.rate)
}

// at makes a list of all parties from pairs of a party and a number.
func at(pairs ...int) []int {
	l := make([]int, 31)
	for p := range slices.Chunk(pairs, 2) {
		l[p[0]] = p[1]
	}
	return l
}

func TestV2Parties(t *testing.T) {
	f := owing(1, 3, monday, 100)
	most := ofUnits(slices.Repeat([]int{maxUnits}, mostFails)...)
	for _, c := range []struct {
		name     string
		l        []api.Fail
		from, to []int
	}{
		{"no fails", nil, at(), at()},
		{"one", fails(f), at(1, 100), at(2, 100)},
		{"the first and the last party", fails(between(f, 0, 30)), at(0, 100), at(30, 100)},
		{"the last and the first party", fails(between(f, 30, 0)), at(30, 100), at(0, 100)},
		{"some is open no more", fails(become(f, 10, 20, 30)), at(1, 40), at(2, 40)},
		{"nothing is open", fails(become(f, 100, 0, 0), become(owing(2, 3, monday, 5), 1, 1, 3)), at(), at()},
		{"several between two", ofUnits(100, 20, 3), at(1, 123), at(2, 123)},
		{"both ways", fails(f, between(owing(2, 3, monday, 30), 2, 1)), at(1, 100, 2, 30), at(1, 30, 2, 100)},
		{"of several papers and days", fails(f, owing(2, 20, 0, 7), owing(3, 1, last, 1)), at(1, 108), at(2, 108)},
		{"among several", fails(f, between(owing(2, 3, monday, 7), 3, 2), between(owing(3, 3, monday, 4), 1, 3)), at(1, 104, 3, 7), at(2, 107, 3, 4)},
		{"as many as may be", most, at(1, mostFails*maxUnits), at(2, mostFails*maxUnits)},
	} {
		from, to, err := report.Parties(c.l)
		if !slices.Equal(from, c.from) || !slices.Equal(to, c.to) || err != api.OK {
			t.Errorf("%s: Parties = %v, %v, %d; want %v, %v", c.name, from, to, err, c.from, c.to)
		}
		compareParties(t, c.name, c.l)
	}
}

func TestV3Top(t *testing.T) {
	mixed := fails(owing(5, 3, monday, 100), owing(9, 20, monday, 100), owing(2, 1, monday, 1000), owing(7, 20, monday, 10), owing(4, 3, monday, 101))
	equal := fails(owing(8, 2, monday, 30), owing(3, 3, monday, 20), owing(1<<40, 1, monday, 60), owing(6, 6, monday, 10))
	done := fails(become(owing(1, 20, monday, 1000), 500, 0, 500), become(owing(2, 20, monday, 1000), 400, 300, 299), owing(3, 1, monday, 10), become(owing(4, 1, monday, 3), 0, 3, 0))
	early := fails(owing(1, 1, last, 1), owing(2, 1, 0, 2))
	for _, c := range []struct {
		name   string
		l      []api.Fail
		prices []int
		many   int
		want   []int
	}{
		{"one", mixed, prices(), 1, []int{9}},
		{"two", mixed, prices(), 2, []int{9, 2}},
		{"three, by value and not by units", mixed, prices(), 3, []int{9, 2, 4}},
		{"all", mixed, prices(), 5, []int{9, 2, 4, 5, 7}},
		{"more than there are", mixed, prices(), 6, []int{9, 2, 4, 5, 7}},
		{"as many as may be", mixed, prices(), mostFails, []int{9, 2, 4, 5, 7}},
		{"none", mixed, prices(), 0, nil},
		{"none of none", nil, prices(), 0, nil},
		{"all of none", nil, prices(), mostFails, nil},
		{"equal values", equal, prices(), 4, []int{3, 6, 8, 1 << 40}},
		{"the first one of equal values", equal, prices(), 1, []int{3}},
		{"prices of 0", equal, make([]int, 20), 3, []int{3, 6, 8}},
		{"a price of 0, behind all others", mixed, priced(20, 0), 5, []int{2, 4, 5, 7, 9}},
		{"other prices", mixed, priced(3, 10000000), 3, []int{4, 5, 9}},
		{"the open units alone have a value", done, prices(), 3, []int{2, 3}},
		{"whatever the day is", early, prices(), 2, []int{2, 1}},
		{"values are rounded down, and thus equal", fails(owing(2, 3, monday, 3), owing(1, 4, monday, 1)), priced(3, 14999), 2, []int{1, 2}},
		{"and are not equal with one part more", fails(owing(2, 3, monday, 10000), owing(1, 4, monday, 1)), priced(3, 5), 2, []int{2, 1}},
		{"the greatest values", fails(owing(1, 3, monday, maxUnits-1), owing(2, 3, monday, maxUnits)), priced(3, maxPrice), 2, []int{2, 1}},
	} {
		if ids, err := report.Top(c.l, c.prices, c.many); !slices.Equal(ids, c.want) || err != api.OK {
			t.Errorf("%s: Top = %v, %d; want %v", c.name, ids, err, c.want)
		}
		compareTop(t, c.name, c.l, c.prices, c.many)
	}
}

func TestV3AsManyFailsAsMayBe(t *testing.T) {
	l := ofUnits(upTo(mostFails)...)
	slices.Reverse(l[20:40])
	for many := range mostFails + 1 {
		ids := compareTop(t, "as many as may be", l, prices(), many)
		want := upTo(mostFails)
		slices.Reverse(want)
		if !slices.Equal(ids, want[:many]) {
			t.Errorf("Top of %d = %v", many, ids)
		}
	}
}

func TestV4Rate(t *testing.T) {
	f := owing(1, 3, monday, 3)
	for _, c := range []struct {
		name string
		l    []api.Fail
		want int
	}{
		{"nothing", fails(f), 0},
		{"a third, rounded down", fails(become(f, 1, 0, 0)), 3333},
		{"two thirds, rounded down", fails(become(f, 2, 0, 0)), 6666},
		{"all", fails(become(f, 3, 0, 0)), 10000},
		{"what was bought or paid was not delivered", fails(become(f, 1, 1, 1)), 3333},
		{"all was bought", fails(become(f, 0, 3, 0)), 0},
		{"all was paid", fails(become(f, 0, 0, 3)), 0},
		{"the sums count, not each one of them", fails(become(f, 3, 0, 0), owing(2, 20, monday, 97)), 300},
		{"of several papers, parties and days", fails(become(between(f, 4, 5), 1, 0, 0), become(owing(2, 20, last, 2), 2, 0, 0)), 6000},
		{"those of which nothing is open count, too", fails(f, become(owing(2, 3, monday, 3), 3, 0, 0)), 5000},
		{"just less than one part", fails(become(owing(1, 3, monday, 10001), 1, 0, 0)), 0},
		{"just one part", fails(become(owing(1, 3, monday, 10000), 1, 0, 0)), 1},
		{"just less than all", fails(become(owing(1, 3, monday, maxUnits), maxUnits-1, 0, 0)), 9999},
		{"all of as many as may be", fails(become(owing(1, 3, monday, maxUnits), maxUnits, 0, 0)), 10000},
	} {
		if rate, err := report.Rate(c.l); rate != c.want || err != api.OK {
			t.Errorf("%s: Rate = %d, %d; want %d", c.name, rate, err, c.want)
		}
		compareRate(t, c.name, c.l)
	}
}

func TestV4AsManyFailsAsMayBe(t *testing.T) {
	l := ofUnits(slices.Repeat([]int{maxUnits}, mostFails)...)
	for i := range l {
		if rate := compareRate(t, "as many as may be", l); rate != 10000*i/mostFails {
			t.Errorf("Rate with %d of 60 delivered = %d", i, rate)
		}
		l[i].Delivered = maxUnits
	}
	if rate := compareRate(t, "all of them", l); rate != 10000 {
		t.Errorf("Rate with all delivered = %d", rate)
	}
}

// draw draws a question without an error.
func draw(r *rand.Rand) question {
	q := question{api.Cal{Weekend: r.Intn(127)}, nil, monday + r.Intn(100) - 50, nil, prices(), r.Intn(mostFails + 1)}
	for day := monday - 60; day < monday+60 && len(q.c.Holidays) < 60; day += 1 + r.Intn(20) {
		q.c.Holidays = append(q.c.Holidays, day)
	}
	for edge := 1 + r.Intn(5); len(q.edges) < r.Intn(mostEdges+1); edge += 1 + r.Intn(5) {
		q.edges = append(q.edges, edge)
	}
	for i := range q.prices {
		q.prices[i] = r.Intn(maxPrice) >> r.Intn(41)
	}
	for i, id := range r.Perm(r.Intn(mostFails + 1)) {
		f := owing(id+1, 1+r.Intn(20), monday+r.Intn(100)-50, 1+r.Intn(maxUnits)>>r.Intn(30))
		f.From = r.Intn(31)
		f.To = (f.From + 1 + r.Intn(30)) % 31
		f.Delivered = r.Intn(f.Units + 1)
		f.Bought = r.Intn(f.Units - f.Delivered + 1)
		f.Paid = r.Intn(f.Units-f.Delivered-f.Bought+1) >> r.Intn(2)
		if i%5 == 0 {
			f.Paid = f.Units - f.Delivered - f.Bought
		}
		q.l = append(q.l, f)
	}
	return q
}

// TestV1ToV4OfDrawnFails also checks that no fail and no unit is lost on the way.
func TestV1ToV4OfDrawnFails(t *testing.T) {
	r := rand.New(rand.NewSource(1))
	sum := func(l []int) int {
		total := 0
		for _, n := range l {
			total += n
		}
		return total
	}
	for range 2000 {
		q := draw(r)
		late, left, units := 0, 0, 0
		for _, f := range q.l {
			if open(f) > 0 {
				left++
			}
			if open(f) > 0 && f.Day < q.today {
				late++
			}
			units += open(f)
		}
		if many := compareAges(t, "drawn", q.c, q.l, q.today, q.edges); sum(many) != late {
			t.Errorf("Ages = %v of %d fails", many, late)
		}
		if from, to := compareParties(t, "drawn", q.l); sum(from) != units || sum(to) != units {
			t.Errorf("Parties = %v, %v of %d units", from, to, units)
		}
		if ids := compareTop(t, "drawn", q.l, q.prices, q.many); len(ids) != min(left, q.many) {
			t.Errorf("Top of %d = %v of %d fails", q.many, ids, left)
		}
		compareRate(t, "drawn", q.l)
	}
}

func TestP1NothingBesideAnError(t *testing.T) {
	for _, a := range numbers {
		for _, b := range numbers {
			q := ask()
			q.l[0].Day, q.today, q.many, q.prices[2] = a, b, b, a
			check(t, q)
			q = ask()
			q.edges, q.c.Weekend = []int{1, a, b}, b
			check(t, q)
			q = ask()
			q.l[0].Units, q.l[0].Delivered, q.c.Holidays = a, b, []int{a, b}
			check(t, q)
			q = ask()
			q.l[1].Id, q.l[0].Paper, q.l[0].From, q.l[0].To = a, b, a, b
			check(t, q)
		}
	}
}

// check asks a question of all functions: with an error, there is nothing else.
func check(t *testing.T, q question) {
	t.Helper()
	for i, answer := range []func() (bool, api.Errno){q.ages, q.parties, q.top, q.rate} {
		if empty, err := answer(); err != api.OK && !empty {
			t.Errorf("function %d of %v has more than the error %d", i, q, err)
		}
	}
}

// long is a question whose lists have something behind their lengths.
func long() question {
	q := ask()
	q.c.Holidays = append(q.c.Holidays, 77, 77)
	q.l = append(q.l, api.Fail{})
	q.edges = append(q.edges, 0)
	q.prices = append(q.prices, -1)
	return q
}

func TestP2ListsAreOnlyReadAndResultsAreNew(t *testing.T) {
	whole, want := long(), long()
	q := question{week(whole.c.Holidays[:1]...), whole.l[:2], whole.today, whole.edges[:3], whole.prices[:20], 2}
	for range 2 {
		many := compareAges(t, "long", q.c, q.l, q.today, q.edges)
		from, to := compareParties(t, "long", q.l)
		ids := compareTop(t, "long", q.l, q.prices, q.many)
		compareRate(t, "long", q.l)
		clear(from[:cap(from)])
		if !slices.Equal(to, at(2, 200)) {
			t.Errorf("after a change of one result of Parties the other one is %v", to)
		}
		clear(to[:cap(to)]) // results that shared memory would show in the next round
		clear(many[:cap(many)])
		clear(ids[:cap(ids)])
	}
	if !slices.Equal(whole.c.Holidays, want.c.Holidays) || !slices.Equal(whole.l, want.l) || !slices.Equal(whole.edges, want.edges) || !slices.Equal(whole.prices, want.prices) {
		t.Errorf("after the calls the lists and what is behind them are %v", whole)
	}
}

func TestP3CallsDoNotSeeEarlierOnes(t *testing.T) {
	q := ask()
	for range 3 {
		for _, n := range []int{1, 60, 100, 7} {
			q.l[0].Units, q.edges[2], q.prices[2], q.c.Holidays[0], q.many = n, 3+n, n, monday+n, n%3 // what was kept would show here
			compareAges(t, "again", q.c, q.l, q.today, q.edges)
			compareParties(t, "again", q.l)
			compareTop(t, "again", q.l, q.prices, q.many)
			compareRate(t, "again", q.l)
		}
	}
}

func TestP4LongLists(t *testing.T) {
	const many = 1 << 22
	q := ask()
	for _, c := range []struct {
		name   string
		change func(q *question)
		answer func(q question) (bool, api.Errno)
		want   api.Errno
	}{
		{"holidays", func(q *question) { q.c.Holidays = make([]int, many) }, question.ages, api.ErrMany},
		{"edges", func(q *question) { q.edges = make([]int, many) }, question.ages, api.ErrMany},
		{"fails of Ages", func(q *question) { q.l = make([]api.Fail, many) }, question.ages, api.ErrMany},
		{"fails of Parties", func(q *question) { q.l = make([]api.Fail, many) }, question.parties, api.ErrMany},
		{"fails of Top", func(q *question) { q.l = make([]api.Fail, many) }, question.top, api.ErrMany},
		{"fails of Rate", func(q *question) { q.l = make([]api.Fail, many) }, question.rate, api.ErrMany},
		{"prices", func(q *question) { q.prices = make([]int, many) }, question.top, api.ErrForm},
	} {
		changed := q
		c.change(&changed)
		if empty, err := c.answer(changed); !empty || err != c.want {
			t.Errorf("%s: nothing else is %t, error %d; want %d", c.name, empty, err, c.want)
		}
	}
}
