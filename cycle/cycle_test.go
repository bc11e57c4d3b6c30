package cycle_test

import (
	"math"
	"math/big"
	"math/rand"
	"slices"
	"testing"

	"demurrage/age"
	"demurrage/api"
	"demurrage/book"
	"demurrage/cal"
	"demurrage/cycle"
)

const (
	top      = 1 << 60
	scale    = 10000
	million  = 1000000
	maxUnits = 1 << 30
	maxPrice = 1 << 40
	last     = 3652058 // a Friday
	monday   = 739935  // November 16 of 2026
)

// week is a calendar of Saturdays and Sundays, without the holidays given.
func week(holidays ...int) api.Cal { return api.Cal{Weekend: 96, Holidays: holidays} }

// owing is a fail of 3000 units of a paper, from party 1 to party 2.
func owing(id, class, paper, day int) api.Fail {
	return api.Fail{Id: id, From: 1, To: 2, Class: class, Paper: paper, Day: day, Units: 3000}
}

// between is a fail with other parties.
func between(f api.Fail, from, to int) api.Fail {
	f.From, f.To = from, to
	return f
}

// become is a fail after some of its units were delivered, bought and paid.
func become(f api.Fail, delivered, bought, paid int) api.Fail {
	f.Delivered, f.Bought, f.Paid = delivered, bought, paid
	return f
}

// of is a fail of so many units.
func of(f api.Fail, units int) api.Fail {
	f.Units = units
	return f
}

// rules have terms with which papers are paid for on the next day (classes 1 and 5), after some days, or late.
func rules() api.Rules {
	return api.Rules{
		Cal: week(monday + 1),
		Terms: []api.Terms{
			{Extend: 4, Buy: 7, Defer: 2, Rate: 100}, {Rate: 1000}, {Extend: 1, Buy: 1, Defer: 1, Rate: million},
			{Buy: 5}, {Defer: 9, Rate: 7}, {},
		},
		Extra: 500,
	}
}

// prices are those of all papers: paper 1 at 1, paper 2 at 2, and so on.
func prices() []int {
	var l []int
	for paper := 1; paper <= 20; paper++ {
		l = append(l, 10000*paper)
	}
	return l
}

// post makes postings, or a book, from triples of account, unit and amount.
func post(numbers ...int) []api.Posting {
	var l []api.Posting
	for t := range slices.Chunk(numbers, 3) {
		l = append(l, api.Posting{Account: t[0], Unit: t[1], Amount: t[2]})
	}
	return l
}

// pay makes postings of money from pairs of a party and an amount.
func pay(numbers ...int) []api.Posting {
	var l []api.Posting
	for p := range slices.Chunk(numbers, 2) {
		l = append(l, post(p[0], 0, p[1])...)
	}
	return l
}

// thick is a book of many lines, an even number of them, none of which is of a party.
func thick(many int) []api.Posting {
	var b []api.Posting
	for i := range many / 2 {
		account, unit := 40+i/20*2, i%20
		b = append(b, post(account, unit, 1, account+1, unit, -1)...)
	}
	slices.SortFunc(b, func(x, y api.Posting) int { return place(x) - place(y) })
	return b
}

func place(p api.Posting) int { return 21*p.Account + p.Unit }

// question is what the functions are asked: Night the rules, the world and the prices, Deliver the Id and the units, Add the fail.
type question struct {
	r         api.Rules
	w         api.World
	prices    []int
	id, units int
	f         api.Fail
}

// ask makes a question of fails, for a Wednesday after a holiday.
func ask(l ...api.Fail) question {
	return question{rules(), api.World{Today: monday + 2, Fails: l}, prices(), 7, 10, owing(8, 1, 4, monday)}
}

// askAll is a question that no function answers with an error.
func askAll() question { return ask(owing(7, 0, 10, monday)) }

func (q question) night() (api.World, []api.Posting, api.Errno) {
	return cycle.Night(q.r, q.w, q.prices)
}

func sameWorld(a, b api.World) bool {
	return a.Today == b.Today && slices.Equal(a.Fails, b.Fails) && slices.Equal(a.Book, b.Book)
}

func isZero(w api.World) bool { return sameWorld(w, api.World{}) }

func open(f api.Fail) int { return f.Units - f.Delivered - f.Bought - f.Paid }

// part is a times b divided by c, rounded down, for numbers of any size from 0 on.
func part(a, b, c int) int {
	n := new(big.Int).Mul(big.NewInt(int64(a)), big.NewInt(int64(b)))
	return int(n.Quo(n, big.NewInt(int64(c))).Int64())
}

// wantPost posts anew, to a book without an error.
func wantPost(b, l []api.Posting) ([]api.Posting, api.Errno) {
	sums := map[api.Posting]int{}
	for _, p := range slices.Concat(b, l) {
		sums[api.Posting{Account: p.Account, Unit: p.Unit}] += p.Amount
	}
	var lines []api.Posting
	for p, sum := range sums {
		if sum > top || sum < -top {
			return nil, api.ErrWide
		}
		if sum != 0 {
			p.Amount = sum
			lines = append(lines, p)
		}
	}
	if len(lines) > 400 {
		return nil, api.ErrMany
	}
	slices.SortFunc(lines, func(x, y api.Posting) int { return place(x) - place(y) })
	return lines, api.OK
}

// wantPenalties are the postings of the penalties of a question without an error before them.
func wantPenalties(q question) ([]api.Posting, api.Errno) {
	var sums [31]int
	for _, f := range q.w.Fails {
		if stage, _ := age.Stage(q.r.Cal, q.r.Terms[f.Class], f, q.w.Today); stage != api.Early {
			cost := part(open(f), q.prices[f.Paper-1], scale)
			daily := part(cost, q.r.Terms[f.Class].Rate, million)
			sums[f.From] -= daily
			sums[f.To] += daily
		}
	}
	var l []api.Posting
	for party, sum := range sums {
		if sum > top || sum < -top {
			return nil, api.ErrWide
		}
		if sum != 0 {
			l = append(l, pay(party, sum)...)
		}
	}
	return l, api.OK
}

// wantNight ends a day anew, for a question without an error up to what is posted.
func wantNight(q question) (api.World, []api.Posting, api.Errno) {
	penalties, err := wantPenalties(q)
	if err != api.OK {
		return api.World{}, nil, err
	}
	groups := [][]api.Posting{penalties}
	w := api.World{Today: q.w.Today + 1, Fails: slices.Clone(q.w.Fails), Book: q.w.Book}
	for i, f := range q.w.Fails {
		if stage, _ := age.Stage(q.r.Cal, q.r.Terms[f.Class], f, q.w.Today); stage == api.Paying {
			cost := part(open(f), q.prices[f.Paper-1], scale)
			worth := cost + part(cost, q.r.Extra, scale)
			if worth > 0 {
				groups = append(groups, pay(f.From, -worth, f.To, worth))
			}
			w.Fails[i].Paid += open(f)
		}
	}
	for _, l := range groups {
		if w.Book, err = wantPost(w.Book, l); err != api.OK {
			return api.World{}, nil, err
		}
	}
	for ; w.Today <= last; w.Today++ {
		if business, _ := cal.Is(q.r.Cal, w.Today); business {
			return w, slices.Concat(groups...), api.OK
		}
	}
	return api.World{}, nil, api.ErrWide
}

func compareNight(t *testing.T, name string, q question) (api.World, []api.Posting) {
	t.Helper()
	w, l, err := q.night()
	if want, wantL, wantErr := wantNight(q); !sameWorld(w, want) || !slices.Equal(l, wantL) || err != wantErr {
		t.Errorf("%s: Night(%v) = %v, %v, %d; want %v, %v, %d", name, q, w, l, err, want, wantL, wantErr)
	}
	return w, l
}

// fault is a change of a question, with the error that it causes.
type fault struct {
	name   string
	change func(q *question)
	err    api.Errno
}

// calFaults and the others up to worldFaults are in the order of the errors of Rules and Check; those of one group cannot be combined.
func calFaults() []fault {
	return []fault{
		{"no such weekend", func(q *question) { q.r.Cal.Weekend = 127 }, api.ErrRange},
		{"too many holidays", func(q *question) { q.r.Cal.Holidays = make([]int, 61) }, api.ErrMany},
		{"a holiday twice", func(q *question) { q.r.Cal.Holidays = []int{5, 5} }, api.ErrTwice},
		{"holidays in no order", func(q *question) { q.r.Cal.Holidays = []int{5, 4} }, api.ErrState},
	}
}

func termsFaults() []fault {
	return []fault{
		{"no terms", func(q *question) { q.r.Terms = nil }, api.ErrForm},
		{"one too few terms", func(q *question) { q.r.Terms = q.r.Terms[:5] }, api.ErrForm},
		{"one too many terms", func(q *question) { q.r.Terms = append(q.r.Terms, api.Terms{}) }, api.ErrForm},
		{"too few terms, and a wrong one", func(q *question) { q.r.Terms = []api.Terms{{Rate: -1}} }, api.ErrForm},
		{"a wrong first class", func(q *question) { q.r.Terms[0].Extend = -1 }, api.ErrRange},
		{"a wrong class", func(q *question) { q.r.Terms[3].Buy = 101 }, api.ErrRange},
		{"a wrong last class", func(q *question) { q.r.Terms[5].Rate = million + 1 }, api.ErrRange},
	}
}

func extraFaults() []fault {
	return []fault{
		{"an extra below 0", func(q *question) { q.r.Extra = -1 }, api.ErrRange},
		{"too great an extra", func(q *question) { q.r.Extra = scale + 1 }, api.ErrRange},
		{"the lowest extra", func(q *question) { q.r.Extra = math.MinInt }, api.ErrRange},
		{"the greatest extra", func(q *question) { q.r.Extra = math.MaxInt }, api.ErrRange},
	}
}

func worldFaults() [][]fault {
	with := func(f api.Fail) func(q *question) {
		return func(q *question) { q.w.Fails = append(q.w.Fails, f) }
	}
	return [][]fault{
		{
			{"today is below 0", func(q *question) { q.w.Today = -1 }, api.ErrRange},
			{"today is after the last day", func(q *question) { q.w.Today = last + 1 }, api.ErrRange},
		},
		{
			{"too many fails", func(q *question) { q.w.Fails = make([]api.Fail, 61) }, api.ErrMany},
			{"a fail that is none", with(api.Fail{}), api.ErrRange},
			{"a fail of one party", with(between(owing(3, 0, 1, 1), 2, 2)), api.ErrForm},
			{"a fail with too much delivered", with(become(owing(3, 0, 1, 1), 1, 3000, 0)), api.ErrState},
			{"a fail twice", func(q *question) { q.w.Fails = []api.Fail{owing(7, 0, 1, 1), owing(7, 0, 2, 2)} }, api.ErrTwice},
			{"a class that there is not", with(owing(3, 6, 1, 1)), api.ErrRange},
			{"a paper that there is not", with(owing(3, 0, 21, 1)), api.ErrRange},
		},
		{
			{"too many lines", func(q *question) { q.w.Book = make([]api.Posting, 401) }, api.ErrMany},
			{"an account that there is not", func(q *question) { q.w.Book = pay(1, 5, 101, -5) }, api.ErrRange},
			{"a line of nothing", func(q *question) { q.w.Book = pay(1, 5, 2, 0, 3, -5) }, api.ErrRange},
			{"a book in no order", func(q *question) { q.w.Book = pay(2, 5, 1, -5) }, api.ErrState},
			{"a line twice", func(q *question) { q.w.Book = pay(1, 5, 1, -5) }, api.ErrState},
			{"a book that does not balance", func(q *question) { q.w.Book = pay(1, 5) }, api.ErrState},
		},
	}
}

// checkFaults checks that answer returns the error of each fault, and nothing beside it, also if there is a fault of a later group, too.
func checkFaults(t *testing.T, function string, groups [][]fault, answer func(q question) (bool, api.Errno)) {
	t.Helper()
	if zero, err := answer(askAll()); zero || err != api.OK {
		t.Errorf("%s has error %d without a fault", function, err)
	}
	for i, group := range groups {
		for _, first := range group {
			for _, second := range append(slices.Concat(groups[i+1:]...), fault{name: "nothing else", change: func(*question) {}}) {
				q := askAll()
				second.change(&q)
				first.change(&q)
				if zero, err := answer(q); !zero || err != first.err {
					t.Errorf("%s: %s comes before %s: error %d, want %d; nothing beside it: %t", function, first.name, second.name, err, first.err, zero)
				}
			}
		}
	}
}

func TestS1Rules(t *testing.T) {
	for _, c := range []struct {
		name string
		r    api.Rules
		err  api.Errno
	}{
		{"those of these tests", rules(), api.OK},
		{"the least numbers", api.Rules{Terms: make([]api.Terms, 6)}, api.OK},
		{"the greatest numbers", api.Rules{Cal: api.Cal{Weekend: 126}, Terms: slices.Repeat([]api.Terms{{Extend: 100, Buy: 100, Defer: 100, Rate: million}}, 6), Extra: scale}, api.OK},
		{"the zero value", api.Rules{}, api.ErrForm},
		{"a class for each fail", api.Rules{Terms: make([]api.Terms, 60)}, api.ErrForm},
	} {
		if err := cycle.Rules(c.r); err != c.err {
			t.Errorf("%s: Rules = %d, want %d", c.name, err, c.err)
		}
	}
	checkFaults(t, "Rules", [][]fault{calFaults(), termsFaults(), extraFaults()}, func(q question) (bool, api.Errno) {
		err := cycle.Rules(q.r)
		return err != api.OK, err
	})
}

func TestS1Check(t *testing.T) {
	many := ask()
	for id := range 60 {
		many.w.Fails = append(many.w.Fails, owing(id+1, 0, 1, last))
	}
	for _, c := range []struct {
		name string
		w    api.World
		err  api.Errno
	}{
		{"the zero value", api.World{}, api.OK},
		{"the last day", api.World{Today: last}, api.OK},
		{"a Sunday", api.World{Today: monday - 1}, api.OK},
		{"a fail and a book", api.World{Today: monday, Fails: []api.Fail{owing(1, 0, 1, monday)}, Book: pay(1, -5, 2, 5)}, api.OK},
		{"a fail of another day", api.World{Today: monday, Fails: []api.Fail{owing(1, 0, 1, monday+1)}}, api.OK},
		{"a fail of which nothing is open", api.World{Fails: []api.Fail{become(owing(1, 0, 1, monday), 1000, 1000, 1000)}}, api.OK},
		{"as many fails as may be", many.w, api.OK},
		{"as many lines as may be", api.World{Book: thick(400)}, api.OK},
		{"the lowest number of a day", api.World{Today: math.MinInt}, api.ErrRange},
		{"the greatest number of a day", api.World{Today: math.MaxInt}, api.ErrRange},
	} {
		if err := cycle.Check(c.w); err != c.err {
			t.Errorf("%s: Check = %d, want %d", c.name, err, c.err)
		}
	}
	checkFaults(t, "Check", worldFaults(), func(q question) (bool, api.Errno) {
		err := cycle.Check(q.w)
		return err != api.OK, err
	})
}

// TestS2NightOfOneFail has 3000 units of the paper 10, at a price of 10: a penalty of 100 in a million is 3, and all units are worth 31500.
func TestS2NightOfOneFail(t *testing.T) {
	f := owing(7, 0, 10, monday)
	for _, c := range []struct {
		name   string
		f      api.Fail
		today  int
		next   int
		paid   int
		posted []api.Posting
	}{
		{"the example of the document", become(f, 1000, 0, 0), monday + 2, monday + 3, 0, pay(1, -2, 2, 2)},
		{"its day, before a holiday", f, monday, monday + 2, 0, nil},
		{"before its day, a Friday", f, monday - 3, monday, 0, nil},
		{"waiting", f, monday + 2, monday + 3, 0, pay(1, -3, 2, 3)},
		{"waiting for the last day", f, monday + 7, monday + 8, 0, pay(1, -3, 2, 3)},
		{"buying", f, monday + 8, monday + 9, 0, pay(1, -3, 2, 3)},
		{"late for the last day, a Friday", f, monday + 18, monday + 21, 0, pay(1, -3, 2, 3)},
		{"paying", f, monday + 21, monday + 22, 3000, pay(1, -3, 2, 3, 1, -31500, 2, 31500)},
		{"paying long after", f, last - 1, last, 3000, pay(1, -3, 2, 3, 1, -31500, 2, 31500)},
		{"paying for what is open", become(f, 100, 200, 700), monday + 21, monday + 22, 2000, pay(1, -2, 2, 2, 1, -21000, 2, 21000)},
		{"paying for one", become(f, 2999, 0, 0), monday + 21, monday + 22, 1, pay(1, -10, 2, 10)},
		{"all are delivered", become(f, 3000, 0, 0), monday + 21, monday + 22, 0, nil},
		{"all are bought", become(f, 0, 3000, 0), monday + 21, monday + 22, 0, nil},
		{"all are paid", become(f, 0, 0, 3000), monday + 21, monday + 22, 0, nil},
		{"too few for a penalty", become(f, 2001, 0, 0), monday + 2, monday + 3, 0, nil},
		{"to a party with a lesser number", between(f, 30, 0), monday + 21, monday + 22, 3000, pay(0, 3, 30, -3, 30, -31500, 0, 31500)},
		{"paying on the next day", owing(7, 1, 10, monday), monday + 2, monday + 3, 3000, pay(1, -30, 2, 30, 1, -31500, 2, 31500)},
		{"paying on the next day, but not before", owing(7, 1, 10, monday), monday, monday + 2, 0, nil},
		{"paying on the next day, without a penalty", owing(7, 5, 10, monday), monday + 2, monday + 3, 3000, pay(1, -31500, 2, 31500)},
		{"late for the last day, with another class", owing(7, 2, 10, monday), monday + 4, monday + 7, 0, pay(1, -30000, 2, 30000)},
		{"paying after some days, with another class", owing(7, 2, 10, monday), monday + 7, monday + 8, 3000, pay(1, -30000, 2, 30000, 1, -31500, 2, 31500)},
		{"of another paper", owing(7, 1, 20, monday), monday + 2, monday + 3, 3000, pay(1, -60, 2, 60, 1, -63000, 2, 63000)},
	} {
		q := ask(c.f)
		q.w.Today = c.today
		want := c.f
		want.Paid += c.paid
		lines, _ := wantPost(nil, c.posted)
		w, l, err := q.night()
		if !sameWorld(w, api.World{Today: c.next, Fails: []api.Fail{want}, Book: lines}) || !slices.Equal(l, c.posted) || err != api.OK {
			t.Errorf("%s: Night = %v, %v, %d; want %d, %v, %v", c.name, w, l, err, c.next, want, c.posted)
		}
		compareNight(t, c.name, q)
	}
}

func TestS2NightOfSeveralFails(t *testing.T) {
	a, b, c := owing(7, 0, 10, monday), owing(3, 1, 4, monday), owing(5, 5, 1, monday)
	paidB, paidC := become(b, 0, 0, 3000), become(c, 0, 0, 3000)
	early, done := owing(9, 1, 1, monday+2), become(owing(2, 1, 1, monday), 0, 3000, 0)
	back, paidBack := between(owing(1, 1, 4, monday), 2, 1), become(between(owing(1, 1, 4, monday), 2, 1), 0, 0, 3000)
	for _, x := range []struct {
		name   string
		l      []api.Fail
		want   []api.Fail
		book   []api.Posting
		posted []api.Posting
	}{
		{"none", nil, nil, nil, nil},
		{"two are paid", []api.Fail{a, b, c}, []api.Fail{a, paidB, paidC}, pay(1, -15765, 2, 15765), pay(1, -15, 2, 15, 1, -12600, 2, 12600, 1, -3150, 2, 3150)},
		{"in another order", []api.Fail{c, a, b}, []api.Fail{paidC, a, paidB}, pay(1, -15765, 2, 15765), pay(1, -15, 2, 15, 1, -3150, 2, 3150, 1, -12600, 2, 12600)},
		{"those that are early or done", []api.Fail{early, a, done}, []api.Fail{early, a, done}, pay(1, -3, 2, 3), pay(1, -3, 2, 3)},
		{"only those that are early or done", []api.Fail{early, done}, []api.Fail{early, done}, nil, nil},
		{"penalties come before what is paid, whatever their order", []api.Fail{c, between(a, 4, 3)}, []api.Fail{paidC, between(a, 4, 3)}, pay(1, -3150, 2, 3150, 3, 3, 4, -3), pay(3, 3, 4, -3, 1, -3150, 2, 3150)},
		{"penalties cancel each other, and are none", []api.Fail{a, between(owing(1, 0, 10, monday-7), 2, 1)}, []api.Fail{a, between(owing(1, 0, 10, monday-7), 2, 1)}, nil, nil},
		{"all cancels each other", []api.Fail{b, back}, []api.Fail{paidB, paidBack}, nil, pay(1, -12600, 2, 12600, 2, -12600, 1, 12600)},
		{"penalties are passed on", []api.Fail{a, between(owing(1, 0, 10, monday), 2, 3)}, []api.Fail{a, between(owing(1, 0, 10, monday), 2, 3)}, pay(1, -3, 3, 3), pay(1, -3, 3, 3)},
	} {
		q := ask(x.l...)
		w, l, err := q.night()
		if !sameWorld(w, api.World{Today: monday + 3, Fails: x.want, Book: x.book}) || !slices.Equal(l, x.posted) || err != api.OK {
			t.Errorf("%s: Night = %v, %v, %d; want %v, %v, %v", x.name, w, l, err, x.want, x.book, x.posted)
		}
		compareNight(t, x.name, q)
	}
}

// TestS2PricesAndExtra has one fail of class 5, which is paid for without a penalty.
func TestS2PricesAndExtra(t *testing.T) {
	for _, c := range []struct {
		name                string
		units, price, extra int
		worth               int
	}{
		{"no extra", 3000, 25000, 0, 7500},
		{"a tenth", 3000, 25000, 1000, 8250},
		{"as much again", 3000, 25000, scale, 15000},
		{"rounded down, and then once more", 3, 5000, 5000, 1},
		{"rounded down in all", 199, scale, 99, 200},
		{"worth nothing", 3000, 0, scale, 0},
		{"worth less than one", 1, 9999, scale, 0},
		{"the greatest numbers", maxUnits, maxPrice, scale, 236118324143482260},
	} {
		q := ask(of(owing(7, 5, 20, monday), c.units))
		q.r.Extra, q.prices[19] = c.extra, c.price
		var want []api.Posting
		if c.worth > 0 {
			want = pay(1, -c.worth, 2, c.worth)
		}
		w, l, err := q.night()
		if !sameWorld(w, api.World{Today: monday + 3, Fails: []api.Fail{become(q.w.Fails[0], 0, 0, c.units)}, Book: want}) || !slices.Equal(l, want) || err != api.OK {
			t.Errorf("%s: Night = %v, %v, %d; want %v", c.name, w, l, err, want)
		}
	}
}

// TestS2TheNextDay has worlds without fails: nothing is posted, and the book stays as it is.
func TestS2TheNextDay(t *testing.T) {
	b := post(1, 0, -5, 1, 3, 7, 2, 0, 5, 100, 3, -7)
	for _, c := range []struct {
		name  string
		c     api.Cal
		today int
		want  int
		err   api.Errno
	}{
		{"the next one", week(), monday, monday + 1, api.OK},
		{"after a holiday", week(monday + 1), monday, monday + 2, api.OK},
		{"after several holidays", week(monday+1, monday+2, monday+3), monday, monday + 4, api.OK},
		{"after a weekend", week(), monday + 4, monday + 7, api.OK},
		{"after a weekend and a holiday", week(monday + 7), monday + 4, monday + 8, api.OK},
		{"one day of each week", api.Cal{Weekend: 126}, monday, monday + 7, api.OK},
		{"no weekend", api.Cal{}, monday - 1, monday, api.OK},
		{"the first day", week(), 0, 1, api.OK},
		{"the last day but one", week(), last - 1, last, api.OK},
		{"the last day", week(), last, 0, api.ErrWide},
		{"holidays up to the last day", week(last-1, last), last - 2, 0, api.ErrWide},
		{"no business day up to the last day", api.Cal{Weekend: 126}, last - 4, 0, api.ErrWide},
		{"a Saturday", week(), monday - 2, 0, api.ErrState},
		{"a Sunday", week(), monday - 1, 0, api.ErrState},
		{"a holiday", week(monday), monday, 0, api.ErrState},
		{"the last day is a holiday", week(last), last, 0, api.ErrState},
	} {
		q := ask()
		q.r.Cal, q.w.Today, q.w.Book = c.c, c.today, b
		want := api.World{Today: c.want, Book: b}
		if c.err != api.OK {
			want = api.World{}
		}
		if w, l, err := q.night(); !sameWorld(w, want) || len(l) != 0 || err != c.err {
			t.Errorf("%s: Night = %v, %v, %d; want %v, %d", c.name, w, l, err, want, c.err)
		}
	}
}

// TestS2TheBook has fails whose penalty is 3 (a, of party 1), and that are paid with 3 without a penalty (b).
func TestS2TheBook(t *testing.T) {
	a, b := owing(7, 0, 10, monday), of(owing(5, 5, 1, monday), 3)
	for _, c := range []struct {
		name string
		b    []api.Posting
		l    []api.Fail
		want []api.Posting
		err  api.Errno
	}{
		{"more is added", pay(1, -5, 2, 1, 3, 4), []api.Fail{a}, pay(1, -8, 2, 4, 3, 4), api.OK},
		{"lines end", pay(1, 3, 2, -3), []api.Fail{a}, nil, api.OK},
		{"lines of papers stay", post(1, 10, 7, 2, 0, -2, 3, 0, 2, 3, 10, -7), []api.Fail{a}, post(1, 0, -3, 1, 10, 7, 2, 0, 1, 3, 0, 2, 3, 10, -7), api.OK},
		{"the greatest amount", pay(2, top-3, 3, 3-top), []api.Fail{a}, pay(1, -3, 2, top, 3, 3-top), api.OK},
		{"more than the greatest amount", pay(2, top-2, 3, 2-top), []api.Fail{a}, nil, api.ErrWide},
		{"less than the lowest amount", pay(1, 2-top, 3, top-2), []api.Fail{a}, nil, api.ErrWide},
		{"as many lines as may be", thick(398), []api.Fail{a}, append(pay(1, -3, 2, 3), thick(398)...), api.OK},
		{"too many lines", thick(400), []api.Fail{a}, nil, api.ErrMany},
		{"too many lines for what is paid", thick(400), []api.Fail{b}, nil, api.ErrMany},
		{"too many lines for what is paid after penalties", thick(398), []api.Fail{a, between(b, 3, 4)}, nil, api.ErrMany},
		{"too great an amount for what is paid", pay(2, top-2, 3, 2-top), []api.Fail{b}, nil, api.ErrWide},
		{"an amount is lower when more is paid", pay(2, top, 3, -top), []api.Fail{between(a, 2, 1), b}, pay(2, top, 3, -top), api.OK},
		{"an amount would be lower if more were paid before", pay(2, top, 3, -top), []api.Fail{between(b, 2, 1), a}, nil, api.ErrWide},
		{"lines would end if more were paid before", thick(400), []api.Fail{between(b, 2, 1), a}, nil, api.ErrMany},
		{"what is paid first makes room", pay(2, top, 3, -top), []api.Fail{between(b, 2, 3), of(owing(6, 5, 1, monday), 3)}, pay(1, -3, 2, top, 3, 3-top), api.OK},
		{"what is paid later does not", pay(2, top, 3, -top), []api.Fail{b, between(of(owing(6, 5, 1, monday), 3), 2, 3)}, nil, api.ErrWide},
	} {
		q := ask(c.l...)
		q.r.Extra, q.w.Book = 0, c.b
		w, l, err := q.night()
		if !slices.Equal(w.Book, c.want) || err != c.err || err != api.OK && (!isZero(w) || len(l) != 0) {
			t.Errorf("%s: Night = %v, %v, %d; want %v, %d", c.name, w, l, err, c.want, c.err)
		}
		compareNight(t, c.name, q)
	}
}

func priceFaults() []fault {
	return []fault{
		{"no prices", func(q *question) { q.prices = nil }, api.ErrForm},
		{"one for money, too", func(q *question) { q.prices = make([]int, 21) }, api.ErrForm},
		{"too few prices, and a wrong one", func(q *question) { q.prices = []int{-1} }, api.ErrForm},
		{"a price below 0", func(q *question) { q.prices[19] = -1 }, api.ErrRange},
		{"too great a price", func(q *question) { q.prices[0] = maxPrice + 1 }, api.ErrRange},
	}
}

// nightFaults are those behind the rules, the world and the prices, in the order of the errors of Night.
func nightFaults() [][]fault {
	noDays := owing(9, 0, 1, last-5)
	return [][]fault{
		{
			{"today is a Saturday", func(q *question) { q.w.Today = monday - 2 }, api.ErrState},
			{"today is a Sunday", func(q *question) { q.w.Today = monday + 6 }, api.ErrState},
			{"today is a holiday", func(q *question) { q.w.Today = monday + 1 }, api.ErrState},
		},
		{
			{"an early fail without its days", func(q *question) { q.w.Fails = append(q.w.Fails, noDays) }, api.ErrWide},
			{"a fail without its days, of which nothing is open", func(q *question) { q.w.Fails = append(q.w.Fails, become(noDays, 0, 0, 3000)) }, api.ErrWide},
		},
		{
			{"too great a sum of penalties", func(q *question) {
				for id := range 10 {
					q.w.Fails = append(q.w.Fails, of(owing(20+id, 2, 20, monday), maxUnits))
				}
				q.prices[19] = maxPrice
			}, api.ErrWide},
		},
		{
			{"too many lines of penalties", func(q *question) { q.w.Book = thick(400) }, api.ErrMany},
			{"too great an amount with penalties", func(q *question) { q.w.Book = pay(2, top-1, 3, 1-top) }, api.ErrWide},
			{"too many lines of what is paid", func(q *question) {
				q.w.Fails = append(q.w.Fails, between(owing(10, 5, 1, monday), 3, 4))
				q.w.Book = thick(398)
			}, api.ErrMany},
		},
		{
			{"no next day", func(q *question) { q.w.Today = last }, api.ErrWide},
		},
	}
}

func TestS2ErrorsOfNight(t *testing.T) {
	groups := append([][]fault{calFaults(), termsFaults(), extraFaults()}, worldFaults()...)
	groups = append(append(groups, priceFaults()), nightFaults()...)
	checkFaults(t, "Night", groups, func(q question) (bool, api.Errno) {
		w, l, err := q.night()
		return isZero(w) && len(l) == 0, err
	})
}

func TestS3Deliver(t *testing.T) {
	a, b := owing(7, 0, 10, monday), between(owing(3, 5, 20, monday+9), 30, 0)
	part := become(a, 100, 200, 300)
	for _, c := range []struct {
		name      string
		l         []api.Fail
		b         []api.Posting
		id, units int
		want      []api.Fail
		book      []api.Posting
		err       api.Errno
	}{
		{"some", []api.Fail{a, b}, nil, 7, 10, []api.Fail{become(a, 10, 0, 0), b}, post(1, 10, -10, 2, 10, 10), api.OK},
		{"all", []api.Fail{a, b}, nil, 7, 3000, []api.Fail{become(a, 3000, 0, 0), b}, post(1, 10, -3000, 2, 10, 3000), api.OK},
		{"of the last one, before its day", []api.Fail{a, b}, nil, 3, 10, []api.Fail{a, become(b, 10, 0, 0)}, post(0, 20, 10, 30, 20, -10), api.OK},
		{"some more", []api.Fail{part}, post(1, 10, -100, 2, 10, 100), 7, 10, []api.Fail{become(a, 110, 200, 300)}, post(1, 10, -110, 2, 10, 110), api.OK},
		{"all the others", []api.Fail{part}, nil, 7, 2400, []api.Fail{become(a, 2500, 200, 300)}, post(1, 10, -2400, 2, 10, 2400), api.OK},
		{"lines end", []api.Fail{a}, post(1, 0, 5, 1, 10, 10, 2, 0, -5, 2, 10, -10), 7, 10, []api.Fail{become(a, 10, 0, 0)}, pay(1, 5, 2, -5), api.OK},
		{"as many lines as may be", []api.Fail{a}, thick(398), 7, 10, []api.Fail{become(a, 10, 0, 0)}, append(post(1, 10, -10, 2, 10, 10), thick(398)...), api.OK},
		{"the greatest amount", []api.Fail{a}, post(2, 10, top-1, 3, 10, 1-top), 7, 1, []api.Fail{become(a, 1, 0, 0)}, post(1, 10, -1, 2, 10, top, 3, 10, 1-top), api.OK},
		{"more than all", []api.Fail{a}, nil, 7, 3001, nil, nil, api.ErrWide},
		{"more than is open", []api.Fail{part}, nil, 7, 2401, nil, nil, api.ErrWide},
		{"as many as can be", []api.Fail{of(a, maxUnits)}, nil, 7, maxUnits, []api.Fail{become(of(a, maxUnits), maxUnits, 0, 0)}, post(1, 10, -maxUnits, 2, 10, maxUnits), api.OK},
		{"as many as can be, which is too many", []api.Fail{a}, nil, 7, maxUnits, nil, nil, api.ErrWide},
	} {
		w, err := cycle.Deliver(api.World{Today: monday, Fails: c.l, Book: c.b}, c.id, c.units)
		want := api.World{Today: monday, Fails: c.want, Book: c.book}
		if c.err != api.OK {
			want = api.World{}
		}
		if !sameWorld(w, want) || err != c.err {
			t.Errorf("%s: Deliver = %v, %d; want %v, %d", c.name, w, err, want, c.err)
		}
	}
}

func TestS3ErrorsOfDeliver(t *testing.T) {
	id := func(id int) func(q *question) { return func(q *question) { q.id = id } }
	units := func(units int) func(q *question) { return func(q *question) { q.units = units } }
	groups := append(worldFaults(), []fault{
		{"no such fail", id(8), api.ErrNone},
		{"no fails", func(q *question) { q.w.Fails = nil }, api.ErrNone},
		{"the Id 0", id(0), api.ErrNone},
		{"an Id below 0", id(-7), api.ErrNone},
		{"the greatest Id", id(math.MaxInt), api.ErrNone},
	}, []fault{
		{"no units", units(0), api.ErrRange},
		{"units below 0", units(-1), api.ErrRange},
		{"too many units", units(maxUnits + 1), api.ErrRange},
		{"the lowest number of units", units(math.MinInt), api.ErrRange},
	}, []fault{
		{"nothing is open", func(q *question) { q.w.Fails = []api.Fail{become(owing(7, 0, 10, monday), 1000, 1000, 1000)} }, api.ErrNone},
	}, []fault{
		{"fewer are open", func(q *question) { q.w.Fails, q.units = []api.Fail{become(owing(7, 0, 10, monday), 0, 0, 2991)}, 10 }, api.ErrWide},
	}, []fault{
		{"too many lines", func(q *question) { q.w.Book = thick(400) }, api.ErrMany},
		{"too great an amount", func(q *question) { q.w.Book = post(2, 10, top, 3, 10, -top) }, api.ErrWide},
		{"too low an amount", func(q *question) { q.w.Book = post(1, 10, -top, 3, 10, top) }, api.ErrWide},
	})
	checkFaults(t, "Deliver", groups, func(q question) (bool, api.Errno) {
		w, err := cycle.Deliver(q.w, q.id, q.units)
		return isZero(w), err
	})
}

func TestS3Add(t *testing.T) {
	a, b := owing(7, 0, 10, monday), owing(3, 5, 20, monday)
	many := func(many int) []api.Fail {
		var l []api.Fail
		for id := range many {
			l = append(l, owing(100+id, 0, 1, monday))
		}
		return l
	}
	for _, c := range []struct {
		name string
		l    []api.Fail
		f    api.Fail
		err  api.Errno
	}{
		{"the first one", nil, a, api.OK},
		{"one with a lesser Id", []api.Fail{a}, b, api.OK},
		{"one of the first day", []api.Fail{a}, owing(3, 0, 1, 0), api.OK},
		{"one of today", []api.Fail{a}, owing(3, 0, 1, monday+2), api.OK},
		{"one of tomorrow", []api.Fail{a}, owing(3, 0, 1, monday+3), api.ErrState},
		{"one of no day that comes", []api.Fail{a}, owing(3, 0, 1, math.MaxInt), api.ErrState},
		{"one of no day that was", []api.Fail{a}, owing(3, 0, 1, -1), api.ErrRange},
		{"the greatest numbers", []api.Fail{a}, between(of(owing(1<<40, 5, 20, monday), maxUnits), 30, 29), api.OK},
		{"as many as may be", many(59), a, api.OK},
		{"one too many", many(60), a, api.ErrMany},
		{"one too many, which is none", many(60), api.Fail{}, api.ErrMany},
		{"one too many, twice", many(60), owing(100, 0, 1, monday), api.ErrMany},
		{"one too many, of tomorrow", many(60), owing(3, 0, 1, monday+3), api.ErrState},
		{"one twice", []api.Fail{b, a}, b, api.ErrTwice},
		{"another one with the same Id", []api.Fail{b, a}, between(owing(3, 0, 1, monday), 5, 6), api.ErrTwice},
		{"one with the Id of what is done", []api.Fail{become(b, 3000, 0, 0)}, b, api.ErrTwice},
		{"none", []api.Fail{a}, api.Fail{}, api.ErrRange},
		{"no Id", []api.Fail{a}, owing(0, 0, 10, monday), api.ErrRange},
		{"no units", []api.Fail{a}, of(b, 0), api.ErrRange},
		{"too many units", []api.Fail{a}, of(b, maxUnits+1), api.ErrRange},
		{"of one party", []api.Fail{a}, between(b, 2, 2), api.ErrForm},
		{"twice, and of one party", []api.Fail{b}, between(b, 2, 2), api.ErrForm},
		{"some are delivered", []api.Fail{a}, become(b, 1, 0, 0), api.ErrState},
		{"some are bought", []api.Fail{a}, become(b, 0, 1, 0), api.ErrState},
		{"some are paid", []api.Fail{a}, become(b, 0, 0, 1), api.ErrState},
		{"all are delivered", []api.Fail{a}, become(b, 3000, 0, 0), api.ErrState},
		{"less than none are delivered", []api.Fail{a}, become(b, -1, 0, 0), api.ErrState},
		{"less than none are bought", []api.Fail{a}, become(b, 0, -1, 0), api.ErrState},
		{"less than none are paid", []api.Fail{a}, become(b, 0, 0, -1), api.ErrState},
		{"some are delivered of none", []api.Fail{a}, api.Fail{Id: 12, Delivered: 1}, api.ErrState},
		{"some are delivered of one that is there", []api.Fail{a}, become(a, 1, 0, 0), api.ErrState},
		{"one that is there, of tomorrow", []api.Fail{a}, owing(7, 0, 10, monday+3), api.ErrState},
	} {
		before := api.World{Today: monday + 2, Fails: c.l, Book: post(1, 10, -7, 2, 10, 7)}
		want := api.World{Today: before.Today, Fails: append(slices.Clone(c.l), c.f), Book: before.Book}
		if c.err != api.OK {
			want = api.World{}
		}
		if w, err := cycle.Add(before, c.f); !sameWorld(w, want) || err != c.err {
			t.Errorf("%s: Add = %v, %d; want %v, %d", c.name, w, err, want, c.err)
		}
	}
}

func TestS3ErrorsOfAdd(t *testing.T) {
	groups := append(worldFaults(), []fault{
		{"some are delivered", func(q *question) { q.f.Delivered = 1 }, api.ErrState},
		{"some are bought", func(q *question) { q.f.Bought = 1 }, api.ErrState},
		{"some are paid", func(q *question) { q.f.Paid = 1 }, api.ErrState},
		{"its day is tomorrow", func(q *question) { q.f.Day = monday + 3 }, api.ErrState},
	}, []fault{
		{"no such party", func(q *question) { q.f.To = 31 }, api.ErrRange},
		{"from none", func(q *question) { q.f.From = -1 }, api.ErrRange},
	}, []fault{
		{"of one party", func(q *question) { q.f.To = q.f.From }, api.ErrForm},
	}, []fault{
		{"one twice", func(q *question) { q.f.Id = 7 }, api.ErrTwice},
	})
	checkFaults(t, "Add", groups, func(q question) (bool, api.Errno) {
		w, err := cycle.Add(q.w, q.f)
		return isZero(w), err
	})
}

func TestS3Tidy(t *testing.T) {
	a, b, c := owing(7, 0, 10, monday), owing(3, 5, 20, monday+9), owing(5, 1, 4, monday)
	delivered, bought, paid := become(a, 3000, 0, 0), become(b, 0, 3000, 0), become(c, 1000, 500, 1500)
	for _, x := range []struct {
		name       string
		l          []api.Fail
		left, done []api.Fail
	}{
		{"no fails", nil, nil, nil},
		{"all are open", []api.Fail{a, b, c}, []api.Fail{a, b, c}, nil},
		{"nothing is open", []api.Fail{delivered, bought, paid}, nil, []api.Fail{delivered, bought, paid}},
		{"nothing is open, in another order", []api.Fail{paid, delivered, bought}, nil, []api.Fail{paid, delivered, bought}},
		{"the first one is done", []api.Fail{delivered, b, c}, []api.Fail{b, c}, []api.Fail{delivered}},
		{"the last one is done", []api.Fail{a, b, paid}, []api.Fail{a, b}, []api.Fail{paid}},
		{"one between is done", []api.Fail{c, bought, a}, []api.Fail{c, a}, []api.Fail{bought}},
		{"all but one are done", []api.Fail{paid, b, delivered}, []api.Fail{b}, []api.Fail{paid, delivered}},
		{"one is open of one", []api.Fail{become(a, 1000, 500, 1499)}, []api.Fail{become(a, 1000, 500, 1499)}, nil},
	} {
		for _, lines := range [][]api.Posting{nil, post(1, 0, 5, 1, 10, -7, 2, 0, -5, 2, 10, 7)} {
			w, done, err := cycle.Tidy(api.World{Today: monday + 6, Fails: x.l, Book: lines})
			if !sameWorld(w, api.World{Today: monday + 6, Fails: x.left, Book: lines}) || !slices.Equal(done, x.done) || err != api.OK {
				t.Errorf("%s: Tidy = %v, %v, %d; want %v, %v", x.name, w, done, err, x.left, x.done)
			}
		}
	}
	checkFaults(t, "Tidy", worldFaults(), func(q question) (bool, api.Errno) {
		w, done, err := cycle.Tidy(q.w)
		return isZero(w) && len(done) == 0, err
	})
}

// draw draws a question on a business day, without an error up to what is posted.
func draw(r *rand.Rand) question {
	q := ask()
	q.r.Cal, q.r.Extra, q.w.Today = week(monday+1, monday+18), r.Intn(scale+1), monday+7*r.Intn(6)
	for i := range q.r.Terms {
		q.r.Terms[i] = api.Terms{Extend: r.Intn(5), Buy: r.Intn(5), Defer: r.Intn(5), Rate: r.Intn(million) >> r.Intn(20)}
	}
	for i := range q.prices {
		q.prices[i] = r.Intn(maxPrice) >> r.Intn(40)
	}
	for id := range r.Intn(61) {
		f := owing(id+1, r.Intn(6), 1+r.Intn(20), monday+r.Intn(50)-10)
		f.From = r.Intn(31)
		f.To = (f.From + 1 + r.Intn(30)) % 31
		f.Units = 1 + r.Intn(maxUnits)>>r.Intn(30)
		f.Delivered = r.Intn(f.Units + 1)
		f.Bought = r.Intn(f.Units - f.Delivered + 1)
		f.Paid = r.Intn(f.Units-f.Delivered-f.Bought+1) >> r.Intn(2)
		q.w.Fails = append(q.w.Fails, f)
	}
	for range r.Intn(100) {
		account, unit, amount := r.Intn(100), r.Intn(21), 1+r.Intn(top/100)>>r.Intn(60)
		q.w.Book, _ = wantPost(q.w.Book, post(account, unit, amount, account+1, unit, -amount))
	}
	if r.Intn(4) == 0 {
		q.w.Book = thick(390 + 2*r.Intn(6))
	}
	return q
}

func TestS2NightOfDrawnWorlds(t *testing.T) {
	r := rand.New(rand.NewSource(1))
	posted, failed := 0, 0
	for range 1000 {
		q := draw(r)
		w, l := compareNight(t, "drawn", q)
		posted += min(1, len(l))
		if isZero(w) {
			failed++
			continue
		}
		if err := cycle.Check(w); err != api.OK {
			t.Errorf("after Night the world %v has error %d", w, err)
		}
	}
	if posted < 300 || failed < 30 {
		t.Errorf("in only %d of the drawn worlds something is posted, and only %d have an error", posted, failed)
	}
}

// life follows a world through many days, with a ledger of its own.
type life struct {
	question
	t      *testing.T
	random *rand.Rand
	ledger []api.Posting
	stages map[int]int
}

// take replaces the world by the next one, and checks that it and its book are what they must be.
func (l *life) take(w api.World, err api.Errno, posted ...api.Posting) {
	l.ledger, _ = wantPost(l.ledger, posted)
	if checked := cycle.Check(w); err != api.OK || checked != api.OK || !slices.Equal(w.Book, l.ledger) {
		l.t.Fatalf("the world has become %v, with errors %d and %d; the book must be %v", w, err, checked, l.ledger)
	}
	l.w = w
}

// add adds a fail of a drawn day of the last week.
func (l *life) add(id int) {
	f := owing(id, l.random.Intn(6), 1+l.random.Intn(20), l.w.Today-l.random.Intn(7))
	f.From = l.random.Intn(31)
	f.To = (f.From + 1 + l.random.Intn(30)) % 31
	want := append(slices.Clone(l.w.Fails), f)
	w, err := cycle.Add(l.w, f)
	l.take(w, err)
	if !slices.Equal(l.w.Fails, want) {
		l.t.Errorf("the fails are %v, want %v", l.w.Fails, want)
	}
}

// deliver delivers drawn units of a drawn fail of which units are open.
func (l *life) deliver() {
	i := l.random.Intn(len(l.w.Fails))
	f := l.w.Fails[i]
	if open(f) == 0 {
		return
	}
	units := 1 + l.random.Intn(open(f))
	want := slices.Clone(l.w.Fails)
	want[i].Delivered += units
	w, err := cycle.Deliver(l.w, f.Id, units)
	l.take(w, err, post(f.From, f.Paper, -units, f.To, f.Paper, units)...)
	if !slices.Equal(l.w.Fails, want) {
		l.t.Errorf("the fails are %v, want %v", l.w.Fails, want)
	}
}

// night ends the day, and checks that no fail becomes younger.
func (l *life) night() {
	want, posted := compareNight(l.t, "of a life", l.question)
	l.take(want, api.OK, posted...)
	for _, f := range l.w.Fails {
		stage, err := age.Stage(l.r.Cal, l.r.Terms[f.Class], f, l.w.Today)
		if err != api.OK || stage < l.stages[f.Id] {
			l.t.Errorf("%v was of stage %d and is of stage %d, with error %d", f, l.stages[f.Id], stage, err)
		}
		l.stages[f.Id] = stage
	}
}

// tidy tidies the world, and returns how many fails are done.
func (l *life) tidy() int {
	before := l.w
	w, done, err := cycle.Tidy(before)
	l.take(w, err)
	isDone := func(f api.Fail) bool { return open(f) == 0 }
	if slices.ContainsFunc(w.Fails, isDone) || len(w.Fails)+len(done) != len(before.Fails) {
		l.t.Errorf("Tidy(%v) = %v, %v", before, w, done)
	}
	for _, f := range before.Fails {
		if isDone(f) != slices.Contains(done, f) || isDone(f) == slices.Contains(w.Fails, f) {
			l.t.Errorf("Tidy(%v) = %v, %v", before, w, done)
		}
	}
	return len(done)
}

// TestS2S3EachFailEnds adds fails, delivers some of their units, and waits until the last one has been paid.
func TestS2S3EachFailEnds(t *testing.T) {
	for seed := range 20 {
		l := life{question: ask(), t: t, random: rand.New(rand.NewSource(int64(seed))), stages: map[int]int{}}
		ended := 0
		for id := 1; id <= 100; id++ {
			l.add(id)
			for range l.random.Intn(3) {
				l.deliver()
			}
			if l.random.Intn(3) == 0 {
				l.night()
				ended += l.tidy()
			}
		}
		for range 20 { // no class has more steps than 13
			l.night()
		}
		if ended += l.tidy(); ended != 100 || len(l.w.Fails) != 0 {
			t.Errorf("%d of 100 fails have ended, and these are there: %v", ended, l.w.Fails)
		}
		if err := book.Lines(l.w.Book); err != api.OK {
			t.Errorf("in the end the book has error %d", err)
		}
	}
}

func TestP1NothingBesideAnError(t *testing.T) {
	numbers := []int{math.MinInt, -1, 0, 1, 7, 20, 21, 30, 31, scale, scale + 1, million, monday, monday + 2, last, last + 1, maxUnits + 1, maxPrice + 1, top, math.MaxInt}
	for _, a := range numbers {
		for _, b := range numbers {
			for field := range 8 {
				q := askAll()
				q.id, q.units = a, b
				*[]*int{&q.r.Extra, &q.w.Today, &q.r.Terms[0].Buy, &q.w.Fails[0].Day, &q.w.Fails[0].Units, &q.prices[9], &q.w.Fails[0].Paper, &q.r.Cal.Weekend}[field] = a
				q.f.Day, q.f.Paper = b, a
				if w, l, err := q.night(); err != api.OK && (!isZero(w) || len(l) != 0) {
					t.Errorf("Night(%v) = %v, %v with error %d", q, w, l, err)
				}
				if w, err := cycle.Deliver(q.w, q.id, q.units); err != api.OK && !isZero(w) {
					t.Errorf("Deliver(%v) = %v with error %d", q, w, err)
				}
				if w, err := cycle.Add(q.w, q.f); err != api.OK && !isZero(w) {
					t.Errorf("Add(%v) = %v with error %d", q, w, err)
				}
				if w, l, err := cycle.Tidy(q.w); err != api.OK && (!isZero(w) || len(l) != 0) {
					t.Errorf("Tidy(%v) = %v, %v with error %d", q, w, l, err)
				}
			}
		}
	}
}

// long is a question whose lists have something behind their lengths.
func long() question {
	q := ask(owing(7, 0, 10, monday), between(owing(8, 1, 10, monday), 4, 3), become(owing(9, 1, 1, monday), 3000, 0, 0), owing(8, 0, 0, 0))
	q.r.Cal.Holidays = []int{monday + 1, monday + 9, 77, 77}
	q.r.Terms = append(q.r.Terms, api.Terms{Rate: -1})
	q.w.Book = append(pay(1, -5, 2, 5), pay(77, 77)...)
	q.prices = append(q.prices, -1)
	return q
}

// spoil overwrites all memory of a world: what shares it would show this.
func spoil(w api.World) {
	clear(w.Fails[:cap(w.Fails)])
	clear(w.Book[:cap(w.Book)])
}

func TestP2ListsAreOnlyReadAndResultsAreNew(t *testing.T) {
	whole, want := long(), long()
	q := whole
	q.r.Cal.Holidays, q.r.Terms, q.prices = q.r.Cal.Holidays[:2], q.r.Terms[:6], q.prices[:20]
	q.w.Fails, q.w.Book = q.w.Fails[:3], q.w.Book[:2]
	a, b, c := q.w.Fails[0], q.w.Fails[1], q.w.Fails[2]
	lines := pay(1, -5, 2, 5)
	for range 2 {
		w, l, err := q.night()
		posted := pay(1, -3, 2, 3, 3, 30, 4, -30, 4, -31500, 3, 31500)
		if !sameWorld(w, api.World{Today: monday + 3, Fails: []api.Fail{a, become(b, 0, 0, 3000), c}, Book: pay(1, -8, 2, 8, 3, 31530, 4, -31530)}) || !slices.Equal(l, posted) || err != api.OK {
			t.Errorf("Night = %v, %v, %d", w, l, err)
		}
		spoil(w)
		if !slices.Equal(l, posted) {
			t.Errorf("after a change of the book the postings are %v", l)
		}
		clear(l[:cap(l)])
		w, err = cycle.Deliver(q.w, 7, 10)
		if !sameWorld(w, api.World{Today: monday + 2, Fails: []api.Fail{become(a, 10, 0, 0), b, c}, Book: post(1, 0, -5, 1, 10, -10, 2, 0, 5, 2, 10, 10)}) || err != api.OK {
			t.Errorf("Deliver = %v, %d", w, err)
		}
		spoil(w)
		added := owing(5, 0, 1, monday)
		w, err = cycle.Add(q.w, added)
		if !sameWorld(w, api.World{Today: monday + 2, Fails: []api.Fail{a, b, c, added}, Book: lines}) || err != api.OK {
			t.Errorf("Add = %v, %d", w, err)
		}
		spoil(w)
		w, done, err := cycle.Tidy(q.w)
		if !sameWorld(w, api.World{Today: monday + 2, Fails: []api.Fail{a, b}, Book: lines}) || !slices.Equal(done, []api.Fail{c}) || err != api.OK {
			t.Errorf("Tidy = %v, %v, %d", w, done, err)
		}
		spoil(w)
		if !slices.Equal(done, []api.Fail{c}) {
			t.Errorf("after a change of the fails those that are done are %v", done)
		}
		clear(done[:cap(done)])
	}
	if !sameWorld(whole.w, want.w) || !slices.Equal(whole.r.Cal.Holidays, want.r.Cal.Holidays) || !slices.Equal(whole.r.Terms, want.r.Terms) || !slices.Equal(whole.prices, want.prices) {
		t.Errorf("after the calls the lists and what is behind them are %v", whole)
	}
}

// TestP2WhatDoesNotChangeIsNewToo has calls that change no fail and no line, and results without elements.
func TestP2WhatDoesNotChangeIsNewToo(t *testing.T) {
	all := []api.Fail{owing(7, 0, 10, monday), owing(8, 0, 10, monday)}
	lines := pay(1, -5, 2, 5, 3, 1, 4, -1)
	for many := range 3 {
		q := ask(all[:many]...)
		q.w.Today, q.w.Book = monday, lines[:2*many]
		night, _, _ := q.night()
		tidy, _, _ := cycle.Tidy(q.w)
		spoil(night)
		spoil(tidy)
	}
	if !slices.Equal(all, []api.Fail{owing(7, 0, 10, monday), owing(8, 0, 10, monday)}) || !slices.Equal(lines, pay(1, -5, 2, 5, 3, 1, 4, -1)) {
		t.Errorf("after changes of results the arguments are %v, %v", all, lines)
	}
}

func TestP3CallsDoNotSeeEarlierOnes(t *testing.T) {
	q := askAll()
	for range 3 {
		for _, c := range []struct{ units, amount int }{{3000, 3}, {2000, 2}} {
			q.w.Fails[0].Units = c.units // a world that was kept would show here
			if w, l, err := q.night(); !slices.Equal(w.Fails, q.w.Fails) || !slices.Equal(l, pay(1, -c.amount, 2, c.amount)) || err != api.OK {
				t.Errorf("Night of %d units = %v, %v, %d", c.units, w, l, err)
			}
			if w, err := cycle.Deliver(q.w, 7, c.amount); !slices.Equal(w.Book, post(1, 10, -c.amount, 2, 10, c.amount)) || err != api.OK {
				t.Errorf("Deliver of %d = %v, %d", c.amount, w, err)
			}
			if w, err := cycle.Add(q.w, q.f); !slices.Equal(w.Fails, []api.Fail{q.w.Fails[0], q.f}) || err != api.OK {
				t.Errorf("Add = %v, %d", w, err)
			}
			if w, done, err := cycle.Tidy(q.w); !sameWorld(w, q.w) || len(done) != 0 || err != api.OK {
				t.Errorf("Tidy = %v, %v, %d", w, done, err)
			}
		}
	}
}

func TestP4LongLists(t *testing.T) {
	const many = 1 << 22
	for _, c := range []struct {
		name   string
		change func(q *question)
		world  api.Errno
		night  api.Errno
	}{
		{"holidays", func(q *question) { q.r.Cal.Holidays = make([]int, many) }, api.OK, api.ErrMany},
		{"terms", func(q *question) { q.r.Terms = make([]api.Terms, many) }, api.OK, api.ErrForm},
		{"fails", func(q *question) { q.w.Fails = make([]api.Fail, many) }, api.ErrMany, api.ErrMany},
		{"lines", func(q *question) { q.w.Book = make([]api.Posting, many) }, api.ErrMany, api.ErrMany},
		{"prices", func(q *question) { q.prices = make([]int, many) }, api.OK, api.ErrForm},
	} {
		q := askAll()
		c.change(&q)
		_, ofDeliver := cycle.Deliver(q.w, q.id, q.units)
		_, ofAdd := cycle.Add(q.w, q.f)
		_, _, ofTidy := cycle.Tidy(q.w)
		if ofCheck := cycle.Check(q.w); ofCheck != c.world || ofDeliver != c.world || ofAdd != c.world || ofTidy != c.world {
			t.Errorf("%s: errors of Check, Deliver, Add and Tidy are %d, %d, %d, %d; want %d", c.name, ofCheck, ofDeliver, ofAdd, ofTidy, c.world)
		}
		if w, l, err := q.night(); !isZero(w) || len(l) != 0 || err != c.night {
			t.Errorf("%s: Night = %v, %v, %d; want error %d", c.name, w, l, err, c.night)
		}
	}
}
