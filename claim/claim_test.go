package claim_test

import (
	"math"
	"math/big"
	"math/rand"
	"slices"
	"testing"

	"demurrage/api"
	"demurrage/book"
	"demurrage/claim"
	"demurrage/fail"
	"demurrage/net"
)

const (
	maxUnits = 1 << 30
	maxPrice = 1 << 40
	maxRatio = 1000
	mostCash = 118059162071741130 // of the greatest numbers
)

// edges are the numbers around every limit of the chapter, and the outermost ones.
var edges = []int{
	math.MinInt, -1, 0, 1, 2, 3, 19, 20, 21, maxRatio - 1, maxRatio, maxRatio + 1, 9999, 10000, 10001, 123456789,
	maxUnits - 1, maxUnits, maxUnits + 1, maxPrice - 1, maxPrice, maxPrice + 1, math.MaxInt,
}

// brings is an event of paper 3.
func brings(cash, gives, of int) api.Event {
	return api.Event{Paper: 3, Cash: cash, Gives: gives, Of: of}
}

// ofPaper is an event of another paper.
func ofPaper(paper int, v api.Event) api.Event {
	v.Paper = paper
	return v
}

// owing is a fail of units of a paper, from party 1 to party 2.
func owing(id, paper, units int) api.Fail {
	return api.Fail{Id: id, From: 1, To: 2, Class: 1, Paper: paper, Day: 739935, Units: units}
}

// between is a fail with other parties.
func between(f api.Fail, from, to int) api.Fail {
	f.From, f.To = from, to
	return f
}

// become is a fail after some of its units were delivered, bought and paid.
func become(f api.Fail, delivered, bought, paid int) api.Fail {
	f.Delivered, f.Bought, f.Paid = delivered, bought, paid
	return f
}

// list makes dues from triples of from, to and amount.
func list(numbers ...int) []api.Due {
	var l []api.Due
	for t := range slices.Chunk(numbers, 3) {
		l = append(l, api.Due{From: t[0], To: t[1], Amount: t[2]})
	}
	return l
}

// post makes postings from triples of account, unit and amount.
func post(numbers ...int) []api.Posting {
	var l []api.Posting
	for t := range slices.Chunk(numbers, 3) {
		l = append(l, api.Posting{Account: t[0], Unit: t[1], Amount: t[2]})
	}
	return l
}

// wantCheck checks an event anew.
func wantCheck(v api.Event) api.Errno {
	if v.Paper <= 0 || v.Paper >= 21 || v.Cash <= -1 || v.Cash-1 >= maxPrice {
		return api.ErrRange
	}
	if v.Gives <= -1 || v.Gives >= 1001 || v.Of <= -1 || v.Of >= 1001 {
		return api.ErrRange
	}
	if v.Gives == 0 && v.Of == 0 && v.Cash > 0 || v.Gives > 0 && v.Of > 0 {
		return api.OK
	}
	return api.ErrForm
}

// wantUnits is the error of an event and a number of units.
func wantUnits(v api.Event, units int) api.Errno {
	if e := wantCheck(v); e != api.OK {
		return e
	}
	if units < 0 || units > maxUnits {
		return api.ErrRange
	}
	return api.OK
}

// divided is a times b divided by c, rounded down, and the remainder, for numbers of any size from 0 on.
func divided(a, b, c int) (int, int) {
	product := new(big.Int).Mul(big.NewInt(int64(a)), big.NewInt(int64(b)))
	quotient, remainder := new(big.Int).QuoRem(product, big.NewInt(int64(c)), new(big.Int))
	return int(quotient.Int64()), int(remainder.Int64())
}

// wantCash computes Cash anew.
func wantCash(v api.Event, units int) (int, api.Errno) {
	if e := wantUnits(v, units); e != api.OK {
		return 0, e
	}
	cash, _ := divided(units, v.Cash, 10000)
	return cash, api.OK
}

// wantFresh computes Fresh anew.
func wantFresh(v api.Event, units int) (int, int, api.Errno) {
	if e := wantUnits(v, units); e != api.OK || v.Of == 0 {
		return 0, 0, e
	}
	papers, rest := divided(units, v.Gives, v.Of)
	return papers, rest, api.OK
}

// open is how many units of a fail are open that are of the paper of an event.
func open(v api.Event, f api.Fail) int {
	if f.Paper != v.Paper {
		return 0
	}
	return f.Units - f.Delivered - f.Bought - f.Paid
}

// wantClaims computes Claims anew, for an event and fails without an error.
func wantClaims(v api.Event, l []api.Fail) ([]api.Due, []api.Posting) {
	var dues []api.Due
	var postings []api.Posting
	for _, f := range l {
		if cash, _ := wantCash(v, open(v, f)); cash != 0 {
			dues = append(dues, list(f.From, f.To, cash)...)
		}
		if papers, _, _ := wantFresh(v, open(v, f)); papers != 0 {
			postings = append(postings, post(f.From, f.Paper, -papers, f.To, f.Paper, papers)...)
		}
	}
	return dues, postings
}

// wantGrow computes Grow anew, for an event and fails without an error.
func wantGrow(v api.Event, l []api.Fail) ([]api.Fail, api.Errno) {
	var grown []api.Fail
	for _, f := range l {
		papers, _, _ := wantFresh(v, open(v, f))
		if f.Units > maxUnits-papers {
			return nil, api.ErrWide
		}
		f.Units += papers
		grown = append(grown, f)
	}
	return grown, api.OK
}

func compareCash(t *testing.T, v api.Event, units int) {
	t.Helper()
	got, err := claim.Cash(v, units)
	if want, wantErr := wantCash(v, units); got != want || err != wantErr {
		t.Errorf("Cash(%v, %d) = %d, %d; want %d, %d", v, units, got, err, want, wantErr)
	}
}

func compareFresh(t *testing.T, v api.Event, units int) {
	t.Helper()
	papers, rest, err := claim.Fresh(v, units)
	if want, wantRest, wantErr := wantFresh(v, units); papers != want || rest != wantRest || err != wantErr {
		t.Errorf("Fresh(%v, %d) = %d, %d, %d; want %d, %d, %d", v, units, papers, rest, err, want, wantRest, wantErr)
	}
}

func compareClaims(t *testing.T, name string, v api.Event, l []api.Fail) ([]api.Due, []api.Posting) {
	t.Helper()
	dues, postings, err := claim.Claims(v, l)
	if wantDues, wantPostings := wantClaims(v, l); !slices.Equal(dues, wantDues) || !slices.Equal(postings, wantPostings) || err != api.OK {
		t.Errorf("%s: Claims(%v, %v) = %v, %v, %d; want %v, %v", name, v, l, dues, postings, err, wantDues, wantPostings)
	}
	return dues, postings
}

func compareGrow(t *testing.T, name string, v api.Event, l []api.Fail) []api.Fail {
	t.Helper()
	grown, err := claim.Grow(v, l)
	if want, wantErr := wantGrow(v, l); !slices.Equal(grown, want) || err != wantErr {
		t.Errorf("%s: Grow(%v, %v) = %v, %d; want %v, %d", name, v, l, grown, err, want, wantErr)
	}
	return grown
}

// events are checked events, with the error of Check.
var events = []struct {
	name string
	v    api.Event
	err  api.Errno
}{
	{"money", brings(5, 0, 0), api.OK},
	{"new papers", brings(0, 2, 3), api.OK},
	{"both", brings(5, 2, 3), api.OK},
	{"the least of all", ofPaper(1, brings(0, 1, 1)), api.OK},
	{"the greatest of all", ofPaper(20, brings(maxPrice, maxRatio, maxRatio)), api.OK},
	{"the least money", brings(1, 0, 0), api.OK},
	{"no paper, but money", ofPaper(0, brings(5, 2, 3)), api.ErrRange},
	{"a paper below 0", ofPaper(-1, brings(5, 2, 3)), api.ErrRange},
	{"too great a paper", ofPaper(21, brings(5, 2, 3)), api.ErrRange},
	{"money below 0", brings(-1, 2, 3), api.ErrRange},
	{"too much money", brings(maxPrice+1, 2, 3), api.ErrRange},
	{"gives less than 0", brings(5, -1, 3), api.ErrRange},
	{"gives too many", brings(5, maxRatio+1, 3), api.ErrRange},
	{"of less than 0", brings(5, 2, -1), api.ErrRange},
	{"of too many", brings(5, 2, maxRatio+1), api.ErrRange},
	{"gives, but of none", brings(5, 2, 0), api.ErrForm},
	{"gives none, but of some", brings(5, 0, 3), api.ErrForm},
	{"gives, but of none, and no money", brings(0, 2, 0), api.ErrForm},
	{"gives none, but of some, and no money", brings(0, 0, 3), api.ErrForm},
	{"nothing", brings(0, 0, 0), api.ErrForm},
	{"the zero value", api.Event{}, api.ErrRange},
	{"the paper comes before the form", ofPaper(21, brings(0, 0, 0)), api.ErrRange},
	{"the money comes before the form", brings(-1, 0, 3), api.ErrRange},
	{"what it gives comes before the form", brings(0, maxRatio+1, 0), api.ErrRange},
	{"of how many comes before the form", brings(0, 0, -1), api.ErrRange},
}

// TestQ1Check also checks that every function returns the error of Check, and before all others.
func TestQ1Check(t *testing.T) {
	for _, c := range events {
		if err := claim.Check(c.v); err != c.err || wantCheck(c.v) != c.err {
			t.Errorf("%s: Check = %d, want %d", c.name, err, c.err)
		}
		if c.err == api.OK {
			continue
		}
		for _, units := range []int{-1, 0, 7, maxUnits + 1} {
			if cash, err := claim.Cash(c.v, units); cash != 0 || err != c.err {
				t.Errorf("%s: Cash of %d = %d, %d; want error %d", c.name, units, cash, err, c.err)
			}
			if papers, rest, err := claim.Fresh(c.v, units); papers != 0 || rest != 0 || err != c.err {
				t.Errorf("%s: Fresh of %d = %d, %d, %d; want error %d", c.name, units, papers, rest, err, c.err)
			}
		}
		for _, l := range [][]api.Fail{nil, {owing(1, 3, 10)}, {owing(1, 3, maxUnits)}, {owing(1, 3, 10), owing(1, 3, 10)}, make([]api.Fail, 61)} {
			if dues, postings, err := claim.Claims(c.v, l); len(dues) != 0 || len(postings) != 0 || err != c.err {
				t.Errorf("%s: Claims of %v = %v, %v, %d; want error %d", c.name, l, dues, postings, err, c.err)
			}
			if grown, err := claim.Grow(c.v, l); len(grown) != 0 || err != c.err {
				t.Errorf("%s: Grow of %v = %v, %d; want error %d", c.name, l, grown, err, c.err)
			}
		}
	}
}

func TestQ1CheckOfAllEdges(t *testing.T) {
	for _, paper := range edges {
		for _, cash := range edges {
			for _, gives := range edges {
				for _, of := range edges {
					v := ofPaper(paper, brings(cash, gives, of))
					if err := claim.Check(v); err != wantCheck(v) {
						t.Errorf("Check(%v) = %d, want %d", v, err, wantCheck(v))
					}
				}
			}
		}
	}
}

func TestQ2Cash(t *testing.T) {
	for _, c := range []struct {
		name  string
		v     api.Event
		units int
		want  int
		err   api.Errno
	}{
		{"a quarter for each", brings(2500, 0, 0), 100, 25, api.OK},
		{"rounded down", brings(2500, 0, 0), 103, 25, api.OK},
		{"just one more", brings(2500, 0, 0), 104, 26, api.OK},
		{"less than one", brings(9999, 0, 0), 1, 0, api.OK},
		{"just one", brings(10000, 0, 0), 1, 1, api.OK},
		{"beside new papers", brings(2500, 2, 3), 100, 25, api.OK},
		{"only new papers", brings(0, 2, 3), 100, 0, api.OK},
		{"of no units", brings(2500, 2, 3), 0, 0, api.OK},
		{"of the greatest numbers", brings(maxPrice, 0, 0), maxUnits, mostCash, api.OK},
		{"of the other papers, too", ofPaper(20, brings(10000, 0, 0)), 7, 7, api.OK},
		{"units below 0", brings(2500, 0, 0), -1, 0, api.ErrRange},
		{"too many units", brings(2500, 0, 0), maxUnits + 1, 0, api.ErrRange},
		{"too many units, for new papers only", brings(0, 2, 3), maxUnits + 1, 0, api.ErrRange},
		{"the event comes before the units", brings(0, 2, 0), -1, 0, api.ErrForm},
	} {
		if cash, err := claim.Cash(c.v, c.units); cash != c.want || err != c.err {
			t.Errorf("%s: Cash = %d, %d; want %d, %d", c.name, cash, err, c.want, c.err)
		}
		compareCash(t, c.v, c.units)
	}
}

func TestQ2Fresh(t *testing.T) {
	for _, c := range []struct {
		name         string
		v            api.Event
		units        int
		papers, rest int
		err          api.Errno
	}{
		{"two for three", brings(0, 2, 3), 99, 66, 0, api.OK},
		{"with a remainder", brings(0, 2, 3), 100, 66, 2, api.OK},
		{"with another remainder", brings(0, 2, 3), 101, 67, 1, api.OK},
		{"three for two", brings(0, 3, 2), 5, 7, 1, api.OK},
		{"one for one", brings(0, 1, 1), 5, 5, 0, api.OK},
		{"many for many, which is not shortened", brings(0, 400, 600), 100, 66, 400, api.OK},
		{"too few for a new one", brings(0, 1, 1000), 999, 0, 999, api.OK},
		{"just enough for a new one", brings(0, 1, 1000), 1000, 1, 0, api.OK},
		{"beside money", brings(5, 2, 3), 100, 66, 2, api.OK},
		{"only money", brings(5, 0, 0), 100, 0, 0, api.OK},
		{"of no units", brings(5, 2, 3), 0, 0, 0, api.OK},
		{"of the greatest numbers", brings(0, maxRatio, 1), maxUnits, maxUnits * maxRatio, 0, api.OK},
		{"of the greatest ratio", brings(0, maxRatio, maxRatio-1), maxUnits, 1074816640, 640, api.OK},
		{"units below 0", brings(0, 2, 3), -1, 0, 0, api.ErrRange},
		{"too many units", brings(0, 2, 3), maxUnits + 1, 0, 0, api.ErrRange},
		{"too many units, for money only", brings(5, 0, 0), maxUnits + 1, 0, 0, api.ErrRange},
		{"units below 0, for money only", brings(5, 0, 0), -1, 0, 0, api.ErrRange},
		{"the event comes before the units", brings(0, 0, 0), maxUnits + 1, 0, 0, api.ErrForm},
	} {
		if papers, rest, err := claim.Fresh(c.v, c.units); papers != c.papers || rest != c.rest || err != c.err {
			t.Errorf("%s: Fresh = %d, %d, %d; want %d, %d, %d", c.name, papers, rest, err, c.papers, c.rest, c.err)
		}
		compareFresh(t, c.v, c.units)
	}
}

func TestQ2CashAndFreshOfAllEdges(t *testing.T) {
	for _, units := range edges {
		for _, a := range edges {
			for _, b := range edges {
				for _, v := range []api.Event{brings(a, b, 7), brings(5, a, b), ofPaper(a, brings(b, 0, 0)), brings(0, a, b)} {
					compareCash(t, v, units)
					compareFresh(t, v, units)
				}
			}
		}
	}
}

func TestQ3Claims(t *testing.T) {
	both := brings(2500, 2, 3)
	for _, c := range []struct {
		name     string
		v        api.Event
		l        []api.Fail
		dues     []api.Due
		postings []api.Posting
	}{
		{"no fails", both, nil, nil, nil},
		{"money", brings(2500, 0, 0), []api.Fail{owing(1, 3, 100)}, list(1, 2, 25), nil},
		{"new papers", brings(0, 2, 3), []api.Fail{owing(1, 3, 100)}, nil, post(1, 3, -66, 2, 3, 66)},
		{"both", both, []api.Fail{owing(1, 3, 100)}, list(1, 2, 25), post(1, 3, -66, 2, 3, 66)},
		{"to a party with a lesser number", both, []api.Fail{between(owing(1, 3, 100), 30, 0)}, list(30, 0, 25), post(30, 3, -66, 0, 3, 66)},
		{"only of what is open", both, []api.Fail{become(owing(1, 3, 100), 10, 20, 30)}, list(1, 2, 10), post(1, 3, -26, 2, 3, 26)},
		{"of another paper", both, []api.Fail{owing(1, 2, 100), owing(2, 4, 100)}, nil, nil},
		{"of the first paper", ofPaper(1, both), []api.Fail{owing(1, 1, 100), owing(2, 20, 100)}, list(1, 2, 25), post(1, 1, -66, 2, 1, 66)},
		{"of the last paper", ofPaper(20, both), []api.Fail{owing(1, 1, 100), owing(2, 20, 100)}, list(1, 2, 25), post(1, 20, -66, 2, 20, 66)},
		{"all are delivered", both, []api.Fail{become(owing(1, 3, 100), 100, 0, 0)}, nil, nil},
		{"all are delivered, bought or paid", both, []api.Fail{become(owing(1, 3, 100), 50, 30, 20)}, nil, nil},
		{"too few for money", both, []api.Fail{owing(1, 3, 3)}, nil, post(1, 3, -2, 2, 3, 2)},
		{"just enough for money", both, []api.Fail{owing(1, 3, 4)}, list(1, 2, 1), post(1, 3, -2, 2, 3, 2)},
		{"too few for new papers", both, []api.Fail{owing(1, 3, 1)}, nil, nil},
		{"just enough for a new paper", both, []api.Fail{owing(1, 3, 2)}, nil, post(1, 3, -1, 2, 3, 1)},
		{"enough for money, but not for new papers", brings(10000, 1, 1000), []api.Fail{owing(1, 3, 999)}, list(1, 2, 999), nil},
		{"each fail by itself", both, []api.Fail{owing(1, 3, 3), owing(2, 3, 3)}, nil, post(1, 3, -2, 2, 3, 2, 1, 3, -2, 2, 3, 2)},
		{
			"in the order of the list", both,
			[]api.Fail{owing(9, 3, 100), between(owing(4, 3, 8), 7, 5), owing(5, 2, 100), become(owing(2, 3, 5), 5, 0, 0), between(owing(6, 3, 40), 2, 1)},
			list(1, 2, 25, 7, 5, 2, 2, 1, 10),
			post(1, 3, -66, 2, 3, 66, 7, 3, -5, 5, 3, 5, 2, 3, -26, 1, 3, 26),
		},
		{"the greatest numbers", brings(maxPrice, maxRatio, 1), []api.Fail{owing(1, 3, maxUnits)}, list(1, 2, mostCash), post(1, 3, -maxUnits*maxRatio, 2, 3, maxUnits*maxRatio)},
	} {
		dues, postings, err := claim.Claims(c.v, c.l)
		if !slices.Equal(dues, c.dues) || !slices.Equal(postings, c.postings) || err != api.OK {
			t.Errorf("%s: Claims = %v, %v, %d; want %v, %v", c.name, dues, postings, err, c.dues, c.postings)
		}
		compareClaims(t, c.name, c.v, c.l)
	}
}

// TestQ3ClaimsOfAsManyFailsAsMayBe has more postings than can be posted at once, for which the chapter names no error.
func TestQ3ClaimsOfAsManyFailsAsMayBe(t *testing.T) {
	var l []api.Fail
	for id := 1; id <= 60; id++ {
		l = append(l, owing(id, 3, maxUnits))
	}
	dues, postings := compareClaims(t, "as many as may be", brings(maxPrice, maxRatio, 1), l)
	if len(dues) != 60 || len(postings) != 120 {
		t.Errorf("there are %d dues and %d postings", len(dues), len(postings))
	}
}

// badFails are lists of fails of paper 3 with an error.
var badFails = []struct {
	name string
	l    []api.Fail
	err  api.Errno
}{
	{"too many", make([]api.Fail, 61), api.ErrMany},
	{"one that is none", []api.Fail{owing(1, 3, 100), {}}, api.ErrRange},
	{"no units", []api.Fail{owing(1, 3, 0)}, api.ErrRange},
	{"too many units", []api.Fail{owing(1, 3, maxUnits+1)}, api.ErrRange},
	{"one of one party", []api.Fail{owing(1, 3, 100), between(owing(2, 3, 100), 2, 2)}, api.ErrForm},
	{"too much is delivered and bought", []api.Fail{become(owing(1, 3, 100), 50, 51, 0)}, api.ErrState},
	{"too much of another paper is delivered and bought", []api.Fail{owing(1, 3, 100), become(owing(2, 4, 100), 50, 51, 0)}, api.ErrState},
	{"one twice", []api.Fail{owing(1, 3, 100), owing(1, 3, 100)}, api.ErrTwice},
	{"one of another paper twice", []api.Fail{owing(1, 4, 100), owing(2, 3, 100), owing(1, 4, 7)}, api.ErrTwice},
	{"one with too many units, and another one twice", []api.Fail{owing(1, 3, maxUnits), owing(2, 4, 1), owing(2, 4, 1)}, api.ErrTwice},
}

func TestQ3Q4ErrorsOfFails(t *testing.T) {
	for _, c := range badFails {
		for _, v := range []api.Event{brings(2500, 2, 3), brings(5, 0, 0), brings(0, maxRatio, 1), ofPaper(7, brings(5, 1, 1))} {
			if dues, postings, err := claim.Claims(v, c.l); len(dues) != 0 || len(postings) != 0 || err != c.err {
				t.Errorf("%s: Claims of %v = %v, %v, %d; want error %d", c.name, v, dues, postings, err, c.err)
			}
			if grown, err := claim.Grow(v, c.l); len(grown) != 0 || err != c.err {
				t.Errorf("%s: Grow of %v = %v, %d; want error %d", c.name, v, grown, err, c.err)
			}
		}
	}
}

func TestQ4Grow(t *testing.T) {
	part := become(owing(1, 3, 100), 10, 20, 30)
	grownPart := part
	grownPart.Units = 126
	for _, c := range []struct {
		name string
		v    api.Event
		l    []api.Fail
		want []api.Fail
		err  api.Errno
	}{
		{"no fails", brings(0, 2, 3), nil, nil, api.OK},
		{"one", brings(0, 2, 3), []api.Fail{owing(1, 3, 100)}, []api.Fail{owing(1, 3, 166)}, api.OK},
		{"beside money", brings(5, 2, 3), []api.Fail{owing(1, 3, 100)}, []api.Fail{owing(1, 3, 166)}, api.OK},
		{"only money", brings(5, 0, 0), []api.Fail{owing(1, 3, 100), owing(2, 3, maxUnits)}, []api.Fail{owing(1, 3, 100), owing(2, 3, maxUnits)}, api.OK},
		{"only by what is open", brings(0, 2, 3), []api.Fail{part}, []api.Fail{grownPart}, api.OK},
		{"all are delivered", brings(0, 2, 3), []api.Fail{become(owing(1, 3, 100), 100, 0, 0)}, []api.Fail{become(owing(1, 3, 100), 100, 0, 0)}, api.OK},
		{"too few for a new one", brings(0, 1, 1000), []api.Fail{owing(1, 3, 999)}, []api.Fail{owing(1, 3, 999)}, api.OK},
		{"just enough for a new one", brings(0, 1, 1000), []api.Fail{owing(1, 3, 1000)}, []api.Fail{owing(1, 3, 1001)}, api.OK},
		{
			"in the order of the list, with those of other papers", brings(0, 1, 2),
			[]api.Fail{owing(9, 3, 10), owing(4, 2, 10), between(owing(5, 3, 7), 8, 6), owing(1, 20, 5)},
			[]api.Fail{owing(9, 3, 15), owing(4, 2, 10), between(owing(5, 3, 10), 8, 6), owing(1, 20, 5)}, api.OK,
		},
		{"as many units as may be", brings(0, 1, 1), []api.Fail{owing(1, 3, maxUnits/2)}, []api.Fail{owing(1, 3, maxUnits)}, api.OK},
		{"one unit too many", brings(0, 1, 1), []api.Fail{owing(1, 3, maxUnits/2), owing(2, 3, maxUnits/2+1)}, nil, api.ErrWide},
		{"one unit too many, of which all but one are delivered", brings(0, 1, 1), []api.Fail{become(owing(1, 3, maxUnits), maxUnits-1, 0, 0)}, nil, api.ErrWide},
		{"all units that may be, of which all are delivered", brings(0, 1, 1), []api.Fail{become(owing(1, 3, maxUnits), maxUnits, 0, 0)}, []api.Fail{become(owing(1, 3, maxUnits), maxUnits, 0, 0)}, api.OK},
		{"all units that may be, and too few for a new one", brings(0, 1, 1000), []api.Fail{become(owing(1, 3, maxUnits), maxUnits-999, 0, 0)}, []api.Fail{become(owing(1, 3, maxUnits), maxUnits-999, 0, 0)}, api.OK},
		{"all units that may be, of another paper", brings(0, 1, 1), []api.Fail{owing(1, 4, maxUnits)}, []api.Fail{owing(1, 4, maxUnits)}, api.OK},
		{"many units too many", brings(0, maxRatio, 1), []api.Fail{owing(1, 3, 1), owing(2, 3, maxUnits)}, nil, api.ErrWide},
	} {
		if grown, err := claim.Grow(c.v, c.l); !slices.Equal(grown, c.want) || err != c.err {
			t.Errorf("%s: Grow = %v, %d; want %v, %d", c.name, grown, err, c.want, c.err)
		}
		compareGrow(t, c.name, c.v, c.l)
	}
}

// draw draws an event and fails, without an error.
func draw(r *rand.Rand) (api.Event, []api.Fail) {
	v := api.Event{Paper: 1 + r.Intn(3), Cash: 1 + r.Intn(maxPrice)>>r.Intn(40)}
	if r.Intn(4) > 0 {
		v.Gives, v.Of = 1+r.Intn(maxRatio)>>r.Intn(10), 1+r.Intn(maxRatio)>>r.Intn(10)
		v.Cash *= r.Intn(2)
	}
	var l []api.Fail
	for id := range r.Intn(61) {
		f := owing(id+1, 1+r.Intn(3), 1+r.Intn(maxUnits)>>(10+r.Intn(20)))
		f.From = r.Intn(31)
		f.To = (f.From + 1 + r.Intn(30)) % 31
		f.Delivered = r.Intn(f.Units + 1)
		f.Bought = r.Intn(f.Units - f.Delivered + 1)
		f.Paid = r.Intn(f.Units-f.Delivered-f.Bought+1) >> r.Intn(2)
		l = append(l, f)
	}
	return v, l
}

// TestQ3Q4WhatIsClaimedIsOwedThen also checks that claims go into a book, and that dues can be netted.
func TestQ3Q4WhatIsClaimedIsOwedThen(t *testing.T) {
	r := rand.New(rand.NewSource(1))
	booked, netted := 0, 0
	for range 3000 {
		v, l := draw(r)
		dues, postings := compareClaims(t, "drawn", v, l)
		grown := compareGrow(t, "drawn", v, l)
		claimed, b := 0, []api.Posting(nil)
		for some := range slices.Chunk(postings, 60) {
			var err api.Errno
			if b, err = book.Post(b, some); err != api.OK {
				t.Errorf("Post(%v) has error %d", some, err)
			}
			for _, p := range some {
				claimed += max(0, p.Amount)
			}
		}
		more := 0
		for i, f := range grown {
			if open(v, f) < open(v, l[i]) || f.Delivered != l[i].Delivered || f.Bought != l[i].Bought || f.Paid != l[i].Paid {
				t.Errorf("%v became %v", l[i], f)
			}
			more += open(v, f) - open(v, l[i])
		}
		if len(grown) == len(l) && more != claimed {
			t.Errorf("%d papers are claimed, and %d more are owed", claimed, more)
		}
		if err := fail.Checks(grown); err != api.OK {
			t.Errorf("what has grown to %v has error %d", grown, err)
		}
		if _, err := net.Stand(dues); err != api.OK && err != api.ErrWide {
			t.Errorf("Stand(%v) has error %d", dues, err)
		}
		booked, netted = booked+min(1, len(b)), netted+min(1, len(dues))
	}
	if booked < 1000 || netted < 1000 {
		t.Errorf("only %d of the drawn events gave papers, and %d money", booked, netted)
	}
}

// TestQ2NothingIsLost checks that units are divided into new papers and a remainder.
func TestQ2NothingIsLost(t *testing.T) {
	r := rand.New(rand.NewSource(2))
	for range 20000 {
		v := brings(0, 1+r.Intn(maxRatio)>>r.Intn(10), 1+r.Intn(maxRatio)>>r.Intn(10))
		units := r.Intn(maxUnits+1) >> r.Intn(30)
		papers, rest, err := claim.Fresh(v, units)
		if papers*v.Of+rest != units*v.Gives || rest < 0 || rest >= v.Of || err != api.OK {
			t.Errorf("Fresh(%v, %d) = %d, %d, %d", v, units, papers, rest, err)
		}
	}
}

func TestP1NothingBesideAnError(t *testing.T) {
	for _, a := range edges {
		for _, b := range edges {
			for _, c := range edges {
				v := brings(a, b, 7)
				if cash, err := claim.Cash(v, c); err != api.OK && cash != 0 {
					t.Errorf("Cash(%v, %d) = %d with error %d", v, c, cash, err)
				}
				if papers, rest, err := claim.Fresh(v, c); err != api.OK && (papers != 0 || rest != 0) {
					t.Errorf("Fresh(%v, %d) = %d, %d with error %d", v, c, papers, rest, err)
				}
				l := []api.Fail{owing(1, 3, 100), become(owing(2, 3, maxUnits), c, 0, 0)}
				if dues, postings, err := claim.Claims(v, l); err != api.OK && (len(dues) != 0 || len(postings) != 0) {
					t.Errorf("Claims(%v, %v) = %v, %v with error %d", v, l, dues, postings, err)
				}
				if grown, err := claim.Grow(v, l); err != api.OK && len(grown) != 0 {
					t.Errorf("Grow(%v, %v) = %v with error %d", v, l, grown, err)
				}
			}
		}
	}
}

func TestP2ListsAreOnlyReadAndResultsAreNew(t *testing.T) {
	fresh := func() []api.Fail {
		return []api.Fail{owing(1, 3, 100), between(owing(2, 3, 8), 7, 5), owing(3, 3, 10), owing(3, 3, 10)}
	}
	whole, v := fresh(), brings(2500, 2, 3)
	for range 2 {
		dues, postings, err := claim.Claims(v, whole[:2])
		if !slices.Equal(dues, list(1, 2, 25, 7, 5, 2)) || !slices.Equal(postings, post(1, 3, -66, 2, 3, 66, 7, 3, -5, 5, 3, 5)) || err != api.OK {
			t.Errorf("Claims = %v, %v, %d", dues, postings, err)
		}
		grown, err := claim.Grow(v, whole[:2])
		if !slices.Equal(grown, []api.Fail{owing(1, 3, 166), between(owing(2, 3, 13), 7, 5)}) || err != api.OK {
			t.Errorf("Grow = %v, %d", grown, err)
		}
		clear(dues[:cap(dues)]) // results that shared memory would show in the next round
		clear(postings[:cap(postings)])
		clear(grown[:cap(grown)])
		same, _ := claim.Grow(brings(5, 0, 0), whole[:2]) // what does not change is new, too
		clear(same[:cap(same)])
		none, _ := claim.Grow(v, whole[:0])
		clear(none[:cap(none)])
	}
	if !slices.Equal(whole, fresh()) {
		t.Errorf("after the calls the fails and those behind them are %v", whole)
	}
}

func TestP3CallsDoNotSeeEarlierOnes(t *testing.T) {
	l, v := []api.Fail{owing(1, 3, 100)}, brings(2500, 2, 3)
	for range 3 {
		for _, c := range []struct{ units, cash, papers, rest int }{{100, 25, 66, 2}, {50, 12, 33, 1}} {
			l[0].Units = c.units // fails that were kept would show here
			dues, postings, err := claim.Claims(v, l)
			if !slices.Equal(dues, list(1, 2, c.cash)) || !slices.Equal(postings, post(1, 3, -c.papers, 2, 3, c.papers)) || err != api.OK {
				t.Errorf("Claims of %d = %v, %v, %d", c.units, dues, postings, err)
			}
			if grown, err := claim.Grow(v, l); !slices.Equal(grown, []api.Fail{owing(1, 3, c.units+c.papers)}) || err != api.OK {
				t.Errorf("Grow of %d = %v, %d", c.units, grown, err)
			}
			if cash, err := claim.Cash(v, c.units); cash != c.cash || err != api.OK {
				t.Errorf("Cash of %d = %d, %d", c.units, cash, err)
			}
			if papers, rest, err := claim.Fresh(v, c.units); papers != c.papers || rest != c.rest || err != api.OK {
				t.Errorf("Fresh of %d = %d, %d, %d", c.units, papers, rest, err)
			}
		}
	}
}

func TestP4LongLists(t *testing.T) {
	l, v := make([]api.Fail, 1<<22), brings(2500, 2, 3)
	if dues, postings, err := claim.Claims(v, l); len(dues) != 0 || len(postings) != 0 || err != api.ErrMany {
		t.Errorf("Claims = %v, %v, %d; want error %d", dues, postings, err, api.ErrMany)
	}
	if grown, err := claim.Grow(v, l); len(grown) != 0 || err != api.ErrMany {
		t.Errorf("Grow = %v, %d; want error %d", grown, err, api.ErrMany)
	}
}
