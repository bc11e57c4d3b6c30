package book_test

import (
	"math"
	"math/big"
	"math/rand"
	"slices"
	"testing"

	"demurrage/api"
	"demurrage/book"
)

const top = api.MaxSum

// edges are the numbers around every limit of the chapter, and the outermost ones.
var edges = []int{
	math.MinInt, -top - 1, -top, -101, -1, 0, 1, 19, 20, 21, 99, 100, 101, top, top + 1, math.MaxInt,
}

// list makes postings from triples of account, unit and amount.
func list(numbers ...int) []api.Posting {
	var l []api.Posting
	for t := range slices.Chunk(numbers, 3) {
		l = append(l, api.Posting{Account: t[0], Unit: t[1], Amount: t[2]})
	}
	return l
}

// join makes one list of several ones.
func join(lists ...[]api.Posting) []api.Posting { return slices.Concat(lists...) }

// repeat makes a list of one posting many times.
func repeat(many, account, unit, amount int) []api.Posting {
	return slices.Repeat(list(account, unit, amount), many)
}

// spread makes lines of one amount on many accounts that follow each other.
func spread(many, first, unit, amount int) []api.Posting {
	var l []api.Posting
	for i := range many {
		l = append(l, list(first+i, unit, amount)...)
	}
	return l
}

// fullBook is a book of many lines, with all units but the last on each account from 0 on.
func fullBook(many int) []api.Posting {
	var b []api.Posting
	for i := 0; i < many; i++ {
		amount := 10
		if i/api.MaxUnit%2 == 1 {
			amount = -10
		}
		b = append(b, list(i/api.MaxUnit, i%api.MaxUnit, amount)...)
	}
	return b
}

func inPlace(p api.Posting) bool {
	return p.Account >= 0 && p.Account <= 100 && p.Unit >= 0 && p.Unit <= 20
}

func isValid(p api.Posting) bool {
	return inPlace(p) && p.Amount != 0 && p.Amount >= -top && p.Amount <= top
}

// isEven computes anew, with numbers of any size, whether all units add up to 0.
func isEven(l []api.Posting) bool {
	sums := map[int]*big.Int{}
	for _, p := range l {
		if sums[p.Unit] == nil {
			sums[p.Unit] = new(big.Int)
		}
		sums[p.Unit].Add(sums[p.Unit], big.NewInt(int64(p.Amount)))
	}
	for _, s := range sums {
		if s.Sign() != 0 {
			return false
		}
	}
	return true
}

func wantCheck(l []api.Posting) api.Errno {
	switch {
	case len(l) == 0:
		return api.ErrForm
	case len(l) > 60:
		return api.ErrMany
	case slices.ContainsFunc(l, func(p api.Posting) bool { return !isValid(p) }):
		return api.ErrRange
	case !isEven(l):
		return api.ErrState
	}
	return api.OK
}

func wantLines(b []api.Posting) api.Errno {
	if len(b) > 400 {
		return api.ErrMany
	}
	for i, p := range b {
		if !isValid(p) {
			return api.ErrRange
		}
		if i > 0 && compare(b[i-1], p) >= 0 {
			return api.ErrState
		}
	}
	if !isEven(b) {
		return api.ErrState
	}
	return api.OK
}

// compare orders by account, then by unit.
func compare(a, b api.Posting) int {
	if a.Account != b.Account {
		return a.Account - b.Account
	}
	return a.Unit - b.Unit
}

// wantPost computes Post anew, with numbers of any size, for every place there is.
func wantPost(b, l []api.Posting) ([]api.Posting, api.Errno) {
	if e := wantLines(b); e != api.OK {
		return nil, e
	}
	if e := wantCheck(l); e != api.OK {
		return nil, e
	}
	amounts := map[[2]int]*big.Int{}
	for _, p := range join(b, l) {
		at := [2]int{p.Account, p.Unit}
		if amounts[at] == nil {
			amounts[at] = new(big.Int)
		}
		amounts[at].Add(amounts[at], big.NewInt(int64(p.Amount)))
	}
	var lines []api.Posting
	for at, a := range amounts {
		if new(big.Int).Abs(a).Cmp(big.NewInt(top)) > 0 {
			return nil, api.ErrWide
		}
		if a.Sign() != 0 {
			lines = append(lines, list(at[0], at[1], int(a.Int64()))...)
		}
	}
	if len(lines) > 400 {
		return nil, api.ErrMany
	}
	slices.SortFunc(lines, compare)
	return lines, api.OK
}

func comparePost(t *testing.T, name string, b, l []api.Posting) []api.Posting {
	t.Helper()
	want, wantErr := wantPost(b, l)
	got, err := book.Post(b, l)
	if !slices.Equal(got, want) || err != wantErr {
		t.Errorf("%s: Post(%v, %v) = %v, %d; want %v, %d", name, b, l, got, err, want, wantErr)
	}
	return got
}

// lists are postings with the error of Check.
var lists = []struct {
	name string
	l    []api.Posting
	err  api.Errno
}{
	{"nil", nil, api.ErrForm},
	{"empty", []api.Posting{}, api.ErrForm},
	{"two", list(1, 0, 5, 2, 0, -5), api.OK},
	{"the outermost numbers", list(0, 0, top, 100, 0, -top, 100, 20, -top, 0, 20, top), api.OK},
	{"in any order, and twice to a place", list(7, 3, 4, 2, 3, 1, 7, 3, -5), api.OK},
	{"out and back on one account", list(1, 0, 5, 1, 0, -5), api.OK},
	{"as many as may be", join(repeat(30, 1, 0, 1), repeat(30, 2, 0, -1)), api.OK},
	{"one too many", join(repeat(30, 1, 0, 1), repeat(30, 2, 0, -1), list(3, 1, 1)), api.ErrMany},
	{"too many comes before the range", make([]api.Posting, 61), api.ErrMany},
	{"account below 0", list(1, 0, 1, -1, 0, -1), api.ErrRange},
	{"account above 100", list(101, 0, 1, 2, 0, -1), api.ErrRange},
	{"unit below 0", list(1, -1, 1, 2, -1, -1), api.ErrRange},
	{"unit above 20", list(1, 21, 1, 2, 21, -1), api.ErrRange},
	{"amount 0", list(1, 0, 1, 2, 0, -1, 3, 0, 0), api.ErrRange},
	{"amount too great", list(1, 0, top+1, 2, 0, -top, 3, 0, -1), api.ErrRange},
	{"amount too small", list(1, 0, -top-1, 2, 0, top, 3, 0, 1), api.ErrRange},
	{"the range comes before the sum", list(1, 0, 1, 2, 0, 0), api.ErrRange},
	{"one alone", list(1, 0, 1), api.ErrState},
	{"no sum of 0", list(1, 0, 5, 2, 0, -4), api.ErrState},
	{"no sum of 0 in the last unit", list(1, 20, 5, 2, 20, -4), api.ErrState},
	{"units are not mixed", list(1, 0, 1, 2, 3, -1), api.ErrState},
	{"one unit comes out even, another one does not", list(1, 0, 1, 2, 0, -1, 1, 4, 3, 2, 4, -2), api.ErrState},
	{"a sum of a whole word", repeat(16, 1, 0, top), api.ErrState},
	{"a sum of a whole word below 0", repeat(16, 1, 0, -top), api.ErrState},
	{"a sum of two words and less", join(repeat(40, 1, 0, top), repeat(8, 2, 0, -top)), api.ErrState},
	{"a partial sum of more than a word", join(repeat(30, 1, 0, top), repeat(30, 2, 0, -top)), api.OK},
}

func TestG1Check(t *testing.T) {
	for _, c := range lists {
		if err := book.Check(c.l); err != c.err {
			t.Errorf("%s: Check = %d, want %d", c.name, err, c.err)
		}
	}
}

func TestG1CheckOfAllEdges(t *testing.T) {
	for _, account := range edges {
		for _, unit := range edges {
			for _, amount := range edges {
				l := list(account, unit, amount, 50, unit, -amount)
				if err := book.Check(l); err != wantCheck(l) {
					t.Errorf("Check(%v) = %d, want %d", l, err, wantCheck(l))
				}
				slices.Reverse(l)
				if err := book.Check(l); err != wantCheck(l) {
					t.Errorf("Check(%v) = %d, want %d", l, err, wantCheck(l))
				}
			}
		}
	}
}

// books are lists of lines with the error of Lines.
var books = []struct {
	name string
	b    []api.Posting
	err  api.Errno
}{
	{"nil", nil, api.OK},
	{"empty", []api.Posting{}, api.OK},
	{"two lines", list(1, 0, 5, 2, 0, -5), api.OK},
	{"several units", list(1, 0, 5, 1, 3, 7, 2, 0, -5, 4, 3, -7), api.OK},
	{"a lesser unit on a greater account", list(1, 20, 7, 2, 0, 5, 2, 20, -7, 3, 0, -5), api.OK},
	{"the outermost numbers", list(0, 0, top, 0, 20, -top, 100, 0, -top, 100, 20, top), api.OK},
	{"as many lines as may be", fullBook(400), api.OK},
	{"one line too many", append(fullBook(400), api.Posting{Account: 100, Unit: 20, Amount: 1}), api.ErrMany},
	{"too many comes before the range", make([]api.Posting, 401), api.ErrMany},
	{"account below 0", list(-1, 0, 1, 2, 0, -1), api.ErrRange},
	{"account above 100", list(1, 0, 1, 101, 0, -1), api.ErrRange},
	{"unit below 0", list(1, -1, 1, 2, -1, -1), api.ErrRange},
	{"unit above 20", list(1, 21, 1, 2, 21, -1), api.ErrRange},
	{"amount 0", list(1, 0, 0), api.ErrRange},
	{"amount too great", list(1, 0, top+1), api.ErrRange},
	{"amount too small", list(1, 0, -top-1), api.ErrRange},
	{"a place twice", list(1, 0, 5, 1, 0, -5), api.ErrState},
	{"accounts not in order", list(2, 0, 5, 1, 0, -5), api.ErrState},
	{"units not in order", list(1, 3, 5, 1, 0, 5, 2, 0, -5, 2, 3, -5), api.ErrState},
	{"sorted by unit first", list(1, 0, 5, 2, 0, -5, 1, 3, 5, 2, 3, -5), api.ErrState},
	{"of one line the range comes before the order", list(2, 0, 5, 1, 0, 0), api.ErrRange},
	{"an earlier line comes before a later one", list(2, 0, 5, 1, 0, -5, 1, 0, 0), api.ErrState},
	{"a range far behind comes before the sum", list(1, 0, 5, 2, 0, 0), api.ErrRange},
	{"no sum of 0", list(1, 0, 5), api.ErrState},
	{"no sum of 0 in the last unit", list(1, 20, 5, 2, 20, -4), api.ErrState},
	{"units are not mixed", list(1, 0, 5, 2, 3, -5), api.ErrState},
	{"a sum of a whole word", spread(16, 1, 0, top), api.ErrState},
	{"a sum of a whole word below 0", spread(16, 1, 0, -top), api.ErrState},
	{"a partial sum of more than a word", join(spread(50, 0, 0, top), spread(50, 50, 0, -top)), api.OK},
}

func TestG2Lines(t *testing.T) {
	for _, c := range books {
		if err := book.Lines(c.b); err != c.err {
			t.Errorf("%s: Lines = %d, want %d", c.name, err, c.err)
		}
	}
}

func TestG2LinesOfAllEdges(t *testing.T) {
	for _, account := range edges {
		for _, unit := range edges {
			for _, amount := range edges {
				for _, b := range [][]api.Posting{
					list(account, unit, amount, 50, unit, -amount), list(50, unit, -amount, account, unit, amount),
				} {
					if err := book.Lines(b); err != wantLines(b) {
						t.Errorf("Lines(%v) = %d, want %d", b, err, wantLines(b))
					}
				}
			}
		}
	}
}

func TestG2LinesOfTwoPlaces(t *testing.T) {
	places := []int{0, 1, 2, 19, 20}
	for _, a := range places {
		for _, u := range places {
			for _, b := range places {
				for _, v := range places {
					l := list(a, u, 1, b, v, -1, 99, 0, 1, 100, 0, -1)
					if err := book.Lines(l); err != wantLines(l) {
						t.Errorf("Lines(%v) = %d, want %d", l, err, wantLines(l))
					}
				}
			}
		}
	}
}

func TestG3Post(t *testing.T) {
	some := list(1, 0, 5, 1, 3, 7, 2, 0, -5, 4, 3, -7)
	for _, c := range []struct {
		name    string
		b, l    []api.Posting
		want    []api.Posting
		wantErr api.Errno
	}{
		{"to an empty book", nil, list(2, 0, -3, 1, 0, 3), list(1, 0, 3, 2, 0, -3), api.OK},
		{"to lines that there are", some, list(2, 0, -2, 1, 0, 2), list(1, 0, 7, 1, 3, 7, 2, 0, -7, 4, 3, -7), api.OK},
		{"new lines in between", some, list(1, 1, 9, 3, 1, -9), list(1, 0, 5, 1, 1, 9, 1, 3, 7, 2, 0, -5, 3, 1, -9, 4, 3, -7), api.OK},
		{"lines of 0 vanish", some, list(1, 0, -5, 2, 0, 5), list(1, 3, 7, 4, 3, -7), api.OK},
		{"all lines vanish", list(1, 0, 5, 2, 0, -5), list(1, 0, -5, 2, 0, 5), nil, api.OK},
		{"no line of what goes out and back", nil, list(1, 0, 5, 1, 0, -5), nil, api.OK},
		{"several to one place", some, list(1, 0, 1, 2, 0, -4, 1, 0, 3), list(1, 0, 9, 1, 3, 7, 2, 0, -9, 4, 3, -7), api.OK},
		{"up to the greatest amount", list(1, 0, 5, 2, 0, -5), list(1, 0, top-5, 3, 0, 5-top), list(1, 0, top, 2, 0, -5, 3, 0, 5-top), api.OK},
		{"one more than the greatest amount", list(1, 0, 5, 2, 0, -5), list(1, 0, top-4, 3, 0, 4-top), nil, api.ErrWide},
		{"one less than the least amount", list(1, 0, 5, 2, 0, -5), list(2, 0, 4-top, 3, 0, top-4), nil, api.ErrWide},
		{"too great just before the last posting", list(1, 0, 5, 2, 0, -5), list(1, 0, top, 3, 0, -top, 1, 0, -5, 2, 0, 5), list(1, 0, top, 3, 0, -top), api.OK},
		{"a new amount of a whole word", nil, join(repeat(16, 1, 0, top), spread(16, 2, 0, -top)), nil, api.ErrWide},
		{"a new amount of a whole word and the book's", list(1, 0, 5, 2, 0, -5), join(repeat(16, 1, 0, top), spread(16, 3, 0, -top)), nil, api.ErrWide},
		{"a partial sum of a whole word", list(1, 0, 5, 2, 0, -5), join(repeat(30, 1, 0, top), repeat(30, 1, 0, -top)), list(1, 0, 5, 2, 0, -5), api.OK},
		{"the error of the book first", list(1, 0, 5), nil, nil, api.ErrState},
		{"the error of the postings then", some, nil, nil, api.ErrForm},
	} {
		if got, err := book.Post(c.b, c.l); !slices.Equal(got, c.want) || err != c.wantErr {
			t.Errorf("%s: Post = %v, %d; want %v, %d", c.name, got, err, c.want, c.wantErr)
		}
	}
}

func TestG3PostOfAllLists(t *testing.T) {
	for _, b := range books {
		for _, l := range lists {
			comparePost(t, b.name+", "+l.name, b.b, l.l)
		}
	}
}

func TestG3PostToAFullBook(t *testing.T) {
	full := fullBook(400)
	for _, c := range []struct {
		name string
		l    []api.Posting
		err  api.Errno
	}{
		{"to lines that there are", list(0, 0, 1, 1, 0, -1), api.OK},
		{"one line goes, one comes", list(0, 0, -10, 99, 0, 10), api.OK},
		{"one line too many", list(0, 0, -9, 99, 0, 9), api.ErrMany},
		{"as many lines too many as may be", join(spread(30, 40, 0, 1), spread(30, 70, 0, -1)), api.ErrMany},
		{"too great comes before too many", list(0, 0, top, 99, 0, -top), api.ErrWide},
		{"too great in the last line comes before too many", list(30, 0, -1, 100, 0, 1, 100, 20, top, 100, 20, top, 99, 20, -top, 98, 20, -top), api.ErrWide},
	} {
		if _, err := book.Post(full, c.l); err != c.err {
			t.Errorf("%s: Post to a full book: error %d, want %d", c.name, err, c.err)
		}
		comparePost(t, c.name, full, c.l)
	}
}

// drawPostings draws a list that comes out even, with amounts of every size.
func drawPostings(r *rand.Rand) []api.Posting {
	var l []api.Posting
	for range 1 + r.Intn(30) {
		amount, unit := 1+r.Intn(top)>>r.Intn(61), r.Intn(1+r.Intn(21))
		l = append(l, list(r.Intn(1+r.Intn(101)), unit, amount, r.Intn(101), unit, -amount)...)
	}
	r.Shuffle(len(l), func(i, j int) { l[i], l[j] = l[j], l[i] })
	return l
}

// TestG3PostKeepsBooksEven posts to a book that grows, as the whole guarantees: whatever is posted, it balances.
func TestG3PostKeepsBooksEven(t *testing.T) {
	r := rand.New(rand.NewSource(1))
	for range 200 {
		var b []api.Posting
		for range 30 {
			l := drawPostings(r)
			next := comparePost(t, "drawn", b, l)
			if err := book.Lines(next); err != api.OK {
				t.Fatalf("Post(%v, %v) = %v: error %d of Lines", b, l, next, err)
			}
			if next != nil {
				compareBack(t, b, next, l)
				b = next
			}
		}
	}
}

// compareBack checks that turned postings undo postings.
func compareBack(t *testing.T, was, now, l []api.Posting) {
	t.Helper()
	turned, _ := book.Turn(l)
	if back, err := book.Post(now, turned); !slices.Equal(back, was) || err != api.OK {
		t.Errorf("after Turn(%v) the book is %v, %d; want %v", l, back, err, was)
	}
}

func TestG3Balance(t *testing.T) {
	b := list(1, 0, 5, 1, 3, 7, 2, 0, -5, 4, 3, -7, 100, 20, top, 100, 19, 1)
	slices.SortFunc(b, compare)
	b = join(list(0, 19, -1, 0, 20, -top), b)
	for account := -1; account <= 101; account++ {
		for unit := -1; unit <= 21; unit++ {
			want, wantErr := 0, api.OK
			if !inPlace(api.Posting{Account: account, Unit: unit}) {
				wantErr = api.ErrRange
			}
			for _, line := range b {
				if line.Account == account && line.Unit == unit {
					want = line.Amount
				}
			}
			if got, err := book.Balance(b, account, unit); got != want || err != wantErr {
				t.Errorf("Balance(%d, %d) = %d, %d; want %d, %d", account, unit, got, err, want, wantErr)
			}
		}
	}
}

func TestG3BalanceErrors(t *testing.T) {
	for _, c := range books {
		for _, account := range edges {
			for _, unit := range edges {
				want := c.err
				if want == api.OK && !inPlace(api.Posting{Account: account, Unit: unit}) {
					want = api.ErrRange
				}
				if got, err := book.Balance(c.b, account, unit); err != want || err != api.OK && got != 0 {
					t.Errorf("%s: Balance(%d, %d) = %d, %d; want error %d", c.name, account, unit, got, err, want)
				}
			}
		}
	}
}

func TestG3Turn(t *testing.T) {
	got, err := book.Turn(list(1, 0, -5, 9, 0, 5, 1, 3, top, 9, 3, -top))
	if want := list(9, 3, top, 1, 3, -top, 9, 0, -5, 1, 0, 5); !slices.Equal(got, want) || err != api.OK {
		t.Errorf("Turn = %v, %d; want %v", got, err, want)
	}
	for _, c := range lists {
		turned, err := book.Turn(c.l)
		if err != c.err || err != api.OK && len(turned) != 0 {
			t.Errorf("%s: Turn = %v, %d; want error %d", c.name, turned, err, c.err)
		}
		if again, _ := book.Turn(turned); err == api.OK && !slices.Equal(again, c.l) {
			t.Errorf("%s: turned twice it is %v, want %v", c.name, again, c.l)
		}
	}
}

// sumsOf makes the list of all units, from pairs of a unit and its sum.
func sumsOf(pairs ...int) []int {
	sums := make([]int, 21)
	for p := range slices.Chunk(pairs, 2) {
		sums[p[0]] = p[1]
	}
	return sums
}

func TestG3Trial(t *testing.T) {
	for _, c := range []struct {
		name string
		b    []api.Posting
		want []int
		err  api.Errno
	}{
		{"no lines", nil, sumsOf(), api.OK},
		{"several lines and units", list(1, 0, 5, 1, 3, 7, 2, 0, -12, 3, 0, 7, 4, 3, -7), sumsOf(0, 12, 3, 7), api.OK},
		{"the last unit", list(1, 20, -5, 2, 20, 5), sumsOf(20, 5), api.OK},
		{"the greatest sum", list(1, 0, top-1, 2, 0, 1, 3, 0, -top), sumsOf(0, top), api.OK},
		{"each unit for itself", list(1, 0, top, 1, 1, top, 2, 0, -top, 2, 1, -top), sumsOf(0, top, 1, top), api.OK},
		{"just too great", list(1, 4, top, 2, 4, 1, 3, 4, -top, 4, 4, -1), nil, api.ErrWide},
		{"too great in the last unit", list(1, 20, top, 2, 20, top, 3, 20, -top, 4, 20, -top), nil, api.ErrWide},
		{"a sum of a whole word", join(spread(16, 0, 0, top), spread(16, 50, 0, -top)), nil, api.ErrWide},
		{"all lines that may be", fullBook(400), slices.Repeat([]int{100}, 20), api.OK},
	} {
		want := c.want
		if c.err == api.OK && len(want) < 21 {
			want = append(want, 0)
		}
		if got, err := book.Trial(c.b); !slices.Equal(got, want) || err != c.err {
			t.Errorf("%s: Trial = %v, %d; want %v, %d", c.name, got, err, want, c.err)
		}
	}
}

func TestG3TrialErrorsOfTheBook(t *testing.T) {
	for _, c := range books {
		got, err := book.Trial(c.b)
		if c.err != api.OK && (err != c.err || len(got) != 0) {
			t.Errorf("%s: Trial = %v, %d; want error %d", c.name, got, err, c.err)
		}
	}
}

func TestP1NothingBesideAnError(t *testing.T) {
	for _, b := range books {
		for _, l := range lists {
			if got, err := book.Post(b.b, l.l); err != api.OK && len(got) != 0 {
				t.Errorf("%s, %s: Post = %v with error %d", b.name, l.name, got, err)
			}
		}
		if got, err := book.Trial(b.b); err != api.OK && len(got) != 0 {
			t.Errorf("%s: Trial = %v with error %d", b.name, got, err)
		}
	}
}

func TestP2ListsAreOnlyReadAndResultsAreNew(t *testing.T) {
	wholeBook := list(1, 0, 5, 2, 0, -5, 77, 7, 7)
	wholeList := list(2, 0, 1, 1, 0, -1, 88, 8, 8)
	b, l := wholeBook[:2], wholeList[:2]
	for range 2 {
		posted, _ := book.Post(b, l)
		turned, _ := book.Turn(l)
		trial, _ := book.Trial(b)
		book.Check(l)
		book.Lines(b)
		book.Balance(b, 1, 0)
		if !slices.Equal(posted, list(1, 0, 4, 2, 0, -4)) || !slices.Equal(turned, list(1, 0, 1, 2, 0, -1)) || !slices.Equal(trial, sumsOf(0, 5)) {
			t.Errorf("Post = %v, Turn = %v, Trial = %v", posted, turned, trial)
		}
		clear(posted[:cap(posted)]) // results that shared memory would show in the next round
		clear(turned[:cap(turned)])
		clear(trial[:cap(trial)])
	}
	if !slices.Equal(wholeBook, list(1, 0, 5, 2, 0, -5, 77, 7, 7)) || !slices.Equal(wholeList, list(2, 0, 1, 1, 0, -1, 88, 8, 8)) {
		t.Errorf("after the calls the arguments and what is behind them are %v, %v", wholeBook, wholeList)
	}
}

func TestP3CallsDoNotSeeEarlierOnes(t *testing.T) {
	b, l := list(1, 0, 5, 2, 0, -5), list(1, 0, 1, 2, 0, -1)
	for range 3 {
		if got, err := book.Post(b, l); !slices.Equal(got, list(1, 0, 6, 2, 0, -6)) || err != api.OK {
			t.Errorf("Post = %v, %d", got, err)
		}
		b[0].Amount, b[1].Amount = 9, -9 // a book that was kept would show here
		if got, err := book.Balance(b, 1, 0); got != 9 || err != api.OK {
			t.Errorf("Balance = %d, %d; want 9", got, err)
		}
		if got, err := book.Trial(b); !slices.Equal(got, sumsOf(0, 9)) || err != api.OK {
			t.Errorf("Trial = %v, %d", got, err)
		}
		b[0].Amount, b[1].Amount = 5, -5
	}
}

func TestP4LongLists(t *testing.T) {
	long := make([]api.Posting, 1<<22)
	_, ofBook := book.Post(long, list(1, 0, 1, 2, 0, -1))
	_, ofList := book.Post(nil, long)
	_, ofTurn := book.Turn(long)
	_, ofTrial := book.Trial(long)
	_, ofBalance := book.Balance(long, 1, 0)
	for i, err := range []api.Errno{book.Check(long), book.Lines(long), ofBook, ofList, ofTurn, ofTrial, ofBalance} {
		if err != api.ErrMany {
			t.Errorf("call %d: error %d, want %d", i, err, api.ErrMany)
		}
	}
}
