package net_test

import (
	"math"
	"math/big"
	"math/rand"
	"slices"
	"testing"

	"demurrage/api"
	"demurrage/net"
)

const (
	top     = api.MaxSum
	parties = 31
)

// edges are the numbers around every limit of the chapter, and the outermost ones.
var edges = []int{
	math.MinInt, -top - 1, -top, -31, -30, -1, 0, 1, 2, 29, 30, 31, top - 1, top, top + 1, math.MaxInt,
}

// list makes dues from triples of from, to and amount.
func list(numbers ...int) []api.Due {
	var l []api.Due
	for t := range slices.Chunk(numbers, 3) {
		l = append(l, api.Due{From: t[0], To: t[1], Amount: t[2]})
	}
	return l
}

// repeat makes a list of one due many times.
func repeat(many, from, to, amount int) []api.Due { return slices.Repeat(list(from, to, amount), many) }

// standOf makes the positions of all parties from pairs of a party and its position.
func standOf(pairs ...int) []int {
	stand := make([]int, parties)
	for p := range slices.Chunk(pairs, 2) {
		stand[p[0]] = p[1]
	}
	return stand
}

func wantCheck(l []api.Due) api.Errno {
	if len(l) > 60 {
		return api.ErrMany
	}
	for _, d := range l {
		if d.From < 0 || d.From > 30 || d.To < 0 || d.To > 30 || d.Amount < 1 || d.Amount > top {
			return api.ErrRange
		}
		if d.From == d.To {
			return api.ErrForm
		}
	}
	return api.OK
}

// amount returns a number of any size as an amount.
func amount(n *big.Int) (int, api.Errno) {
	if new(big.Int).Abs(n).Cmp(big.NewInt(top)) > 0 {
		return 0, api.ErrWide
	}
	return int(n.Int64()), api.OK
}

// owed adds up, with numbers of any size, what a party owes to another one.
func owed(l []api.Due, from, to int) *big.Int {
	sum := new(big.Int)
	for _, d := range l {
		if d.From == from && d.To == to {
			sum.Add(sum, big.NewInt(int64(d.Amount)))
		}
	}
	return sum
}

// wantStand computes Stand anew, party by party.
func wantStand(l []api.Due) ([]int, api.Errno) {
	if e := wantCheck(l); e != api.OK {
		return nil, e
	}
	stand := make([]int, parties)
	for party := range parties {
		position := new(big.Int)
		for other := range parties {
			position.Add(position, owed(l, other, party))
			position.Sub(position, owed(l, party, other))
		}
		var e api.Errno
		if stand[party], e = amount(position); e != api.OK {
			return nil, e
		}
	}
	return stand, api.OK
}

// wantPairs computes Pairs anew, pair by pair.
func wantPairs(l []api.Due) ([]api.Due, api.Errno) {
	if e := wantCheck(l); e != api.OK {
		return nil, e
	}
	var dues []api.Due
	for lesser := range parties {
		for greater := lesser + 1; greater < parties; greater++ {
			difference, e := amount(new(big.Int).Sub(owed(l, lesser, greater), owed(l, greater, lesser)))
			if e != api.OK {
				return nil, e
			}
			if difference > 0 {
				dues = append(dues, list(lesser, greater, difference)...)
			}
			if difference < 0 {
				dues = append(dues, list(greater, lesser, -difference)...)
			}
		}
	}
	return dues, api.OK
}

// wantSettle computes the dues of a stand that is valid anew.
func wantSettle(stand []int) []api.Due {
	left := slices.Clone(stand)
	var dues []api.Due
	for slices.ContainsFunc(left, func(position int) bool { return position != 0 }) {
		from, to := 0, 0
		for party, position := range left {
			if position < left[from] {
				from = party
			}
			if position > left[to] {
				to = party
			}
		}
		many := -left[from]
		if left[to] < many {
			many = left[to]
		}
		left[from] += many
		left[to] -= many
		dues = append(dues, list(from, to, many)...)
	}
	return dues
}

func compareAll(t *testing.T, name string, l []api.Due) {
	t.Helper()
	if err := net.Check(l); err != wantCheck(l) {
		t.Errorf("%s: Check = %d, want %d", name, err, wantCheck(l))
	}
	stand, err := net.Stand(l)
	if want, wantErr := wantStand(l); !slices.Equal(stand, want) || err != wantErr {
		t.Errorf("%s: Stand(%v) = %v, %d; want %v, %d", name, l, stand, err, want, wantErr)
	}
	pairs, err := net.Pairs(l)
	if want, wantErr := wantPairs(l); !slices.Equal(pairs, want) || err != wantErr {
		t.Errorf("%s: Pairs(%v) = %v, %d; want %v, %d", name, l, pairs, err, want, wantErr)
	}
}

// lists are dues with the errors of Check, Stand and Pairs.
var lists = []struct {
	name                string
	l                   []api.Due
	check, stand, pairs api.Errno
}{
	{"nil", nil, api.OK, api.OK, api.OK},
	{"empty", []api.Due{}, api.OK, api.OK, api.OK},
	{"one", list(0, 1, 5), api.OK, api.OK, api.OK},
	{"the outermost numbers", list(0, 30, top, 30, 1, 1), api.OK, api.OK, api.OK},
	{"as many as may be", repeat(60, 1, 2, 3), api.OK, api.OK, api.OK},
	{"one too many", repeat(61, 1, 2, 3), api.ErrMany, api.ErrMany, api.ErrMany},
	{"too many comes before the range", repeat(61, -1, 2, 3), api.ErrMany, api.ErrMany, api.ErrMany},
	{"too many comes before the form", repeat(61, 2, 2, 3), api.ErrMany, api.ErrMany, api.ErrMany},
	{"from below 0", list(-1, 1, 1), api.ErrRange, api.ErrRange, api.ErrRange},
	{"from above 30", list(31, 1, 1), api.ErrRange, api.ErrRange, api.ErrRange},
	{"to below 0", list(1, -1, 1), api.ErrRange, api.ErrRange, api.ErrRange},
	{"to above 30", list(1, 31, 1), api.ErrRange, api.ErrRange, api.ErrRange},
	{"amount 0", list(1, 2, 0), api.ErrRange, api.ErrRange, api.ErrRange},
	{"amount below 0", list(1, 2, -1), api.ErrRange, api.ErrRange, api.ErrRange},
	{"amount too great", list(1, 2, top+1), api.ErrRange, api.ErrRange, api.ErrRange},
	{"to oneself", list(1, 2, 1, 3, 3, 1), api.ErrForm, api.ErrForm, api.ErrForm},
	{"of one due the range comes before the form", list(3, 3, 0), api.ErrRange, api.ErrRange, api.ErrRange},
	{"both out of range and equal", list(31, 31, 1), api.ErrRange, api.ErrRange, api.ErrRange},
	{"the form of an earlier due comes first", list(3, 3, 1, 1, 2, 0), api.ErrForm, api.ErrForm, api.ErrForm},
	{"the range of an earlier due comes first", list(1, 2, 0, 3, 3, 1), api.ErrRange, api.ErrRange, api.ErrRange},
	{"a position just too great", list(1, 0, top, 2, 0, 1), api.OK, api.ErrWide, api.OK},
	{"a position just too small", list(30, 0, top, 30, 1, 1), api.OK, api.ErrWide, api.OK},
	{"a difference just too great", list(0, 1, top, 0, 1, 1), api.OK, api.ErrWide, api.ErrWide},
	{"a difference just too small", list(1, 0, top, 1, 0, 1), api.OK, api.ErrWide, api.ErrWide},
	{"a difference too great, positions not", list(0, 1, top, 0, 1, 1, 1, 2, 1, 2, 0, 1), api.OK, api.OK, api.ErrWide},
	{"a partial sum too great", list(0, 1, top, 0, 1, top, 1, 0, top), api.OK, api.OK, api.OK},
	{"a sum of a whole word", repeat(16, 0, 1, top), api.OK, api.ErrWide, api.ErrWide},
	{"a sum of a whole word the other way", repeat(16, 1, 0, top), api.OK, api.ErrWide, api.ErrWide},
	{"words that cancel", append(repeat(30, 0, 1, top), repeat(30, 1, 0, top)...), api.OK, api.OK, api.OK},
	{"words that cancel but for one", append(repeat(30, 0, 1, top), repeat(29, 1, 0, top)...), api.OK, api.OK, api.OK},
}

func TestH1Check(t *testing.T) {
	for _, c := range lists {
		if err := net.Check(c.l); err != c.check {
			t.Errorf("%s: Check = %d, want %d", c.name, err, c.check)
		}
	}
}

func TestH1CheckOfAllEdges(t *testing.T) {
	for _, from := range edges {
		for _, to := range edges {
			for _, amount := range edges {
				for _, l := range [][]api.Due{
					list(from, to, amount), list(1, 2, 3, from, to, amount), list(from, to, amount, 2, 2, 1), list(from, to, amount, 2, 1, 0),
				} {
					if err := net.Check(l); err != wantCheck(l) {
						t.Errorf("Check(%v) = %d, want %d", l, err, wantCheck(l))
					}
				}
			}
		}
	}
}

func TestH2H3ErrorsOfAllLists(t *testing.T) {
	for _, c := range lists {
		if stand, err := net.Stand(c.l); err != c.stand {
			t.Errorf("%s: Stand = %v, %d; want error %d", c.name, stand, err, c.stand)
		}
		if pairs, err := net.Pairs(c.l); err != c.pairs {
			t.Errorf("%s: Pairs = %v, %d; want error %d", c.name, pairs, err, c.pairs)
		}
		compareAll(t, c.name, c.l)
	}
}

func TestH2Stand(t *testing.T) {
	for _, c := range []struct {
		name string
		l    []api.Due
		want []int
	}{
		{"no dues", nil, standOf()},
		{"one due", list(0, 30, 7), standOf(0, -7, 30, 7)},
		{"both ways", list(1, 2, 7, 2, 1, 10), standOf(1, 3, 2, -3)},
		{"in a circle", list(1, 2, 7, 2, 3, 7, 3, 1, 7), standOf()},
		{"the greatest and the least position", list(0, 1, top), standOf(0, -top, 1, top)},
		{"partial sums too great", list(0, 1, top, 0, 1, top, 1, 0, top), standOf(0, -top, 1, top)},
	} {
		if stand, err := net.Stand(c.l); !slices.Equal(stand, c.want) || err != api.OK {
			t.Errorf("%s: Stand = %v, %d; want %v", c.name, stand, err, c.want)
		}
	}
}

func TestH3Pairs(t *testing.T) {
	for _, c := range []struct {
		name    string
		l, want []api.Due
	}{
		{"no dues", nil, nil},
		{"one due", list(0, 30, 7), list(0, 30, 7)},
		{"to the lesser party", list(30, 0, 7), list(30, 0, 7)},
		{"several the same way", list(1, 2, 7, 1, 2, 10), list(1, 2, 17)},
		{"both ways, the lesser one owes", list(1, 2, 10, 2, 1, 7), list(1, 2, 3)},
		{"both ways, the greater one owes", list(1, 2, 7, 2, 1, 10), list(2, 1, 3)},
		{"even", list(1, 2, 7, 2, 1, 4, 2, 1, 3), nil},
		{"circles stay", list(3, 1, 7, 2, 3, 7, 1, 2, 7), list(1, 2, 7, 3, 1, 7, 2, 3, 7)},
		{"by the lesser, then by the greater", list(9, 8, 1, 8, 2, 2, 2, 10, 3, 3, 2, 4, 10, 9, 5), list(3, 2, 4, 8, 2, 2, 2, 10, 3, 9, 8, 1, 10, 9, 5)},
		{"the greatest difference", list(1, 0, top, 0, 1, 1, 1, 0, 1), list(1, 0, top)},
	} {
		if pairs, err := net.Pairs(c.l); !slices.Equal(pairs, c.want) || err != api.OK {
			t.Errorf("%s: Pairs = %v, %d; want %v", c.name, pairs, err, c.want)
		}
	}
}

func drawDues(r *rand.Rand) []api.Due {
	var l []api.Due
	among, most := 2+r.Intn(parties-1), 1+r.Intn(top)>>r.Intn(60)
	for range r.Intn(61) {
		from := r.Intn(among)
		to := (from + 1 + r.Intn(among-1)) % among
		l = append(l, list(from, to, 1+r.Intn(most))...)
	}
	return l
}

// TestH2H3H4NettingKeepsPositions checks what the whole guarantees: after netting all positions are as they were.
func TestH2H3H4NettingKeepsPositions(t *testing.T) {
	r := rand.New(rand.NewSource(1))
	settled := 0
	for range 1500 {
		l := drawDues(r)
		compareAll(t, "drawn", l)
		stand, err := net.Stand(l)
		if err != api.OK {
			continue
		}
		settled++
		pairs, err := net.Pairs(l)
		if again, _ := net.Stand(pairs); err == api.OK && !slices.Equal(again, stand) {
			t.Errorf("after Pairs(%v) the positions are %v, want %v", l, again, stand)
		}
		dues, err := net.Settle(stand)
		if want := wantSettle(stand); !slices.Equal(dues, want) || err != api.OK {
			t.Errorf("Settle(%v) = %v, %d; want %v", stand, dues, err, want)
		}
		if again, err := net.Stand(dues); !slices.Equal(again, stand) || err != api.OK {
			t.Errorf("the dues of Settle give %v, %d; want %v", again, err, stand)
		}
	}
	if settled < 500 {
		t.Errorf("just %d drawn lists have positions", settled)
	}
}

// allParties is a stand in which every party has a position: as many dues as there can be.
func allParties() []int {
	stand := make([]int, parties)
	for i := range stand {
		stand[i] = i - 15
	}
	return stand
}

func TestH4Settle(t *testing.T) {
	for _, c := range []struct {
		name  string
		stand []int
		want  []api.Due
		err   api.Errno
	}{
		{"all 0", standOf(), nil, api.OK},
		{"one owes another", standOf(3, -7, 5, 7), list(3, 5, 7), api.OK},
		{"the lowest pays the highest", standOf(0, -3, 1, 9, 2, -8, 3, 2), list(2, 1, 8, 0, 3, 2, 0, 1, 1), api.OK},
		{"of several lowest the smallest number", standOf(4, -5, 2, -5, 7, 10), list(2, 7, 5, 4, 7, 5), api.OK},
		{"of several highest the smallest number", standOf(4, 5, 2, 5, 7, -10), list(7, 2, 5, 7, 4, 5), api.OK},
		{"lowest after a due is another one", standOf(4, 5, 7, 5, 9, -6, 11, -4), list(9, 4, 5, 11, 7, 4, 9, 7, 1), api.OK},
		{"the greatest amounts", standOf(0, top, 30, -top), list(30, 0, top), api.OK},
		{"the greatest amounts of all", slices.Concat(slices.Repeat([]int{top}, 15), []int{0}, slices.Repeat([]int{-top}, 15)), nil, api.OK},
		{"all parties", allParties(), nil, api.OK},
		{"nil", nil, nil, api.ErrForm},
		{"one party too few", make([]int, parties-1), nil, api.ErrForm},
		{"one party too many", make([]int, parties+1), nil, api.ErrForm},
		{"the form comes before the range", []int{top + 1}, nil, api.ErrForm},
		{"too great", standOf(0, top+1, 1, -top, 2, -1), nil, api.ErrRange},
		{"too small", standOf(30, -top-1, 1, top, 2, 1), nil, api.ErrRange},
		{"the outermost numbers", standOf(0, math.MaxInt, 1, math.MinInt, 2, 1), nil, api.ErrRange},
		{"the range comes before the sum", standOf(0, 1, 30, top+1), nil, api.ErrRange},
		{"a sum above 0", standOf(0, 1), nil, api.ErrState},
		{"a sum below 0", standOf(0, 1, 30, -2), nil, api.ErrState},
		{"a sum of half a word", slices.Concat(slices.Repeat([]int{top}, 8), make([]int, 23)), nil, api.ErrState},
		{"a sum of a whole word", slices.Concat(slices.Repeat([]int{top}, 16), make([]int, 15)), nil, api.ErrState},
		{"a sum of a whole word below 0", slices.Concat(slices.Repeat([]int{-top}, 16), make([]int, 15)), nil, api.ErrState},
	} {
		want := c.want
		if c.err == api.OK && want == nil {
			want = wantSettle(c.stand)
		}
		if dues, err := net.Settle(c.stand); !slices.Equal(dues, want) || err != c.err {
			t.Errorf("%s: Settle = %v, %d; want %v, %d", c.name, dues, err, want, c.err)
		}
	}
}

func TestH4SettleOfDrawnPositions(t *testing.T) {
	r := rand.New(rand.NewSource(2))
	for range 5000 {
		stand, most := make([]int, parties), 1+r.Intn(4)
		for i := range parties * most / 4 {
			n := r.Intn(1 + most*most)
			stand[i] += n
			stand[r.Intn(parties)] -= n
		}
		dues, err := net.Settle(stand)
		if want := wantSettle(stand); !slices.Equal(dues, want) || err != api.OK || len(dues) >= parties {
			t.Fatalf("Settle(%v) = %v, %d; want %v", stand, dues, err, want)
		}
	}
}

func TestP1NothingBesideAnError(t *testing.T) {
	for _, a := range edges {
		for _, b := range edges {
			for _, c := range edges {
				l := list(a, b, c, b, a, c)
				if stand, err := net.Stand(l); err != api.OK && len(stand) != 0 {
					t.Errorf("Stand(%v) = %v with error %d", l, stand, err)
				}
				if pairs, err := net.Pairs(l); err != api.OK && len(pairs) != 0 {
					t.Errorf("Pairs(%v) = %v with error %d", l, pairs, err)
				}
				if dues, err := net.Settle(standOf(0, a, 1, b, 2, c)); err != api.OK && len(dues) != 0 {
					t.Errorf("Settle(%d, %d, %d) = %v with error %d", a, b, c, dues, err)
				}
			}
		}
	}
	// Here the pairs in front of the one that is too great have dues already.
	if pairs, err := net.Pairs(list(0, 1, 1, 2, 3, top, 2, 3, 1)); len(pairs) != 0 || err != api.ErrWide {
		t.Errorf("Pairs = %v, %d; want error %d", pairs, err, api.ErrWide)
	}
}

func TestP2ListsAreOnlyReadAndResultsAreNew(t *testing.T) {
	wholeDues := list(2, 0, 7, 0, 1, 4, 77, 7, 7)
	wholeStand := append(standOf(0, 3, 1, 4, 2, -7), 77, 78)
	l, positions := wholeDues[:2], wholeStand[:parties]
	for range 2 {
		net.Check(l)
		stand, _ := net.Stand(l)
		pairs, _ := net.Pairs(l)
		dues, _ := net.Settle(positions)
		if !slices.Equal(stand, standOf(0, 3, 1, 4, 2, -7)) || !slices.Equal(pairs, list(0, 1, 4, 2, 0, 7)) || !slices.Equal(dues, list(2, 1, 4, 2, 0, 3)) {
			t.Errorf("Stand = %v, Pairs = %v, Settle = %v", stand, pairs, dues)
		}
		clear(stand[:cap(stand)]) // results that shared memory would show in the next round
		clear(pairs[:cap(pairs)])
		clear(dues[:cap(dues)])
	}
	if !slices.Equal(wholeDues, list(2, 0, 7, 0, 1, 4, 77, 7, 7)) || !slices.Equal(wholeStand, append(standOf(0, 3, 1, 4, 2, -7), 77, 78)) {
		t.Errorf("after the calls the arguments and what is behind them are %v, %v", wholeDues, wholeStand)
	}
}

func TestP3CallsDoNotSeeEarlierOnes(t *testing.T) {
	l := list(1, 2, 5)
	for range 3 {
		if stand, err := net.Stand(l); !slices.Equal(stand, standOf(1, -5, 2, 5)) || err != api.OK {
			t.Errorf("Stand = %v, %d", stand, err)
		}
		if pairs, err := net.Pairs(l); !slices.Equal(pairs, list(1, 2, 5)) || err != api.OK {
			t.Errorf("Pairs = %v, %d", pairs, err)
		}
		l[0] = api.Due{From: 3, To: 1, Amount: 8} // dues that were kept would show here
		if pairs, err := net.Pairs(l); !slices.Equal(pairs, list(3, 1, 8)) || err != api.OK {
			t.Errorf("Pairs = %v, %d", pairs, err)
		}
		net.Settle(standOf(1, -8, 3, 8))
		l[0] = api.Due{From: 1, To: 2, Amount: 5}
	}
}

// TestP3OrderIsTheSameEachTime would show an order that a map determines.
func TestP3OrderIsTheSameEachTime(t *testing.T) {
	var l []api.Due
	for i := range 60 {
		l = append(l, list(i%30, 30-i/30, 1)...)
	}
	l = slices.DeleteFunc(l, func(d api.Due) bool { return d.From == d.To })
	want, _ := wantPairs(l)
	for range 100 {
		if pairs, err := net.Pairs(l); !slices.Equal(pairs, want) || err != api.OK {
			t.Fatalf("Pairs = %v, %d; want %v", pairs, err, want)
		}
	}
}

func TestP4LongLists(t *testing.T) {
	long := make([]api.Due, 1<<22)
	_, ofStand := net.Stand(long)
	_, ofPairs := net.Pairs(long)
	if err := net.Check(long); err != api.ErrMany || ofStand != api.ErrMany || ofPairs != api.ErrMany {
		t.Errorf("errors are %d, %d, %d; want %d", err, ofStand, ofPairs, api.ErrMany)
	}
	if _, err := net.Settle(make([]int, 1<<22)); err != api.ErrForm {
		t.Errorf("Settle: error %d, want %d", err, api.ErrForm)
	}
}
