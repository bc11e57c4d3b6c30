package grid_test

import (
	"math"
	"math/big"
	"math/rand"
	"slices"
	"testing"

	"demurrage/api"
	"demurrage/grid"
	"demurrage/net"
)

const (
	top     = api.MaxSum
	parties = 31
)

// edges are the numbers around every limit of the chapter, and the outermost ones.
var edges = []int{
	math.MinInt, -top - 1, -top, -31, -1, 0, 1, 2, 29, 30, 31, top / 2, top - 1, top, top + 1, math.MaxInt,
}

// list makes dues from triples of from, to and amount.
func list(numbers ...int) []api.Due {
	var l []api.Due
	for t := range slices.Chunk(numbers, 3) {
		l = append(l, api.Due{From: t[0], To: t[1], Amount: t[2]})
	}
	return l
}

// repeat makes a list of one due many times.
func repeat(many, from, to, amount int) []api.Due { return slices.Repeat(list(from, to, amount), many) }

// hasOf makes what all parties have from pairs of a party and what it has.
func hasOf(pairs ...int) []int {
	has := make([]int, parties)
	for p := range slices.Chunk(pairs, 2) {
		has[p[0]] = p[1]
	}
	return has
}

// upTo lists the numbers below n.
func upTo(n int) []int {
	var l []int
	for i := range n {
		l = append(l, i)
	}
	return l
}

func wantCheck(has []int, l []api.Due) api.Errno {
	if len(has) != parties {
		return api.ErrForm
	}
	sum := new(big.Int)
	for _, amount := range has {
		if amount < 0 || amount > top {
			return api.ErrRange
		}
		sum.Add(sum, big.NewInt(int64(amount)))
	}
	if e := net.Check(l); e != api.OK {
		return e
	}
	for _, d := range l {
		sum.Add(sum, big.NewInt(int64(d.Amount)))
	}
	if sum.Cmp(big.NewInt(top)) > 0 {
		return api.ErrWide
	}
	return api.OK
}

// balance computes, party by party, what a party has after some dues.
func balance(party int, has []int, l []api.Due, done []int) int {
	paidToIt, paidByIt := 0, 0
	for i, d := range l {
		if slices.Contains(done, i) && d.To == party {
			paidToIt += d.Amount
		}
		if slices.Contains(done, i) && d.From == party {
			paidByIt += d.Amount
		}
	}
	return has[party] + paidToIt - paidByIt
}

// wantSolve leaves dues out the same way, with a mark at each due.
func wantSolve(has []int, l []api.Due) []int {
	done := upTo(len(l))
	for party := 0; party < parties; party++ {
		if balance(party, has, l, done) >= 0 {
			continue
		}
		for i := len(l) - 1; i >= 0; i-- {
			if at := slices.Index(done, i); at >= 0 && l[i].From == party {
				done = append(append([]int{}, done[:at]...), done[at+1:]...)
				break
			}
		}
		party = -1
	}
	return done
}

func wantAfter(has []int, l []api.Due, done []int) ([]int, api.Errno) {
	if e := wantCheck(has, l); e != api.OK {
		return nil, e
	}
	if len(done) > len(l) {
		return nil, api.ErrMany
	}
	for at, i := range done {
		if i < 0 || i > len(l)-1 {
			return nil, api.ErrRange
		}
		if at > 0 && i <= done[at-1] {
			return nil, api.ErrState
		}
	}
	left := make([]int, parties)
	for party := range left {
		left[party] = balance(party, has, l, done)
		if left[party] < 0 {
			return nil, api.ErrWide
		}
	}
	return left, api.OK
}

// compareAll compares all functions; each of the lists of indices is passed to After.
func compareAll(t *testing.T, name string, has []int, l []api.Due, selections ...[]int) {
	t.Helper()
	want := wantCheck(has, l)
	if err := grid.Check(has, l); err != want {
		t.Errorf("%s: Check(%v, %v) = %d, want %d", name, has, l, err, want)
	}
	var wantDone []int
	if want == api.OK {
		wantDone = wantSolve(has, l)
	}
	done, err := grid.Solve(has, l)
	if !slices.Equal(done, wantDone) || err != want {
		t.Errorf("%s: Solve(%v, %v) = %v, %d; want %v, %d", name, has, l, done, err, wantDone, want)
	}
	for _, selected := range append(selections, done) {
		left, err := grid.After(has, l, selected)
		if wantLeft, wantErr := wantAfter(has, l, selected); !slices.Equal(left, wantLeft) || err != wantErr {
			t.Errorf("%s: After(%v, %v, %v) = %v, %d; want %v, %d", name, has, l, selected, left, err, wantLeft, wantErr)
		}
	}
}

// grids are what parties have and dues, with the error of Check.
var grids = []struct {
	name string
	has  []int
	l    []api.Due
	err  api.Errno
}{
	{"nothing", hasOf(), nil, api.OK},
	{"no dues", hasOf(0, 5, 30, 7), []api.Due{}, api.OK},
	{"one due", hasOf(0, 5), list(0, 30, 5), api.OK},
	{"as many dues as may be", hasOf(1, 5), repeat(60, 1, 2, 1), api.OK},
	{"one party has all", hasOf(30, top), nil, api.OK},
	{"one due has all", hasOf(), list(0, 1, top), api.OK},
	{"just as much as may be", hasOf(0, top-9, 30, 4), list(0, 1, 3, 5, 6, 2), api.OK},
	{"nil", nil, nil, api.ErrForm},
	{"one party too few", make([]int, parties-1), nil, api.ErrForm},
	{"one party too many", make([]int, parties+1), nil, api.ErrForm},
	{"the form comes before the range of what parties have", []int{-1}, nil, api.ErrForm},
	{"the form comes before the dues", make([]int, parties+1), repeat(61, 1, 1, 0), api.ErrForm},
	{"the first party has less than 0", hasOf(0, -1), nil, api.ErrRange},
	{"the last party has less than 0", hasOf(30, -1), nil, api.ErrRange},
	{"the first party has too much", hasOf(0, top+1), nil, api.ErrRange},
	{"the last party has too much", hasOf(30, top+1), nil, api.ErrRange},
	{"the outermost numbers", hasOf(0, math.MaxInt, 1, math.MinInt), nil, api.ErrRange},
	{"what parties have comes before the number of dues", hasOf(30, -1), repeat(61, 1, 2, 1), api.ErrRange},
	{"what parties have comes before the form of dues", hasOf(30, -1), list(1, 1, 1), api.ErrRange},
	{"what parties have comes before the sum", hasOf(0, top, 1, top, 30, -1), list(1, 2, 3), api.ErrRange},
	{"one due too many", hasOf(), repeat(61, 1, 2, 1), api.ErrMany},
	{"the number of dues comes before their ranges", hasOf(), repeat(61, 1, 2, 0), api.ErrMany},
	{"the number of dues comes before the sum", hasOf(0, top, 1, top), repeat(61, 1, 2, 1), api.ErrMany},
	{"from a party that there is not", hasOf(), list(31, 1, 1), api.ErrRange},
	{"to a party that there is not", hasOf(), list(1, -1, 1), api.ErrRange},
	{"a due of 0", hasOf(), list(1, 2, 0), api.ErrRange},
	{"a due to oneself", hasOf(), list(1, 1, 1), api.ErrForm},
	{"the first wrong due comes first", hasOf(), list(1, 1, 1, 1, 2, 0), api.ErrForm},
	{"the dues come before the sum", hasOf(0, top, 1, top), list(1, 2, 1, 2, 2, 1), api.ErrForm},
	{"parties have one too much", hasOf(0, top, 1, 1), nil, api.ErrWide},
	{"dues are one too much", hasOf(), list(0, 1, top, 1, 0, 1), api.ErrWide},
	{"both together are one too much", hasOf(0, top-9, 30, 4), list(0, 1, 3, 5, 6, 3), api.ErrWide},
	{"parties have half a word", hasOf(0, top, 1, top, 2, top, 3, top, 4, top, 5, top, 6, top, 7, top), nil, api.ErrWide},
	{"parties have a whole word", append(slices.Repeat([]int{top}, 16), make([]int, 15)...), nil, api.ErrWide},
	{"dues are half a word", hasOf(), repeat(8, 1, 2, top), api.ErrWide},
	{"dues are a whole word", hasOf(), repeat(16, 1, 2, top), api.ErrWide},
	{"both together are a whole word", slices.Repeat([]int{top}, parties), repeat(17, 1, 2, top), api.ErrWide},
	{"everything is as much as it can be", slices.Repeat([]int{top}, parties), repeat(60, 1, 2, top), api.ErrWide},
}

func TestI1Check(t *testing.T) {
	for _, c := range grids {
		if err := grid.Check(c.has, c.l); err != c.err {
			t.Errorf("%s: Check = %d, want %d", c.name, err, c.err)
		}
	}
}

func TestI1CheckOfAllEdges(t *testing.T) {
	for _, first := range edges {
		for _, last := range edges {
			compareAll(t, "has", hasOf(0, first, 30, last), list(0, 1, 5, 30, 2, 7), []int{0}, []int{1}, []int{0, 1})
			compareAll(t, "due", hasOf(3, 5), list(first, last, 5), []int{0})
			compareAll(t, "amount", hasOf(3, first), list(3, 4, last, 4, 3, 5), []int{0}, []int{1}, []int{0, 1})
		}
	}
}

// TestI2I3ErrorsOfCheck checks that Solve and After have them, and that they come before those of indices.
func TestI2I3ErrorsOfCheck(t *testing.T) {
	for _, c := range grids {
		if done, err := grid.Solve(c.has, c.l); err != c.err {
			t.Errorf("%s: Solve = %v, %d; want error %d", c.name, done, err, c.err)
		}
		if left, err := grid.After(c.has, c.l, nil); err != c.err {
			t.Errorf("%s: After = %v, %d; want error %d", c.name, left, err, c.err)
		}
		if left, err := grid.After(c.has, c.l, make([]int, 99)); c.err != api.OK && err != c.err {
			t.Errorf("%s: After too many = %v, %d; want error %d", c.name, left, err, c.err)
		}
		compareAll(t, c.name, c.has, c.l, []int{-1}, []int{0}, []int{0, 0})
	}
}

func TestI2Solve(t *testing.T) {
	for _, c := range []struct {
		name string
		has  []int
		l    []api.Due
		want []int
	}{
		{"no dues", hasOf(0, 5), nil, nil},
		{"enough", hasOf(0, 5), list(0, 30, 5), []int{0}},
		{"one too little", hasOf(0, 4), list(0, 30, 5), nil},
		{"the last party pays", hasOf(30, 5), list(30, 0, 5), []int{0}},
		{"the last party is short", hasOf(30, 4), list(30, 0, 5), nil},
		{"two that have nothing pay each other", hasOf(), list(0, 1, 5, 1, 0, 5), upTo(2)},
		{"a circle without money", hasOf(), list(3, 1, 7, 2, 3, 7, 1, 2, 7), upTo(3)},
		{"a circle that lacks 1", hasOf(), list(3, 1, 7, 2, 3, 6, 1, 2, 7), nil},
		{"a circle that gets 1", hasOf(3, 1), list(3, 1, 7, 2, 3, 6, 1, 2, 7), upTo(3)},
		{"the last due is left out, although the first one would do", hasOf(0, 3), list(0, 1, 3, 0, 2, 2), []int{0}},
		{"the last due is left out, although it would do", hasOf(0, 3), list(0, 1, 4, 0, 2, 2), nil},
		{"a greater due hides those after it", hasOf(0, 3), list(0, 1, 1, 0, 2, 3, 0, 3, 1), []int{0}},
		{"of two parties each stops at its own", hasOf(0, 1, 1, 2), list(1, 3, 1, 0, 2, 1, 0, 3, 1, 1, 2, 1, 1, 2, 1), []int{0, 1, 3}},
		{"what is left out is lacking elsewhere", hasOf(0, 4), list(2, 3, 5, 1, 2, 5, 0, 1, 5), nil},
		{"paid on from one to the next", hasOf(0, 5), list(2, 3, 5, 1, 2, 5, 0, 1, 5), upTo(3)},
		{"a part is paid on", hasOf(0, 5), list(1, 2, 3, 0, 1, 3, 1, 3, 2, 0, 1, 3), upTo(2)},
		{"others are not touched", hasOf(4, 9), list(0, 1, 5, 4, 5, 9, 1, 0, 4), []int{1}},
		{"the greatest due", hasOf(), list(0, 1, top), nil},
		{"half of everything", hasOf(7, top/2), list(7, 8, top/2), upTo(1)},
		{"half of everything, and one more", hasOf(7, top/2-1), list(7, 8, top/2+1), nil},
		{"all dues of one party", hasOf(9, 60), repeat(60, 9, 8, 1), upTo(60)},
		{"some dues of one party", hasOf(9, 37), repeat(60, 9, 8, 1), upTo(37)},
		{"no due of one party", hasOf(8, 99), repeat(60, 9, 8, 1), nil},
	} {
		if done, err := grid.Solve(c.has, c.l); !slices.Equal(done, c.want) || err != api.OK {
			t.Errorf("%s: Solve = %v, %d; want %v", c.name, done, err, c.want)
		}
		compareAll(t, c.name, c.has, c.l)
	}
}

// TestI2Collapse checks that a due that is left out can take all others with it, one party after the other.
func TestI2Collapse(t *testing.T) {
	var up, down []api.Due
	for party := range parties - 1 {
		up = append(up, list(party, party+1, 5)...)
		down = append(down, list(party+1, party, 5)...)
	}
	for _, c := range []struct {
		has  []int
		l    []api.Due
		want []int
	}{
		{hasOf(0, 5), up, upTo(30)}, {hasOf(0, 4), up, nil}, {hasOf(1, 5), up, upTo(30)[1:]}, {hasOf(0, 4, 15, 5), up, upTo(30)[15:]},
		{hasOf(30, 5), down, upTo(30)}, {hasOf(30, 4), down, nil}, {hasOf(29, 5), down, upTo(29)}, {hasOf(15, 5), down, upTo(15)},
	} {
		if done, err := grid.Solve(c.has, c.l); !slices.Equal(done, c.want) || err != api.OK {
			t.Errorf("Solve(%v, %v) = %v, %d; want %v", c.has, c.l, done, err, c.want)
		}
	}
}

func TestI3After(t *testing.T) {
	l := list(0, 1, 5, 1, 30, 5, 30, 0, 9, 1, 0, 1)
	for _, c := range []struct {
		name string
		has  []int
		done []int
		want []int
		err  api.Errno
	}{
		{"none", hasOf(0, 5), nil, hasOf(0, 5), api.OK},
		{"none, as an empty list", hasOf(0, 5, 30, 2), []int{}, hasOf(0, 5, 30, 2), api.OK},
		{"the first one", hasOf(0, 5), []int{0}, hasOf(1, 5), api.OK},
		{"two", hasOf(0, 5), []int{0, 1}, hasOf(30, 5), api.OK},
		{"a party pays what it gets", hasOf(0, 4, 1, 1), []int{0, 1, 2}, nil, api.ErrWide},
		{"a party pays what it gets, and has enough", hasOf(0, 5, 30, 4), []int{0, 1, 2}, hasOf(0, 9), api.OK},
		{"all", hasOf(0, 5, 1, 1, 30, 4), []int{0, 1, 2, 3}, hasOf(0, 10), api.OK},
		{"a later due of a party without the earlier one", hasOf(1, 1), []int{3}, hasOf(0, 1), api.OK},
		{"one too little", hasOf(0, 4), []int{0}, nil, api.ErrWide},
		{"the last party has too little", hasOf(30, 8), []int{2}, nil, api.ErrWide},
		{"too many", hasOf(0, 5), []int{0, 1, 2, 3, 3}, nil, api.ErrMany},
		{"too many comes before the range", hasOf(0, 5), []int{-1, -1, -1, -1, -1}, nil, api.ErrMany},
		{"an index below 0", hasOf(0, 5), []int{-1}, nil, api.ErrRange},
		{"an index after the last one", hasOf(0, 5), []int{4}, nil, api.ErrRange},
		{"the least number", hasOf(0, 5), []int{math.MinInt}, nil, api.ErrRange},
		{"the greatest number", hasOf(0, 5), []int{math.MaxInt}, nil, api.ErrRange},
		{"the same twice", hasOf(0, 9), []int{0, 0}, nil, api.ErrState},
		{"in decreasing order", hasOf(0, 9), []int{1, 0}, nil, api.ErrState},
		{"of one index the range comes before the order", hasOf(0, 9), []int{1, -1}, nil, api.ErrRange},
		{"the order of an earlier index comes before the range", hasOf(0, 9), []int{1, 0, 4}, nil, api.ErrState},
		{"the range of an earlier index comes before the order", hasOf(0, 9), []int{4, 1, 0}, nil, api.ErrRange},
		{"the order comes before what parties have", hasOf(), []int{0, 0}, nil, api.ErrState},
		{"the range comes before what parties have", hasOf(), []int{0, 4}, nil, api.ErrRange},
	} {
		if left, err := grid.After(c.has, l, c.done); !slices.Equal(left, c.want) || err != c.err {
			t.Errorf("%s: After = %v, %d; want %v, %d", c.name, left, err, c.want, c.err)
		}
	}
	if left, err := grid.After(hasOf(0, 5), nil, []int{0}); len(left) != 0 || err != api.ErrMany {
		t.Errorf("After without dues = %v, %d; want error %d", left, err, api.ErrMany)
	}
}

func TestI3AfterWithTheGreatestAmounts(t *testing.T) {
	for _, c := range []struct {
		has, want []int
		l         []api.Due
	}{
		{hasOf(0, top/2), hasOf(30, top/2), list(0, 30, top/2)},
		{hasOf(0, top-1), hasOf(0, top-2, 30, 1), list(0, 30, 1)},
		{hasOf(0, 1, 1, top-9), hasOf(0, 9, 1, top-17), list(1, 0, 8)},
		{hasOf(), hasOf(), list(0, 30, top/2, 30, 0, top/2)},
	} {
		if left, err := grid.After(c.has, c.l, upTo(len(c.l))); !slices.Equal(left, c.want) || err != api.OK {
			t.Errorf("After(%v, %v) = %v, %d; want %v", c.has, c.l, left, err, c.want)
		}
	}
}

func drawGrid(r *rand.Rand, among, most int) ([]int, []api.Due) {
	has := make([]int, parties)
	for party := range among {
		has[party] = r.Intn(10)
	}
	var l []api.Due
	for range r.Intn(most + 1) {
		from := r.Intn(among)
		to := (from + 1 + r.Intn(among-1)) % among
		l = append(l, list(from, to, 1+r.Intn(9))...)
	}
	return has, l
}

func TestI2I3OfDrawnDues(t *testing.T) {
	r := rand.New(rand.NewSource(1))
	some := 0
	for range 3000 {
		has, l := drawGrid(r, 2+r.Intn(parties-1), 60)
		var selected []int
		for i := range l {
			if r.Intn(4) > 0 {
				selected = append(selected, i)
			}
		}
		compareAll(t, "drawn", has, l, selected, []int{r.Intn(62) - 1, r.Intn(62) - 1})
		if done, _ := grid.Solve(has, l); len(done) > 0 && len(done) < len(l) {
			some++
		}
	}
	if some < 1000 {
		t.Errorf("just %d drawn lists are settled in part", some)
	}
}

// firstOnes lists all selections of dues that contain, of each party, the first ones.
func firstOnes(l []api.Due) [][]int {
	var all [][]int
	for bits := range 1 << len(l) {
		var selected []int
		stopped := [parties]bool{}
		valid := true
		for i, d := range l {
			if bits>>i&1 == 0 {
				stopped[d.From] = true
				continue
			}
			valid = valid && !stopped[d.From]
			selected = append(selected, i)
		}
		if valid {
			all = append(all, selected)
		}
	}
	return all
}

// TestI4NothingElseCanBeSettled tries all selections.
func TestI4NothingElseCanBeSettled(t *testing.T) {
	r := rand.New(rand.NewSource(2))
	for range 400 {
		has, l := drawGrid(r, 2+r.Intn(4), 9)
		done, err := grid.Solve(has, l)
		if err != api.OK {
			t.Fatalf("Solve(%v, %v): error %d", has, l, err)
		}
		isOne := false
		for _, selected := range firstOnes(l) {
			isOne = isOne || slices.Equal(selected, done)
			if _, err := grid.After(has, l, selected); err == api.ErrWide {
				continue
			}
			for _, i := range selected {
				if !slices.Contains(done, i) {
					t.Fatalf("Solve(%v, %v) = %v, but %v can be settled", has, l, done, selected)
				}
			}
		}
		if left, err := grid.After(has, l, done); !isOne || err != api.OK {
			t.Errorf("Solve(%v, %v) = %v; of first ones: %t; After = %v, %d", has, l, done, isOne, left, err)
		}
	}
}

// TestI3NoAmountIsLost checks that the parties have as much together as before.
func TestI3NoAmountIsLost(t *testing.T) {
	r := rand.New(rand.NewSource(3))
	sum := func(l []int) (all int) {
		for _, n := range l {
			all += n
		}
		return all
	}
	for range 1000 {
		has, l := drawGrid(r, 2+r.Intn(parties-1), 60)
		done, _ := grid.Solve(has, l)
		if left, err := grid.After(has, l, done); sum(left) != sum(has) || err != api.OK {
			t.Errorf("After(%v, %v, %v) = %v, %d: the sum is another one", has, l, done, left, err)
		}
	}
}

func TestP1NothingBesideAnError(t *testing.T) {
	for _, a := range edges {
		for _, b := range edges {
			for _, c := range edges {
				has, l := hasOf(0, a, 30, b), list(0, 30, c, 30, 0, b)
				if done, err := grid.Solve(has, l); err != api.OK && len(done) != 0 {
					t.Errorf("Solve(%v, %v) = %v with error %d", has, l, done, err)
				}
				for _, selected := range [][]int{{a}, {a, b}, {b, c}, {a, b, c}} {
					if left, err := grid.After(has, l, selected); err != api.OK && len(left) != 0 {
						t.Errorf("After(%v, %v, %v) = %v with error %d", has, l, selected, left, err)
					}
				}
			}
		}
	}
}

func TestP2ListsAreOnlyReadAndResultsAreNew(t *testing.T) {
	wholeHas := append(hasOf(0, 3, 1, 4), 77, 78)
	wholeDues := list(0, 1, 3, 1, 2, 7, 0, 2, 1, 77, 7, 7)
	wholeDone := []int{0, 1, 2, 77}
	has, l, selected := wholeHas[:parties], wholeDues[:3], wholeDone[:2]
	for range 2 {
		grid.Check(has, l)
		done, _ := grid.Solve(has, l)
		none, _ := grid.After(has, l, nil)
		left, _ := grid.After(has, l, selected)
		if !slices.Equal(done, []int{0, 1}) || !slices.Equal(none, hasOf(0, 3, 1, 4)) || !slices.Equal(left, hasOf(2, 7)) {
			t.Errorf("Solve = %v, After = %v and %v", done, none, left)
		}
		clear(done[:cap(done)]) // results that shared memory would show in the next round
		clear(none[:cap(none)])
		clear(left[:cap(left)])
	}
	if !slices.Equal(wholeHas, append(hasOf(0, 3, 1, 4), 77, 78)) || !slices.Equal(wholeDues, list(0, 1, 3, 1, 2, 7, 0, 2, 1, 77, 7, 7)) || !slices.Equal(wholeDone, []int{0, 1, 2, 77}) {
		t.Errorf("after the calls the arguments and what is behind them are %v, %v, %v", wholeHas, wholeDues, wholeDone)
	}
}

func TestP3CallsDoNotSeeEarlierOnes(t *testing.T) {
	has, l := hasOf(0, 5), list(0, 1, 5)
	for range 3 {
		if done, err := grid.Solve(has, l); !slices.Equal(done, []int{0}) || err != api.OK {
			t.Errorf("Solve = %v, %d", done, err)
		}
		has[0] = 4 // what was kept would show here
		if done, err := grid.Solve(has, l); len(done) != 0 || err != api.OK {
			t.Errorf("Solve = %v, %d", done, err)
		}
		if left, err := grid.After(has, l, nil); !slices.Equal(left, hasOf(0, 4)) || err != api.OK {
			t.Errorf("After = %v, %d", left, err)
		}
		has[0] = 5
	}
}

func TestP4LongLists(t *testing.T) {
	long, dues := make([]int, 1<<22), make([]api.Due, 1<<22)
	if err := grid.Check(long, dues); err != api.ErrForm {
		t.Errorf("Check of many parties = %d, want %d", err, api.ErrForm)
	}
	if _, err := grid.Solve(hasOf(), dues); err != api.ErrMany {
		t.Errorf("Solve of many dues = %d, want %d", err, api.ErrMany)
	}
	if _, err := grid.After(hasOf(), list(0, 1, 1), long); err != api.ErrMany {
		t.Errorf("After of many indices = %d, want %d", err, api.ErrMany)
	}
}
