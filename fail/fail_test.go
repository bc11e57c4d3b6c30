package fail_test

import (
	"math"
	"math/big"
	"math/rand"
	"slices"
	"testing"

	"demurrage/api"
	"demurrage/fail"
)

const (
	maxRate  = 1 << 40
	maxUnits = 1 << 30
	maxDay   = 3652058
	monday   = 739935 // November 16 of 2026
)

// edges are the numbers around every limit of the chapter, and the outermost ones.
var edges = []int{
	math.MinInt, -maxUnits, -2, -1, 0, 1, 2, 3, 4, 5, 6, 19, 20, 21, 29, 30, 31, 999, 1000, 1001, maxDay - 1, maxDay, maxDay + 1,
	maxUnits - 1, maxUnits, maxUnits + 1, maxRate - 1, maxRate, maxRate + 1, 1 << 62, math.MaxInt,
}

// good is a fail of which 300 of 1000 units are open.
var good = api.Fail{Id: 7, From: 1, To: 2, Class: 3, Paper: 4, Day: monday, Units: 1000, Delivered: 400, Bought: 200, Paid: 100}

// with returns the good fail after a change.
func with(change func(f *api.Fail)) api.Fail {
	f := good
	change(&f)
	return f
}

// become returns the good fail with other units.
func become(units, delivered, bought, paid int) api.Fail {
	return with(func(f *api.Fail) { f.Units, f.Delivered, f.Bought, f.Paid = units, delivered, bought, paid })
}

// named makes the list of good fails with Ids.
func named(ids ...int) []api.Fail {
	var l []api.Fail
	for _, id := range ids {
		l = append(l, with(func(f *api.Fail) { f.Id = id }))
	}
	return l
}

// upTo makes a list of many good fails.
func upTo(many int) []api.Fail {
	var l []api.Fail
	for id := range many {
		l = append(l, named(id+1)...)
	}
	return l
}

// fields lists where the numbers of a fail are.
func fields(f *api.Fail) []*int {
	return []*int{&f.Id, &f.From, &f.To, &f.Class, &f.Paper, &f.Day, &f.Units, &f.Delivered, &f.Bought, &f.Paid}
}

// wantOpen computes the units that are open with numbers of any size.
func wantOpen(f api.Fail) *big.Int {
	left := big.NewInt(int64(f.Units))
	for _, units := range []int{f.Delivered, f.Bought, f.Paid} {
		left.Sub(left, big.NewInt(int64(units)))
	}
	return left
}

func wantCheck(f api.Fail) api.Errno {
	least := []int{1, 0, 0, 0, 1, 0, 1}
	most := []int{maxRate, 30, 30, 5, 20, maxDay, maxUnits}
	for i, n := range fields(&f)[:7] {
		if *n < least[i] || *n > most[i] {
			return api.ErrRange
		}
	}
	if f.From == f.To {
		return api.ErrForm
	}
	for _, n := range fields(&f)[7:] {
		if *n < 0 || *n > f.Units {
			return api.ErrRange
		}
	}
	if wantOpen(f).Sign() < 0 {
		return api.ErrState
	}
	return api.OK
}

func wantTaken(f api.Fail, units int) api.Errno {
	if e := wantCheck(f); e != api.OK {
		return e
	}
	if units < 1 || units > maxUnits {
		return api.ErrRange
	}
	if wantOpen(f).Sign() == 0 {
		return api.ErrNone
	}
	if wantOpen(f).Cmp(big.NewInt(int64(units))) < 0 {
		return api.ErrWide
	}
	return api.OK
}

// compareAll compares all functions of one fail.
func compareAll(t *testing.T, f api.Fail, units ...int) {
	t.Helper()
	want, left := wantCheck(f), 0
	if err := fail.Check(f); err != want {
		t.Errorf("Check(%v) = %d, want %d", f, err, want)
	}
	if want == api.OK {
		left = int(wantOpen(f).Int64())
	}
	if got, err := fail.Open(f); got != left || err != want {
		t.Errorf("Open(%v) = %d, %d; want %d, %d", f, got, err, left, want)
	}
	for _, n := range units {
		compareTaken(t, f, n)
	}
	wantPaid, wantErr := f, want
	wantPaid.Paid += left
	if want == api.OK && left == 0 {
		wantErr = api.ErrNone
	}
	if wantErr != api.OK {
		wantPaid = api.Fail{}
	}
	if got, many, err := fail.Pay(f); got != wantPaid || many != left || err != wantErr {
		t.Errorf("Pay(%v) = %v, %d, %d; want %v, %d, %d", f, got, many, err, wantPaid, left, wantErr)
	}
}

func compareTaken(t *testing.T, f api.Fail, units int) {
	t.Helper()
	delivered, bought, want := f, f, wantTaken(f, units)
	delivered.Delivered += units
	bought.Bought += units
	if want != api.OK {
		delivered, bought = api.Fail{}, api.Fail{}
	}
	if got, err := fail.Deliver(f, units); got != delivered || err != want {
		t.Errorf("Deliver(%v, %d) = %v, %d; want %v, %d", f, units, got, err, delivered, want)
	}
	if got, err := fail.Buy(f, units); got != bought || err != want {
		t.Errorf("Buy(%v, %d) = %v, %d; want %v, %d", f, units, got, err, bought, want)
	}
}

// checked are fails, with the error of Check.
var checked = []struct {
	name string
	f    api.Fail
	err  api.Errno
}{
	{"a good one", good, api.OK},
	{"the least numbers", api.Fail{Id: 1, To: 1, Paper: 1, Units: 1}, api.OK},
	{"the least numbers, the other way", api.Fail{Id: 1, From: 1, Paper: 1, Units: 1}, api.OK},
	{"the greatest numbers", api.Fail{Id: maxRate, From: 30, To: 29, Class: 5, Paper: 20, Day: maxDay, Units: maxUnits, Delivered: maxUnits}, api.OK},
	{"all bought", become(1000, 0, 1000, 0), api.OK},
	{"all paid", become(1000, 0, 0, 1000), api.OK},
	{"nothing is open", become(1000, 400, 500, 100), api.OK},
	{"none", api.Fail{}, api.ErrRange},
	{"no Id", with(func(f *api.Fail) { f.Id = 0 }), api.ErrRange},
	{"an Id below 0", with(func(f *api.Fail) { f.Id = -7 }), api.ErrRange},
	{"too great an Id", with(func(f *api.Fail) { f.Id = maxRate + 1 }), api.ErrRange},
	{"from no party", with(func(f *api.Fail) { f.From = 31 }), api.ErrRange},
	{"from a party below 0", with(func(f *api.Fail) { f.From = -1 }), api.ErrRange},
	{"to no party", with(func(f *api.Fail) { f.To = 31 }), api.ErrRange},
	{"to a party below 0", with(func(f *api.Fail) { f.To = -1 }), api.ErrRange},
	{"no class", with(func(f *api.Fail) { f.Class = 6 }), api.ErrRange},
	{"a class below 0", with(func(f *api.Fail) { f.Class = -1 }), api.ErrRange},
	{"money is no paper", with(func(f *api.Fail) { f.Paper = 0 }), api.ErrRange},
	{"no paper", with(func(f *api.Fail) { f.Paper = 21 }), api.ErrRange},
	{"a day below 0", with(func(f *api.Fail) { f.Day = -1 }), api.ErrRange},
	{"a day after the last one", with(func(f *api.Fail) { f.Day = maxDay + 1 }), api.ErrRange},
	{"no units", become(0, 0, 0, 0), api.ErrRange},
	{"units below 0", become(-1, -1, -1, -1), api.ErrRange},
	{"too many units", become(maxUnits+1, 0, 0, 0), api.ErrRange},
	{"to itself", with(func(f *api.Fail) { f.To = f.From }), api.ErrForm},
	{"delivered below 0", become(1000, -1, 0, 0), api.ErrRange},
	{"more delivered than there are", become(1000, 1001, 0, 0), api.ErrRange},
	{"bought below 0", become(1000, 0, -1, 0), api.ErrRange},
	{"more bought than there are", become(1000, 0, 1001, 0), api.ErrRange},
	{"paid below 0", become(1000, 0, 0, -1), api.ErrRange},
	{"more paid than there are", become(1000, 0, 0, 1001), api.ErrRange},
	{"one below 0, with a sum that could be", become(1000, 600, 600, -200), api.ErrRange},
	{"one too many in all", become(1000, 400, 501, 100), api.ErrState},
	{"one too many paid", become(1000, 0, 1000, 1), api.ErrState},
	{"all of it three times", become(maxUnits, maxUnits, maxUnits, maxUnits), api.ErrState},
	{"a sum that is less than 0 in one word", become(1000, 1<<62, 1<<62, 1), api.ErrRange},
	{"no parties come before one party", api.Fail{Id: 1, From: 31, To: 31, Paper: 1, Units: 1}, api.ErrRange},
	{"the units come before one party", with(func(f *api.Fail) { f.To, f.Units = f.From, 0 }), api.ErrRange},
	{"one party comes before what was delivered", with(func(f *api.Fail) { f.To, f.Delivered = f.From, -1 }), api.ErrForm},
	{"one party comes before the sum", with(func(f *api.Fail) { f.To, f.Paid = f.From, 1000 }), api.ErrForm},
	{"the range comes before the sum", become(1000, 1000, 1000, 1001), api.ErrRange},
}

func TestK1Check(t *testing.T) {
	for _, c := range checked {
		if err := fail.Check(c.f); err != c.err {
			t.Errorf("%s: Check = %d, want %d", c.name, err, c.err)
		}
	}
}

func TestK1Open(t *testing.T) {
	for _, c := range []struct {
		name string
		f    api.Fail
		want int
	}{
		{"some", good, 300},
		{"all", become(1000, 0, 0, 0), 1000},
		{"one", become(1000, 999, 0, 0), 1},
		{"none", become(1000, 1000, 0, 0), 0},
		{"none, all bought", become(1, 0, 1, 0), 0},
		{"none, all paid", become(1, 0, 0, 1), 0},
		{"none, in three ways", become(3, 1, 1, 1), 0},
		{"as many as may be", become(maxUnits, 0, 0, 0), maxUnits},
	} {
		if got, err := fail.Open(c.f); got != c.want || err != api.OK {
			t.Errorf("%s: Open = %d, %d; want %d", c.name, got, err, c.want)
		}
	}
}

func TestK1K2ErrorsOfCheck(t *testing.T) {
	for _, c := range checked {
		compareAll(t, c.f, 0, 1, 300, 1000)
		if c.err == api.OK {
			continue
		}
		// That of Check comes before all others.
		for _, units := range []int{math.MinInt, 0, 1, maxUnits + 1} {
			_, ofDeliver := fail.Deliver(c.f, units)
			_, ofBuy := fail.Buy(c.f, units)
			if ofDeliver != c.err || ofBuy != c.err {
				t.Errorf("%s: errors of Deliver and Buy are %d, %d; want %d", c.name, ofDeliver, ofBuy, c.err)
			}
		}
		if _, _, err := fail.Pay(c.f); err != c.err {
			t.Errorf("%s: error of Pay is %d, want %d", c.name, err, c.err)
		}
	}
}

func TestK1K2AllEdges(t *testing.T) {
	for i := range fields(&api.Fail{}) {
		for j := range i {
			for _, a := range edges {
				for _, b := range edges {
					f := good
					*fields(&f)[i], *fields(&f)[j] = a, b
					compareAll(t, f, a, b)
				}
			}
		}
	}
}

func TestK2DeliverAndBuy(t *testing.T) {
	done := become(1000, 400, 500, 100)
	for _, c := range []struct {
		name   string
		f      api.Fail
		units  int
		err    api.Errno
		either int // how many are delivered, or bought, then
	}{
		{"one", good, 1, api.OK, 1},
		{"all but one", good, 299, api.OK, 299},
		{"all", good, 300, api.OK, 300},
		{"one too many", good, 301, api.ErrWide, 0},
		{"as many as there were", good, 1000, api.ErrWide, 0},
		{"as many as may be", good, maxUnits, api.ErrWide, 0},
		{"more than may be", good, maxUnits + 1, api.ErrRange, 0},
		{"none", good, 0, api.ErrRange, 0},
		{"less than none", good, -1, api.ErrRange, 0},
		{"the least number", good, math.MinInt, api.ErrRange, 0},
		{"the greatest number", good, math.MaxInt, api.ErrRange, 0},
		{"all of as many as may be", become(maxUnits, 0, 0, 0), maxUnits, api.OK, maxUnits},
		{"nothing is open", done, 1, api.ErrNone, 0},
		{"nothing is open for many", done, maxUnits, api.ErrNone, 0},
		{"the range comes before nothing", done, 0, api.ErrRange, 0},
		{"too many come before nothing", done, maxUnits + 1, api.ErrRange, 0},
	} {
		delivered, bought := c.f, c.f
		delivered.Delivered += c.either
		bought.Bought += c.either
		if c.err != api.OK {
			delivered, bought = api.Fail{}, api.Fail{}
		}
		if got, err := fail.Deliver(c.f, c.units); got != delivered || err != c.err {
			t.Errorf("%s: Deliver = %v, %d; want %v, %d", c.name, got, err, delivered, c.err)
		}
		if got, err := fail.Buy(c.f, c.units); got != bought || err != c.err {
			t.Errorf("%s: Buy = %v, %d; want %v, %d", c.name, got, err, bought, c.err)
		}
	}
}

func TestK2Pay(t *testing.T) {
	for _, c := range []struct {
		name  string
		f     api.Fail
		paid  api.Fail
		units int
		err   api.Errno
	}{
		{"some", good, become(1000, 400, 200, 400), 300, api.OK},
		{"all", become(1000, 0, 0, 0), become(1000, 0, 0, 1000), 1000, api.OK},
		{"one", become(1000, 0, 999, 0), become(1000, 0, 999, 1), 1, api.OK},
		{"as many as may be", become(maxUnits, 0, 0, 0), become(maxUnits, 0, 0, maxUnits), maxUnits, api.OK},
		{"all delivered", become(1000, 1000, 0, 0), api.Fail{}, 0, api.ErrNone},
		{"all bought", become(1000, 0, 1000, 0), api.Fail{}, 0, api.ErrNone},
		{"all paid already", become(1000, 0, 0, 1000), api.Fail{}, 0, api.ErrNone},
	} {
		if got, units, err := fail.Pay(c.f); got != c.paid || units != c.units || err != c.err {
			t.Errorf("%s: Pay = %v, %d, %d; want %v, %d, %d", c.name, got, units, err, c.paid, c.units, c.err)
		}
	}
}

// TestK2UnitsAreNeverMoreOrFewer follows a fail until nothing of it is open.
func TestK2UnitsAreNeverMoreOrFewer(t *testing.T) {
	r := rand.New(rand.NewSource(1))
	for range 2000 {
		f := become(1+r.Intn(maxUnits)>>r.Intn(30), 0, 0, 0)
		left := f.Units
		for left > 0 {
			compareAll(t, f, left, left+1)
			units := 1 + r.Intn(left)
			var err api.Errno
			switch r.Intn(5) {
			case 0:
				f, units, err = fail.Pay(f)
			case 1, 2:
				f, err = fail.Deliver(f, units)
			default:
				f, err = fail.Buy(f, units)
			}
			left -= units
			if open, e := fail.Open(f); open != left || e != api.OK || err != api.OK || f.Delivered+f.Bought+f.Paid+open != f.Units {
				t.Fatalf("of %v are open %d, %d, %d; want %d", f, open, e, err, left)
			}
		}
		compareAll(t, f, 1)
	}
}

// lists are lists of fails, with the error of Checks.
var lists = []struct {
	name string
	l    []api.Fail
	err  api.Errno
}{
	{"nil", nil, api.OK},
	{"none", []api.Fail{}, api.OK},
	{"one", named(5), api.OK},
	{"several, in no order of Ids", named(5, 9, 1, maxRate, 2), api.OK},
	{"as many as may be", upTo(60), api.OK},
	{"one too many", upTo(61), api.ErrMany},
	{"too many come before the range", make([]api.Fail, 61), api.ErrMany},
	{"too many come before twice", slices.Repeat(named(5), 61), api.ErrMany},
	{"no fail", []api.Fail{{}}, api.ErrRange},
	{"no fail at the end", append(upTo(59), api.Fail{}), api.ErrRange},
	{"to itself", append(named(3), with(func(f *api.Fail) { f.To = f.From })), api.ErrForm},
	{"too many in all", append(named(3), become(1000, 1000, 1, 0)), api.ErrState},
	{"twice in a row", named(5, 5), api.ErrTwice},
	{"twice", named(5, 6, 5), api.ErrTwice},
	{"twice, at both ends", append(upTo(59), named(1)...), api.ErrTwice},
	{"twice, with other fields", append(named(7), api.Fail{Id: 7, To: 1, Paper: 1, Units: 1}), api.ErrTwice},
	{"the same fields with another Id", append(named(7), named(8)...), api.OK},
	{"of one fail the range comes before twice", append(named(7), become(0, 0, 0, 0)), api.ErrRange},
	{"of one fail its sum comes before twice", append(named(7), become(1, 1, 1, 1)), api.ErrState},
	{"twice comes before the range of a later one", append(named(5, 5), api.Fail{}), api.ErrTwice},
	{"the range comes before twice later", append([]api.Fail{{}}, named(5, 5)...), api.ErrRange},
	{"the first one of two errors", append([]api.Fail{become(1, 1, 1, 1)}, api.Fail{}), api.ErrState},
}

func TestK3Checks(t *testing.T) {
	for _, c := range lists {
		if err := fail.Checks(c.l); err != c.err {
			t.Errorf("%s: Checks = %d, want %d", c.name, err, c.err)
		}
	}
	for _, c := range checked {
		for _, l := range [][]api.Fail{{c.f}, append(named(3), c.f), append([]api.Fail{c.f}, named(3)...)} {
			if err := fail.Checks(l); err != c.err {
				t.Errorf("%s: Checks(%v) = %d, want %d", c.name, l, err, c.err)
			}
		}
	}
}

func TestK3FindAll(t *testing.T) {
	for _, c := range lists {
		ids := slices.Clone(edges)
		for i, f := range c.l {
			ids = append(ids, f.Id)
			if at, err := fail.Find(c.l, f.Id); c.err == api.OK && (at != i || err != api.OK) {
				t.Errorf("%s: Find(%d) = %d, %d; want %d", c.name, f.Id, at, err, i)
			}
		}
		for _, id := range ids {
			want, wantErr := 0, c.err
			if c.err == api.OK {
				want = slices.IndexFunc(c.l, func(f api.Fail) bool { return f.Id == id })
			}
			if want < 0 {
				want, wantErr = 0, api.ErrNone
			}
			if at, err := fail.Find(c.l, id); at != want || err != wantErr {
				t.Errorf("%s: Find(%d) = %d, %d; want %d, %d", c.name, id, at, err, want, wantErr)
			}
		}
	}
}

func TestK3Find(t *testing.T) {
	l := append(named(5, 9, 1), api.Fail{Id: 2, From: 5, To: 9, Class: 1, Paper: 3, Day: 4, Units: 8, Delivered: 6})
	for _, c := range []struct {
		name string
		l    []api.Fail
		id   int
		want int
		err  api.Errno
	}{
		{"the first one", l, 5, 0, api.OK},
		{"one in the middle", l, 1, 2, api.OK},
		{"the last one", l, 2, 3, api.OK},
		{"the last one of many", upTo(60), 60, 59, api.OK},
		{"none has it", l, 7, 0, api.ErrNone},
		{"other fields do not count", l, 4, 0, api.ErrNone},
		{"an index is no Id", l, 3, 0, api.ErrNone},
		{"there are none", nil, 1, 0, api.ErrNone},
		{"no Id", l, 0, 0, api.ErrNone},
		{"an Id below 0", l, -5, 0, api.ErrNone},
		{"an Id that there cannot be", l, maxRate + 1, 0, api.ErrNone},
		{"in a list with an error behind it", append(slices.Clone(l), api.Fail{}), 5, 0, api.ErrRange},
		{"twice", named(5, 5), 5, 0, api.ErrTwice},
		{"another one twice", named(5, 6, 6), 5, 0, api.ErrTwice},
		{"an Id of no fail", []api.Fail{{}}, 0, 0, api.ErrRange},
	} {
		if at, err := fail.Find(c.l, c.id); at != c.want || err != c.err {
			t.Errorf("%s: Find = %d, %d; want %d, %d", c.name, at, err, c.want, c.err)
		}
	}
}

func TestP1NothingBesideAnError(t *testing.T) {
	for _, c := range checked {
		for _, units := range edges {
			if open, err := fail.Open(c.f); err != api.OK && open != 0 {
				t.Errorf("%s: Open = %d with error %d", c.name, open, err)
			}
			delivered, err := fail.Deliver(c.f, units)
			if err != api.OK && delivered != (api.Fail{}) {
				t.Errorf("%s: Deliver(%d) = %v with error %d", c.name, units, delivered, err)
			}
			bought, err := fail.Buy(c.f, units)
			if err != api.OK && bought != (api.Fail{}) {
				t.Errorf("%s: Buy(%d) = %v with error %d", c.name, units, bought, err)
			}
			if at, err := fail.Find([]api.Fail{good, c.f}, units); err != api.OK && at != 0 {
				t.Errorf("%s: Find(%d) = %d with error %d", c.name, units, at, err)
			}
		}
		if paid, units, err := fail.Pay(c.f); err != api.OK && (paid != api.Fail{} || units != 0) {
			t.Errorf("%s: Pay = %v, %d with error %d", c.name, paid, units, err)
		}
	}
}

func TestP2ListsAreOnlyRead(t *testing.T) {
	whole := named(5, 9, 1, 1, 0)
	want := slices.Clone(whole)
	for _, l := range [][]api.Fail{whole[:3], whole[:4], whole} {
		fail.Checks(l)
		fail.Find(l, 9)
		fail.Find(l, 4)
	}
	if !slices.Equal(whole, want) {
		t.Errorf("after the calls the fails and those behind them are %v", whole)
	}
	if at, err := fail.Find(whole[:3], 1); at != 2 || err != api.OK { // what is behind the list does not count
		t.Errorf("Find = %d, %d; want 2", at, err)
	}
}

func TestP3CallsDoNotSeeEarlierOnes(t *testing.T) {
	l := named(5, 9)
	for range 3 {
		if err := fail.Checks(l); err != api.OK { // Ids that were kept would occur twice
			t.Errorf("Checks = %d", err)
		}
		if at, err := fail.Find(l, 9); at != 1 || err != api.OK {
			t.Errorf("Find = %d, %d; want 1", at, err)
		}
		l[0].Id, l[1].Id = 9, 5 // a list that was kept would show here
		if at, err := fail.Find(l, 9); at != 0 || err != api.OK {
			t.Errorf("Find = %d, %d; want 0", at, err)
		}
		l[0].Id, l[1].Id = 5, 9
		if f, units, err := fail.Pay(good); f.Paid != 400 || units != 300 || err != api.OK {
			t.Errorf("Pay = %v, %d, %d", f, units, err)
		}
	}
}

func TestP4LongLists(t *testing.T) {
	long := make([]api.Fail, 1<<20)
	_, ofFind := fail.Find(long, 1)
	if err := fail.Checks(long); err != api.ErrMany || ofFind != api.ErrMany {
		t.Errorf("errors are %d, %d; want %d", err, ofFind, api.ErrMany)
	}
}
