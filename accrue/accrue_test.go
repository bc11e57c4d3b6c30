package accrue_test

import (
	"math"
	"math/big"
	"math/rand"
	"testing"
	"time"

	"demurrage/accrue"
	"demurrage/api"
	"demurrage/date"
)

const (
	top    = api.MaxSum
	last   = api.MaxDay
	monday = 739935 // November 16 of 2026
)

var (
	kinds   = []int{api.Real360, api.Real365, api.Flat360}
	noKinds = []int{math.MinInt, -1, 0, 4, math.MaxInt}
	noDays  = []int{math.MinInt, -last, -1, last + 1, math.MaxInt}
	noRates = []int{math.MinInt, -1, api.Scale + 1, math.MaxInt}
)

// edges are the numbers around every limit of the chapter, and the outermost ones.
var edges = []int{
	math.MinInt, -top - 1, -top, -1, 0, 1, 2, 3, 4, 30, 31, 58, 59, 360, 365, 366, api.Scale, api.Scale + 1,
	monday, last - 1, last, last + 1, top, top + 1, math.MaxInt,
}

func utc(year, month, day int) time.Time {
	return time.Date(year, time.Month(month), day, 0, 0, 0, 0, time.UTC)
}

// dayOf returns the number of a date that exists.
func dayOf(year, month, day int) int {
	n, _ := date.From(year, month, day)
	return n
}

// flatNumber computes anew, with the library's calendar, what Flat360 takes the difference of.
func flatNumber(day time.Time) int {
	year, month, d := day.Date()
	if d == 31 {
		d = 30
	}
	return 360*year + 30*int(month) + d
}

// wantDays computes Days anew, for a kind and days that are valid and in order.
func wantDays(kind, from, to int) int {
	a, b := utc(1, 1, 1).AddDate(0, 0, from), utc(1, 1, 1).AddDate(0, 0, to)
	if kind == api.Flat360 {
		return flatNumber(b) - flatNumber(a)
	}
	return int((b.Unix() - a.Unix()) / 86400)
}

// wantInterest computes Interest anew, with numbers of any size, for valid arguments.
func wantInterest(kind, amount, rate, from, to int) (int, api.Errno) {
	year := map[int]int{api.Real360: 360, api.Real365: 365, api.Flat360: 360}[kind]
	product := big.NewInt(int64(amount))
	product.Mul(product, big.NewInt(int64(rate)))
	product.Mul(product, big.NewInt(int64(wantDays(kind, from, to))))
	product.Div(product, big.NewInt(int64(year*api.Scale))) // by more than 0, it rounds down
	if new(big.Int).Abs(product).Cmp(big.NewInt(top)) > 0 {
		return 0, api.ErrWide
	}
	return int(product.Int64()), api.OK
}

func TestE1Year(t *testing.T) {
	for kind, want := range map[int]int{api.Real360: 360, api.Real365: 365, api.Flat360: 360} {
		if n, err := accrue.Year(kind); n != want || err != api.OK {
			t.Errorf("Year(%d) = %d, %d; want %d", kind, n, err, want)
		}
	}
	for _, kind := range noKinds {
		if n, err := accrue.Year(kind); n != 0 || err != api.ErrKind {
			t.Errorf("Year(%d) = %d, %d; want 0, %d", kind, n, err, api.ErrKind)
		}
	}
}

func TestE1Days(t *testing.T) {
	for _, c := range []struct {
		name       string
		from, to   int
		real, flat int
	}{
		{"a day to itself", monday, monday, 0, 0},
		{"a 31st to itself", dayOf(2026, 12, 31), dayOf(2026, 12, 31), 0, 0},
		{"to the next day", monday, monday + 1, 1, 1},
		{"two weeks", monday, monday + 14, 14, 14},
		{"a month of 30 days", dayOf(2026, 11, 16), dayOf(2026, 12, 16), 30, 30},
		{"a month of 31 days", dayOf(2026, 12, 16), dayOf(2027, 1, 16), 31, 30},
		{"a February", dayOf(2026, 2, 16), dayOf(2026, 3, 16), 28, 30},
		{"a 30th to a 31st", dayOf(2026, 12, 30), dayOf(2026, 12, 31), 1, 0},
		{"a 31st to a 1st", dayOf(2026, 12, 31), dayOf(2027, 1, 1), 1, 1},
		{"a 29th to a 31st", dayOf(2026, 12, 29), dayOf(2026, 12, 31), 2, 1},
		{"a 31st to a 31st", dayOf(2026, 7, 31), dayOf(2026, 8, 31), 31, 30},
		{"a 31st to a 30th", dayOf(2026, 8, 31), dayOf(2026, 9, 30), 30, 30},
		{"the end of a February is no 30th", dayOf(2026, 2, 28), dayOf(2026, 3, 1), 1, 3},
		{"nor is that of a leap year", dayOf(2024, 2, 29), dayOf(2024, 3, 1), 1, 2},
		{"a 31st to the end of a February", dayOf(2026, 1, 31), dayOf(2026, 2, 28), 28, 28},
		{"a year", dayOf(2026, 11, 16), dayOf(2027, 11, 16), 365, 360},
		{"a leap year", dayOf(2024, 1, 1), dayOf(2025, 1, 1), 366, 360},
		{"all days", 0, last, last, 3599639},
	} {
		for kind, want := range map[int]int{api.Real360: c.real, api.Real365: c.real, api.Flat360: c.flat} {
			if n, err := accrue.Days(kind, c.from, c.to); n != want || err != api.OK {
				t.Errorf("%s: Days(%d, %d, %d) = %d, %d; want %d", c.name, kind, c.from, c.to, n, err, want)
			}
		}
	}
}

// TestE1DaysOfAllDays counts from the first day on to every day.
func TestE1DaysOfAllDays(t *testing.T) {
	day := utc(1, 1, 1)
	first := flatNumber(day)
	for n := 0; n <= last; n++ {
		for _, kind := range kinds {
			want := n
			if kind == api.Flat360 {
				want = flatNumber(day) - first
			}
			if got, err := accrue.Days(kind, 0, n); got != want || err != api.OK {
				t.Fatalf("Days(%d, 0, %d) = %d, %d; want %d", kind, n, got, err, want)
			}
		}
		day = day.AddDate(0, 0, 1)
	}
}

func TestE1DaysBetweenAnyTwo(t *testing.T) {
	r := rand.New(rand.NewSource(1))
	for range 50000 {
		from := r.Intn(last + 1)
		to := from + r.Intn(last+1-from)>>r.Intn(20)
		for _, kind := range kinds {
			want := wantDays(kind, from, to)
			if got, err := accrue.Days(kind, from, to); got != want || err != api.OK {
				t.Fatalf("Days(%d, %d, %d) = %d, %d; want %d", kind, from, to, got, err, want)
			}
		}
	}
}

func TestE1DaysErrors(t *testing.T) {
	for _, kind := range kinds {
		for _, n := range noDays {
			for _, c := range [][2]int{{n, monday}, {monday, n}, {n, n}, {n, -1}, {last + 1, n}} {
				if got, err := accrue.Days(kind, c[0], c[1]); got != 0 || err != api.ErrRange {
					t.Errorf("Days(%d, %d, %d) = %d, %d; want 0, %d", kind, c[0], c[1], got, err, api.ErrRange)
				}
			}
		}
		for _, c := range [][2]int{{1, 0}, {monday, monday - 1}, {last, 0}, {dayOf(2026, 12, 31), dayOf(2026, 12, 30)}} {
			if got, err := accrue.Days(kind, c[0], c[1]); got != 0 || err != api.ErrForm {
				t.Errorf("Days(%d, %d, %d) = %d, %d; want 0, %d", kind, c[0], c[1], got, err, api.ErrForm)
			}
		}
	}
	for _, kind := range noKinds {
		for _, c := range [][2]int{{0, 1}, {1, 0}, {-1, 0}, {0, last + 1}} { // the kind comes before all else
			if got, err := accrue.Days(kind, c[0], c[1]); got != 0 || err != api.ErrKind {
				t.Errorf("Days(%d, %d, %d) = %d, %d; want 0, %d", kind, c[0], c[1], got, err, api.ErrKind)
			}
		}
	}
}

func TestE2Interest(t *testing.T) {
	newYear := dayOf(2023, 1, 1)
	const scale = api.Scale
	for _, c := range []struct {
		name         string
		kind         int
		amount, rate int
		from, to     int
		want         int
		err          api.Errno
	}{
		{"a year of 360 days", api.Real360, 1000, scale, newYear, newYear + 360, 1000, api.OK},
		{"a year counted as 360 days", api.Real360, 3600, scale, newYear, newYear + 365, 3650, api.OK},
		{"a year of 365 days", api.Real365, 1000, scale, newYear, newYear + 365, 1000, api.OK},
		{"a leap year counted as 365 days", api.Real365, 3650, scale, newYear + 365, newYear + 731, 3660, api.OK},
		{"a year of twelve months", api.Flat360, 1000, scale, newYear, newYear + 365, 1000, api.OK},
		{"a month", api.Flat360, 1200, scale, newYear, newYear + 31, 100, api.OK},
		{"a low rate", api.Real360, 123456789, 375, monday, monday + 14, 180041, api.OK},
		{"rounded down", api.Real360, 359, scale, 0, 1, 0, api.OK},
		{"just one", api.Real360, 360, scale, 0, 1, 1, api.OK},
		{"rounded down below 0", api.Real360, -1, 1, 0, 1, -1, api.OK},
		{"just less than one below 0", api.Real360, -359, scale, 0, 1, -1, api.OK},
		{"just one below 0", api.Real360, -360, scale, 0, 1, -1, api.OK},
		{"just more than one below 0", api.Real360, -361, scale, 0, 1, -2, api.OK},
		{"rounded only once", api.Real360, 1, 1, 0, 3600000, 1, api.OK},
		{"no days", api.Real365, -top, scale, monday, monday, 0, api.OK},
		{"no days between a 30th and a 31st", api.Flat360, 1 << 40, scale, dayOf(2026, 12, 30), dayOf(2026, 12, 31), 0, api.OK},
		{"no rate", api.Real365, -top, 0, 0, last, 0, api.OK},
		{"no amount", api.Real365, 0, scale, 0, last, 0, api.OK},
		{"greatest result", api.Real365, top, scale, 0, 365, top, api.OK},
		{"least result", api.Real365, -top, scale, 0, 365, -top, api.OK},
		{"greatest result and a remainder", api.Real365, top*365/366 + 1, scale, 0, 366, top, api.OK},
		{"rounded down to too little", api.Real365, -(top*365/366 + 1), scale, 0, 366, 0, api.ErrWide},
		{"too much", api.Real365, top, scale, 0, 366, 0, api.ErrWide},
		{"too little", api.Real365, -top, scale, 0, 366, 0, api.ErrWide},
		{"too much by far", api.Real360, top, scale, 0, last, 0, api.ErrWide},
		{"a long time at the lowest rate", api.Real360, 10000, 1, 0, last, 10144, api.OK},
		{"to is less than from", api.Real360, 1, 1, 1, 0, 0, api.ErrForm},
		{"not an amount", api.Real360, top + 1, 0, 0, 0, 0, api.ErrRange},
		{"the days come before the amount", api.Real360, top + 1, 0, 1, 0, 0, api.ErrForm},
		{"the days come before the rate", api.Flat360, 1, -1, 1, 0, 0, api.ErrForm},
		{"the kind comes before all else", 0, top + 1, -1, -1, -2, 0, api.ErrKind},
		{"the range of the rate comes before the width", api.Real360, top, scale + 1, 0, last, 0, api.ErrRange},
	} {
		if got, err := accrue.Interest(c.kind, c.amount, c.rate, c.from, c.to); got != c.want || err != c.err {
			t.Errorf("%s: Interest = %d, %d; want %d, %d", c.name, got, err, c.want, c.err)
		}
	}
}

func TestE2InterestAgreesWithExactNumbers(t *testing.T) {
	r := rand.New(rand.NewSource(2))
	for range 100000 {
		kind := kinds[r.Intn(len(kinds))]
		amount := (r.Intn(2*top+1) - top) >> r.Intn(60)
		rate := r.Intn(api.Scale+1) >> r.Intn(14)
		from := r.Intn(last + 1)
		to := from + r.Intn(last+1-from)>>r.Intn(20)
		want, wantErr := wantInterest(kind, amount, rate, from, to)
		if got, err := accrue.Interest(kind, amount, rate, from, to); got != want || err != wantErr {
			t.Fatalf("Interest(%d, %d, %d, %d, %d) = %d, %d; want %d, %d", kind, amount, rate, from, to, got, err, want, wantErr)
		}
	}
}

func TestE2InterestErrors(t *testing.T) {
	check := func(kind, amount, rate, from, to int, want api.Errno) {
		t.Helper()
		if got, err := accrue.Interest(kind, amount, rate, from, to); got != 0 || err != want {
			t.Errorf("Interest(%d, %d, %d, %d, %d) = %d, %d; want 0, %d", kind, amount, rate, from, to, got, err, want)
		}
	}
	for _, kind := range kinds {
		for _, n := range noDays {
			check(kind, 1, 1, n, monday, api.ErrRange)
			check(kind, 1, 1, monday, n, api.ErrRange)
		}
		for _, rate := range noRates {
			check(kind, 1, rate, monday, monday+1, api.ErrRange)
			check(kind, 0, rate, monday, monday, api.ErrRange)
		}
		for _, amount := range []int{math.MinInt, -top - 1, top + 1, math.MaxInt} {
			check(kind, amount, 1, monday, monday+1, api.ErrRange)
		}
	}
	for _, kind := range noKinds {
		check(kind, 1, 1, monday, monday+1, api.ErrKind)
	}
}

func TestP1NothingBesideAnError(t *testing.T) {
	for _, kind := range append(noKinds, kinds...) {
		for _, a := range edges {
			for _, b := range edges {
				if n, err := accrue.Days(kind, a, b); err != api.OK && n != 0 {
					t.Errorf("Days(%d, %d, %d) = %d with error %d", kind, a, b, n, err)
				}
				for _, c := range edges {
					for _, d := range edges {
						if n, err := accrue.Interest(kind, a, b, c, d); err != api.OK && n != 0 {
							t.Errorf("Interest(%d, %d, %d, %d, %d) = %d with error %d", kind, a, b, c, d, n, err)
						}
					}
				}
			}
		}
	}
}

func TestP3CallsDoNotSeeEarlierOnes(t *testing.T) {
	for range 3 {
		accrue.Year(api.Real365) // a year that was kept would show below
		accrue.Interest(api.Real365, top, api.Scale, 0, last)
		if n, err := accrue.Interest(api.Flat360, 720, api.Scale, 0, 31); n != 60 || err != api.OK {
			t.Errorf("Interest = %d, %d; want 60, 0", n, err)
		}
		accrue.Days(api.Real365, 0, 31)
		if n, err := accrue.Days(api.Flat360, 0, 31); n != 30 || err != api.OK {
			t.Errorf("Days = %d, %d; want 30, 0", n, err)
		}
	}
}
