package cal_test

import (
	"math"
	"math/rand"
	"slices"
	"testing"

	"demurrage/api"
	"demurrage/cal"
	"demurrage/date"
)

const (
	last   = api.MaxDay
	step   = api.MaxStep
	monday = 739935 // November 16 of 2026
)

// week is a calendar of Saturdays and Sundays, without the holidays given.
func week(holidays ...int) api.Cal { return api.Cal{Weekend: 96, Holidays: holidays} }

// mondays is a calendar whose only business days are Mondays, without the holidays given.
func mondays(holidays ...int) api.Cal { return api.Cal{Weekend: 126, Holidays: holidays} }

// count returns a list of numbers, from one on, each one greater by a stride.
func count(from, many, stride int) []int {
	l := make([]int, many)
	for i := range l {
		l[i] = from + i*stride
	}
	return l
}

// badCals are calendars that are none, and why.
var badCals = []struct {
	name string
	cal  api.Cal
	err  api.Errno
}{
	{"weekend below 0", api.Cal{Weekend: -1}, api.ErrRange},
	{"no day of the week is left", api.Cal{Weekend: 127}, api.ErrRange},
	{"a week of eight days", api.Cal{Weekend: 128}, api.ErrRange},
	{"least weekend", api.Cal{Weekend: math.MinInt}, api.ErrRange},
	{"greatest weekend", api.Cal{Weekend: math.MaxInt}, api.ErrRange},
	{"the weekend comes before the number", api.Cal{Weekend: 127, Holidays: make([]int, 61)}, api.ErrRange},
	{"one holiday too many", api.Cal{Holidays: count(0, 61, 1)}, api.ErrMany},
	{"the number comes before the range", api.Cal{Holidays: count(-1, 61, 1)}, api.ErrMany},
	{"the number comes before twice", api.Cal{Holidays: make([]int, 61)}, api.ErrMany},
	{"a holiday below 0", api.Cal{Holidays: []int{-1}}, api.ErrRange},
	{"a holiday after MaxDay", api.Cal{Holidays: []int{last + 1}}, api.ErrRange},
	{"least holiday", api.Cal{Holidays: []int{math.MinInt}}, api.ErrRange},
	{"greatest holiday", api.Cal{Holidays: []int{5, math.MaxInt}}, api.ErrRange},
	{"twice", api.Cal{Holidays: []int{5, 5}}, api.ErrTwice},
	{"day 0 twice", api.Cal{Holidays: []int{0, 0}}, api.ErrTwice},
	{"not in order", api.Cal{Holidays: []int{6, 5}}, api.ErrState},
	{"the range comes before the order", api.Cal{Holidays: []int{6, -1}}, api.ErrRange},
	{"an earlier one twice, a later one out of range", api.Cal{Holidays: []int{5, 5, -1}}, api.ErrTwice},
	{"an earlier one not in order, a later one twice", api.Cal{Holidays: []int{6, 5, 5}}, api.ErrState},
	{"twice, but not in a row", api.Cal{Holidays: []int{5, 6, 5}}, api.ErrState},
	{"at the end", api.Cal{Holidays: append(count(10, 59, 1), 68)}, api.ErrTwice},
}

// goodCals are calendars; the last one leaves out the very last Mondays.
var goodCals = []api.Cal{
	{}, {Weekend: 96}, {Weekend: 126}, {Weekend: 63}, {Weekend: 21},
	{Holidays: []int{0, last}}, {Holidays: []int{}},
	week(monday+1, monday+3, monday+9),
	week(monday+5, monday+6),
	mondays(0, 7, 14, 21, 28),
	{Weekend: 63, Holidays: count(monday+6, 60, 7)},
	{Holidays: count(last-59, 60, 1)},
	{Holidays: count(0, 60, 1)},
	mondays(last - 4),
}

// days are those around the limits and around some ends of months.
var days = []int{0, 1, 5, 6, 7, 30, 31, 58, 59, 60, 61, monday - 1, monday, monday + 1, monday + 4, monday + 5, monday + 14, monday + 15,
	last - 60, last - 31, last - 30, last - 6, last - 4, last - 1, last}

// noDays are numbers that are not days.
var noDays = []int{math.MinInt, -last, -1, last + 1, math.MaxInt}

func TestD1Check(t *testing.T) {
	for weekend := range 127 {
		if err := cal.Check(api.Cal{Weekend: weekend}); err != api.OK {
			t.Errorf("Check of the weekend %d = %d", weekend, err)
		}
	}
	for i, c := range goodCals {
		if err := cal.Check(c); err != api.OK {
			t.Errorf("Check of calendar %d = %d", i, err)
		}
	}
	for _, c := range badCals {
		if err := cal.Check(c.cal); err != c.err {
			t.Errorf("%s: Check = %d, want %d", c.name, err, c.err)
		}
	}
}

func TestD1Is(t *testing.T) {
	for _, c := range []struct {
		name string
		cal  api.Cal
		n    int
		want bool
	}{
		{"a Monday", week(), monday, true},
		{"a Friday", week(), monday + 4, true},
		{"a Saturday", week(), monday + 5, false},
		{"a Sunday", week(), monday + 6, false},
		{"a holiday", week(monday + 1), monday + 1, false},
		{"the last of several holidays", week(1, 2, monday), monday, false},
		{"the day after a holiday", week(monday + 1), monday + 2, true},
		{"a holiday at the weekend", week(monday + 5), monday + 5, false},
		{"a Sunday without weekends", api.Cal{}, monday + 6, true},
		{"a Monday that is part of the weekend", api.Cal{Weekend: 1}, monday, false},
		{"the only day of the week", api.Cal{Weekend: 63}, monday + 6, true},
		{"the first day", week(), 0, true},
		{"the first day as a holiday", week(0), 0, false},
		{"the last day", week(), last, true},
		{"the last day as a holiday", week(last), last, false},
	} {
		if got, err := cal.Is(c.cal, c.n); got != c.want || err != api.OK {
			t.Errorf("%s: Is(%d) = %v, %d; want %v", c.name, c.n, got, err, c.want)
		}
	}
}

// wantIs computes Is anew, for a calendar and a number that are valid.
func wantIs(c api.Cal, n int) bool {
	return c.Weekend&(1<<(n%7)) == 0 && !slices.Contains(c.Holidays, n)
}

func TestD1IsOfAllDaysOfACalendar(t *testing.T) {
	for i, c := range goodCals {
		for _, from := range []int{0, monday - 500, last - 999} {
			for n := from; n < from+1000; n++ {
				if got, err := cal.Is(c, n); got != wantIs(c, n) || err != api.OK {
					t.Fatalf("calendar %d: Is(%d) = %v, %d; want %v", i, n, got, err, wantIs(c, n))
				}
			}
		}
	}
}

// wantNth computes anew which the many-th business day is among the days from one on, in a direction.
func wantNth(c api.Cal, from, direction, many int) (int, api.Errno) {
	for n := from; n >= 0 && n <= last; n += direction {
		if wantIs(c, n) {
			many--
		}
		if many == 0 {
			return n, api.OK
		}
	}
	return 0, api.ErrWide
}

func wantStep(c api.Cal, n, many int) (int, api.Errno) {
	if many < 0 {
		return wantNth(c, n-1, -1, -many)
	}
	if many > 0 {
		return wantNth(c, n+1, 1, many)
	}
	return n, api.OK
}

func TestD2Next(t *testing.T) {
	for _, c := range []struct {
		name string
		cal  api.Cal
		n    int
		want int
		err  api.Errno
	}{
		{"the day itself", week(), monday, monday, api.OK},
		{"from Saturday to Monday", week(), monday + 5, monday + 7, api.OK},
		{"beyond a holiday on Monday", week(monday + 7), monday + 5, monday + 8, api.OK},
		{"into the next month", week(), monday + 12, monday + 14, api.OK},
		{"beyond sixty holidays", api.Cal{Holidays: count(monday, 60, 1)}, monday, monday + 60, api.OK},
		{"beyond sixty Mondays", mondays(count(monday, 60, 7)...), monday, monday + 420, api.OK},
		{"the last day", week(), last, last, api.OK},
		{"after the last Monday", mondays(), last - 3, 0, api.ErrWide},
		{"the last Monday", mondays(), last - 4, last - 4, api.OK},
		{"the last day is a holiday", api.Cal{Holidays: []int{last}}, last, 0, api.ErrWide},
	} {
		if got, err := cal.Next(c.cal, c.n); got != c.want || err != c.err {
			t.Errorf("%s: Next(%d) = %d, %d; want %d, %d", c.name, c.n, got, err, c.want, c.err)
		}
	}
}

func TestD2NextOfAllCalendars(t *testing.T) {
	for i, c := range goodCals {
		for _, n := range days {
			want, wantErr := wantNth(c, n, 1, 1)
			if got, err := cal.Next(c, n); got != want || err != wantErr {
				t.Errorf("calendar %d: Next(%d) = %d, %d; want %d, %d", i, n, got, err, want, wantErr)
			}
		}
	}
}

func TestD2Step(t *testing.T) {
	for _, c := range []struct {
		name    string
		cal     api.Cal
		n, many int
		want    int
		err     api.Errno
	}{
		{"the day itself is not counted", week(), monday, 1, monday + 1, api.OK},
		{"nor backwards", week(), monday + 1, -1, monday, api.OK},
		{"over a weekend", week(), monday + 4, 1, monday + 7, api.OK},
		{"over a weekend, backwards", week(), monday, -1, monday - 3, api.OK},
		{"from a Saturday", week(), monday + 5, 1, monday + 7, api.OK},
		{"from a Saturday, backwards", week(), monday + 5, -1, monday + 4, api.OK},
		{"over a holiday, as in the example", week(monday + 1), monday, 1, monday + 2, api.OK},
		{"a week", week(), monday, 5, monday + 7, api.OK},
		{"none, on a business day", week(), monday, 0, monday, api.OK},
		{"none, at a weekend", week(), monday + 5, 0, monday + 5, api.OK},
		{"none, on a holiday", week(monday), monday, 0, monday, api.OK},
		{"none, after the last business day", mondays(), last, 0, last, api.OK},
		{"as many as may be", week(), monday, step, monday + 700, api.OK},
		{"as many as may be, backwards", week(), monday, -step, monday - 700, api.OK},
		{"as many Mondays as may be", mondays(), monday, step, monday + 7*step, api.OK},
		{"one too many", week(), monday, step + 1, 0, api.ErrRange},
		{"one too many, backwards", week(), monday, -step - 1, 0, api.ErrRange},
		{"least number", week(), monday, math.MinInt, 0, api.ErrRange},
		{"greatest number", week(), monday, math.MaxInt, 0, api.ErrRange},
		{"the range comes before the width", week(), last, step + 1, 0, api.ErrRange},
		{"to the last day", api.Cal{}, last - step, step, last, api.OK},
		{"after the last day", api.Cal{}, last - step + 1, step, 0, api.ErrWide},
		{"to the first day", api.Cal{}, step, -step, 0, api.OK},
		{"before the first day", api.Cal{}, step - 1, -step, 0, api.ErrWide},
		{"from the last day", api.Cal{}, last, 1, 0, api.ErrWide},
		{"from the first day, backwards", api.Cal{}, 0, -1, 0, api.ErrWide},
		{"the first day is a holiday", week(0), 1, -1, 0, api.ErrWide},
	} {
		if got, err := cal.Step(c.cal, c.n, c.many); got != c.want || err != c.err {
			t.Errorf("%s: Step(%d, %d) = %d, %d; want %d, %d", c.name, c.n, c.many, got, err, c.want, c.err)
		}
	}
}

func TestD2StepOfAllCalendars(t *testing.T) {
	for i, c := range goodCals {
		for _, n := range days {
			for _, many := range []int{0, 1, 2, 4, 5, 6, 60, 61, step, -1, -2, -5, -59, -60, -61, -step} {
				want, wantErr := wantStep(c, n, many)
				if got, err := cal.Step(c, n, many); got != want || err != wantErr {
					t.Errorf("calendar %d: Step(%d, %d) = %d, %d; want %d, %d", i, n, many, got, err, want, wantErr)
				}
			}
		}
	}
}

func TestD3Count(t *testing.T) {
	for _, c := range []struct {
		name     string
		cal      api.Cal
		from, to int
		want     int
		err      api.Errno
	}{
		{"no days", week(), monday, monday, 0, api.OK},
		{"the first one is not counted", week(), monday, monday + 1, 1, api.OK},
		{"the last one is counted", week(), monday + 6, monday + 7, 1, api.OK},
		{"a weekend", week(), monday + 4, monday + 6, 0, api.OK},
		{"a week", week(), monday, monday + 7, 5, api.OK},
		{"a holiday, as in the example", week(monday + 1), monday, monday + 2, 1, api.OK},
		{"a holiday on the first one", week(monday), monday, monday + 7, 5, api.OK},
		{"a holiday on the last one", week(monday + 7), monday, monday + 7, 4, api.OK},
		{"a holiday after the last one", week(monday + 8), monday, monday + 7, 5, api.OK},
		{"a holiday at the weekend", week(monday + 5), monday, monday + 7, 5, api.OK},
		{"all days", api.Cal{}, 0, last, last, api.OK},
		{"all Mondays", mondays(), 0, last, last / 7, api.OK},
		{"all weeks", week(), 0, last, last/7*5 + 4, api.OK},
		{"the last days", week(), last - 2, last, 2, api.OK},
		{"backwards", week(), monday, monday - 1, 0, api.ErrForm},
		{"backwards, with no day", week(), monday, -1, 0, api.ErrRange},
		{"from no day", week(), -2, -1, 0, api.ErrRange},
		{"from no day, backwards", week(), last + 1, monday, 0, api.ErrRange},
		{"to no day", week(), monday, last + 1, 0, api.ErrRange},
		{"least and greatest", week(), math.MinInt, math.MaxInt, 0, api.ErrRange},
	} {
		if got, err := cal.Count(c.cal, c.from, c.to); got != c.want || err != c.err {
			t.Errorf("%s: Count(%d, %d) = %d, %d; want %d, %d", c.name, c.from, c.to, got, err, c.want, c.err)
		}
	}
}

// drawCal draws a calendar whose holidays are among a thousand days from one on.
func drawCal(r *rand.Rand, from int) api.Cal {
	c := api.Cal{Weekend: r.Intn(127)}
	for range r.Intn(api.MaxHolidays + 1) {
		c.Holidays = append(c.Holidays, from+r.Intn(1000))
	}
	slices.Sort(c.Holidays)
	c.Holidays = slices.Compact(c.Holidays)
	return c
}

func TestD3CountAgreesWithDaysOneByOne(t *testing.T) {
	r := rand.New(rand.NewSource(1))
	for range 2000 {
		first := []int{0, monday, last - 999}[r.Intn(3)]
		c := drawCal(r, first)
		from, many := first+r.Intn(500), r.Intn(500)
		want := 0
		for n := from + 1; n <= from+many; n++ {
			if wantIs(c, n) {
				want++
			}
		}
		if got, err := cal.Count(c, from, from+many); got != want || err != api.OK {
			t.Fatalf("Count(%v, %d, %d) = %d, %d; want %d", c, from, from+many, got, err, want)
		}
	}
}

func TestD3CountIsTheReverseOfStep(t *testing.T) {
	r := rand.New(rand.NewSource(2))
	for range 2000 {
		c := drawCal(r, monday)
		n, many := monday+r.Intn(1000), r.Intn(step+1)
		to, err := cal.Step(c, n, many)
		if err != api.OK {
			t.Fatalf("Step(%v, %d, %d): error %d", c, n, many, err)
		}
		if got, err := cal.Count(c, n, to); got != many || err != api.OK {
			t.Fatalf("Count(%v, %d, %d) = %d, %d; want %d", c, n, to, got, err, many)
		}
	}
}

func TestD3Fit(t *testing.T) {
	for _, c := range []struct {
		name string
		cal  api.Cal
		n    int
		want int
		err  api.Errno
	}{
		{"a business day", week(), monday, monday, api.OK},
		{"from Saturday to Monday", week(), monday + 5, monday + 7, api.OK},
		{"from the last Sunday of a month to its last Monday", week(), 27, 28, api.OK},
		{"Next is in the next month", api.Cal{Holidays: []int{30}}, 30, 29, api.OK},
		{"Next is in the next month, over a weekend", week(count(26, 5, 1)...), 30, 25, api.OK},
		{"the whole rest of the month", api.Cal{Holidays: count(10, 21, 1)}, 10, 9, api.OK},
		{"back into the month before", api.Cal{Holidays: count(31, 28, 1)}, 40, 30, api.OK},
		{"the same month of another year", api.Cal{Weekend: 126, Holidays: count(monday, 52, 7)}, monday, monday - 7, api.OK},
		{"the last business day stays", week(), last, last, api.OK},
		{"no Next", mondays(), last, last - 4, api.OK},
		{"no Next, and a holiday before", mondays(last - 4), last - 4, last - 11, api.OK},
		{"a Next in the next month, and nothing before", mondays(0, 7, 14, 21, 28), 0, 0, api.ErrWide},
		{"a Next in the next month, and nothing before, later", api.Cal{Holidays: count(0, 31, 1)}, 30, 0, api.ErrWide},
		{"a Next in the same month, and nothing before", mondays(0), 0, 7, api.OK},
		{"the day itself is 0", week(), 0, 0, api.OK},
	} {
		if got, err := cal.Fit(c.cal, c.n); got != c.want || err != c.err {
			t.Errorf("%s: Fit(%d) = %d, %d; want %d, %d", c.name, c.n, got, err, c.want, c.err)
		}
	}
}

// wantFit computes Fit anew, from what is expected of Next and Step.
func wantFit(c api.Cal, n int) (int, api.Errno) {
	next, err := wantNth(c, n, 1, 1)
	if err == api.OK {
		year, month, _, _ := date.Of(n)
		y, m, _, _ := date.Of(next)
		if y == year && m == month {
			return next, api.OK
		}
	}
	return wantNth(c, n-1, -1, 1)
}

func TestD3FitOfAllCalendars(t *testing.T) {
	check := func(c api.Cal, n int) {
		want, wantErr := wantFit(c, n)
		if got, err := cal.Fit(c, n); got != want || err != wantErr {
			t.Errorf("Fit(%v, %d) = %d, %d; want %d, %d", c, n, got, err, want, wantErr)
		}
	}
	for _, c := range goodCals {
		for _, n := range days {
			check(c, n)
		}
	}
	r := rand.New(rand.NewSource(3))
	for range 20000 {
		first := []int{0, monday, last - 999}[r.Intn(3)]
		check(drawCal(r, first), first+r.Intn(1000))
	}
}

// callAll calls every function with a calendar, a day and a number; it returns the errors, and whether a result stands beside one of them.
func callAll(c api.Cal, n, many int) (errors []api.Errno, beside bool) {
	take := func(result bool, err api.Errno) {
		errors = append(errors, err)
		beside = beside || result && err != api.OK
	}
	is, err := cal.Is(c, n)
	take(is, err)
	next, err := cal.Next(c, n)
	take(next != 0, err)
	to, err := cal.Step(c, n, many)
	take(to != 0, err)
	number, err := cal.Count(c, n, many)
	take(number != 0, err)
	number, err = cal.Count(c, many, n)
	take(number != 0, err)
	fit, err := cal.Fit(c, n)
	take(fit != 0, err)
	return errors, beside
}

func TestD1ToD3BadCalendarsComeFirst(t *testing.T) {
	for _, c := range badCals {
		for _, n := range append(days, noDays...) {
			for _, many := range []int{math.MinInt, -1, 0, 1, monday, math.MaxInt} {
				errors, beside := callAll(c.cal, n, many)
				if beside || slices.ContainsFunc(errors, func(e api.Errno) bool { return e != c.err }) {
					t.Errorf("%s: errors of %d and %d are %v, want %d", c.name, n, many, errors, c.err)
				}
			}
		}
	}
}

func TestD1ToD3WhatIsNoDayComesNext(t *testing.T) {
	for _, c := range goodCals {
		for _, n := range noDays {
			for _, many := range []int{math.MinInt, -1, 0, 1, monday, math.MaxInt} {
				errors, beside := callAll(c, n, many)
				if beside || slices.ContainsFunc(errors, func(e api.Errno) bool { return e != api.ErrRange }) {
					t.Errorf("errors of %d and %d are %v, want %d", n, many, errors, api.ErrRange)
				}
			}
		}
	}
}

func TestP1NothingBesideAnError(t *testing.T) {
	for _, c := range goodCals {
		for _, n := range append(days, noDays...) {
			for _, many := range append([]int{-step - 1, -step, step, step + 1}, append(days, noDays...)...) {
				if errors, beside := callAll(c, n, many); beside {
					t.Errorf("%v, %d, %d: a result beside an error of %v", c, n, many, errors)
				}
			}
		}
	}
}

func TestP2HolidaysAreOnlyRead(t *testing.T) {
	whole := []int{monday + 1, monday + 3, monday + 9, 77, 77}
	want := slices.Clone(whole)
	c := week(whole[:3]...)
	cal.Check(c)
	callAll(c, monday, 5)
	callAll(c, monday, monday+500)
	if !slices.Equal(whole, want) {
		t.Errorf("after the calls the holidays and what is behind them are %v", whole)
	}
}

func TestP3CallsDoNotSeeEarlierOnes(t *testing.T) {
	holidays := []int{monday}
	c := week(holidays...)
	for range 3 {
		if n, err := cal.Next(c, monday); n != monday+1 || err != api.OK {
			t.Errorf("Next = %d, %d; want %d", n, err, monday+1)
		}
		holidays[0] = monday + 1 // a holiday that was kept would show here
		if n, err := cal.Next(week(holidays...), monday); n != monday || err != api.OK {
			t.Errorf("Next = %d, %d; want %d", n, err, monday)
		}
		holidays[0] = monday
		cal.Step(week(5, 5), monday, 1)
	}
}

func TestP4LongLists(t *testing.T) {
	long := api.Cal{Holidays: make([]int, 1<<22)}
	errors, beside := callAll(long, monday, monday)
	if cal.Check(long) != api.ErrMany || beside || slices.ContainsFunc(errors, func(e api.Errno) bool { return e != api.ErrMany }) {
		t.Errorf("errors are %v, want %d", errors, api.ErrMany)
	}
}
