package age_test

import (
	"math"
	"math/rand"
	"slices"
	"testing"

	"demurrage/age"
	"demurrage/api"
)

const (
	last   = api.MaxDay
	monday = 739935 // November 16 of 2026
)

// week is a calendar of Saturdays and Sundays, without the holidays given.
func week(holidays ...int) api.Cal { return api.Cal{Weekend: 96, Holidays: holidays} }

// term makes terms without a rate.
func term(extend, buy, defers int) api.Terms {
	return api.Terms{Extend: extend, Buy: buy, Defer: defers}
}

// due is a fail of a day, of which some units are open.
func due(day int) api.Fail {
	return api.Fail{Id: 7, From: 1, To: 2, Class: 3, Paper: 4, Day: day, Units: 10, Delivered: 4, Bought: 3, Paid: 2}
}

// done is a fail of a day, of which nothing is open.
func done(day int) api.Fail {
	f := due(day)
	f.Paid = 3
	return f
}

// cals are calendars, with the error of cal.Check.
var cals = []struct {
	c   api.Cal
	err api.Errno
}{
	{api.Cal{}, api.OK},
	{week(), api.OK},
	{week(monday+1, monday+18), api.OK},
	{week(monday, monday+4, monday+5, monday+7), api.OK},
	{week(last-4, last), api.OK},
	{week(0, 1, 2), api.OK},
	{api.Cal{Weekend: 126}, api.OK},
	{api.Cal{Weekend: 63, Holidays: []int{monday + 6, monday + 13}}, api.OK},
	{api.Cal{Weekend: 127}, api.ErrRange},
	{api.Cal{Weekend: -1}, api.ErrRange},
	{api.Cal{Holidays: make([]int, 61)}, api.ErrMany},
	{week(monday, last+1), api.ErrRange},
	{week(monday, monday), api.ErrTwice},
	{week(monday, 5), api.ErrState},
}

// terms are terms, with the error of Check.
var terms = []struct {
	name string
	t    api.Terms
	err  api.Errno
}{
	{"the least ones", api.Terms{}, api.OK},
	{"the greatest ones", api.Terms{Extend: 100, Buy: 100, Defer: 100, Rate: 1000000}, api.OK},
	{"some", api.Terms{Extend: 4, Buy: 7, Defer: 2, Rate: 100}, api.OK},
	{"only a first wait", term(1, 0, 0), api.OK},
	{"only a second wait", term(0, 2, 0), api.OK},
	{"only a third wait", term(0, 0, 3), api.OK},
	{"only a rate", api.Terms{Rate: 1}, api.OK},
	{"Extend below 0", term(-1, 0, 0), api.ErrRange},
	{"too great an Extend", term(101, 0, 0), api.ErrRange},
	{"Buy below 0", term(0, -1, 0), api.ErrRange},
	{"too great a Buy", term(0, 101, 0), api.ErrRange},
	{"Defer below 0", term(0, 0, -1), api.ErrRange},
	{"too great a Defer", term(0, 0, 101), api.ErrRange},
	{"a rate below 0", api.Terms{Rate: -1}, api.ErrRange},
	{"too great a rate", api.Terms{Rate: 1000001}, api.ErrRange},
	{"a sum that is 0", term(-1, 1, 0), api.ErrRange},
	{"the least numbers", api.Terms{Extend: math.MinInt, Buy: math.MinInt, Defer: math.MinInt, Rate: math.MinInt}, api.ErrRange},
	{"the greatest numbers", api.Terms{Extend: math.MaxInt, Buy: math.MaxInt, Defer: math.MaxInt, Rate: math.MaxInt}, api.ErrRange},
}

// failCase is a fail, with the error of fail.Check.
type failCase struct {
	f   api.Fail
	err api.Errno
}

// fails lists fails, some of them of a day.
func fails(day int) []failCase {
	return []failCase{
		{due(day), isDayErr(day)},
		{done(day), isDayErr(day)},
		{api.Fail{Id: 1, From: 3, To: 4, Class: 5, Paper: 20, Day: last, Units: 1 << 30}, api.OK},
		{api.Fail{}, api.ErrRange},
		{api.Fail{Id: 1, From: 3, To: 3, Paper: 1, Day: monday, Units: 1}, api.ErrForm},
		{api.Fail{Id: 1, From: 3, To: 4, Paper: 1, Day: monday, Units: 1, Delivered: 2}, api.ErrRange},
		{api.Fail{Id: 1, From: 3, To: 4, Paper: 1, Day: monday, Units: 3, Delivered: 2, Bought: 2}, api.ErrState},
	}
}

// days are those around the limits, and around the weeks of the example.
var days = []int{0, 1, 4, 5, 6, 7, 13, monday - 3, monday - 1, monday, monday + 1, monday + 2, monday + 4, monday + 5, monday + 6, monday + 7, monday + 20,
	last - 500, last - 20, last - 19, last - 18, last - 14, last - 7, last - 5, last - 4, last - 3, last - 1, last}

// noDays are numbers that are not days.
var noDays = []int{math.MinInt, -last, -1, last + 1, math.MaxInt}

func isDayErr(n int) api.Errno {
	if n < 0 || n > last {
		return api.ErrRange
	}
	return api.OK
}

// firstOf returns the first error of several, in order.
func firstOf(errors ...api.Errno) api.Errno {
	for _, e := range errors {
		if e != api.OK {
			return e
		}
	}
	return api.OK
}

// between counts business days after a day, up to and including another one, one by one.
func between(c api.Cal, from, to int) int {
	count := 0
	for n := from + 1; n <= to; n++ {
		if c.Weekend>>(n%7)%2 == 0 && !slices.Contains(c.Holidays, n) {
			count++
		}
	}
	return count
}

// wantDays computes Days anew, for a valid calendar, valid terms and a day: each of them is the first day with enough business days before it.
func wantDays(c api.Cal, t api.Terms, day int) ([3]int, api.Errno) {
	var found [3]int
	for i, many := range []int{t.Extend, t.Buy, t.Defer} {
		for passed := 0; passed < many; {
			day++
			if day > last {
				return [3]int{}, api.ErrWide
			}
			passed += between(c, day-1, day)
		}
		found[i] = day
	}
	return found, api.OK
}

// wantStage computes Stage anew from what Days must return, for arguments without an error.
func wantStage(days [3]int, f api.Fail, today int) int {
	if f.Units == f.Delivered+f.Bought+f.Paid {
		return 5
	}
	stage := 0
	for _, end := range []int{f.Day, days[0], days[1], days[2]} {
		if today > end {
			stage++
		}
	}
	return stage
}

func compareDays(t *testing.T, c api.Cal, terms api.Terms, day int, before api.Errno) {
	t.Helper()
	var want [3]int
	err := firstOf(before, isDayErr(day))
	if err == api.OK {
		want, err = wantDays(c, terms, day)
	}
	first, second, third, got := age.Days(c, terms, day)
	if [3]int{first, second, third} != want || got != err {
		t.Errorf("Days(%v, %v, %d) = %d, %d, %d, %d; want %v, %d", c, terms, day, first, second, third, got, want, err)
	}
}

// compareFail compares Stage and Left; before is the error of what comes before today.
func compareFail(t *testing.T, c api.Cal, terms api.Terms, f api.Fail, today int, before api.Errno) {
	t.Helper()
	var days [3]int
	stage, left, err := 0, 0, firstOf(before, isDayErr(today))
	if err == api.OK {
		days, err = wantDays(c, terms, f.Day)
	}
	if err == api.OK {
		stage, left = wantStage(days, f, today), between(c, today, days[2])
	}
	if got, gotErr := age.Stage(c, terms, f, today); got != stage || gotErr != err {
		t.Errorf("Stage(%v, %v, %v, %d) = %d, %d; want %d, %d", c, terms, f, today, got, gotErr, stage, err)
	}
	if got, gotErr := age.Left(c, terms, f, today); got != left || gotErr != err {
		t.Errorf("Left(%v, %v, %v, %d) = %d, %d; want %d, %d", c, terms, f, today, got, gotErr, left, err)
	}
}

func TestL1Check(t *testing.T) {
	for _, c := range terms {
		if err := age.Check(c.t); err != c.err {
			t.Errorf("%s: Check = %d, want %d", c.name, err, c.err)
		}
	}
}

func TestL1CheckOfAllEdges(t *testing.T) {
	edges := []int{math.MinInt, -1, 0, 1, 99, 100, 101, 999999, 1000000, 1000001, math.MaxInt}
	for _, extend := range edges {
		for _, buy := range edges {
			for _, defers := range edges {
				for _, rate := range edges {
					want := api.OK
					if min(extend, buy, defers, rate) < 0 || max(extend, buy, defers) > 100 || rate > 1000000 {
						want = api.ErrRange
					}
					terms := api.Terms{Extend: extend, Buy: buy, Defer: defers, Rate: rate}
					if err := age.Check(terms); err != want {
						t.Errorf("Check(%v) = %d, want %d", terms, err, want)
					}
				}
			}
		}
	}
}

func TestL2Days(t *testing.T) {
	for _, c := range []struct {
		name  string
		cal   api.Cal
		terms api.Terms
		day   int
		want  [3]int
		err   api.Errno
	}{
		{"no steps", week(), term(0, 0, 0), monday, [3]int{monday, monday, monday}, api.OK},
		{"no steps from a Sunday", week(), term(0, 0, 0), monday - 1, [3]int{monday - 1, monday - 1, monday - 1}, api.OK},
		{"within a week", week(), term(1, 1, 2), monday, [3]int{monday + 1, monday + 2, monday + 4}, api.OK},
		{"the day itself is not counted", week(), term(1, 0, 0), monday + 4, [3]int{monday + 7, monday + 7, monday + 7}, api.OK},
		{"from a Saturday", week(), term(1, 1, 1), monday + 5, [3]int{monday + 7, monday + 8, monday + 9}, api.OK},
		{"a holiday, as in the example", week(monday + 1), term(4, 7, 2), monday, [3]int{monday + 7, monday + 16, monday + 18}, api.OK},
		{"only the second one", week(), term(0, 5, 0), monday, [3]int{monday, monday + 7, monday + 7}, api.OK},
		{"only the third one", week(), term(0, 0, 6), monday, [3]int{monday, monday, monday + 8}, api.OK},
		{"as many steps as may be", week(), term(100, 100, 100), monday, [3]int{monday + 140, monday + 280, monday + 420}, api.OK},
		{"every day is a business day", api.Cal{}, term(100, 10, 1), 0, [3]int{100, 110, 111}, api.OK},
		{"a day of the week", api.Cal{Weekend: 126}, term(1, 2, 3), monday, [3]int{monday + 7, monday + 21, monday + 42}, api.OK},
		{"no steps on the last day", week(last), term(0, 0, 0), last, [3]int{last, last, last}, api.OK},
		{"up to the last day", api.Cal{}, term(1, 2, 3), last - 6, [3]int{last - 5, last - 3, last}, api.OK},
		{"no first one", api.Cal{}, term(1, 0, 0), last, [3]int{}, api.ErrWide},
		{"no second one", api.Cal{}, term(1, 2, 0), last - 2, [3]int{}, api.ErrWide},
		{"no third one", api.Cal{}, term(1, 2, 3), last - 5, [3]int{}, api.ErrWide},
		{"no third one, as the last day is a holiday", week(last), term(0, 0, 1), last - 1, [3]int{}, api.ErrWide},
	} {
		first, second, third, err := age.Days(c.cal, c.terms, c.day)
		if [3]int{first, second, third} != c.want || err != c.err {
			t.Errorf("%s: Days = %d, %d, %d, %d; want %v, %d", c.name, first, second, third, err, c.want, c.err)
		}
		compareDays(t, c.cal, c.terms, c.day, api.OK)
	}
}

// TestL2AllDays has every pair of errors, too, the first one of which must be returned.
func TestL2AllDays(t *testing.T) {
	for _, c := range cals {
		for _, x := range terms {
			for _, day := range slices.Concat(days, noDays) {
				compareDays(t, c.c, x.t, day, firstOf(c.err, x.err))
			}
		}
	}
}

func TestL2OrderOfErrors(t *testing.T) {
	bad, badTerms := api.Cal{Holidays: []int{5, 5}}, term(101, 0, 0)
	for _, c := range []struct {
		name  string
		cal   api.Cal
		terms api.Terms
		day   int
		want  api.Errno
	}{
		{"the calendar comes before terms", bad, badTerms, monday, api.ErrTwice},
		{"the calendar comes before the day", bad, term(0, 0, 0), -1, api.ErrTwice},
		{"the calendar comes before the end", bad, term(1, 0, 0), last, api.ErrTwice},
		{"terms come before the end", api.Cal{}, badTerms, last, api.ErrRange},
		{"no day, and no steps", api.Cal{}, term(0, 0, 0), last + 1, api.ErrRange},
		{"the day comes before the end", api.Cal{}, term(1, 0, 0), last + 1, api.ErrRange},
	} {
		if _, _, _, err := age.Days(c.cal, c.terms, c.day); err != c.want {
			t.Errorf("%s: error %d, want %d", c.name, err, c.want)
		}
	}
}

func TestL3Stage(t *testing.T) {
	c, x := week(monday+1), term(4, 7, 2)
	for _, s := range []struct {
		name  string
		terms api.Terms
		f     api.Fail
		today int
		want  int
	}{
		{"long before", x, due(monday), 0, api.Early},
		{"the day before", x, due(monday), monday - 1, api.Early},
		{"its day", x, due(monday), monday, api.Early},
		{"the day after, a holiday", x, due(monday), monday + 1, api.Waiting},
		{"the first one of the three days", x, due(monday), monday + 7, api.Waiting},
		{"after the first one", x, due(monday), monday + 8, api.Buying},
		{"the second one", x, due(monday), monday + 16, api.Buying},
		{"after the second one", x, due(monday), monday + 17, api.Late},
		{"the third one", x, due(monday), monday + 18, api.Late},
		{"after the third one, a Saturday", x, due(monday), monday + 19, api.Paying},
		{"long after", x, due(monday), last, api.Paying},
		{"no steps, on its day", term(0, 0, 0), due(monday), monday, api.Early},
		{"no steps, after its day", term(0, 0, 0), due(monday), monday + 1, api.Paying},
		{"no waiting", term(0, 1, 0), due(monday), monday + 1, api.Buying},
		{"no buying", term(1, 0, 1), due(monday + 1), monday + 3, api.Late},
		{"no deferring", term(1, 1, 0), due(monday + 1), monday + 4, api.Paying},
		{"only deferring", term(0, 0, 1), due(monday + 1), monday + 2, api.Late},
		{"waiting over a weekend", term(1, 0, 0), due(monday + 4), monday + 6, api.Waiting},
		{"of a Saturday, on a Sunday", term(0, 0, 0), due(monday + 5), monday + 6, api.Paying},
		{"done before its day", x, done(monday), monday - 1, api.Done},
		{"done on its day", x, done(monday), monday, api.Done},
		{"done in time", x, done(monday), monday + 7, api.Done},
		{"done late", x, done(monday), monday + 18, api.Done},
		{"done, and long after", x, done(monday), last, api.Done},
	} {
		if got, err := age.Stage(c, s.terms, s.f, s.today); got != s.want || err != api.OK {
			t.Errorf("%s: Stage = %d, %d; want %d", s.name, got, err, s.want)
		}
		compareFail(t, c, s.terms, s.f, s.today, api.OK)
	}
}

// TestL3L4AllFails has every pair of errors, too, the first one of which must be returned.
func TestL3L4AllFails(t *testing.T) {
	for _, c := range cals {
		for _, x := range terms {
			for _, day := range []int{-1, 0, 5, monday - 1, monday, monday + 4, last - 14, last - 13, last, last + 1} {
				for _, failed := range fails(day) {
					f, before := failed.f, firstOf(c.err, x.err, failed.err)
					for _, today := range []int{-1, max(f.Day-3, 0), f.Day, f.Day + 1, f.Day + 2, f.Day + 13, f.Day + 14, f.Day + 18, last + 1} {
						compareFail(t, c.c, x.t, f, today, before)
					}
				}
			}
		}
	}
}

func TestL3L4OrderOfErrors(t *testing.T) {
	bad, badTerms := api.Cal{Holidays: []int{5, 5}}, term(101, 0, 0)
	badFail := due(monday)
	badFail.To = badFail.From
	for _, c := range []struct {
		name  string
		cal   api.Cal
		terms api.Terms
		f     api.Fail
		today int
		want  api.Errno
	}{
		{"the calendar comes before terms", bad, badTerms, due(monday), monday, api.ErrTwice},
		{"the calendar comes before the fail", bad, term(0, 0, 0), badFail, monday, api.ErrTwice},
		{"the calendar comes before today", bad, term(0, 0, 0), due(monday), -1, api.ErrTwice},
		{"terms come before the fail", api.Cal{}, badTerms, badFail, monday, api.ErrRange},
		{"the fail comes before today", api.Cal{}, term(0, 0, 0), badFail, -1, api.ErrForm},
		{"today comes before the end", api.Cal{}, term(1, 0, 0), due(last), last + 1, api.ErrRange},
		{"today is no day", api.Cal{}, term(0, 0, 0), due(0), -1, api.ErrRange},
		{"today is no day, and it is done", api.Cal{}, term(0, 0, 0), done(0), last + 1, api.ErrRange},
		{"no first day", api.Cal{}, term(1, 0, 0), due(last), 0, api.ErrWide},
		{"no second day, long before", api.Cal{}, term(0, 1, 0), due(last), 0, api.ErrWide},
		{"no third day, on its day", api.Cal{}, term(0, 0, 1), due(last), last, api.ErrWide},
		{"no third day, and it is done", api.Cal{}, term(0, 0, 1), done(last), last, api.ErrWide},
	} {
		if stage, err := age.Stage(c.cal, c.terms, c.f, c.today); stage != 0 || err != c.want {
			t.Errorf("%s: Stage = %d, %d; want 0, %d", c.name, stage, err, c.want)
		}
		if left, err := age.Left(c.cal, c.terms, c.f, c.today); left != 0 || err != c.want {
			t.Errorf("%s: Left = %d, %d; want 0, %d", c.name, left, err, c.want)
		}
	}
}

func TestL4Left(t *testing.T) {
	c, x := week(monday+1), term(4, 7, 2)
	for _, s := range []struct {
		name  string
		terms api.Terms
		f     api.Fail
		today int
		want  int
	}{
		{"the week before", x, due(monday), monday - 7, 18},
		{"its day", x, due(monday), monday, 13},
		{"a holiday", x, due(monday), monday + 1, 13},
		{"the day after a holiday", x, due(monday), monday + 2, 12},
		{"a Friday", x, due(monday), monday + 4, 10},
		{"a Sunday", x, due(monday), monday + 6, 10},
		{"one day before the last one", x, due(monday), monday + 17, 1},
		{"the last one", x, due(monday), monday + 18, 0},
		{"the day after the last one", x, due(monday), monday + 19, 0},
		{"long after", x, due(monday), last, 0},
		{"no steps, on its day", term(0, 0, 0), due(monday), monday, 0},
		{"no steps, the day before", term(0, 0, 0), due(monday), monday - 1, 1},
		{"no steps, from a Friday to a Sunday", term(0, 0, 0), due(monday + 6), monday + 4, 0},
		{"done", x, done(monday), monday, 13},
		{"done, and long after", x, done(monday), last, 0},
		{"from the first day", term(0, 0, 0), due(13), 0, 9},
		{"as many steps as may be", term(100, 100, 100), due(monday + 1), monday + 1, 300},
	} {
		if got, err := age.Left(c, s.terms, s.f, s.today); got != s.want || err != api.OK {
			t.Errorf("%s: Left = %d, %d; want %d", s.name, got, err, s.want)
		}
		compareFail(t, c, s.terms, s.f, s.today, api.OK)
	}
}

// draw draws a calendar whose holidays are among a hundred days from one on, and terms.
func draw(r *rand.Rand, from int) (api.Cal, api.Terms) {
	c := api.Cal{Weekend: r.Intn(127)}
	for range r.Intn(api.MaxHolidays + 1) {
		c.Holidays = append(c.Holidays, min(from+r.Intn(100), last))
	}
	slices.Sort(c.Holidays)
	c.Holidays = slices.Compact(c.Holidays)
	return c, term(r.Intn(10), r.Intn(10), r.Intn(10))
}

// TestL2ToL4AFailNeverBecomesYounger follows a fail day by day, until it ends.
func TestL2ToL4AFailNeverBecomesYounger(t *testing.T) {
	r := rand.New(rand.NewSource(1))
	for range 300 {
		day := []int{3, monday, last - 250}[r.Intn(3)] + r.Intn(50)
		c, x := draw(r, day)
		before, leftBefore := 0, math.MaxInt
		for today := day - 3; today < min(day+250, last); today++ {
			compareFail(t, c, x, due(day), today, api.OK)
			stage, _ := age.Stage(c, x, due(day), today)
			left, _ := age.Left(c, x, due(day), today)
			if stage < before || left > leftBefore {
				t.Fatalf("on day %d of %v, %v the stage is %d after %d, and %d days are left after %d", today, c, x, stage, before, left, leftBefore)
			}
			before, leftBefore = stage, left
		}
		compareDays(t, c, x, day, api.OK)
	}
}

func TestP1NothingBesideAnError(t *testing.T) {
	for _, c := range cals {
		for _, x := range terms {
			for _, day := range slices.Concat(days, noDays) {
				if first, second, third, err := age.Days(c.c, x.t, day); err != api.OK && (first != 0 || second != 0 || third != 0) {
					t.Errorf("Days(%v, %v, %d) = %d, %d, %d with error %d", c.c, x.t, day, first, second, third, err)
				}
				for _, today := range slices.Concat(noDays, []int{0, monday, last}) {
					if stage, err := age.Stage(c.c, x.t, due(day), today); err != api.OK && stage != 0 {
						t.Errorf("Stage(%v, %v, %d, %d) = %d with error %d", c.c, x.t, day, today, stage, err)
					}
					if left, err := age.Left(c.c, x.t, due(day), today); err != api.OK && left != 0 {
						t.Errorf("Left(%v, %v, %d, %d) = %d with error %d", c.c, x.t, day, today, left, err)
					}
				}
			}
		}
	}
}

// callAll calls every function that has a calendar, and returns the errors.
func callAll(c api.Cal) []api.Errno {
	_, _, _, ofDays := age.Days(c, term(4, 7, 2), monday)
	_, ofStage := age.Stage(c, term(4, 7, 2), due(monday), monday)
	_, ofLeft := age.Left(c, term(4, 7, 2), due(monday), monday)
	return []api.Errno{ofDays, ofStage, ofLeft}
}

func TestP2HolidaysAreOnlyRead(t *testing.T) {
	whole := []int{monday + 1, monday + 3, monday + 9, 77, 77}
	want := slices.Clone(whole)
	for _, many := range []int{3, 4, 5} {
		callAll(week(whole[:many]...))
	}
	if !slices.Equal(whole, want) {
		t.Errorf("after the calls the holidays and what is behind them are %v", whole)
	}
}

func TestP3CallsDoNotSeeEarlierOnes(t *testing.T) {
	holidays := []int{monday + 1}
	for range 3 {
		if first, _, _, err := age.Days(week(holidays...), term(1, 0, 0), monday); first != monday+2 || err != api.OK {
			t.Errorf("Days = %d, %d; want %d", first, err, monday+2)
		}
		holidays[0] = monday + 2 // a holiday that was kept would show here
		if first, _, _, err := age.Days(week(holidays...), term(1, 0, 0), monday); first != monday+1 || err != api.OK {
			t.Errorf("Days = %d, %d; want %d", first, err, monday+1)
		}
		holidays[0] = monday + 1
		if stage, err := age.Stage(week(holidays...), term(1, 0, 0), due(monday), monday+3); stage != api.Paying || err != api.OK {
			t.Errorf("Stage = %d, %d; want %d", stage, err, api.Paying)
		}
		if stage, err := age.Stage(week(holidays...), term(1, 0, 0), done(monday), monday+3); stage != api.Done || err != api.OK {
			t.Errorf("Stage = %d, %d; want %d", stage, err, api.Done)
		}
	}
}

func TestP4LongLists(t *testing.T) {
	errors := callAll(api.Cal{Holidays: make([]int, 1<<22)})
	if slices.ContainsFunc(errors, func(e api.Errno) bool { return e != api.ErrMany }) {
		t.Errorf("errors are %v, want %d", errors, api.ErrMany)
	}
}
