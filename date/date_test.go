package date_test

import (
	"math"
	"math/rand"
	"testing"
	"time"

	"demurrage/api"
	"demurrage/date"
)

// edges are the numbers around every limit of the chapter, and the outermost ones.
var edges = []int{
	math.MinInt, math.MinInt + 1, -api.MaxDay, -120001, -120000, -9999, -12, -1, 0, 1, 2, 11, 12, 13, 28, 29, 30, 31, 32,
	365, 366, 1460, 1461, 9998, 9999, 10000, 36524, 119999, 120000, 120001, 146096, 146097,
	api.MaxDay - 1, api.MaxDay, api.MaxDay + 1, math.MaxInt - 1, math.MaxInt,
}

func utc(year, month, day int) time.Time {
	return time.Date(year, time.Month(month), day, 0, 0, 0, 0, time.UTC)
}

func TestC1LeapOfAllYears(t *testing.T) {
	for year := 1; year <= 9999; year++ {
		want := utc(year, 12, 31).YearDay() == 366
		if got, err := date.Leap(year); got != want || err != api.OK {
			t.Errorf("Leap(%d) = %v, %d; want %v", year, got, err, want)
		}
	}
}

func TestC1Leap(t *testing.T) {
	for _, c := range []struct {
		year int
		leap bool
		err  api.Errno
	}{
		{1, false, api.OK},
		{4, true, api.OK},
		{100, false, api.OK}, // before 1582 as well
		{400, true, api.OK},
		{1900, false, api.OK},
		{2000, true, api.OK},
		{2023, false, api.OK},
		{2024, true, api.OK},
		{9999, false, api.OK},
		{0, false, api.ErrRange},
		{-4, false, api.ErrRange},
		{10000, false, api.ErrRange},
		{math.MinInt, false, api.ErrRange},
		{math.MaxInt, false, api.ErrRange},
	} {
		if leap, err := date.Leap(c.year); leap != c.leap || err != c.err {
			t.Errorf("Leap(%d) = %v, %d; want %v, %d", c.year, leap, err, c.leap, c.err)
		}
	}
}

// TestC1AllDays compares every day with the library's calendar, which is the same one.
func TestC1AllDays(t *testing.T) {
	day := utc(1, 1, 1)
	for n := 0; n <= api.MaxDay; n++ {
		wantYear, wantMonth, wantDay := day.Date()
		year, month, d, err := date.Of(n)
		if year != wantYear || month != int(wantMonth) || d != wantDay || err != api.OK {
			t.Fatalf("Of(%d) = %d, %d, %d, %d; want %s", n, year, month, d, err, day.Format(time.DateOnly))
		}
		if got, err := date.From(year, month, d); got != n || err != api.OK {
			t.Fatalf("From(%d, %d, %d) = %d, %d; want %d", year, month, d, got, err, n)
		}
		wantWeek := (int(day.Weekday()) + 6) % 7
		if week, err := date.Week(n); week != wantWeek || err != api.OK {
			t.Fatalf("Week(%d) = %d, %d; want %d", n, week, err, wantWeek)
		}
		day = day.AddDate(0, 0, 1)
	}
	if day.Year() != 10000 {
		t.Errorf("the day after MaxDay is %s", day.Format(time.DateOnly))
	}
}

func TestC1From(t *testing.T) {
	for _, c := range []struct {
		name             string
		year, month, day int
		n                int
		err              api.Errno
	}{
		{"the first day", 1, 1, 1, 0, api.OK},
		{"the last day", 9999, 12, 31, api.MaxDay, api.OK},
		{"the day of the example", 2026, 11, 16, 739935, api.OK},
		{"a leap day", 2024, 2, 29, 738944, api.OK},
		{"a leap day of a century", 2000, 2, 29, 730178, api.OK},
		{"the end of the first leap year", 4, 12, 31, 1460, api.OK},
		{"no leap day", 2023, 2, 29, 0, api.ErrRange},
		{"no leap day in a century", 1900, 2, 29, 0, api.ErrRange},
		{"February has no 30th", 2024, 2, 30, 0, api.ErrRange},
		{"April has no 31st", 2026, 4, 31, 0, api.ErrRange},
		{"no month has a 32nd", 2026, 12, 32, 0, api.ErrRange},
		{"no month has a day 0", 2026, 4, 0, 0, api.ErrRange},
		{"no month 0", 2026, 0, 1, 0, api.ErrRange},
		{"no month 13", 2026, 13, 1, 0, api.ErrRange},
		{"no year 0", 0, 1, 1, 0, api.ErrRange},
		{"no year 10000", 10000, 1, 1, 0, api.ErrRange},
		{"least numbers", math.MinInt, math.MinInt, math.MinInt, 0, api.ErrRange},
		{"greatest numbers", math.MaxInt, math.MaxInt, math.MaxInt, 0, api.ErrRange},
		{"least month", 2026, math.MinInt, 1, 0, api.ErrRange},
		{"greatest day", 2026, 1, math.MaxInt, 0, api.ErrRange},
	} {
		if n, err := date.From(c.year, c.month, c.day); n != c.n || err != c.err {
			t.Errorf("%s: From(%d, %d, %d) = %d, %d; want %d, %d", c.name, c.year, c.month, c.day, n, err, c.n, c.err)
		}
	}
}

// exists reports whether the library keeps a date as it is, instead of carrying over what does not exist.
func exists(year, month, day int) bool {
	if year < 1 || year > 9999 || month < 1 || month > 12 || day < 1 || day > 31 {
		return false
	}
	return utc(year, month, day).Day() == day
}

func TestC1FromAcceptsWhatExistsOnly(t *testing.T) {
	for _, year := range []int{-4, 0, 1, 4, 100, 400, 1582, 1900, 2000, 2023, 2024, 9999, 10000} {
		for month := -1; month <= 14; month++ {
			for day := -1; day <= 33; day++ {
				want := api.ErrRange
				if exists(year, month, day) {
					want = api.OK
				}
				if n, err := date.From(year, month, day); err != want {
					t.Errorf("From(%d, %d, %d) = %d, %d; want %d", year, month, day, n, err, want)
				}
			}
		}
	}
}

func TestC1OfAndWeekOfWhatIsNoDay(t *testing.T) {
	for _, n := range edges {
		want := api.ErrRange
		if n >= 0 && n <= api.MaxDay {
			want = api.OK
		}
		if _, _, _, err := date.Of(n); err != want {
			t.Errorf("Of(%d): error %d, want %d", n, err, want)
		}
		if _, err := date.Week(n); err != want {
			t.Errorf("Week(%d): error %d, want %d", n, err, want)
		}
	}
}

func TestC1Week(t *testing.T) {
	for n, want := range map[int]int{0: 0, 1: 1, 6: 6, 7: 0, 739935: 0, api.MaxDay: 4} {
		if week, err := date.Week(n); week != want || err != api.OK {
			t.Errorf("Week(%d) = %d, %d; want %d", n, week, err, want)
		}
	}
}

func TestC2Months(t *testing.T) {
	for _, c := range []struct {
		name             string
		year, month, day int
		many             int
		toYear, toMonth  int
		toDay            int
	}{
		{"none", 2026, 11, 16, 0, 2026, 11, 16},
		{"one later", 2026, 11, 16, 1, 2026, 12, 16},
		{"into the next year", 2026, 11, 16, 3, 2027, 2, 16},
		{"from December to January", 2026, 12, 31, 1, 2027, 1, 31},
		{"one earlier", 2026, 11, 16, -1, 2026, 10, 16},
		{"into the year before", 2026, 1, 31, -1, 2025, 12, 31},
		{"from January to December", 2026, 1, 15, -13, 2024, 12, 15},
		{"twelve", 2026, 11, 16, 12, 2027, 11, 16},
		{"to a shorter month", 2026, 8, 31, 1, 2026, 9, 30},
		{"back to a shorter month", 2026, 5, 31, -1, 2026, 4, 30},
		{"to a February", 2026, 1, 31, 1, 2026, 2, 28},
		{"to a February of a leap year", 2024, 1, 30, 1, 2024, 2, 29},
		{"a day that this February has", 2024, 1, 29, 1, 2024, 2, 29},
		{"from a leap day", 2024, 2, 29, 12, 2025, 2, 28},
		{"from a leap day to another one", 2024, 2, 29, 48, 2028, 2, 29},
		{"to a February of a century", 1896, 2, 29, 48, 1900, 2, 28},
		{"the last day of a short month stays as it is", 2026, 2, 28, 1, 2026, 3, 28},
		{"from the first month to the last", 1, 1, 31, 119987, 9999, 12, 31},
		{"from the last month to the first", 9999, 12, 31, -119987, 1, 1, 31},
	} {
		n, _ := date.From(c.year, c.month, c.day)
		want, _ := date.From(c.toYear, c.toMonth, c.toDay)
		if got, err := date.Months(n, c.many); got != want || err != api.OK {
			t.Errorf("%s: Months(%d, %d) = %d, %d; want %d", c.name, n, c.many, got, err, want)
		}
	}
}

func TestC2MonthsErrors(t *testing.T) {
	for _, c := range []struct {
		name    string
		n, many int
		err     api.Errno
	}{
		{"no day", -1, 0, api.ErrRange},
		{"no day either", api.MaxDay + 1, 0, api.ErrRange},
		{"the range comes before the width", -1, 120001, api.ErrRange},
		{"least day", math.MinInt, math.MinInt, api.ErrRange},
		{"greatest day", math.MaxInt, math.MaxInt, api.ErrRange},
		{"before year 1", 30, -1, api.ErrWide},
		{"before year 1 by far", 365, -13, api.ErrWide},
		{"after year 9999", api.MaxDay, 1, api.ErrWide},
		{"after year 9999 by one month", 0, 119988, api.ErrWide},
		{"before year 1 by one month", api.MaxDay, -119988, api.ErrWide},
		{"as many as may be", 0, 120000, api.ErrWide},
		{"as many as may be, earlier", api.MaxDay, -120000, api.ErrWide},
		{"too many", 0, 120001, api.ErrWide},
		{"too many, earlier", api.MaxDay, -120001, api.ErrWide},
		{"least many", 739935, math.MinInt, api.ErrWide},
		{"greatest many", 739935, math.MaxInt, api.ErrWide},
	} {
		if got, err := date.Months(c.n, c.many); got != 0 || err != c.err {
			t.Errorf("%s: Months(%d, %d) = %d, %d; want 0, %d", c.name, c.n, c.many, got, err, c.err)
		}
	}
}

// wantMonths computes Months anew: the library carries a day that does not exist over into the next month.
func wantMonths(n, many int) (int, api.Errno) {
	first := utc(1, 1, 1)
	from := first.AddDate(0, 0, n)
	to := from.AddDate(0, many, 0)
	if to.Day() != from.Day() {
		to = to.AddDate(0, 0, -to.Day())
	}
	if to.Year() < 1 || to.Year() > 9999 {
		return 0, api.ErrWide
	}
	return int((to.Unix() - first.Unix()) / 86400), api.OK
}

func TestC2MonthsAgreeWithTheLibrary(t *testing.T) {
	r := rand.New(rand.NewSource(1))
	for range 200000 {
		n := r.Intn(api.MaxDay + 1)
		many := (r.Intn(240001) - 120000) >> r.Intn(17)
		want, wantErr := wantMonths(n, many)
		if got, err := date.Months(n, many); got != want || err != wantErr {
			t.Fatalf("Months(%d, %d) = %d, %d; want %d, %d", n, many, got, err, want, wantErr)
		}
	}
}

func TestP1NothingBesideAnError(t *testing.T) {
	for _, a := range edges {
		if leap, err := date.Leap(a); err != api.OK && leap {
			t.Errorf("Leap(%d) = %v with error %d", a, leap, err)
		}
		if y, m, d, err := date.Of(a); err != api.OK && (y != 0 || m != 0 || d != 0) {
			t.Errorf("Of(%d) = %d, %d, %d with error %d", a, y, m, d, err)
		}
		if n, err := date.Week(a); err != api.OK && n != 0 {
			t.Errorf("Week(%d) = %d with error %d", a, n, err)
		}
		for _, b := range edges {
			if n, err := date.Months(a, b); err != api.OK && n != 0 {
				t.Errorf("Months(%d, %d) = %d with error %d", a, b, n, err)
			}
			for _, c := range edges {
				if n, err := date.From(a, b, c); err != api.OK && n != 0 {
					t.Errorf("From(%d, %d, %d) = %d with error %d", a, b, c, n, err)
				}
			}
		}
	}
}

func TestP3CallsDoNotSeeEarlierOnes(t *testing.T) {
	for range 3 {
		date.Leap(2024)
		date.From(2024, 2, 29) // a longer February that was kept would show below
		if n, err := date.From(2023, 2, 29); n != 0 || err != api.ErrRange {
			t.Errorf("From(2023, 2, 29) = %d, %d; want 0, %d", n, err, api.ErrRange)
		}
		date.Months(api.MaxDay, 1)
		if n, err := date.Months(0, 1); n != 31 || err != api.OK {
			t.Errorf("Months(0, 1) = %d, %d; want 31, 0", n, err)
		}
	}
}
