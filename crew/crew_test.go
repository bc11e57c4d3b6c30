package crew_test

import (
	"math"
	"math/rand"
	"runtime"
	"slices"
	"sync"
	"testing"
	"time"

	"demurrage/api"
	"demurrage/crew"
	"demurrage/cycle"
	"demurrage/fail"
	"demurrage/grid"
)

const (
	most     = 8  // workers
	mostJobs = 30 // at once
	scale    = 10000
	million  = 1000000
	maxUnits = 1 << 30
	last     = 3652058 // a Friday
	monday   = 739935  // November 16 of 2026
)

// rules are those of Saturdays, Sundays and a Tuesday, with terms of all kinds.
func rules() api.Rules {
	return api.Rules{
		Cal: api.Cal{Weekend: 96, Holidays: []int{monday + 1}},
		Terms: []api.Terms{
			{Extend: 4, Buy: 7, Defer: 2, Rate: 100}, {Rate: 1000}, {Extend: 1, Buy: 1, Defer: 1, Rate: million},
			{Buy: 5}, {Defer: 9, Rate: 7}, {},
		},
		Extra: 500,
	}
}

// prices are those of all papers: paper 1 at 1, paper 2 at 2, and so on.
func prices() []int {
	var l []int
	for paper := range 20 {
		l = append(l, scale*(paper+1))
	}
	return l
}

// owing is a fail of 3000 units of paper 10, from party 1 to party 2.
func owing(id, class, day int) api.Fail {
	return api.Fail{Id: id, From: 1, To: 2, Class: class, Paper: 10, Day: day, Units: 3000}
}

// become is a fail after some of its units were delivered, bought and paid.
func become(f api.Fail, delivered, bought, paid int) api.Fail {
	f.Delivered, f.Bought, f.Paid = delivered, bought, paid
	return f
}

// world is one of a Wednesday.
func world(l ...api.Fail) api.World { return api.World{Today: monday + 2, Fails: l} }

// pay makes a book of money from pairs of an account and an amount.
func pay(numbers ...int) []api.Posting {
	var l []api.Posting
	for p := range slices.Chunk(numbers, 2) {
		l = append(l, api.Posting{Account: p[0], Amount: p[1]})
	}
	return l
}

// money is what all parties have: nothing but for parties 1 and 2.
func money(one, two int) []int {
	l := make([]int, 31)
	l[1], l[2] = one, two
	return l
}

func sameWorld(a, b api.World) bool {
	return a.Today == b.Today && slices.Equal(a.Fails, b.Fails) && slices.Equal(a.Book, b.Book)
}

func sameWorlds(a, b []api.World) bool { return slices.EqualFunc(a, b, sameWorld) }

func sameLists(a, b [][]int) bool { return slices.EqualFunc(a, b, slices.Equal[[]int]) }

// wantNights ends one night after the other.
func wantNights(r api.Rules, l []api.World, prices []int) ([]api.World, []api.Errno) {
	var worlds []api.World
	var errs []api.Errno
	for _, w := range l {
		next, _, err := cycle.Night(r, w, prices)
		worlds, errs = append(worlds, next), append(errs, err)
	}
	return worlds, errs
}

// wantSolve solves one list after the other.
func wantSolve(has []int, l [][]api.Due) ([][]int, []api.Errno) {
	var done [][]int
	var errs []api.Errno
	for _, dues := range l {
		indices, err := grid.Solve(has, dues)
		done, errs = append(done, indices), append(errs, err)
	}
	return done, errs
}

// wantOpen adds what is open of one list after the other.
func wantOpen(l [][]api.Fail) int {
	total := 0
	for _, fails := range l {
		if fail.Checks(fails) != api.OK {
			continue
		}
		for _, f := range fails {
			total += f.Units - f.Delivered - f.Bought - f.Paid
		}
	}
	return total
}

func compareNights(t *testing.T, name string, r api.Rules, l []api.World, prices []int) {
	t.Helper()
	want, wantErrs := wantNights(r, l, prices)
	for workers := 1; workers <= most; workers++ {
		worlds, errs, err := crew.Nights(r, l, prices, workers)
		if !sameWorlds(worlds, want) || !slices.Equal(errs, wantErrs) || err != api.OK {
			t.Errorf("%s, %d workers: Nights = %v, %v, %d; want %v, %v", name, workers, worlds, errs, err, want, wantErrs)
		}
	}
}

func compareSolve(t *testing.T, name string, has []int, l [][]api.Due) {
	t.Helper()
	want, wantErrs := wantSolve(has, l)
	for workers := 1; workers <= most; workers++ {
		done, errs, err := crew.Solve(has, l, workers)
		if !sameLists(done, want) || !slices.Equal(errs, wantErrs) || err != api.OK {
			t.Errorf("%s, %d workers: Solve = %v, %v, %d; want %v, %v", name, workers, done, errs, err, want, wantErrs)
		}
	}
}

func compareOpen(t *testing.T, name string, l [][]api.Fail) {
	t.Helper()
	want := wantOpen(l)
	for workers := 1; workers <= most; workers++ {
		if units, err := crew.Open(l, workers); units != want || err != api.OK {
			t.Errorf("%s, %d workers: Open = %d, %d; want %d", name, workers, units, err, want)
		}
	}
}

func TestW1Nights(t *testing.T) {
	late, paying := owing(7, 0, monday), owing(8, 1, monday)
	dark := api.World{Today: monday + 1}
	for _, c := range []struct {
		name  string
		l     []api.World
		want  []api.World
		errs  []api.Errno
		rules func(r *api.Rules)
	}{
		{name: "nil"},
		{name: "no worlds", l: []api.World{}},
		{name: "a world without fails", l: []api.World{world()}, want: []api.World{{Today: monday + 3}}, errs: []api.Errno{api.OK}},
		{
			name: "a penalty", l: []api.World{world(late)},
			want: []api.World{{Today: monday + 3, Fails: []api.Fail{late}, Book: pay(1, -3, 2, 3)}},
			errs: []api.Errno{api.OK},
		},
		{
			name: "each in its place, with its error",
			l:    []api.World{world(paying), dark, world(late), {Today: -1}, world(), world(late, late), {Today: last}},
			want: []api.World{
				{Today: monday + 3, Fails: []api.Fail{become(paying, 0, 0, 3000)}, Book: pay(1, -31530, 2, 31530)}, {},
				{Today: monday + 3, Fails: []api.Fail{late}, Book: pay(1, -3, 2, 3)}, {}, {Today: monday + 3}, {}, {},
			},
			errs: []api.Errno{api.OK, api.ErrState, api.OK, api.ErrRange, api.OK, api.ErrTwice, api.ErrWide},
		},
		{
			name: "wrong rules are an error of each world", l: []api.World{world(), dark},
			want: make([]api.World, 2), errs: []api.Errno{api.ErrForm, api.ErrForm},
			rules: func(r *api.Rules) { r.Terms = nil },
		},
	} {
		r := rules()
		if c.rules != nil {
			c.rules(&r)
		}
		for workers := 1; workers <= most; workers++ {
			worlds, errs, err := crew.Nights(r, c.l, prices(), workers)
			if !sameWorlds(worlds, c.want) || !slices.Equal(errs, c.errs) || err != api.OK {
				t.Errorf("%s, %d workers: Nights = %v, %v, %d; want %v, %v", c.name, workers, worlds, errs, err, c.want, c.errs)
			}
		}
		compareNights(t, c.name, r, c.l, prices())
		compareNights(t, c.name+", too few prices", r, c.l, prices()[1:])
		compareNights(t, c.name+", no rules", api.Rules{}, c.l, nil)
	}
}

func TestW1Solve(t *testing.T) {
	chain := []api.Due{{From: 1, To: 2, Amount: 5}, {From: 2, To: 1, Amount: 6}, {From: 2, To: 3, Amount: 1}}
	for _, c := range []struct {
		name string
		has  []int
		l    [][]api.Due
		want [][]int
		errs []api.Errno
	}{
		{name: "nil", has: money(5, 0)},
		{name: "no lists", has: money(5, 0), l: [][]api.Due{}},
		{name: "a list without dues", has: money(5, 0), l: [][]api.Due{nil}, want: [][]int{nil}, errs: []api.Errno{api.OK}},
		{name: "not all can be settled", has: money(5, 0), l: [][]api.Due{chain}, want: [][]int{{0}}, errs: []api.Errno{api.OK}},
		{name: "all can be settled", has: money(5, 2), l: [][]api.Due{chain}, want: [][]int{{0, 1, 2}}, errs: []api.Errno{api.OK}},
		{
			name: "each in its place, with its error", has: money(5, 0),
			l:    [][]api.Due{chain, {{From: 1, To: 1, Amount: 1}}, chain[:1], {{From: 1, To: 2, Amount: 0}}, chain[1:2], make([]api.Due, 61), {}},
			want: [][]int{{0}, nil, {0}, nil, nil, nil, nil},
			errs: []api.Errno{api.OK, api.ErrForm, api.OK, api.ErrRange, api.OK, api.ErrMany, api.OK},
		},
		{
			name: "what parties have is an error of each list", has: money(-1, 0), l: [][]api.Due{chain, nil},
			want: make([][]int, 2), errs: []api.Errno{api.ErrRange, api.ErrRange},
		},
		{name: "too few parties", l: [][]api.Due{chain}, want: make([][]int, 1), errs: []api.Errno{api.ErrForm}},
	} {
		for workers := 1; workers <= most; workers++ {
			done, errs, err := crew.Solve(c.has, c.l, workers)
			if !sameLists(done, c.want) || !slices.Equal(errs, c.errs) || err != api.OK {
				t.Errorf("%s, %d workers: Solve = %v, %v, %d; want %v, %v", c.name, workers, done, errs, err, c.want, c.errs)
			}
		}
		compareSolve(t, c.name, c.has, c.l)
	}
}

func TestW2Open(t *testing.T) {
	a, b, gone := owing(7, 0, monday), become(owing(8, 1, monday), 100, 20, 3), become(owing(9, 0, monday), 1000, 1000, 1000)
	great := make([]api.Fail, 60)
	for i := range great {
		great[i] = owing(i+1, 0, monday)
		great[i].Units = maxUnits
	}
	for _, c := range []struct {
		name string
		l    [][]api.Fail
		want int
	}{
		{"nil", nil, 0},
		{"no lists", [][]api.Fail{}, 0},
		{"lists without fails", [][]api.Fail{nil, {}}, 0},
		{"a fail", [][]api.Fail{{a}}, 3000},
		{"what was delivered, bought and paid is not open", [][]api.Fail{{b}}, 2877},
		{"nothing is open", [][]api.Fail{{gone}}, 0},
		{"several fails", [][]api.Fail{{a, b, gone}}, 5877},
		{"several lists", [][]api.Fail{{a}, {b}, nil, {gone, a}}, 8877},
		{"the same list again", [][]api.Fail{{a, b}, {a, b}}, 11754},
		{"lists that are not valid", [][]api.Fail{{a, {}}, {b}, {a, a}, make([]api.Fail, 61), {become(a, 3000, 1, 0)}, {become(a, -1, 0, 0)}}, 2877},
		{"one too many fails", [][]api.Fail{append(slices.Clone(great), owing(61, 0, monday)), {a}}, 3000},
		{"as many as may be", slices.Repeat([][]api.Fail{great}, mostJobs), mostJobs * 60 * maxUnits},
	} {
		for workers := 1; workers <= most; workers++ {
			if units, err := crew.Open(c.l, workers); units != c.want || err != api.OK {
				t.Errorf("%s, %d workers: Open = %d, %d; want %d", c.name, workers, units, err, c.want)
			}
		}
		compareOpen(t, c.name, c.l)
	}
}

// TestW1W2Errors has all numbers of workers and of jobs around their limits.
func TestW1W2Errors(t *testing.T) {
	for _, workers := range []int{math.MinInt, -8, -1, 0, 1, 2, 7, 8, 9, 10, 16, 1 << 32, 1<<32 + 1, math.MaxInt} {
		for _, jobs := range []int{0, 1, 29, 30, 31, 32, 60, 1000} {
			want := api.OK
			switch {
			case workers < 1 || workers > most:
				want = api.ErrRange
			case jobs > mostJobs:
				want = api.ErrMany
			}
			many := jobs
			if want != api.OK {
				many = 0
			}
			worlds, errs, err := crew.Nights(rules(), slices.Repeat([]api.World{world()}, jobs), prices(), workers)
			if len(worlds) != many || len(errs) != many || err != want {
				t.Errorf("%d worlds, %d workers: Nights = %v, %v, %d; want error %d", jobs, workers, worlds, errs, err, want)
			}
			done, errs, err := crew.Solve(money(0, 0), make([][]api.Due, jobs), workers)
			if len(done) != many || len(errs) != many || err != want {
				t.Errorf("%d lists, %d workers: Solve = %v, %v, %d; want error %d", jobs, workers, done, errs, err, want)
			}
			units, err := crew.Open(slices.Repeat([][]api.Fail{{owing(7, 0, monday)}}, jobs), workers)
			if units != 3000*many || err != want {
				t.Errorf("%d lists, %d workers: Open = %d, %d; want error %d", jobs, workers, units, err, want)
			}
		}
	}
}

// drawFails draws fails, sometimes one that is not valid.
func drawFails(r *rand.Rand) []api.Fail {
	var l []api.Fail
	for id := range r.Intn(61) {
		f := owing(id+1, r.Intn(6), monday+r.Intn(20)-15)
		f.From = r.Intn(31)
		f.To = (f.From + 1 + r.Intn(30)) % 31
		f.Paper = 1 + r.Intn(20)
		f.Units = 1 + r.Intn(maxUnits)>>r.Intn(30)
		f.Delivered = r.Intn(f.Units + 1)
		f.Bought = r.Intn(f.Units - f.Delivered + 1)
		l = append(l, f)
	}
	if len(l) > 0 && r.Intn(4) == 0 {
		l[r.Intn(len(l))].Paid = -1
	}
	return l
}

func drawDues(r *rand.Rand) []api.Due {
	var l []api.Due
	for range r.Intn(61) {
		from := r.Intn(31)
		l = append(l, api.Due{From: from, To: (from + 1 + r.Intn(30)) % 31, Amount: 1 + r.Intn(1000)})
	}
	if len(l) > 0 && r.Intn(4) == 0 {
		l[r.Intn(len(l))].Amount = 0
	}
	return l
}

// TestW3NumberOfWorkersIsNotSeen has drawn jobs, of which some take much longer than others.
func TestW3NumberOfWorkersIsNotSeen(t *testing.T) {
	r := rand.New(rand.NewSource(1))
	for range 30 {
		var worlds []api.World
		var dues [][]api.Due
		var fails [][]api.Fail
		for range r.Intn(mostJobs + 1) {
			w := world(drawFails(r)...)
			w.Today += r.Intn(4) - 1
			worlds, dues, fails = append(worlds, w), append(dues, drawDues(r)), append(fails, drawFails(r))
		}
		has := make([]int, 31)
		for i := range has {
			has[i] = r.Intn(2000)
		}
		compareNights(t, "drawn", rules(), worlds, prices())
		compareSolve(t, "drawn", has, dues)
		compareOpen(t, "drawn", fails)
	}
}

// TestW3CallersAtTheSameTime has calls that share all their arguments.
func TestW3CallersAtTheSameTime(t *testing.T) {
	r := rand.New(rand.NewSource(2))
	worlds := slices.Repeat([]api.World{world(drawFails(r)...), world(owing(8, 1, monday))}, 15)
	dues := slices.Repeat([][]api.Due{drawDues(r), drawDues(r)}, 15)
	fails := slices.Repeat([][]api.Fail{drawFails(r), drawFails(r)}, 15)
	var all sync.WaitGroup
	for range 4 {
		all.Go(func() {
			compareNights(t, "at once", rules(), worlds, prices())
			compareSolve(t, "at once", money(1000, 1000), dues)
			compareOpen(t, "at once", fails)
		})
	}
	all.Wait()
}

// TestW3NoWorkerIsLeft also has calls with errors. A worker that has done its last step may take a moment to be gone.
func TestW3NoWorkerIsLeft(t *testing.T) {
	before := runtime.NumGoroutine()
	for workers := range most + 2 {
		for _, jobs := range []int{0, 1, 5, 30, 31} {
			crew.Nights(rules(), slices.Repeat([]api.World{world(owing(7, 0, monday))}, jobs), prices(), workers)
			crew.Nights(api.Rules{}, make([]api.World, jobs), nil, workers)
			crew.Solve(money(0, 0), make([][]api.Due, jobs), workers)
			crew.Open(make([][]api.Fail, jobs), workers)
		}
	}
	for range 1000 {
		if runtime.NumGoroutine() <= before {
			return
		}
		time.Sleep(10 * time.Millisecond)
	}
	t.Errorf("%d goroutines before the calls, and %d after them", before, runtime.NumGoroutine())
}

func TestP1NothingBesideAnError(t *testing.T) {
	for _, n := range []int{math.MinInt, -1, 0, 1, 8, 9, 31, scale + 1, maxUnits + 1, last + 1, 1 << 60, math.MaxInt} {
		for field := range 8 {
			r, w, p := rules(), world(owing(7, 1, monday)), prices()
			*[]*int{&r.Extra, &r.Cal.Weekend, &r.Terms[1].Buy, &w.Today, &w.Fails[0].Units, &w.Fails[0].Class, &w.Fails[0].Day, &p[9]}[field] = n
			for _, workers := range []int{n, 3} {
				worlds, errs, err := crew.Nights(r, []api.World{w, w}, p, workers)
				if err != api.OK && len(worlds)+len(errs) != 0 {
					t.Errorf("Nights with %d in field %d = %v, %v with error %d", n, field, worlds, errs, err)
				}
				for i, e := range errs {
					if e != api.OK && !sameWorld(worlds[i], api.World{}) {
						t.Errorf("Nights with %d in field %d = %v, with errors %v", n, field, worlds, errs)
					}
				}
			}
		}
		for _, workers := range []int{n, 3} {
			due := api.Due{From: 1, To: 2, Amount: n}
			done, errs, err := crew.Solve(money(5, n), [][]api.Due{{due}, {due, due}}, workers)
			if err != api.OK && len(done)+len(errs) != 0 {
				t.Errorf("Solve with %d = %v, %v with error %d", n, done, errs, err)
			}
			for i, e := range errs {
				if e != api.OK && len(done[i]) != 0 {
					t.Errorf("Solve with %d = %v, with errors %v", n, done, errs)
				}
			}
			if units, err := crew.Open([][]api.Fail{{owing(7, 0, monday)}}, workers); err != api.OK && units != 0 {
				t.Errorf("Open by %d workers = %d with error %d", workers, units, err)
			}
		}
	}
}

// spoil overwrites all memory of a world: what shares it would show this.
func spoil(w api.World) {
	clear(w.Fails[:cap(w.Fails)])
	clear(w.Book[:cap(w.Book)])
}

func TestP2NightsOnlyReadsAndItsResultsAreNew(t *testing.T) {
	late := owing(7, 0, monday)
	fails := []api.Fail{late, {Id: -1}}
	book := append(pay(1, -5, 2, 5), pay(77, 77)...)
	p := append(prices(), -1)
	r := rules()
	r.Terms = append(r.Terms, api.Terms{Rate: -1})
	r.Cal.Holidays = append(r.Cal.Holidays, -1)
	shown := r
	shown.Terms, shown.Cal.Holidays = r.Terms[:6], r.Cal.Holidays[:1]
	w := api.World{Today: monday + 2, Fails: fails[:1], Book: book[:2]}
	worlds := []api.World{w, w, {Today: -1}, w, {Today: 77}}
	want := api.World{Today: monday + 3, Fails: []api.Fail{late}, Book: pay(1, -8, 2, 8)}
	for range 2 {
		next, errs, err := crew.Nights(shown, worlds[:4], p[:20], 3)
		if !sameWorlds(next, []api.World{want, want, {}, want}) || !slices.Equal(errs, []api.Errno{0, 0, 3, 0}) || err != api.OK {
			t.Errorf("Nights = %v, %v, %d", next, errs, err)
		}
		for i, one := range next {
			spoil(one)
			for _, other := range next[i+1:] {
				if !sameWorld(other, want) && !sameWorld(other, api.World{}) {
					t.Errorf("after a change of world %d another one is %v", i, other)
				}
			}
		}
		clear(next[:cap(next)])
		clear(errs[:cap(errs)])
	}
	if !slices.Equal(fails, []api.Fail{late, {Id: -1}}) || !slices.Equal(book, append(pay(1, -5, 2, 5), pay(77, 77)...)) || !slices.Equal(p, append(prices(), -1)) {
		t.Errorf("after the calls the lists and what is behind them are %v, %v, %v", fails, book, p)
	}
	if !slices.Equal(r.Terms, append(rules().Terms, api.Terms{Rate: -1})) || !slices.Equal(r.Cal.Holidays, []int{monday + 1, -1}) || !sameWorlds(worlds, []api.World{w, w, {Today: -1}, w, {Today: 77}}) {
		t.Errorf("after the calls the rules and the worlds are %v, %v", r, worlds)
	}
}

func TestP2SolveAndOpenOnlyReadAndResultsAreNew(t *testing.T) {
	has := append(money(5, 0), -1)
	wantDues := []api.Due{{From: 1, To: 2, Amount: 5}, {From: 2, To: 1, Amount: 6}, {From: 2, To: 3, Amount: 1}, {From: -1}}
	dues := slices.Clone(wantDues)
	lists := [][]api.Due{dues[:3], dues[:1], dues[:3], dues}
	wantFails := []api.Fail{owing(7, 0, monday), {Id: -1}}
	fails := slices.Clone(wantFails)
	fewFails := [][]api.Fail{fails[:1], fails[:1], fails}
	for range 2 {
		done, errs, err := crew.Solve(has[:31], lists[:3], 2)
		if !sameLists(done, [][]int{{0}, {0}, {0}}) || !slices.Equal(errs, make([]api.Errno, 3)) || err != api.OK {
			t.Errorf("Solve = %v, %v, %d", done, errs, err)
		}
		first := done[0][:cap(done[0])]
		for i := range first {
			first[i] = 99
		}
		if !sameLists(done[1:], [][]int{{0}, {0}}) {
			t.Errorf("after a change of the first indices the others are %v", done[1:])
		}
		clear(done[:cap(done)])
		clear(errs[:cap(errs)])
		if units, err := crew.Open(fewFails[:2], 2); units != 6000 || err != api.OK {
			t.Errorf("Open = %d, %d", units, err)
		}
	}
	if !slices.Equal(has, append(money(5, 0), -1)) || !slices.Equal(dues, wantDues) || !slices.Equal(fails, wantFails) {
		t.Errorf("after the calls the lists and what is behind them are %v, %v, %v", has, dues, fails)
	}
	if len(lists[3]) != 4 || len(fewFails[2]) != 2 {
		t.Errorf("after the calls the lists behind the lists are %v, %v", lists[3], fewFails[2])
	}
}

func TestP3CallsDoNotSeeEarlierOnes(t *testing.T) {
	worlds := []api.World{world(owing(7, 0, monday))}
	has := money(5, 0)
	dues := [][]api.Due{{{From: 1, To: 2, Amount: 5}}}
	for range 3 {
		for _, units := range []int{3000, 2000} {
			worlds[0].Fails[0].Units = units // what was kept would show here
			has[1] = units / 500
			compareNights(t, "again", rules(), worlds, prices())
			compareSolve(t, "again", has, dues)
			compareOpen(t, "again", [][]api.Fail{worlds[0].Fails, worlds[0].Fails})
			if units, err := crew.Open([][]api.Fail{worlds[0].Fails}, 0); units != 0 || err != api.ErrRange {
				t.Errorf("Open by no workers = %d, %d", units, err)
			}
		}
	}
}

func TestP4LongLists(t *testing.T) {
	const many = 1 << 20
	if l, errs, err := crew.Nights(rules(), make([]api.World, many), prices(), most); len(l)+len(errs) != 0 || err != api.ErrMany {
		t.Errorf("Nights of many worlds = %v, %v, %d", l, errs, err)
	}
	if l, errs, err := crew.Solve(money(0, 0), make([][]api.Due, many), most); len(l)+len(errs) != 0 || err != api.ErrMany {
		t.Errorf("Solve of many lists = %v, %v, %d", l, errs, err)
	}
	if units, err := crew.Open(make([][]api.Fail, many), most); units != 0 || err != api.ErrMany {
		t.Errorf("Open of many lists = %d, %d", units, err)
	}
	compareNights(t, "many fails", rules(), []api.World{{Fails: make([]api.Fail, many)}, world()}, prices())
	compareNights(t, "many lines", rules(), []api.World{{Book: make([]api.Posting, many)}, world()}, prices())
	compareNights(t, "many prices", rules(), []api.World{world()}, make([]int, many))
	compareSolve(t, "many dues", money(0, 0), [][]api.Due{make([]api.Due, many), nil})
	compareSolve(t, "many parties", make([]int, many), [][]api.Due{nil, nil})
	compareOpen(t, "many fails", [][]api.Fail{make([]api.Fail, many), {owing(7, 0, monday)}})
}
