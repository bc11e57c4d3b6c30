package desk_test

import (
	"fmt"
	"math"
	"math/rand"
	"regexp"
	"slices"
	"strconv"
	"strings"
	"testing"

	"demurrage/age"
	"demurrage/api"
	"demurrage/book"
	"demurrage/cycle"
	"demurrage/desk"
	"demurrage/lines"
	"demurrage/tape"
)

const (
	most     = 60   // lines of a text
	mostTape = 4000 // bytes of a tape
	scale    = 10000
	million  = 1000000
	maxId    = 1 << 40
	maxUnits = 1 << 30
	last     = 3652058 // a Friday
	monday   = 739935  // November 16 of 2026
	added    = "add 7 1 2 0 3 739935 3000"
)

// night is the line of a night at one price for all papers.
func night(price string) string { return "night" + strings.Repeat(" "+price, 20) }

// rules are those of Saturdays, Sundays and a Tuesday, with terms of all kinds.
func rules() api.Rules {
	return api.Rules{
		Cal: api.Cal{Weekend: 96, Holidays: []int{monday + 1}},
		Terms: []api.Terms{
			{Extend: 4, Buy: 7, Defer: 2, Rate: 100}, {Rate: 1000}, {Extend: 1, Buy: 1, Defer: 1, Rate: million},
			{Buy: 5}, {Defer: 9, Rate: 7}, {},
		},
		Extra: 500,
	}
}

// owing is a fail of 3000 units of paper 3, from party 1 to party 2.
func owing(id, class, day int) api.Fail {
	return api.Fail{Id: id, From: 1, To: 2, Class: class, Paper: 3, Day: day, Units: 3000}
}

// become is a fail after some of its units were delivered, bought and paid.
func become(f api.Fail, delivered, bought, paid int) api.Fail {
	f.Delivered, f.Bought, f.Paid = delivered, bought, paid
	return f
}

// post makes postings, or a book, from triples of account, unit and amount.
func post(numbers ...int) []api.Posting {
	var l []api.Posting
	for p := range slices.Chunk(numbers, 3) {
		l = append(l, api.Posting{Account: p[0], Unit: p[1], Amount: p[2]})
	}
	return l
}

// on is a world of a day.
func on(today int, l ...api.Fail) api.World { return api.World{Today: today, Fails: l} }

// with is a world with a book.
func with(w api.World, b ...int) api.World {
	w.Book = post(b...)
	return w
}

// some is a world of a Wednesday, of which fail 7 waits, 8 is to be paid for, and of 9 nothing is open.
func some() api.World {
	w := on(monday+2, owing(7, 0, monday), owing(8, 1, monday), become(owing(9, 0, monday), 1000, 2000, 0))
	return with(w, 1, 0, -5, 1, 3, -1000, 2, 0, 5, 2, 3, 1000, 99, 20, -7, 100, 20, 7)
}

func sameWorld(a, b api.World) bool {
	return a.Today == b.Today && slices.Equal(a.Fails, b.Fails) && slices.Equal(a.Book, b.Book)
}

func isZero(w api.World) bool { return sameWorld(w, api.World{}) }

const digits = `(0|[1-9][0-9]{0,17})`

var (
	opForm = regexp.MustCompile(`\A(add|deliver|night)( |\z)`)
	idForm = regexp.MustCompile(`\A(open|stage) ` + digits + `\z`)
	ofForm = regexp.MustCompile(`\Abalance ` + digits + ` ` + digits + `\z`)
)

// wantDo does a line anew.
func wantDo(r api.Rules, w api.World, line string) (api.World, string, api.Errno) {
	next, reply, err := w, "", api.ErrForm
	if e := cycle.Rules(r); e != api.OK {
		err = e
	} else if e := cycle.Check(w); e != api.OK {
		err = e
	} else if opForm.MatchString(line) {
		next, reply, err = wantOp(r, w, line)
	} else if m := idForm.FindStringSubmatch(line); m != nil {
		reply, err = wantOfFail(r, w, m[1], m[2])
	} else if m := ofForm.FindStringSubmatch(line); m != nil {
		account, _ := strconv.Atoi(m[1])
		unit, _ := strconv.Atoi(m[2])
		var balance int
		balance, err = book.Balance(w.Book, account, unit)
		reply = fmt.Sprint(balance)
	} else if line == "tidy" {
		var removed []api.Fail
		next, removed, err = cycle.Tidy(w)
		reply = fmt.Sprint(len(removed))
	} else if line == "today" {
		reply, err = fmt.Sprint(w.Today), api.OK
	}
	if err != api.OK {
		return api.World{}, "", err
	}
	return next, reply, api.OK
}

// wantOp does the line of an op anew.
func wantOp(r api.Rules, w api.World, line string) (api.World, string, api.Errno) {
	ops, _, err := lines.Read(line + "\n")
	if err != api.OK {
		return api.World{}, "", err
	}
	if len(ops) > 1 {
		return api.World{}, "", api.ErrForm
	}
	switch line[0] {
	case 'a':
		next, err := cycle.Add(w, ops[0].Fail)
		return next, "ok", err
	case 'd':
		next, err := cycle.Deliver(w, ops[0].Id, ops[0].Units)
		return next, "ok", err
	}
	next, postings, err := cycle.Night(r, w, ops[0].Prices)
	return next, fmt.Sprint(len(postings)), err
}

// wantOfFail replies anew what is asked of a fail.
func wantOfFail(r api.Rules, w api.World, word, id string) (string, api.Errno) {
	for _, f := range w.Fails {
		if fmt.Sprint(f.Id) != id {
			continue
		}
		n, err := f.Units-f.Delivered-f.Bought-f.Paid, api.OK
		if word == "stage" {
			n, err = age.Stage(r.Cal, r.Terms[f.Class], f, w.Today)
		}
		return fmt.Sprint(n), err
	}
	return "", api.ErrNone
}

// wantRun runs lines anew, one by one.
func wantRun(r api.Rules, w api.World, l []string) (api.World, string) {
	out := ""
	for _, line := range l {
		if line == "" {
			continue
		}
		next, reply, err := wantDo(r, w, line)
		if err != api.OK {
			out += fmt.Sprintf("error %d\n", err)
			continue
		}
		w, out = next, out+reply+"\n"
	}
	return w, out
}

// wantReplay replays lines anew.
func wantReplay(r api.Rules, w api.World, l []string) (api.World, int) {
	for i, line := range l {
		next, _, err := wantDo(r, w, line)
		if err != api.OK {
			return w, i
		}
		w = next
	}
	return w, len(l)
}

// onTape is a tape with lines.
func onTape(t *testing.T, l ...string) []byte {
	t.Helper()
	var on []byte
	for _, line := range l {
		next, err := tape.Put(on, []byte(line))
		if err != api.OK {
			t.Fatalf("%q cannot be put on a tape of %d bytes: error %d", line, len(on), err)
		}
		on = next
	}
	return on
}

func compareDo(t *testing.T, name string, r api.Rules, w api.World, line string) (api.World, api.Errno) {
	t.Helper()
	next, reply, err := desk.Do(r, w, line)
	if want, wantReply, wantErr := wantDo(r, w, line); !sameWorld(next, want) || reply != wantReply || err != wantErr {
		t.Errorf("%s: Do(%v, %.100q) = %v, %q, %d; want %v, %q, %d", name, w, line, next, reply, err, want, wantReply, wantErr)
	}
	return next, err
}

func compareRun(t *testing.T, name string, r api.Rules, w api.World, l ...string) {
	t.Helper()
	next, out, err := desk.Run(r, w, strings.Join(l, "\n"))
	if want, wantOut := wantRun(r, w, l); !sameWorld(next, want) || out != wantOut || err != api.OK {
		t.Errorf("%s: Run(%v, %q) = %v, %q, %d; want %v, %q", name, w, l, next, out, err, want, wantOut)
	}
}

func compareReplay(t *testing.T, name string, r api.Rules, w api.World, l ...string) {
	t.Helper()
	next, many, err := desk.Replay(r, w, onTape(t, l...))
	if want, wantMany := wantReplay(r, w, l); !sameWorld(next, want) || many != wantMany || err != api.OK {
		t.Errorf("%s: Replay(%v, %q) = %v, %d, %d; want %v, %d", name, w, l, next, many, err, want, wantMany)
	}
}

func TestX1Do(t *testing.T) {
	w := some()
	a, b, c := w.Fails[0], w.Fails[1], w.Fails[2]
	change := func(today int, l []api.Fail, b ...int) api.World {
		return api.World{Today: today, Fails: l, Book: post(b...)}
	}
	dark := on(monday + 1)
	for _, c := range []struct {
		name  string
		w     api.World
		line  string
		next  api.World
		reply string
	}{
		{"add", on(monday), added, on(monday, owing(7, 0, monday)), "ok"},
		{"add behind others", on(monday, owing(9, 1, monday)), added, on(monday, owing(9, 1, monday), owing(7, 0, monday)), "ok"},
		{"add the least", api.World{}, "add 1 0 1 0 1 0 1", on(0, api.Fail{Id: 1, To: 1, Paper: 1, Units: 1}), "ok"},
		{"add the greatest", on(last), "add 1099511627776 30 29 5 20 3652058 1073741824", on(last, api.Fail{Id: maxId, From: 30, To: 29, Class: 5, Paper: 20, Day: last, Units: maxUnits}), "ok"},
		{"add on a holiday", dark, added, on(monday+1, owing(7, 0, monday)), "ok"},
		{
			"deliver", w, "deliver 7 1000",
			change(monday+2, []api.Fail{become(a, 1000, 0, 0), b, c}, 1, 0, -5, 1, 3, -2000, 2, 0, 5, 2, 3, 2000, 99, 20, -7, 100, 20, 7), "ok",
		},
		{"deliver all", on(monday, a), "deliver 7 3000", with(on(monday, become(a, 3000, 0, 0)), 1, 3, -3000, 2, 3, 3000), "ok"},
		{
			"night", w, night("10"),
			change(monday+3, []api.Fail{a, become(b, 0, 0, 3000), c}, 1, 0, -31538, 1, 3, -1000, 2, 0, 31538, 2, 3, 1000, 99, 20, -7, 100, 20, 7), "4",
		},
		{"night, with a penalty", on(monday+2, a), night("10"), with(on(monday+3, a), 1, 0, -3, 2, 0, 3), "2"},
		{"night, with nothing to pay", on(monday+2, a), night("0"), on(monday+3, a), "0"},
		{"night, with papers that are worth nothing", on(monday+2, b), night("0"), on(monday+3, become(b, 0, 0, 3000)), "0"},
		{"night, with places of prices", on(monday+2, a), night("13.3334"), with(on(monday+3, a), 1, 0, -4, 2, 0, 4), "2"},
		{"night before a weekend", on(monday + 4), night("1"), on(monday + 7), "0"},
		{"open", w, "open 7", w, "3000"},
		{"open of another one", on(monday, become(a, 1000, 20, 3)), "open 7", on(monday, become(a, 1000, 20, 3)), "1977"},
		{"nothing is open", w, "open 9", w, "0"},
		{"stage: early", on(monday, a), "stage 7", on(monday, a), "0"},
		{"stage: waiting", w, "stage 7", w, "1"},
		{"stage: buying", on(monday+8, a), "stage 7", on(monday+8, a), "2"},
		{"stage: late", on(monday+17, a), "stage 7", on(monday+17, a), "3"},
		{"stage: paying", w, "stage 8", w, "4"},
		{"stage: done", w, "stage 9", w, "5"},
		{"stage on a holiday", on(monday+1, a), "stage 7", on(monday+1, a), "1"},
		{"balance of money", w, "balance 2 0", w, "5"},
		{"a balance below 0", w, "balance 1 0", w, "-5"},
		{"balance of papers", w, "balance 2 3", w, "1000"},
		{"balance of papers, below 0", w, "balance 1 3", w, "-1000"},
		{"balance of no line", w, "balance 1 1", w, "0"},
		{"balance of the first account", w, "balance 0 0", w, "0"},
		{"balance of the last account", w, "balance 100 20", w, "7"},
		{"a great balance", with(on(monday), 1, 0, -(1 << 60), 2, 0, 1<<60), "balance 1 0", with(on(monday), 1, 0, -(1 << 60), 2, 0, 1<<60), "-1152921504606846976"},
		{"tidy", w, "tidy", api.World{Today: monday + 2, Fails: []api.Fail{a, b}, Book: w.Book}, "1"},
		{"tidy nothing", on(monday, a), "tidy", on(monday, a), "0"},
		{"tidy all", on(monday, c, become(a, 0, 3000, 0)), "tidy", on(monday), "2"},
		{"tidy no fails", dark, "tidy", dark, "0"},
		{"today", w, "today", w, "739937"},
		{"today is the first day", api.World{}, "today", api.World{}, "0"},
		{"today is the last day", on(last), "today", on(last), "3652058"},
	} {
		next, reply, err := desk.Do(rules(), c.w, c.line)
		if !sameWorld(next, c.next) || reply != c.reply || err != api.OK {
			t.Errorf("%s: Do(%v, %q) = %v, %q, %d; want %v, %q", c.name, c.w, c.line, next, reply, err, c.next, c.reply)
		}
		compareDo(t, c.name, rules(), c.w, c.line)
	}
}

// fault is a change of what is asked, with the error that it causes.
type fault struct {
	name   string
	change func(r *api.Rules, w *api.World)
	err    api.Errno
}

// ruleFaults are in the order of their errors, as are worldFaults.
func ruleFaults() []fault {
	return []fault{
		{"no such weekend", func(r *api.Rules, w *api.World) { r.Cal.Weekend = 127 }, api.ErrRange},
		{"too many holidays", func(r *api.Rules, w *api.World) { r.Cal.Holidays = make([]int, 61) }, api.ErrMany},
		{"a holiday twice", func(r *api.Rules, w *api.World) { r.Cal.Holidays = []int{5, 5} }, api.ErrTwice},
		{"no terms", func(r *api.Rules, w *api.World) { r.Terms = nil }, api.ErrForm},
		{"one too many terms", func(r *api.Rules, w *api.World) { r.Terms = append(r.Terms, api.Terms{}) }, api.ErrForm},
		{"wrong terms of a class", func(r *api.Rules, w *api.World) { r.Terms[5].Rate = -1 }, api.ErrRange},
		{"too great an extra", func(r *api.Rules, w *api.World) { r.Extra = scale + 1 }, api.ErrRange},
	}
}

func worldFaults() []fault {
	return []fault{
		{"today is before the first day", func(r *api.Rules, w *api.World) { w.Today = -1 }, api.ErrRange},
		{"today is after the last day", func(r *api.Rules, w *api.World) { w.Today = last + 1 }, api.ErrRange},
		{"too many fails", func(r *api.Rules, w *api.World) { w.Fails = make([]api.Fail, 61) }, api.ErrMany},
		{"a fail of one party", func(r *api.Rules, w *api.World) { w.Fails[2].To = 1 }, api.ErrForm},
		{"a fail twice", func(r *api.Rules, w *api.World) { w.Fails[2] = w.Fails[0] }, api.ErrTwice},
		{"too many lines", func(r *api.Rules, w *api.World) { w.Book = make([]api.Posting, 401) }, api.ErrMany},
		{"an account that there is not", func(r *api.Rules, w *api.World) { w.Book[5].Account = 101 }, api.ErrRange},
		{"a book that does not balance", func(r *api.Rules, w *api.World) { w.Book[5].Amount++ }, api.ErrState},
	}
}

// textOf is a text of so many lines.
func textOf(many int) string { return strings.Repeat("\n", many-1) }

// TestX2X3X4ErrorsInTheirOrder has each fault of the rules and of the world, alone and with what comes behind it.
func TestX2X3X4ErrorsInTheirOrder(t *testing.T) {
	nothing := fault{name: "nothing else", change: func(*api.Rules, *api.World) {}}
	check := func(first, second fault) {
		r, w := rules(), some()
		second.change(&r, &w)
		first.change(&r, &w)
		for _, line := range []string{"today", "open 7", "open 1", "what", "", night("10"), "add", added, "balance 101 0"} {
			if next, reply, err := desk.Do(r, w, line); !isZero(next) || reply != "" || err != first.err {
				t.Errorf("%s comes before %s: Do of %q = %v, %q, %d; want error %d", first.name, second.name, line, next, reply, err, first.err)
			}
		}
		for _, text := range []string{"", "today", "what", textOf(most), textOf(most + 1)} {
			if next, out, err := desk.Run(r, w, text); !isZero(next) || out != "" || err != first.err {
				t.Errorf("%s comes before %s: Run of %q = %v, %q, %d; want error %d", first.name, second.name, text, next, out, err, first.err)
			}
		}
		for _, on := range [][]byte{nil, onTape(t, "today"), onTape(t, "what"), make([]byte, mostTape+1)} {
			if next, many, err := desk.Replay(r, w, on); !isZero(next) || many != 0 || err != first.err {
				t.Errorf("%s comes before %s: Replay of %d bytes = %v, %d, %d; want error %d", first.name, second.name, len(on), next, many, err, first.err)
			}
		}
	}
	for _, first := range ruleFaults() {
		for _, second := range append(worldFaults(), nothing) {
			check(first, second)
		}
	}
	for _, first := range worldFaults() {
		check(first, nothing)
	}
}

func TestX2ErrorsOfLines(t *testing.T) {
	w := some()
	for _, c := range []struct {
		name string
		w    api.World
		line string
		err  api.Errno
	}{
		{"an empty line", w, "", api.ErrForm},
		{"a blank", w, " ", api.ErrForm},
		{"a line feed", w, "\n", api.ErrForm},
		{"no such word", w, "what", api.ErrForm},
		{"no such word, with a number", w, "what 7", api.ErrForm},
		{"a number", w, "7", api.ErrForm},
		{"a great letter", w, "Today", api.ErrForm},
		{"half a word", w, "toda", api.ErrForm},
		{"a longer word", w, "todays", api.ErrForm},
		{"a blank before a word", w, " today", api.ErrForm},
		{"a blank behind a word", w, "today ", api.ErrForm},
		{"a carriage return", w, "today\r", api.ErrForm},
		{"a line feed behind a word", w, "today\n", api.ErrForm},
		{"a line feed before a word", w, "\ntoday", api.ErrForm},
		{"two lines", w, "today\ntoday", api.ErrForm},
		{"a byte of 0", w, "today\x00", api.ErrForm},
		{"today with a number", w, "today 1", api.ErrForm},
		{"tidy with a number", w, "tidy 0", api.ErrForm},
		{"tidy with a blank", w, "tidy ", api.ErrForm},
		{"open without an Id", w, "open", api.ErrForm},
		{"open without an Id, with a blank", w, "open ", api.ErrForm},
		{"open of two Ids", w, "open 7 8", api.ErrForm},
		{"open, with a blank at the end", w, "open 7 ", api.ErrForm},
		{"open, with two blanks", w, "open  7", api.ErrForm},
		{"open, with a tabulator", w, "open\t7", api.ErrForm},
		{"open, with a line feed", w, "open 7\n", api.ErrForm},
		{"open without a blank", w, "open7", api.ErrForm},
		{"open of a sign", w, "open -7", api.ErrForm},
		{"open of another sign", w, "open +7", api.ErrForm},
		{"open of a zero before a digit", w, "open 07", api.ErrForm},
		{"open of a letter", w, "open x", api.ErrForm},
		{"open of a price", w, "open 7.5", api.ErrForm},
		{"open of the longest number", w, "open 999999999999999999", api.ErrNone},
		{"open of one more digit", w, "open 1000000000000000000", api.ErrForm},
		{"open of an Id that there is not", w, "open 6", api.ErrNone},
		{"open of the Id 0", w, "open 0", api.ErrNone},
		{"open where there are no fails", on(monday), "open 7", api.ErrNone},
		{"stage without an Id", w, "stage", api.ErrForm},
		{"stage of two Ids", w, "stage 7 7", api.ErrForm},
		{"stage of a letter", w, "stage x", api.ErrForm},
		{"stage of one more digit", w, "stage 1000000000000000000", api.ErrForm},
		{"stage of an Id that there is not", w, "stage 6", api.ErrNone},
		{"stage of the Id 0", w, "stage 0", api.ErrNone},
		{"stage of the longest number", w, "stage 999999999999999999", api.ErrNone},
		{"stage where there are no fails", on(monday), "stage 7", api.ErrNone},
		{"stage, with days that do not exist", on(last, owing(7, 0, last)), "stage 7", api.ErrWide},
		{"stage of an Id that there is not, with days that do not exist", on(last, owing(7, 0, last)), "stage 8", api.ErrNone},
		{"balance without an account", w, "balance", api.ErrForm},
		{"balance without a unit", w, "balance 1", api.ErrForm},
		{"balance without a unit, with a blank", w, "balance 1 ", api.ErrForm},
		{"balance of three numbers", w, "balance 1 0 0", api.ErrForm},
		{"balance, with a blank at the end", w, "balance 1 0 ", api.ErrForm},
		{"balance of a sign", w, "balance -1 0", api.ErrForm},
		{"balance of another sign", w, "balance 1 -0", api.ErrForm},
		{"balance of a zero before a digit", w, "balance 01 0", api.ErrForm},
		{"balance of two zeros", w, "balance 1 00", api.ErrForm},
		{"balance of an account that there is not", w, "balance 101 0", api.ErrRange},
		{"balance of a unit that there is not", w, "balance 0 21", api.ErrRange},
		{"balance of the longest numbers", w, "balance 999999999999999999 999999999999999999", api.ErrRange},
		{"balance of one more digit", w, "balance 101 1000000000000000000", api.ErrForm},
		{"add without numbers", w, "add", api.ErrForm},
		{"add with too few numbers", w, "add 6 1 2 0 3 739935", api.ErrForm},
		{"add with too many numbers", w, "add 6 1 2 0 3 739935 3000 0", api.ErrForm},
		{"add with a line feed", on(monday), added + "\n", api.ErrForm},
		{"add twice", on(monday), added + "\n" + strings.Replace(added, "7", "8", 1), api.ErrForm},
		{"add a class that there is not", w, "add 6 1 2 6 3 739935 3000", api.ErrRange},
		{"add the Id 0", w, "add 0 1 2 0 3 739935 3000", api.ErrRange},
		{"add, from a party to itself", w, "add 6 1 1 0 3 739935 3000", api.ErrForm},
		{"add an Id again", w, added, api.ErrTwice},
		{"add tomorrow's", w, "add 6 1 2 0 3 739938 3000", api.ErrState},
		{"add tomorrow's, with an Id again", w, "add 7 1 2 0 3 739938 3000", api.ErrState},
		{"add one too many", on(monday, sixty()...), "add 61 1 2 0 3 739935 3000", api.ErrMany},
		{"deliver without units", w, "deliver 7", api.ErrForm},
		{"deliver, with a line feed", w, "deliver 7 1\n", api.ErrForm},
		{"deliver twice", w, "deliver 7 1\ndeliver 7 1", api.ErrForm},
		{"deliver no units", w, "deliver 7 0", api.ErrRange},
		{"deliver too many units", w, "deliver 7 1073741825", api.ErrRange},
		{"deliver no units of an Id that there is not", w, "deliver 6 0", api.ErrRange},
		{"deliver what there is not", w, "deliver 6 1", api.ErrNone},
		{"deliver what is not open", w, "deliver 9 1", api.ErrNone},
		{"deliver more than is open", w, "deliver 7 3001", api.ErrWide},
		{"deliver more than fits into the book", with(on(monday, owing(7, 0, monday)), 2, 3, 1<<60, 4, 3, -(1 << 60)), "deliver 7 1", api.ErrWide},
		{"night without prices", w, "night", api.ErrForm},
		{"night with too few prices", w, "night 10", api.ErrForm},
		{"night with too many prices", w, night("10") + " 10", api.ErrForm},
		{"night, with a line feed", w, night("10") + "\n", api.ErrForm},
		{"night, with a price that is none", w, night("10.0"), api.ErrForm},
		{"night, with too great a price", w, night("109951162.7777"), api.ErrForm},
		{"night on a holiday", on(monday + 1), night("10"), api.ErrState},
		{"night of the last day", on(last), night("10"), api.ErrWide},
	} {
		next, reply, err := desk.Do(rules(), c.w, c.line)
		if !isZero(next) || reply != "" || err != c.err {
			t.Errorf("%s: Do(%q) = %v, %q, %d; want error %d", c.name, c.line, next, reply, err, c.err)
		}
		compareDo(t, c.name, rules(), c.w, c.line)
		if strings.Contains(c.line, "\n") {
			continue
		}
		want := fmt.Sprintf("error %d\n%d\n", c.err, c.w.Today)
		if c.line == "" {
			want = want[len("error 1\n"):]
		}
		if next, out, err := desk.Run(rules(), c.w, c.line+"\ntoday"); !sameWorld(next, c.w) || out != want || err != api.OK {
			t.Errorf("%s: Run(%q) = %v, %q, %d; want %v, %q", c.name, c.line, next, out, err, c.w, want)
		}
	}
}

// sixty are as many fails as there may be.
func sixty() []api.Fail {
	var l []api.Fail
	for id := range 60 {
		l = append(l, owing(id+1, 0, monday))
	}
	return l
}

// TestX2LinesWithinALine has what lines.Read says of several lines, and ErrForm if it says nothing.
func TestX2LinesWithinALine(t *testing.T) {
	w := on(monday, owing(7, 0, monday))
	for _, c := range []struct {
		line string
		err  api.Errno
	}{
		{"deliver 7 1\ndeliver 7 1", api.ErrForm},
		{"deliver 7 1\ntoday", api.ErrForm},
		{"today\ndeliver 7 1", api.ErrForm},
		{"open 7\ndeliver 7 1", api.ErrForm},
		{"deliver 7 0\ndeliver 7 1", api.ErrRange},
		{"deliver 7 1\ndeliver 7 0", api.ErrRange},
		{strings.Repeat("deliver 7 1\n", 59) + "deliver 7 1", api.ErrForm},
		{strings.Repeat("deliver 7 1\n", 60) + "deliver 7 1", api.ErrMany},
		{"night\n" + night("10"), api.ErrForm},
	} {
		if next, reply, err := desk.Do(rules(), w, c.line); !isZero(next) || reply != "" || err != c.err {
			t.Errorf("Do(%q) = %v, %q, %d; want error %d", c.line, next, reply, err, c.err)
		}
		compareDo(t, "lines within", rules(), w, c.line)
	}
}

// commandLines are lines of all commands that have no error in the world of some.
func commandLines() []string {
	return []string{
		strings.Replace(added, "7", "6", 1), "deliver 7 1000", night("12.5"), "open 7", "stage 8", "balance 1 0", "tidy", "today",
	}
}

// TestX1X2EachByte puts each byte at each place of the lines of all commands.
func TestX1X2EachByte(t *testing.T) {
	for _, line := range commandLines() {
		for at := range line {
			for b := range 256 {
				put := string([]byte{byte(b)})
				compareDo(t, "another byte", rules(), some(), line[:at]+put+line[at+1:])
				compareDo(t, "one more byte", rules(), some(), line[:at]+put+line[at:])
				compareDo(t, "a byte behind", rules(), some(), line+put)
			}
			compareDo(t, "one byte less", rules(), some(), line[:at]+line[at+1:])
			compareDo(t, "no bytes behind", rules(), some(), line[:at])
		}
	}
}

func TestX3Run(t *testing.T) {
	w := some()
	for _, c := range []struct {
		name string
		w    api.World
		text string
		next api.World
		out  string
	}{
		{"nothing", w, "", w, ""},
		{"a line", w, "today", w, "739937\n"},
		{"a line feed behind the last line", w, "today\n", w, "739937\n"},
		{"empty lines", w, "\n\ntoday\n\n\nopen 7\n\n", w, "739937\n3000\n"},
		{"only empty lines", w, "\n\n\n", w, ""},
		{"a blank is no empty line", w, " \n", w, "error 1\n"},
		{"a carriage return is no empty line", w, "today\r\n\r\n", w, "error 1\nerror 1\n"},
		{"all commands that ask", w, "today\nopen 7\nstage 7\nbalance 1 3", w, "739937\n3000\n1\n-1000\n"},
		{
			"one after the other", on(monday), added + "\ndeliver 7 1000\n" + night("10") + "\n" + night("10") + "\nbalance 1 0\ntoday\ndeliver 7 2000\ntidy\nopen 7",
			with(on(monday+3), 1, 0, -2, 1, 3, -3000, 2, 0, 2, 2, 3, 3000), "ok\nok\n0\n2\n-2\n739938\nok\n1\nerror 5\n",
		},
		{
			"lines with an error change nothing", on(monday), added + "\n" + added + "\ndeliver 7 3001\ndeliver 8 1\nopen 7\nnight\ntoday\nadd 8 1 2 0 3 739936 1\nopen 8",
			on(monday, owing(7, 0, monday)), "ok\nerror 6\nerror 8\nerror 5\n3000\nerror 1\n739935\nerror 4\nerror 5\n",
		},
		{"all errors of lines", on(monday, sixty()...), "what\nadd 61 1 2 0 3 0 1\nbalance 101 0\nadd 1 1 2 0 3 739936 1\nopen 61\ndeliver 1 3001", on(monday, sixty()...), "error 1\nerror 2\nerror 3\nerror 4\nerror 5\nerror 8\n"},
		{"as many lines as may be", w, strings.Repeat("today\n", most-1) + "today", w, strings.Repeat("739937\n", most)},
		{"as many lines as may be, the last one empty", w, strings.Repeat("today\n", most-1), w, strings.Repeat("739937\n", most-1)},
		{"as many empty lines as may be", w, textOf(most), w, ""},
		{"as many wrong lines as may be", w, textOf(most-1) + "\nwhat", w, "error 1\n"},
	} {
		next, out, err := desk.Run(rules(), c.w, c.text)
		if !sameWorld(next, c.next) || out != c.out || err != api.OK {
			t.Errorf("%s: Run(%q) = %v, %q, %d; want %v, %q", c.name, c.text, next, out, err, c.next, c.out)
		}
		compareRun(t, c.name, rules(), c.w, strings.Split(c.text, "\n")...)
	}
}

func TestX3TooManyLines(t *testing.T) {
	for _, text := range []string{
		textOf(most + 1), strings.Repeat("today\n", most), strings.Repeat("today\n", most) + "today", textOf(most) + "\ntoday",
		strings.Repeat("what\n", most) + "what", textOf(1000), "today" + textOf(most+1),
	} {
		if next, out, err := desk.Run(rules(), some(), text); !isZero(next) || out != "" || err != api.ErrMany {
			t.Errorf("Run(%q) = %v, %q, %d", text, next, out, err)
		}
	}
}

func TestX4Replay(t *testing.T) {
	w := some()
	a := owing(7, 0, monday)
	delivered := with(on(monday, become(a, 1000, 0, 0)), 1, 3, -1000, 2, 3, 1000)
	for _, c := range []struct {
		name string
		w    api.World
		l    []string
		next api.World
		many int
	}{
		{"no records", w, nil, w, 0},
		{"a record that changes nothing", w, []string{"today"}, w, 1},
		{"records", on(monday), []string{added, "deliver 7 1000"}, delivered, 2},
		{"all kinds", on(monday), []string{added, "deliver 7 1000", "open 7", "stage 7", "balance 1 3", "tidy", "today"}, delivered, 7},
		{"up to the first error", on(monday), []string{added, "deliver 7 1000", "open 8", "deliver 7 1000"}, delivered, 2},
		{"up to the first line that is none", on(monday), []string{added, "deliver 7 1000", "what", "deliver 7 1000"}, delivered, 2},
		{"an error in the first one", w, []string{"deliver 6 1", "deliver 7 1"}, w, 0},
		{"an error in the last one", on(monday), []string{added, "deliver 7 1000", added}, delivered, 2},
		{"a line feed behind a line", on(monday), []string{added, "deliver 7 1000", "today\n"}, delivered, 2},
		{"a record of a line feed", w, []string{"\n", "today"}, w, 0},
		{"a record of two lines", on(monday, a), []string{"deliver 7 1000\ndeliver 7 1000"}, on(monday, a), 0},
		{"many more than a text may have", on(monday, a), slices.Repeat([]string{"deliver 7 1"}, 200), with(on(monday, become(a, 200, 0, 0)), 1, 3, -200, 2, 3, 200), 200},
		{"nights", on(monday, a), []string{night("10"), night("10"), night("10")}, with(on(monday+4, a), 1, 0, -6, 2, 0, 6), 3},
	} {
		next, many, err := desk.Replay(rules(), c.w, onTape(t, c.l...))
		if !sameWorld(next, c.next) || many != c.many || err != api.OK {
			t.Errorf("%s: Replay(%q) = %v, %d, %d; want %v, %d", c.name, c.l, next, many, err, c.next, c.many)
		}
		compareReplay(t, c.name, rules(), c.w, c.l...)
	}
}

// TestX4TornTapes has a tape torn off at each byte: what stands completely on it is executed, and nothing else.
func TestX4TornTapes(t *testing.T) {
	l := []string{added, "deliver 7 1000", night("10"), "today", night("12.5"), "deliver 7 2000", "tidy"}
	on := onTape(t, l...)
	whole, end := 0, len(l[0])+6
	for keep := range len(on) + 1 {
		if keep == end {
			whole++
			if whole < len(l) {
				end += len(l[whole]) + 6
			}
		}
		torn, _ := tape.Torn(on, keep)
		next, many, err := desk.Replay(rules(), api.World{Today: monday}, torn)
		if want, _ := wantReplay(rules(), api.World{Today: monday}, l[:whole]); !sameWorld(next, want) || many != whole || err != api.OK {
			t.Errorf("Replay of %d bytes = %v, %d, %d; want %v, %d", keep, next, many, err, want, whole)
		}
	}
	if whole != len(l) {
		t.Errorf("%d of %d records are complete in the end", whole, len(l))
	}
}

// TestX4SpoiledTapes has another bit at each place of a tape: what stands before it is executed.
func TestX4SpoiledTapes(t *testing.T) {
	l := []string{added, "deliver 7 1000", "deliver 7 500", "today"}
	on := onTape(t, l...)
	whole, end := 0, len(l[0])+6
	for at := range on {
		if at == end {
			whole++
			end += len(l[whole]) + 6
		}
		for bit := range 8 {
			spoiled := slices.Clone(on)
			spoiled[at] ^= 1 << bit
			next, many, err := desk.Replay(rules(), api.World{Today: monday}, spoiled)
			if want, _ := wantReplay(rules(), api.World{Today: monday}, l[:whole]); !sameWorld(next, want) || many != whole || err != api.OK {
				t.Errorf("Replay with another bit %d of byte %d = %v, %d, %d; want %v, %d", bit, at, next, many, err, want, whole)
			}
		}
	}
}

func TestX4LengthsOfTapes(t *testing.T) {
	w := some()
	for _, c := range []struct {
		name string
		on   []byte
		many int
		err  api.Errno
	}{
		{"nil", nil, 0, api.OK},
		{"empty", []byte{}, 0, api.OK},
		{"as many bytes as may be", make([]byte, mostTape), 0, api.OK},
		{"a record, and then as many bytes as may be", append(onTape(t, "today"), make([]byte, mostTape-11)...), 1, api.OK},
		{"one byte too many", make([]byte, mostTape+1), 0, api.ErrMany},
		{"a record, and then one byte too many", append(onTape(t, "today"), make([]byte, mostTape-10)...), 0, api.ErrMany},
	} {
		want := w
		if c.err != api.OK {
			want = api.World{}
		}
		if next, many, err := desk.Replay(rules(), w, c.on); !sameWorld(next, want) || many != c.many || err != c.err {
			t.Errorf("%s: Replay = %v, %d, %d; want %v, %d, %d", c.name, next, many, err, want, c.many, c.err)
		}
	}
}

// drawLine draws a line, often one without an error.
func drawLine(r *rand.Rand, w api.World) string {
	id := r.Intn(20)
	if len(w.Fails) > 0 && r.Intn(4) > 0 {
		id = w.Fails[r.Intn(len(w.Fails))].Id
	}
	switch r.Intn(10) {
	case 0, 1:
		from := r.Intn(30)
		return fmt.Sprintf("add %d %d %d %d %d %d %d", 1+r.Intn(20), from, from+1, r.Intn(6), 1+r.Intn(20), w.Today-r.Intn(8)+r.Intn(2), 1+r.Intn(50))
	case 2, 3:
		return fmt.Sprintf("deliver %d %d", id, r.Intn(20))
	case 4:
		return night(fmt.Sprintf("%d.%d", r.Intn(100000), 1+r.Intn(9)))
	case 5:
		return fmt.Sprintf("open %d", id)
	case 6:
		return fmt.Sprintf("stage %d", id)
	case 7:
		return fmt.Sprintf("balance %d %d", r.Intn(32), r.Intn(22))
	case 8:
		return []string{"", "what", "today 1", "open", added + " 1", "night 1", "balance 101 0"}[r.Intn(7)]
	}
	return []string{"tidy", "today"}[r.Intn(2)]
}

// TestX1X3X4DrawnDays does drawn lines one by one, all at once as a text, and from a tape.
func TestX1X3X4DrawnDays(t *testing.T) {
	r := rand.New(rand.NewSource(1))
	failed := map[api.Errno]int{}
	for range 1000 {
		first := on(monday)
		w := first
		var l, good []string
		bytes := 0
		for range 1 + r.Intn(most) {
			line := drawLine(r, w)
			l = append(l, line)
			next, err := compareDo(t, "drawn", rules(), w, line)
			failed[err]++
			if err != api.OK {
				continue
			}
			if e := cycle.Check(next); e != api.OK {
				t.Errorf("after %q the world %v has error %d", line, next, e)
			}
			w = next
			if bytes += len(line) + 6; bytes <= mostTape {
				good = append(good, line)
			}
		}
		compareRun(t, "drawn", rules(), first, l...)
		compareReplay(t, "drawn", rules(), first, good...)
		at := r.Intn(len(good) + 1)
		if bytes+len("what")+6 <= mostTape {
			compareReplay(t, "drawn, with an error", rules(), first, slices.Insert(slices.Clone(good), at, "what")...)
		}
	}
	for _, e := range []api.Errno{api.OK, api.ErrForm, api.ErrRange, api.ErrState, api.ErrNone, api.ErrTwice, api.ErrWide} {
		if failed[e] < 100 {
			t.Errorf("only %d of the drawn lines have error %d", failed[e], e)
		}
	}
}

// numbers are those around the limits that worlds and rules have.
var numbers = []int{math.MinInt, -1, 0, 1, 6, 7, 20, 21, 30, 31, 101, scale, scale + 1, million + 1, monday, monday + 2, last, last + 1, maxUnits + 1, 1 << 60, math.MaxInt}

func TestP1NothingBesideAnError(t *testing.T) {
	fields := func(r *api.Rules, w *api.World) []*int {
		f := &w.Fails[0]
		return []*int{
			&r.Extra, &r.Cal.Weekend, &r.Cal.Holidays[0], &r.Terms[0].Extend, &r.Terms[0].Rate, &w.Today, &f.Id, &f.From, &f.Class,
			&f.Paper, &f.Day, &f.Units, &f.Delivered, &f.Paid, &w.Book[0].Account, &w.Book[0].Unit, &w.Book[0].Amount,
		}
	}
	l := commandLines()
	on := onTape(t, l...)
	sample, world := rules(), some()
	for i := range fields(&sample, &world) {
		for _, n := range numbers {
			r, w := rules(), some()
			*fields(&r, &w)[i] = n
			for _, line := range l {
				if next, err := compareDo(t, "changed", r, w, line); err != api.OK && !isZero(next) {
					t.Errorf("Do of %q with %d in field %d = %v with error %d", line, n, i, next, err)
				}
			}
			if next, out, err := desk.Run(r, w, strings.Join(l, "\n")); err != api.OK && (!isZero(next) || out != "") {
				t.Errorf("Run with %d in field %d = %v, %q with error %d", n, i, next, out, err)
			}
			if next, many, err := desk.Replay(r, w, on); err != api.OK && (!isZero(next) || many != 0) {
				t.Errorf("Replay with %d in field %d = %v, %d with error %d", n, i, next, many, err)
			}
		}
	}
}

func TestP1NumbersOfLines(t *testing.T) {
	for _, a := range numbers {
		for _, b := range numbers {
			for _, line := range []string{"open", "stage", "balance", "deliver", "add 6 1 2 0 3", "add"} {
				compareDo(t, "edges", rules(), some(), fmt.Sprintf("%s %d", line, a))
				compareDo(t, "edges", rules(), some(), fmt.Sprintf("%s %d %d", line, a, b))
				compareDo(t, "edges", rules(), some(), fmt.Sprintf("%s %d 1 2 0 3 %d 5", line, a, b))
			}
		}
	}
}

// spoil overwrites all memory of a world: what shares it would show this.
func spoil(w api.World) {
	clear(w.Fails[:cap(w.Fails)])
	clear(w.Book[:cap(w.Book)])
}

func TestP2ArgumentsAreOnlyReadAndResultsAreNew(t *testing.T) {
	long := func() (api.Rules, api.World) {
		r, w := rules(), some()
		r.Cal.Holidays = append(r.Cal.Holidays, -1)
		r.Terms = append(r.Terms, api.Terms{Rate: -1})
		w.Fails = append(w.Fails, api.Fail{Id: -1})
		w.Book = append(w.Book, api.Posting{Account: -1})
		return r, w
	}
	r, w := long()
	wantR, wantW := long()
	shown, seen := r, w
	shown.Cal.Holidays, shown.Terms = r.Cal.Holidays[:1], r.Terms[:6]
	seen.Fails, seen.Book = w.Fails[:3], w.Book[:6]
	l := append(commandLines(), "what", "open 3", "deliver 9 1")
	wholeTape := append(onTape(t, l...), 77, 77)
	on := wholeTape[:len(wholeTape)-2]
	wantTape := slices.Clone(wholeTape)
	for range 2 {
		for _, line := range l {
			next, _ := compareDo(t, "long", shown, seen, line)
			spoil(next)
			compareRun(t, "long", shown, seen, line)
			next, _, _ = desk.Run(shown, seen, line)
			spoil(next)
			next, _, _ = desk.Replay(shown, seen, onTape(t, line))
			spoil(next)
		}
		next, _, _ := desk.Run(shown, seen, strings.Join(l, "\n"))
		spoil(next)
		compareReplay(t, "long", shown, seen, l...)
		next, _, _ = desk.Replay(shown, seen, on)
		spoil(next)
		next, _, _ = desk.Replay(shown, seen, nil)
		spoil(next)
		next, _, _ = desk.Run(shown, seen, "")
		spoil(next)
	}
	if !sameWorld(w, wantW) || !slices.Equal(r.Cal.Holidays, wantR.Cal.Holidays) || !slices.Equal(r.Terms, wantR.Terms) || !slices.Equal(wholeTape, wantTape) {
		t.Errorf("after the calls the rules, the world and what is behind their lists are %v, %v; the tape is %v", r, w, wholeTape)
	}
}

func TestP3CallsDoNotSeeEarlierOnes(t *testing.T) {
	r, w := rules(), some()
	for range 3 {
		for _, units := range []int{3000, 2000} {
			w.Fails[0].Units, r.Extra = units, units/10 // what was kept would show here
			for _, line := range append(commandLines(), "what", "deliver 7 2500") {
				compareDo(t, "again", r, w, line)
				compareRun(t, "again", r, w, line, "open 7", "balance 1 0")
				compareReplay(t, "again", r, w, line, "open 7")
				compareDo(t, "again", r, on(monday), line)
			}
		}
	}
}

func TestP4LongLines(t *testing.T) {
	const many = 1 << 24
	blanks, zeros, pairs := strings.Repeat(" ", many), strings.Repeat("0", many), strings.Repeat(" 0", many/2)
	for _, line := range []string{
		blanks, zeros, "today" + blanks, "tidy" + pairs, "open" + pairs, "open 1" + zeros, "stage" + blanks, "balance" + pairs,
		"balance 1 1" + zeros, "add" + pairs, "night" + pairs, "deliver 7 1" + zeros, "deliver 7 1" + strings.Repeat("\n", many),
	} {
		if next, reply, err := desk.Do(rules(), some(), line); !isZero(next) || reply != "" || err != api.ErrForm {
			t.Errorf("Do(%.20q ..) = %v, %q, %d", line, next, reply, err)
		}
		if strings.Contains(line, "\n") {
			continue
		}
		if next, out, err := desk.Run(rules(), some(), line+"\ntoday"); !sameWorld(next, some()) || out != "error 1\n739937\n" || err != api.OK {
			t.Errorf("Run(%.20q ..) = %v, %q, %d", line, next, out, err)
		}
	}
	if next, out, err := desk.Run(rules(), some(), strings.Repeat("\n", many)); !isZero(next) || out != "" || err != api.ErrMany {
		t.Errorf("Run of many empty lines = %v, %q, %d", next, out, err)
	}
}

func TestP4LongLists(t *testing.T) {
	const many = 1 << 20
	for _, c := range []struct {
		name   string
		change func(r *api.Rules, w *api.World)
		err    api.Errno
	}{
		{"holidays", func(r *api.Rules, w *api.World) { r.Cal.Holidays = make([]int, many) }, api.ErrMany},
		{"terms", func(r *api.Rules, w *api.World) { r.Terms = make([]api.Terms, many) }, api.ErrForm},
		{"fails", func(r *api.Rules, w *api.World) { w.Fails = make([]api.Fail, many) }, api.ErrMany},
		{"lines", func(r *api.Rules, w *api.World) { w.Book = make([]api.Posting, many) }, api.ErrMany},
	} {
		r, w := rules(), some()
		c.change(&r, &w)
		_, _, ofDo := desk.Do(r, w, "today")
		_, _, ofRun := desk.Run(r, w, "today")
		_, _, ofReplay := desk.Replay(r, w, nil)
		if ofDo != c.err || ofRun != c.err || ofReplay != c.err {
			t.Errorf("%s: errors of Do, Run and Replay are %d, %d, %d; want %d", c.name, ofDo, ofRun, ofReplay, c.err)
		}
	}
	if next, done, err := desk.Replay(rules(), some(), make([]byte, 1<<24)); !isZero(next) || done != 0 || err != api.ErrMany {
		t.Errorf("Replay of a long tape = %v, %d, %d", next, done, err)
	}
}
