package lines_test

import (
	"fmt"
	"math"
	"math/rand"
	"regexp"
	"slices"
	"strconv"
	"strings"
	"testing"

	"demurrage/api"
	"demurrage/fail"
	"demurrage/lines"
	"demurrage/penalty"
)

const (
	most     = 60 // ops at once
	maxId    = 1 << 40
	maxUnits = 1 << 30
	maxPrice = 1 << 40
	last     = 3652058
	monday   = 739935 // November 16 of 2026
	added    = "add 7 1 2 0 3 739935 3000\n"
	brought  = "deliver 7 1000\n"
)

// edges are the numbers around every limit of the chapter, and the outermost ones.
var edges = []int{
	math.MinInt, -1, 0, 1, 2, 3, 4, 5, 6, 19, 20, 21, 30, 31, 60, 61, 9999, 10000, 10001, monday, last, last + 1,
	maxUnits - 1, maxUnits, maxUnits + 1, maxId - 1, maxId, maxId + 1, 999999999999999999, 1000000000000000000, math.MaxInt,
}

// owing is a fail of 3000 units of paper 3, from party 1 to party 2.
func owing(id int) api.Fail {
	return api.Fail{Id: id, From: 1, To: 2, Paper: 3, Day: monday, Units: 3000}
}

// become is a fail after some of its units were delivered, bought and paid.
func become(f api.Fail, delivered, bought, paid int) api.Fail {
	f.Delivered, f.Bought, f.Paid = delivered, bought, paid
	return f
}

func adding(f api.Fail) api.Op { return api.Op{Kind: 1, Fail: f} }

func delivering(id, units int) api.Op { return api.Op{Kind: 2, Id: id, Units: units} }

func ending(prices ...int) api.Op { return api.Op{Kind: 3, Prices: prices} }

// prices are those of all papers: 0, 0.5, 1, 1.5 and so on.
func prices() []int {
	var l []int
	for i := range 20 {
		l = append(l, 5000*i)
	}
	return l
}

// night is the line of all prices, with another first one.
func night(first string) string {
	return "night " + first + " 0.5 1 1.5 2 2.5 3 3.5 4 4.5 5 5.5 6 6.5 7 7.5 8 8.5 9 9.5\n"
}

// priced are all prices, with another first one.
func priced(first int) []int {
	l := prices()
	l[0] = first
	return l
}

func sameOp(a, b api.Op) bool {
	return a.Kind == b.Kind && a.Fail == b.Fail && a.Id == b.Id && a.Units == b.Units && slices.Equal(a.Prices, b.Prices)
}

func sameOps(a, b []api.Op) bool { return slices.EqualFunc(a, b, sameOp) }

// wantCheck checks an op anew.
func wantCheck(o api.Op) api.Errno {
	noFail, noId, noPrices := o.Fail == api.Fail{}, o.Id == 0 && o.Units == 0, len(o.Prices) == 0
	var err api.Errno
	alone := false
	switch o.Kind {
	default:
		return api.ErrKind
	case 1:
		err = fail.Check(o.Fail)
		alone = noId && noPrices && o.Fail.Delivered == 0 && o.Fail.Bought == 0 && o.Fail.Paid == 0
	case 2:
		if o.Id <= 0 || o.Id-1 >= maxId || o.Units <= 0 || o.Units-1 >= maxUnits {
			err = api.ErrRange
		}
		alone = noFail && noPrices
	case 3:
		err = penalty.Prices(o.Prices)
		alone = noFail && noId
	}
	if err == api.OK && !alone {
		return api.ErrForm
	}
	return err
}

// wantLine is the line of an op without an error.
func wantLine(o api.Op) string {
	f := o.Fail
	switch o.Kind {
	case 1:
		return fmt.Sprintf("add %d %d %d %d %d %d %d\n", f.Id, f.From, f.To, f.Class, f.Paper, f.Day, f.Units)
	case 2:
		return fmt.Sprintf("deliver %d %d\n", o.Id, o.Units)
	}
	line := "night"
	for _, p := range o.Prices {
		text := fmt.Sprintf("%d.%04d", p/10000, p%10000)
		line += " " + strings.TrimSuffix(strings.TrimRight(text, "0"), ".")
	}
	return line + "\n"
}

// wantShow shows ops anew.
func wantShow(l []api.Op) (string, int, api.Errno) {
	if len(l) > most {
		return "", 0, api.ErrMany
	}
	text := ""
	for i, o := range l {
		if err := wantCheck(o); err != api.OK {
			return "", i, err
		}
		text += wantLine(o)
	}
	return text, 0, api.OK
}

var (
	form  = regexp.MustCompile(`\A(add( (0|[1-9][0-9]{0,17})){7}|deliver( (0|[1-9][0-9]{0,17})){2}|night( (0|[1-9][0-9]{0,8})(\.[0-9]{0,3}[1-9])?)*)\n\z`)
	words = regexp.MustCompile(`[^ \n]+`)
)

// wantReadLine reads a line with its line feed anew.
func wantReadLine(line string) (api.Op, api.Errno) {
	if !form.MatchString(line) {
		return api.Op{}, api.ErrForm
	}
	w := words.FindAllString(line, -1)
	var n []int
	for _, s := range w[1:] {
		whole, places, _ := strings.Cut(s, ".")
		number, _ := strconv.Atoi(whole)
		if w[0] == "night" {
			parts, _ := strconv.Atoi((places + "0000")[:4])
			number = 10000*number + parts
			if number > maxPrice {
				return api.Op{}, api.ErrForm
			}
		}
		n = append(n, number)
	}
	o := ending(n...)
	switch w[0] {
	case "add":
		o = adding(api.Fail{Id: n[0], From: n[1], To: n[2], Class: n[3], Paper: n[4], Day: n[5], Units: n[6]})
	case "deliver":
		o = delivering(n[0], n[1])
	}
	if err := wantCheck(o); err != api.OK {
		return api.Op{}, err
	}
	return o, api.OK
}

// wantRead reads lines anew.
func wantRead(s string) ([]api.Op, int, api.Errno) {
	var l []api.Op
	for i, line := range strings.SplitAfter(s, "\n") {
		if line == "" { // behind the last line feed
			continue
		}
		if i == most {
			return nil, i, api.ErrMany
		}
		o, err := wantReadLine(line)
		if err != api.OK {
			return nil, i, err
		}
		l = append(l, o)
	}
	return l, 0, api.OK
}

func compareCheck(t *testing.T, o api.Op) api.Errno {
	t.Helper()
	err := lines.Check(o)
	if want := wantCheck(o); err != want {
		t.Errorf("Check(%v) = %d, want %d", o, err, want)
	}
	return err
}

func compareShow(t *testing.T, name string, l []api.Op) string {
	t.Helper()
	text, at, err := lines.Show(l)
	if want, wantAt, wantErr := wantShow(l); text != want || at != wantAt || err != wantErr {
		t.Errorf("%s: Show(%v) = %q, %d, %d; want %q, %d, %d", name, l, text, at, err, want, wantAt, wantErr)
	}
	return text
}

func compareRead(t *testing.T, name, s string) ([]api.Op, api.Errno) {
	t.Helper()
	l, at, err := lines.Read(s)
	if want, wantAt, wantErr := wantRead(s); !sameOps(l, want) || at != wantAt || err != wantErr {
		t.Errorf("%s: Read(%q) = %v, %d, %d; want %v, %d, %d", name, s, l, at, err, want, wantAt, wantErr)
	}
	return l, err
}

// with is an op after a change.
func with(o api.Op, change func(o *api.Op)) api.Op {
	change(&o)
	return o
}

func TestU1Check(t *testing.T) {
	f := owing(7)
	for _, c := range []struct {
		name string
		o    api.Op
		want api.Errno
	}{
		{"add", adding(f), api.OK},
		{"add, with a list without prices", with(adding(f), func(o *api.Op) { o.Prices = []int{} }), api.OK},
		{"add, as much as may be", adding(api.Fail{Id: maxId, From: 30, To: 29, Class: 5, Paper: 20, Day: last, Units: maxUnits}), api.OK},
		{"add, as little as may be", adding(api.Fail{Id: 1, From: 0, To: 1, Paper: 1, Units: 1}), api.OK},
		{"add nothing", adding(api.Fail{}), api.ErrRange},
		{"add, from a party to itself", adding(api.Fail{Id: 7, From: 1, To: 1, Paper: 3, Day: monday, Units: 3000}), api.ErrForm},
		{"add what was delivered", adding(become(f, 1, 0, 0)), api.ErrForm},
		{"add what was bought", adding(become(f, 0, 1, 0)), api.ErrForm},
		{"add what was paid", adding(become(f, 0, 0, 1)), api.ErrForm},
		{"add what was delivered, below 0", adding(become(f, -1, 0, 0)), api.ErrRange},
		{"add what was delivered, more than there is", adding(become(f, 3001, 0, 0)), api.ErrRange},
		{"add what was delivered and bought, more than there is", adding(become(f, 3000, 1, 0)), api.ErrState},
		{"add, with an Id", with(adding(f), func(o *api.Op) { o.Id = 7 }), api.ErrForm},
		{"add, with units", with(adding(f), func(o *api.Op) { o.Units = 1 }), api.ErrForm},
		{"add, with units below 0", with(adding(f), func(o *api.Op) { o.Units = -1 }), api.ErrForm},
		{"add, with prices", with(adding(f), func(o *api.Op) { o.Prices = prices() }), api.ErrForm},
		{"add, with one price of 0", with(adding(f), func(o *api.Op) { o.Prices = []int{0} }), api.ErrForm},
		{"add what is no fail, with prices", with(adding(owing(0)), func(o *api.Op) { o.Prices = prices() }), api.ErrRange},

		{"deliver", delivering(7, 1000), api.OK},
		{"deliver as little as may be", delivering(1, 1), api.OK},
		{"deliver as much as may be", delivering(maxId, maxUnits), api.OK},
		{"deliver, with a list without prices", with(delivering(7, 1000), func(o *api.Op) { o.Prices = []int{} }), api.OK},
		{"deliver, Id 0", delivering(0, 1), api.ErrRange},
		{"deliver, too great an Id", delivering(maxId+1, 1), api.ErrRange},
		{"deliver, an Id below 0", delivering(-7, 1), api.ErrRange},
		{"deliver no units", delivering(7, 0), api.ErrRange},
		{"deliver too many units", delivering(7, maxUnits+1), api.ErrRange},
		{"deliver units below 0", delivering(7, -1), api.ErrRange},
		{"deliver, with a fail", with(delivering(7, 1000), func(o *api.Op) { o.Fail = f }), api.ErrForm},
		{"deliver, with what was paid of a fail", with(delivering(7, 1000), func(o *api.Op) { o.Fail.Paid = 1 }), api.ErrForm},
		{"deliver, with prices", with(delivering(7, 1000), func(o *api.Op) { o.Prices = prices() }), api.ErrForm},
		{"deliver, with one price of 0", with(delivering(7, 1000), func(o *api.Op) { o.Prices = []int{0} }), api.ErrForm},
		{"deliver no units, with a fail", with(delivering(7, 0), func(o *api.Op) { o.Fail = f }), api.ErrRange},

		{"night", ending(prices()...), api.OK},
		{"night, at the greatest prices", ending(slices.Repeat([]int{maxPrice}, 20)...), api.OK},
		{"night, at prices of 0", ending(make([]int, 20)...), api.OK},
		{"night, without prices", ending(), api.ErrForm},
		{"night, with too few prices", ending(prices()[:19]...), api.ErrForm},
		{"night, with too many prices", ending(append(prices(), 0)...), api.ErrForm},
		{"night, with too few prices, and a wrong one", ending(-1), api.ErrForm},
		{"night, with a first price below 0", ending(priced(-1)...), api.ErrRange},
		{"night, with too great a last price", ending(append(prices()[:19], maxPrice+1)...), api.ErrRange},
		{"night, with a fail", with(ending(prices()...), func(o *api.Op) { o.Fail = f }), api.ErrForm},
		{"night, with a class", with(ending(prices()...), func(o *api.Op) { o.Fail.Class = 1 }), api.ErrForm},
		{"night, with an Id", with(ending(prices()...), func(o *api.Op) { o.Id = 7 }), api.ErrForm},
		{"night, with units", with(ending(prices()...), func(o *api.Op) { o.Units = -1 }), api.ErrForm},
		{"night, with a wrong price and an Id", with(ending(priced(-1)...), func(o *api.Op) { o.Id = 7 }), api.ErrRange},

		{"no kind", api.Op{}, api.ErrKind},
		{"a kind after the last one", api.Op{Kind: 4}, api.ErrKind},
		{"a kind below 0", with(adding(f), func(o *api.Op) { o.Kind = -1 }), api.ErrKind},
		{"no kind, with all fields", api.Op{Fail: become(f, 3000, 1, 0), Id: -1, Units: -1, Prices: []int{-1}}, api.ErrKind},
		{"the greatest number as the kind", with(ending(prices()...), func(o *api.Op) { o.Kind = math.MaxInt }), api.ErrKind},
		{"a kind of which just the lowest bits are those of add", with(adding(f), func(o *api.Op) { o.Kind = 1<<32 + 1 }), api.ErrKind},
	} {
		if got := lines.Check(c.o); got != c.want {
			t.Errorf("%s: Check = %d, want %d", c.name, got, c.want)
		}
		compareCheck(t, c.o)
	}
}

// fields are those of an op that hold a number.
func fields(o *api.Op) []*int {
	f := &o.Fail
	return []*int{
		&f.Id, &f.From, &f.To, &f.Class, &f.Paper, &f.Day, &f.Units, &f.Delivered, &f.Bought, &f.Paid,
		&o.Kind, &o.Id, &o.Units,
	}
}

// valid is an op of each kind.
func valid() []api.Op { return []api.Op{adding(owing(7)), delivering(7, 1000), ending(prices()...)} }

// TestU1CheckOfAllEdges changes each two fields of an op of each kind.
func TestU1CheckOfAllEdges(t *testing.T) {
	for _, o := range valid() {
		for i := range fields(&o) {
			for j := range i + 1 {
				for _, a := range edges {
					for _, b := range edges {
						changed := with(o, func(o *api.Op) { *fields(o)[i], *fields(o)[j] = a, b })
						compareCheck(t, changed)
						changed.Prices = prices()[:i]
						compareCheck(t, changed)
					}
				}
			}
		}
	}
}

func TestU2Show(t *testing.T) {
	all := adding(api.Fail{Id: maxId, From: 30, To: 0, Class: 5, Paper: 20, Day: last, Units: maxUnits})
	wrong := delivering(7, 0)
	for _, c := range []struct {
		name string
		l    []api.Op
		want string
		at   int
		err  api.Errno
	}{
		{"nil", nil, "", 0, api.OK},
		{"no ops", []api.Op{}, "", 0, api.OK},
		{"add", []api.Op{adding(owing(7))}, added, 0, api.OK},
		{"add, as much as may be", []api.Op{all}, "add 1099511627776 30 0 5 20 3652058 1073741824\n", 0, api.OK},
		{"add, as little as may be", []api.Op{adding(api.Fail{Id: 1, To: 1, Paper: 1, Units: 1})}, "add 1 0 1 0 1 0 1\n", 0, api.OK},
		{"deliver", []api.Op{delivering(7, 1000)}, brought, 0, api.OK},
		{"deliver as much as may be", []api.Op{delivering(maxId, maxUnits)}, "deliver 1099511627776 1073741824\n", 0, api.OK},
		{"night", []api.Op{ending(prices()...)}, night("0"), 0, api.OK},
		{"night, at all places of a price", []api.Op{ending(priced(120501)...)}, night("12.0501"), 0, api.OK},
		{"night, at some places of a price", []api.Op{ending(priced(120500)...)}, night("12.05"), 0, api.OK},
		{"night, at the least price", []api.Op{ending(priced(1)...)}, night("0.0001"), 0, api.OK},
		{"night, at the greatest price", []api.Op{ending(priced(maxPrice)...)}, night("109951162.7776"), 0, api.OK},
		{"several, in their order", []api.Op{delivering(7, 1000), ending(prices()...), adding(owing(7))}, brought + night("0") + added, 0, api.OK},
		{"the same one twice", []api.Op{delivering(7, 1000), delivering(7, 1000)}, brought + brought, 0, api.OK},
		{"as many as may be", slices.Repeat(valid()[1:2], most), strings.Repeat(brought, most), 0, api.OK},
		{"one too many", slices.Repeat(valid()[1:2], most+1), "", 0, api.ErrMany},
		{"one too many, all of them wrong", make([]api.Op, most+1), "", 0, api.ErrMany},
		{"one too many, the last one wrong", append(slices.Repeat(valid()[1:2], most), wrong), "", 0, api.ErrMany},
		{"a wrong first one", []api.Op{wrong, delivering(7, 1000)}, "", 0, api.ErrRange},
		{"a wrong second one", []api.Op{delivering(7, 1000), wrong, {}}, "", 1, api.ErrRange},
		{"a wrong one behind", []api.Op{delivering(7, 1000), adding(owing(7)), {}, wrong}, "", 2, api.ErrKind},
		{"a wrong last one of as many as may be", append(slices.Repeat(valid()[1:2], most-1), ending()), "", most - 1, api.ErrForm},
		{"what would not be shown", []api.Op{adding(owing(7)), adding(become(owing(8), 0, 1, 0))}, "", 1, api.ErrForm},
	} {
		text, at, err := lines.Show(c.l)
		if text != c.want || at != c.at || err != c.err {
			t.Errorf("%s: Show = %q, %d, %d; want %q, %d, %d", c.name, text, at, err, c.want, c.at, c.err)
		}
		compareShow(t, c.name, c.l)
	}
}

func TestU3Read(t *testing.T) {
	for _, c := range []struct {
		name string
		s    string
		want []api.Op
	}{
		{"nothing", "", nil},
		{"add", added, []api.Op{adding(owing(7))}},
		{"add, as much as may be", "add 1099511627776 30 0 5 20 3652058 1073741824\n", []api.Op{adding(api.Fail{Id: maxId, From: 30, To: 0, Class: 5, Paper: 20, Day: last, Units: maxUnits})}},
		{"add, as little as may be", "add 1 0 1 0 1 0 1\n", []api.Op{adding(api.Fail{Id: 1, To: 1, Paper: 1, Units: 1})}},
		{"deliver", brought, []api.Op{delivering(7, 1000)}},
		{"deliver as much as may be", "deliver 1099511627776 1073741824\n", []api.Op{delivering(maxId, maxUnits)}},
		{"night", night("0"), []api.Op{ending(prices()...)}},
		{"night, at the greatest price", night("109951162.7776"), []api.Op{ending(priced(maxPrice)...)}},
		{"night, at the least price", night("0.0001"), []api.Op{ending(priced(1)...)}},
		{"several", brought + night("12.05") + added, []api.Op{delivering(7, 1000), ending(priced(120500)...), adding(owing(7))}},
		{"the same fail twice", added + added, []api.Op{adding(owing(7)), adding(owing(7))}},
		{"as many as may be", strings.Repeat(brought, most), slices.Repeat([]api.Op{delivering(7, 1000)}, most)},
	} {
		l, at, err := lines.Read(c.s)
		if !sameOps(l, c.want) || at != 0 || err != api.OK {
			t.Errorf("%s: Read(%q) = %v, %d, %d; want %v", c.name, c.s, l, at, err, c.want)
		}
		compareRead(t, c.name, c.s)
		if text, at, err := lines.Show(c.want); text != c.s || at != 0 || err != api.OK {
			t.Errorf("%s: Show(%v) = %q, %d, %d; want %q", c.name, c.want, text, at, err, c.s)
		}
	}
}

// badLines are lines, each with its line feed if it has one, and the error of each.
var badLines = []struct {
	name string
	s    string
	err  api.Errno
}{
	{"an empty line", "\n", api.ErrForm},
	{"no line feed", "deliver 7 1000", api.ErrForm},
	{"no line feed, and a wrong number", "deliver 7 0", api.ErrForm},
	{"a blank", " \n", api.ErrForm},
	{"a carriage return", "deliver 7 1000\r\n", api.ErrForm},
	{"a blank at the end", "deliver 7 1000 \n", api.ErrForm},
	{"a blank at the beginning", " deliver 7 1000\n", api.ErrForm},
	{"two blanks", "deliver 7  1000\n", api.ErrForm},
	{"a tabulator instead of a blank", "deliver\t7 1000\n", api.ErrForm},
	{"no blank", "deliver7 1000\n", api.ErrForm},
	{"a byte of 0", "deliver 7 1000\x00\n", api.ErrForm},
	{"a great letter", "Deliver 7 1000\n", api.ErrForm},
	{"great letters", "ADD 7 1 2 0 3 739935 3000\n", api.ErrForm},
	{"half a word", "deliv 7 1000\n", api.ErrForm},
	{"a longer word", "delivers 7 1000\n", api.ErrForm},
	{"another word", "open 7\n", api.ErrForm},
	{"no word", " 7 1000\n", api.ErrForm},
	{"numbers alone", "7 1000\n", api.ErrForm},
	{"the number of a kind", "2 7 1000\n", api.ErrForm},
	{"the word alone", "deliver\n", api.ErrForm},
	{"one number too few", "deliver 7\n", api.ErrForm},
	{"one number too many", "deliver 7 1000 1\n", api.ErrForm},
	{"many numbers too many", "deliver" + strings.Repeat(" 1", 100) + "\n", api.ErrForm},
	{"a sign", "deliver 7 -1\n", api.ErrForm},
	{"a sign of 0", "deliver 7 -0\n", api.ErrForm},
	{"a sign above 0", "deliver +7 1000\n", api.ErrForm},
	{"a leading zero", "deliver 07 1000\n", api.ErrForm},
	{"two zeros", "deliver 00 1000\n", api.ErrForm},
	{"a point", "deliver 7 1000.5\n", api.ErrForm},
	{"a comma", "deliver 7 1,000\n", api.ErrForm},
	{"a stroke", "deliver 7 1_000\n", api.ErrForm},
	{"a letter", "deliver 7 1e3\n", api.ErrForm},
	{"other digits", "deliver 0x7 1000\n", api.ErrForm},
	{"digits of many bytes", "deliver \uff17 1000\n", api.ErrForm},
	{"bytes of no text", "deliver \xff 1000\n", api.ErrForm},
	{"no number", "deliver  1000\n", api.ErrForm},
	{"19 digits", "deliver 1000000000000000000 1000\n", api.ErrForm},
	{"19 digits, with leading zeros", "deliver 0000000000000000007 1000\n", api.ErrForm},
	{"20 digits", "deliver 7 99999999999999999999\n", api.ErrForm},
	{"a number that is 7 in one word", "deliver 18446744073709551623 1000\n", api.ErrForm},
	{"18 digits", "deliver 999999999999999999 1000\n", api.ErrRange},
	{"18 digits of units", "deliver 7 999999999999999999\n", api.ErrRange},
	{"an Id of 0", "deliver 0 1000\n", api.ErrRange},
	{"no units", "deliver 7 0\n", api.ErrRange},
	{"too great an Id", "deliver 1099511627777 1000\n", api.ErrRange},
	{"too many units", "deliver 7 1073741825\n", api.ErrRange},
	{"a wrong Id, and no form", "deliver 0 x\n", api.ErrForm},

	{"the word add alone", "add\n", api.ErrForm},
	{"add, one number too few", "add 7 1 2 0 3 739935\n", api.ErrForm},
	{"add, one number too many", "add 7 1 2 0 3 739935 3000 0\n", api.ErrForm},
	{"add, all numbers of a fail", "add 7 1 2 0 3 739935 3000 0 0 0\n", api.ErrForm},
	{"add, from a party to itself", "add 7 1 1 0 3 739935 3000\n", api.ErrForm},
	{"add, from a party to itself, and a wrong number", "add 7 1 1 0 21 739935 3000\n", api.ErrRange},
	{"add, an Id of 0", "add 0 1 2 0 3 739935 3000\n", api.ErrRange},
	{"add, from no party", "add 7 31 2 0 3 739935 3000\n", api.ErrRange},
	{"add, to no party", "add 7 1 31 0 3 739935 3000\n", api.ErrRange},
	{"add, a class that there is not", "add 7 1 2 6 3 739935 3000\n", api.ErrRange},
	{"add, money", "add 7 1 2 0 0 739935 3000\n", api.ErrRange},
	{"add, a day that there is not", "add 7 1 2 0 3 3652059 3000\n", api.ErrRange},
	{"add, no units", "add 7 1 2 0 3 739935 0\n", api.ErrRange},
	{"add, 18 digits", "add 999999999999999999 1 2 0 3 739935 3000\n", api.ErrRange},
	{"add, 19 digits", "add 7 1 2 0 3 739935 1000000000000000000\n", api.ErrForm},
	{"add, a price", "add 7 1 2 0 3 739935 3000.5\n", api.ErrForm},
	{"add, a leading zero", "add 7 01 2 0 3 739935 3000\n", api.ErrForm},

	{"night, without prices", "night\n", api.ErrForm},
	{"night, and a blank", "night \n", api.ErrForm},
	{"night, one price", "night 1\n", api.ErrForm},
	{"night, one price too few", "night" + strings.Repeat(" 1", 19) + "\n", api.ErrForm},
	{"night, one price too many", "night" + strings.Repeat(" 1", 21) + "\n", api.ErrForm},
	{"night, two prices too many", "night" + strings.Repeat(" 1", 22) + "\n", api.ErrForm},
	{"night, a blank too many at the end", "night" + strings.Repeat(" 1", 20) + " \n", api.ErrForm},
	{"night, a price with a zero at its end", night("2.50"), api.ErrForm},
	{"night, a price with a leading zero", night("02.5"), api.ErrForm},
	{"night, a price with five places", night("2.00001"), api.ErrForm},
	{"night, a price with no places", night("2."), api.ErrForm},
	{"night, a price without a whole", night(".5"), api.ErrForm},
	{"night, a price below 0", night("-1"), api.ErrForm},
	{"night, a price of one part too much", night("109951162.7777"), api.ErrForm},
	{"night, too great a price of nine digits", night("999999999"), api.ErrForm},
	{"night, a price of ten digits", night("1000000000"), api.ErrForm},
	{"night, two blanks", night(" 1"), api.ErrForm},
}

// TestU3ErrorsOfRead has each bad line alone, behind good ones and before another bad one.
func TestU3ErrorsOfRead(t *testing.T) {
	for _, c := range badLines {
		for _, before := range []string{"", brought, added + night("0") + brought, strings.Repeat(brought, most-1)} {
			at := strings.Count(before, "\n")
			texts := []string{before + c.s}
			if strings.HasSuffix(c.s, "\n") {
				texts = append(texts, before+c.s+brought, before+c.s+"x\n", before+c.s+"deliver 0 1\n", before+c.s+"deliver 7", before+c.s+strings.Repeat(brought, most))
			}
			for _, s := range texts {
				if l, gotAt, err := lines.Read(s); len(l) != 0 || gotAt != at || err != c.err {
					t.Errorf("%s: Read(%q) = %v, %d, %d; want %d, %d", c.name, s, l, gotAt, err, at, c.err)
				}
				compareRead(t, c.name, s)
			}
		}
	}
}

func TestU3TooManyLines(t *testing.T) {
	full := strings.Repeat(brought, most)
	for _, c := range badLines {
		if l, at, err := lines.Read(full + c.s); len(l) != 0 || at != most || err != api.ErrMany {
			t.Errorf("Read of 60 lines and %q = %v, %d, %d", c.s, l, at, err)
		}
	}
	for _, behind := range []string{brought, "x", "deliver 7 1000", "\n", strings.Repeat(brought, 1000)} {
		if l, at, err := lines.Read(full + behind); len(l) != 0 || at != most || err != api.ErrMany {
			t.Errorf("Read of 60 lines and %q = %v, %d, %d", behind, l, at, err)
		}
	}
}

// draw draws an op without an error.
func draw(r *rand.Rand) api.Op {
	switch r.Intn(3) {
	case 0:
		f := api.Fail{Id: 1 + r.Intn(maxId)>>r.Intn(40), From: r.Intn(31), Class: r.Intn(6), Paper: 1 + r.Intn(20), Day: r.Intn(last + 1), Units: 1 + r.Intn(maxUnits)>>r.Intn(30)}
		f.To = (f.From + 1 + r.Intn(30)) % 31
		return adding(f)
	case 1:
		return delivering(1+r.Intn(maxId)>>r.Intn(40), 1+r.Intn(maxUnits)>>r.Intn(30))
	}
	l := make([]int, 20)
	for i := range l {
		l[i] = r.Intn(maxPrice+1) >> r.Intn(41)
		if r.Intn(2) == 0 {
			l[i] -= l[i] % 1000
		}
	}
	return ending(l...)
}

func drawAll(r *rand.Rand) []api.Op {
	var l []api.Op
	for range r.Intn(most + 1) {
		l = append(l, draw(r))
	}
	return l
}

func TestU2U3WhatIsShownIsRead(t *testing.T) {
	r := rand.New(rand.NewSource(1))
	for range 2000 {
		l := drawAll(r)
		s := compareShow(t, "drawn", l)
		if got, err := compareRead(t, "drawn", s); !sameOps(got, l) || err != api.OK {
			t.Errorf("Read of what Show shows of %v = %v, %d", l, got, err)
		}
	}
}

// TestU2ShowOfDrawnFaults changes some fields of drawn ops.
func TestU2ShowOfDrawnFaults(t *testing.T) {
	r := rand.New(rand.NewSource(2))
	for range 5000 {
		l := drawAll(r)
		for range min(len(l), r.Intn(3)) {
			f := fields(&l[r.Intn(len(l))])
			*f[r.Intn(len(f))] = edges[r.Intn(len(edges))]
		}
		compareShow(t, "changed", l)
	}
}

// TestU3ReadOfDrawnTexts changes some bytes of lines; what can be read all the same is shown as it was.
func TestU3ReadOfDrawnTexts(t *testing.T) {
	r := rand.New(rand.NewSource(3))
	const bytes = "00123456789 .\n-+adx\x00\xff"
	read := 0
	for range 20000 {
		s, _, _ := lines.Show([]api.Op{draw(r), draw(r), draw(r)})
		for range 1 + r.Intn(2) {
			from := r.Intn(len(s))
			to := min(len(s), from+r.Intn(3))
			put := ""
			for range r.Intn(3) {
				at := r.Intn(len(bytes))
				put += bytes[at : at+1]
			}
			s = s[:from] + put + s[to:]
		}
		l, err := compareRead(t, "changed", s)
		if err != api.OK {
			continue
		}
		read++
		if again := compareShow(t, "changed", l); again != s {
			t.Errorf("%q is read, but shown as %q", s, again)
		}
	}
	if read < 1000 {
		t.Errorf("only %d of the texts can be read", read)
	}
}

// TestU3EachByte puts each byte at each place of some lines.
func TestU3EachByte(t *testing.T) {
	s := brought + "add 7 1 2 0 3 5 9\n" + night("2.5")
	for at := range s {
		for b := range 256 {
			put := string([]byte{byte(b)})
			compareRead(t, "another byte", s[:at]+put+s[at+1:])
			compareRead(t, "one more byte", s[:at]+put+s[at:])
		}
		compareRead(t, "one byte less", s[:at]+s[at+1:])
		compareRead(t, "no bytes behind", s[:at])
	}
}

func TestP1NothingBesideAnError(t *testing.T) {
	for _, o := range valid() {
		for i := range fields(&o) {
			for _, n := range edges {
				wrong := with(o, func(o *api.Op) { *fields(o)[i] = n })
				text, at, err := lines.Show([]api.Op{o, wrong})
				if err != api.OK && (text != "" || at != 1) || err == api.OK && at != 0 {
					t.Errorf("Show of %v and %v = %q, %d with error %d", o, wrong, text, at, err)
				}
			}
		}
	}
	for _, n := range edges {
		s := strconv.Itoa(n)
		for _, line := range []string{"deliver 1 " + s, "deliver " + s + " 1", night(s), "add 7 1 2 0 " + s + " 5 9", s} {
			l, at, err := lines.Read(brought + strings.TrimSuffix(line, "\n") + "\n" + brought)
			if err != api.OK && (len(l) != 0 || at != 1) || err == api.OK && (len(l) != 3 || at != 0) {
				t.Errorf("Read of %q = %v, %d with error %d", line, l, at, err)
			}
		}
	}
}

// TestP1OtherFieldsAreZero has ops of all kinds, one behind another.
func TestP1OtherFieldsAreZero(t *testing.T) {
	l, _, err := lines.Read(added + night("0") + brought + added + brought)
	if err != api.OK || len(l) != 5 {
		t.Fatalf("Read = %v, %d", l, err)
	}
	for i, o := range l {
		if o.Kind != 1 && o.Fail != (api.Fail{}) || o.Kind != 2 && (o.Id != 0 || o.Units != 0) || o.Kind != 3 && len(o.Prices) != 0 {
			t.Errorf("op %d is %v", i, o)
		}
	}
}

func TestP2ListsAreOnlyReadAndResultsAreNew(t *testing.T) {
	long := append(priced(120500), -1)
	whole := []api.Op{ending(long[:20]...), delivering(7, 1000), ending(long[:20]...), {}}
	text := night("12.05") + brought + night("12.05")
	for range 2 {
		for _, o := range whole {
			lines.Check(o)
		}
		if s, at, err := lines.Show(whole[:3]); s != text || at != 0 || err != api.OK {
			t.Errorf("Show = %q, %d, %d; want %q", s, at, err, text)
		}
		l, _, err := lines.Read(text)
		if !sameOps(l, whole[:3]) || err != api.OK {
			t.Errorf("Read = %v, %d; want %v", l, err, whole[:3])
		}
		first := l[0].Prices
		clear(first[:cap(first)])
		if !slices.Equal(l[2].Prices, priced(120500)) {
			t.Errorf("after a change of the first prices the others are %v", l[2].Prices)
		}
		clear(l[:cap(l)]) // results that shared memory would show in the next round
	}
	if !slices.Equal(long, append(priced(120500), -1)) || !sameOps(whole, []api.Op{ending(long[:20]...), delivering(7, 1000), ending(long[:20]...), {}}) {
		t.Errorf("after the calls the ops are %v, and the prices and what is behind them %v", whole, long)
	}
}

func TestP3CallsDoNotSeeEarlierOnes(t *testing.T) {
	o := ending(prices()...)
	for range 3 {
		for _, first := range []string{"0", "12.05", "x", "7", "109951162.7777"} {
			s := brought + night(first)
			compareRead(t, "again", s)
			compareRead(t, "again", added)
			o.Prices[0] = len(first) // prices that were kept would show here
			compareCheck(t, o)
			compareShow(t, "again", []api.Op{o, adding(owing(len(first)))})
			compareShow(t, "again", []api.Op{o, {}})
		}
	}
}

func TestP4LongTexts(t *testing.T) {
	const many = 1 << 24
	blanks := strings.Repeat(" ", many)
	zeros := strings.Repeat("0", many)
	pairs := strings.Repeat(" 0", many/2)
	for _, c := range []struct {
		name string
		s    string
		at   int
		want api.Errno
	}{
		{"blanks", blanks + "\n", 0, api.ErrForm},
		{"blanks behind a word", brought + "night" + blanks + "\n", 1, api.ErrForm},
		{"prices", "night" + pairs + "\n", 0, api.ErrForm},
		{"numbers", "add" + pairs + "\n", 0, api.ErrForm},
		{"a long number", brought + "deliver 1" + zeros + " 1\n", 1, api.ErrForm},
		{"a long price", night("1" + zeros), 0, api.ErrForm},
		{"long places of a price", night("1." + zeros), 0, api.ErrForm},
		{"no line feed", brought + zeros, 1, api.ErrForm},
		{"empty lines", brought + strings.Repeat("\n", many), 1, api.ErrForm},
		{"lines", strings.Repeat(brought, many/len(brought)), most, api.ErrMany},
	} {
		if l, at, err := lines.Read(c.s); len(l) != 0 || at != c.at || err != c.want {
			t.Errorf("%s: Read = %v, %d, %d; want %d, %d", c.name, l, at, err, c.at, c.want)
		}
	}
}

func TestP4LongLists(t *testing.T) {
	const many = 1 << 24
	if text, at, err := lines.Show(make([]api.Op, many)); text != "" || at != 0 || err != api.ErrMany {
		t.Errorf("Show of many = %q, %d, %d", text, at, err)
	}
	for i, o := range valid() {
		o.Prices = make([]int, many)
		if err := lines.Check(o); err != api.ErrForm {
			t.Errorf("Check of op %d with many prices = %d", i, err)
		}
	}
}
