package price_test

import (
	"math"
	"math/big"
	"math/rand"
	"regexp"
	"strconv"
	"strings"
	"testing"

	"demurrage/api"
	"demurrage/price"
)

const (
	top  = api.MaxSum
	most = api.MaxPrice
)

// edges are the numbers around every limit of the chapter, and the outermost ones.
var edges = []int{
	math.MinInt, math.MinInt + 1, -top - 1, -top, -top + 1, -most, -10000, -2, -1, 0, 1, 2, 3, 9, 10, 999, 1000,
	9999, 10000, 10001, 12345, 120500, most - 1, most, most + 1, top - 1, top, top + 1, math.MaxInt,
}

// priceForm is the form of a text with a price.
var priceForm = regexp.MustCompile(`\A(0|[1-9][0-9]{0,8})(\.[0-9]{0,3}[1-9])?\z`)

// wantCheck computes Check anew.
func wantCheck(p int) api.Errno {
	if p < 0 || p > most {
		return api.ErrRange
	}
	return api.OK
}

// wantRead computes Read anew, with exact fractions.
func wantRead(s string) (int, api.Errno) {
	if !priceForm.MatchString(s) {
		return 0, api.ErrForm
	}
	parts, _ := new(big.Rat).SetString(s)
	parts.Mul(parts, big.NewRat(api.Scale, 1))
	if parts.Cmp(big.NewRat(most, 1)) > 0 {
		return 0, api.ErrRange
	}
	return int(parts.Num().Int64()), api.OK
}

func compareRead(t *testing.T, s string) {
	t.Helper()
	want, wantErr := wantRead(s)
	if p, err := price.Read(s); p != want || err != wantErr {
		t.Errorf("Read(%q) = %d, %d; want %d, %d", s, p, err, want, wantErr)
	}
}

func TestF1Check(t *testing.T) {
	for _, p := range edges {
		if err := price.Check(p); err != wantCheck(p) {
			t.Errorf("Check(%d) = %d, want %d", p, err, wantCheck(p))
		}
	}
}

// shown are prices and their texts.
var shown = []struct {
	p    int
	text string
}{
	{0, "0"}, {1, "0.0001"}, {9, "0.0009"}, {10, "0.001"}, {100, "0.01"}, {1000, "0.1"}, {1001, "0.1001"}, {9999, "0.9999"},
	{10000, "1"}, {10001, "1.0001"}, {12345, "1.2345"}, {12050, "1.205"}, {15000, "1.5"}, {100000, "10"}, {120500, "12.05"},
	{1000000000, "100000"}, {123456789 * 8905, "109938270.6045"}, {109951162 * 10000, "109951162"}, {most, "109951162.7776"},
}

func TestF1ShowAndRead(t *testing.T) {
	for _, c := range shown {
		if s, err := price.Show(c.p); s != c.text || err != api.OK {
			t.Errorf("Show(%d) = %q, %d; want %q", c.p, s, err, c.text)
		}
		if p, err := price.Read(c.text); p != c.p || err != api.OK {
			t.Errorf("Read(%q) = %d, %d; want %d", c.text, p, err, c.p)
		}
	}
}

func TestF1ShowErrors(t *testing.T) {
	for _, p := range []int{math.MinInt, -10000, -1, most + 1, math.MaxInt} {
		if s, err := price.Show(p); s != "" || err != api.ErrRange {
			t.Errorf("Show(%d) = %q, %d; want an empty text, %d", p, s, err, api.ErrRange)
		}
	}
}

func TestF1ReadErrors(t *testing.T) {
	for _, c := range []struct {
		name, text string
		err        api.Errno
	}{
		{"empty", "", api.ErrForm},
		{"just a point", ".", api.ErrForm},
		{"nothing before the point", ".5", api.ErrForm},
		{"nothing behind the point", "1.", api.ErrForm},
		{"two points", "1.2.3", api.ErrForm},
		{"two points in a row", "1..2", api.ErrForm},
		{"a leading zero", "01", api.ErrForm},
		{"only zeros", "00", api.ErrForm},
		{"a leading zero and a point", "00.5", api.ErrForm},
		{"a zero at the end", "1.50", api.ErrForm},
		{"only a zero behind the point", "0.0", api.ErrForm},
		{"zeros to the last place", "1.0000", api.ErrForm},
		{"five digits behind the point", "1.23456", api.ErrForm},
		{"five digits behind the point, the last is 0", "1.23450", api.ErrForm},
		{"ten digits before the point", "1000000000", api.ErrForm},
		{"a number of more than one word", "99999999999999999999999", api.ErrForm},
		{"below 0", "-1", api.ErrForm},
		{"a plus", "+1", api.ErrForm},
		{"a minus behind the point", "1.-5", api.ErrForm},
		{"a plus behind the point", "1.+5", api.ErrForm},
		{"a space before", " 1", api.ErrForm},
		{"a space after", "1 ", api.ErrForm},
		{"a line feed after", "1\n", api.ErrForm},
		{"a zero byte", "1\x00", api.ErrForm},
		{"an exponent", "1e3", api.ErrForm},
		{"a comma", "1,5", api.ErrForm},
		{"an underscore", "1_000", api.ErrForm},
		{"hexadecimal", "0x1", api.ErrForm},
		{"the byte before 0", "1/", api.ErrForm},
		{"the byte after 9", "1:", api.ErrForm},
		{"digits of another script", "\u0661", api.ErrForm},
		{"no text of runes", "\xff", api.ErrForm},
		{"just too great", "109951162.7777", api.ErrRange},
		{"too great without a point", "109951163", api.ErrRange},
		{"the greatest number of the form", "999999999.9999", api.ErrRange},
		{"the form comes before the range", "999999999.90", api.ErrForm},
	} {
		if p, err := price.Read(c.text); p != 0 || err != c.err {
			t.Errorf("%s: Read(%q) = %d, %d; want 0, %d", c.name, c.text, p, err, c.err)
		}
	}
}

func TestF1ReadOfAllShortTexts(t *testing.T) {
	texts := []string{""}
	for range 6 {
		var longer []string
		for _, s := range texts {
			compareRead(t, s)
			for _, sign := range []string{"0", "1", "9", ".", "-", "\n"} {
				longer = append(longer, s+sign)
			}
		}
		texts = longer
	}
}

func TestF1ReadOfAllBytes(t *testing.T) {
	for b := range 256 {
		sign := string([]byte{byte(b)})
		for _, s := range []string{sign, "1" + sign, sign + "1", "1.2" + sign, "1." + sign + "2", "1" + sign + "2"} {
			compareRead(t, s)
		}
	}
}

func TestF1ReadOfLongTexts(t *testing.T) {
	r := rand.New(rand.NewSource(1))
	digits := func(many int) string {
		var s strings.Builder
		for range many {
			s.WriteString(strconv.Itoa(r.Intn(10)))
		}
		return s.String()
	}
	for range 50000 {
		compareRead(t, digits(r.Intn(12)))
		compareRead(t, digits(r.Intn(12))+"."+digits(r.Intn(7)))
	}
}

func TestF1ReadIsTheInverseOfShow(t *testing.T) {
	r := rand.New(rand.NewSource(2))
	check := func(p int) {
		s, err := price.Show(p)
		if err != api.OK || !priceForm.MatchString(s) {
			t.Fatalf("Show(%d) = %q, %d", p, s, err)
		}
		if got, err := price.Read(s); got != p || err != api.OK {
			t.Fatalf("Read(%q) = %d, %d; want %d", s, got, err, p)
		}
	}
	for p := range 200001 {
		check(p)
		check(most - p)
		check(r.Intn(most + 1))
	}
}

// wantPart computes the quotient, rounded down, and the remainder anew, with numbers of any size.
func wantPart(a, b, c int) (int, int, api.Errno) {
	product := new(big.Int).Mul(big.NewInt(int64(a)), big.NewInt(int64(b)))
	q, r := new(big.Int).DivMod(product, big.NewInt(int64(c)), new(big.Int))
	if new(big.Int).Abs(q).Cmp(big.NewInt(top)) > 0 {
		return 0, 0, api.ErrWide
	}
	return int(q.Int64()), int(r.Int64()), api.OK
}

func wantCost(units, p int) (int, int, api.Errno) {
	if units < -top || units > top || wantCheck(p) != api.OK {
		return 0, 0, api.ErrRange
	}
	return wantPart(units, p, api.Scale)
}

func compareCost(t *testing.T, units, p int) {
	t.Helper()
	q, r, e := wantCost(units, p)
	if gotQ, gotR, err := price.Cost(units, p); gotQ != q || gotR != r || err != e {
		t.Errorf("Cost(%d, %d) = %d, %d, %d; want %d, %d, %d", units, p, gotQ, gotR, err, q, r, e)
	}
}

func TestF2CostOfAllEdges(t *testing.T) {
	for _, units := range edges {
		for _, p := range edges {
			compareCost(t, units, p)
		}
	}
}

func TestF2CostAgreesWithExactNumbers(t *testing.T) {
	r := rand.New(rand.NewSource(3))
	for range 50000 {
		compareCost(t, (r.Intn(2*top+1)-top)>>r.Intn(60), r.Intn(most+1)>>r.Intn(40))
	}
}

func TestF2Cost(t *testing.T) {
	for _, c := range []struct {
		name            string
		units, p        int
		cost, remainder int
		err             api.Errno
	}{
		{"exact", 2000, 100000, 20000, 0, api.OK},
		{"rounded down", 7, 120500, 84, 3500, api.OK},
		{"rounded down below 0", -7, 120500, -85, 6500, api.OK},
		{"less than one", 1, 9999, 0, 9999, api.OK},
		{"the least part below 0", -1, 1, -1, 9999, api.OK},
		{"no units", 0, most, 0, 0, api.OK},
		{"for nothing", -top, 0, 0, 0, api.OK},
		{"all units for one each", top, 10000, top, 0, api.OK},
		{"all units for one each, below 0", -top, 10000, -top, 0, api.OK},
		{"too much", top, 10001, 0, 0, api.ErrWide},
		{"too little", -top, 10001, 0, 0, api.ErrWide},
		{"too much by far", top, most, 0, 0, api.ErrWide},
		{"greatest cost and a remainder", (2*top + 1) / 3, 15000, top, 5000, api.OK},
		{"rounded down to too little", -(2*top + 1) / 3, 15000, 0, 0, api.ErrWide},
		{"units that are no amount", top + 1, 0, 0, 0, api.ErrRange},
		{"least units", math.MinInt, 1, 0, 0, api.ErrRange},
		{"a price below 0", 0, -1, 0, 0, api.ErrRange},
		{"too great a price", 0, most + 1, 0, 0, api.ErrRange},
		{"the range comes before the width", top, most + 1, 0, 0, api.ErrRange},
	} {
		cost, remainder, err := price.Cost(c.units, c.p)
		if cost != c.cost || remainder != c.remainder || err != c.err {
			t.Errorf("%s: Cost = %d, %d, %d; want %d, %d, %d", c.name, cost, remainder, err, c.cost, c.remainder, c.err)
		}
	}
}

func wantApart(was, now int) (int, api.Errno) {
	if wantCheck(was) != api.OK || wantCheck(now) != api.OK {
		return 0, api.ErrRange
	}
	if was == 0 {
		return 0, api.ErrForm
	}
	apart, _, e := wantPart(now-was, api.Scale, was)
	return apart, e
}

func compareApart(t *testing.T, was, now int) {
	t.Helper()
	want, wantErr := wantApart(was, now)
	if got, err := price.Apart(was, now); got != want || err != wantErr {
		t.Errorf("Apart(%d, %d) = %d, %d; want %d, %d", was, now, got, err, want, wantErr)
	}
}

func TestF3ApartOfAllEdges(t *testing.T) {
	for _, was := range edges {
		for _, now := range edges {
			compareApart(t, was, now)
		}
	}
}

func TestF3ApartAgreesWithExactNumbers(t *testing.T) {
	r := rand.New(rand.NewSource(4))
	for range 50000 {
		compareApart(t, r.Intn(most+1)>>r.Intn(40), r.Intn(most+1)>>r.Intn(40))
	}
}

func TestF3Apart(t *testing.T) {
	for _, c := range []struct {
		name     string
		was, now int
		apart    int
		err      api.Errno
	}{
		{"the same", 120500, 120500, 0, api.OK},
		{"greater", 120000, 126000, 500, api.OK},
		{"less", 120000, 114000, -500, api.OK},
		{"twice as much", 7, 14, 10000, api.OK},
		{"nothing any more", 7, 0, -10000, api.OK},
		{"rounded down", 30000, 30001, 0, api.OK},
		{"rounded down below 0", 30000, 29999, -1, api.OK},
		{"rounded down below -1", 10001, 8999, -1002, api.OK},
		{"the least change of the greatest price", most, most - 1, -1, api.OK},
		{"from the least to the greatest price", 1, most, (most - 1) * 10000, api.OK},
		{"from nothing", 0, 5, 0, api.ErrForm},
		{"from nothing to nothing", 0, 0, 0, api.ErrForm},
		{"was below 0", -1, 5, 0, api.ErrRange},
		{"was too great", most + 1, 5, 0, api.ErrRange},
		{"now below 0", 5, -1, 0, api.ErrRange},
		{"now too great", 5, most + 1, 0, api.ErrRange},
		{"the range comes before the form", 0, -1, 0, api.ErrRange},
		{"least prices", math.MinInt, math.MinInt, 0, api.ErrRange},
	} {
		if got, err := price.Apart(c.was, c.now); got != c.apart || err != c.err {
			t.Errorf("%s: Apart(%d, %d) = %d, %d; want %d, %d", c.name, c.was, c.now, got, err, c.apart, c.err)
		}
	}
}

func TestP1NothingBesideAnError(t *testing.T) {
	for _, a := range edges {
		if s, err := price.Show(a); err != api.OK && s != "" {
			t.Errorf("Show(%d) = %q with error %d", a, s, err)
		}
		for _, s := range []string{strconv.Itoa(a), strconv.Itoa(a) + ".5", "1." + strconv.Itoa(a)} {
			if p, err := price.Read(s); err != api.OK && p != 0 {
				t.Errorf("Read(%q) = %d with error %d", s, p, err)
			}
		}
		for _, b := range edges {
			if c, r, err := price.Cost(a, b); err != api.OK && (c != 0 || r != 0) {
				t.Errorf("Cost(%d, %d) = %d, %d with error %d", a, b, c, r, err)
			}
			if n, err := price.Apart(a, b); err != api.OK && n != 0 {
				t.Errorf("Apart(%d, %d) = %d with error %d", a, b, n, err)
			}
		}
	}
}

func TestP3CallsDoNotSeeEarlierOnes(t *testing.T) {
	for range 3 {
		price.Show(123456)
		if s, err := price.Show(10); s != "0.001" || err != api.OK {
			t.Errorf("Show(10) = %q, %d; want 0.001", s, err)
		}
		price.Read("12.3456") // digits that were kept would show below
		if p, err := price.Read("7.8"); p != 78000 || err != api.OK {
			t.Errorf("Read(7.8) = %d, %d; want 78000", p, err)
		}
		price.Read("x")
		price.Cost(top, most)
		if c, r, err := price.Cost(3, 5000); c != 1 || r != 5000 || err != api.OK {
			t.Errorf("Cost(3, 5000) = %d, %d, %d; want 1, 5000", c, r, err)
		}
	}
}

func TestP4LongTexts(t *testing.T) {
	for _, sign := range []string{"0", "1", ".", "x"} {
		long := strings.Repeat(sign, 1<<24)
		for _, s := range []string{long, "1." + long, "1" + long + ".5", long + "\xff"} {
			if p, err := price.Read(s); p != 0 || err != api.ErrForm {
				t.Errorf("Read of many %q = %d, %d; want 0, %d", sign, p, err, api.ErrForm)
			}
		}
	}
}
