package money_test

import (
	"math"
	"math/big"
	"math/rand"
	"slices"
	"testing"

	"demurrage/api"
	"demurrage/money"
)

const (
	top  = api.MaxSum
	rate = api.MaxRate
)

// edges are the numbers around every limit of the chapter, and the outermost ones.
var edges = []int{
	math.MinInt, math.MinInt + 1, -top - 1, -top, -top + 1, -rate - 1, -rate, -3, -2, -1, 0,
	1, 2, 3, 5, rate - 1, rate, rate + 1, top - 1, top, top + 1, math.MaxInt - 1, math.MaxInt,
}

func isAmount(n *big.Int) bool {
	return new(big.Int).Abs(n).Cmp(big.NewInt(top)) <= 0
}

func repeat(n, many int) []int { return slices.Repeat([]int{n}, many) }

func TestA1CheckAcceptsAmountsOnly(t *testing.T) {
	for _, a := range edges {
		want := api.ErrRange
		if a >= -top && a <= top {
			want = api.OK
		}
		if got := money.Check(a); got != want {
			t.Errorf("Check(%d) = %d, want %d", a, got, want)
		}
	}
}

func wantAdd(a, b int) (int, api.Errno) {
	if !isAmount(big.NewInt(int64(a))) || !isAmount(big.NewInt(int64(b))) {
		return 0, api.ErrRange
	}
	sum := new(big.Int).Add(big.NewInt(int64(a)), big.NewInt(int64(b)))
	if !isAmount(sum) {
		return 0, api.ErrWide
	}
	return int(sum.Int64()), api.OK
}

func TestA1AddOfAllEdges(t *testing.T) {
	for _, a := range edges {
		for _, b := range edges {
			want, wantErr := wantAdd(a, b)
			if got, err := money.Add(a, b); got != want || err != wantErr {
				t.Errorf("Add(%d, %d) = %d, %d; want %d, %d", a, b, got, err, want, wantErr)
			}
		}
	}
}

func TestA1Total(t *testing.T) {
	for _, c := range []struct {
		name string
		list []int
		sum  int
		err  api.Errno
	}{
		{"nil", nil, 0, api.OK},
		{"empty", []int{}, 0, api.OK},
		{"one", []int{-7}, -7, api.OK},
		{"mixed signs", []int{1, 2, -5}, -2, api.OK},
		{"greatest sum", []int{top - 1, 1}, top, api.OK},
		{"least sum", []int{-top + 1, -1}, -top, api.OK},
		{"just too great", []int{top, 1}, 0, api.ErrWide},
		{"just too small", []int{-top, -1}, 0, api.ErrWide},
		{"partial sum too great", []int{top, top, -top}, top, api.OK},
		{"partial sum too small", []int{-top, -top, top}, -top, api.OK},
		{"partial sum above one word", append(repeat(top, 20), repeat(-top, 20)...), 0, api.OK},
		{"partial sum below one word", append(repeat(-top, 20), repeat(top, 19)...), -top, api.OK},
		{"sum of a whole word", repeat(top, 16), 0, api.ErrWide},
		{"sum of a whole word below 0", repeat(-top, 16), 0, api.ErrWide},
		{"sum of a word and one", append(repeat(top, 16), 1), 0, api.ErrWide},
		{"sum of a word less one", append(repeat(top, 16), -1), 0, api.ErrWide},
		{"half a word", repeat(top, 8), 0, api.ErrWide},
		{"half a word below 0", repeat(-top, 8), 0, api.ErrWide},
		{"the greatest sum of all", repeat(top, api.MaxParts), 0, api.ErrWide},
		{"as many as may be", repeat(3, api.MaxParts), 3 * api.MaxParts, api.OK},
		{"one too many", repeat(0, api.MaxParts+1), 0, api.ErrMany},
		{"too many comes before the range", repeat(top+1, api.MaxParts+1), 0, api.ErrMany},
		{"no amount", []int{top + 1}, 0, api.ErrRange},
		{"no amount at the end", []int{1, 2, -top - 1}, 0, api.ErrRange},
		{"the range comes before the width", []int{top, top, top + 1}, 0, api.ErrRange},
		{"least int", []int{math.MinInt}, 0, api.ErrRange},
	} {
		if got, err := money.Total(c.list); got != c.sum || err != c.err {
			t.Errorf("%s: Total = %d, %d; want %d, %d", c.name, got, err, c.sum, c.err)
		}
	}
}

func TestA1TotalAgreesWithExactSums(t *testing.T) {
	r := rand.New(rand.NewSource(1))
	for range 20000 {
		list := make([]int, r.Intn(api.MaxParts+1))
		exact := new(big.Int)
		for i := range list {
			list[i] = r.Intn(2*top+1) - top
			exact.Add(exact, big.NewInt(int64(list[i])))
		}
		want, wantErr := 0, api.ErrWide
		if isAmount(exact) {
			want, wantErr = int(exact.Int64()), api.OK
		}
		if got, err := money.Total(list); got != want || err != wantErr {
			t.Fatalf("Total(%v) = %d, %d; want %d, %d", list, got, err, want, wantErr)
		}
	}
}

// wantPart computes Part and Near anew, with numbers of any size.
func wantPart(a, b, c int) (quotient, remainder int, err api.Errno, near int, nearErr api.Errno) {
	if a < -top || a > top || b < 0 || b > rate || c < 1 || c > rate {
		return 0, 0, api.ErrRange, 0, api.ErrRange
	}
	product := new(big.Int).Mul(big.NewInt(int64(a)), big.NewInt(int64(b)))
	q, r := new(big.Int).DivMod(product, big.NewInt(int64(c)), new(big.Int))
	if !isAmount(q) {
		return 0, 0, api.ErrWide, 0, api.ErrWide
	}
	n := new(big.Int).Set(q)
	switch new(big.Int).Lsh(r, 1).Cmp(big.NewInt(int64(c))) {
	case 1:
		n.Add(n, big.NewInt(1))
	case 0:
		n.Add(n, big.NewInt(int64(n.Bit(0))))
	}
	if !isAmount(n) {
		return int(q.Int64()), int(r.Int64()), api.OK, 0, api.ErrWide
	}
	return int(q.Int64()), int(r.Int64()), api.OK, int(n.Int64()), api.OK
}

func comparePart(t *testing.T, a, b, c int) {
	t.Helper()
	q, r, e, n, f := wantPart(a, b, c)
	if gotQ, gotR, err := money.Part(a, b, c); gotQ != q || gotR != r || err != e {
		t.Errorf("Part(%d, %d, %d) = %d, %d, %d; want %d, %d, %d", a, b, c, gotQ, gotR, err, q, r, e)
	}
	if got, err := money.Near(a, b, c); got != n || err != f {
		t.Errorf("Near(%d, %d, %d) = %d, %d; want %d, %d", a, b, c, got, err, n, f)
	}
}

func TestA2PartAndNearOfAllEdges(t *testing.T) {
	for _, a := range edges {
		for _, b := range edges {
			for _, c := range edges {
				comparePart(t, a, b, c)
			}
		}
	}
}

func TestA2PartAndNearOfSmallNumbers(t *testing.T) {
	for a := -25; a <= 25; a++ {
		for b := range 8 {
			for c := 1; c < 12; c++ {
				comparePart(t, a, b, c)
			}
		}
	}
}

func TestA2PartAndNearOfGreatNumbers(t *testing.T) {
	r := rand.New(rand.NewSource(2))
	for range 50000 {
		a := (r.Intn(2*top+1) - top) >> r.Intn(60)
		b := r.Intn(rate+1) >> r.Intn(40)
		c := 1 + r.Intn(rate)>>r.Intn(40)
		comparePart(t, a, b, c)
	}
}

func TestA2Part(t *testing.T) {
	for _, c := range []struct {
		name                string
		a, b, c             int
		quotient, remainder int
		err                 api.Errno
	}{
		{"rounded down", 7, 3, 5, 4, 1, api.OK},
		{"rounded down below 0", -7, 3, 5, -5, 4, api.OK},
		{"exact below 0", -10, 3, 5, -6, 0, api.OK},
		{"nothing", 0, 0, 1, 0, 0, api.OK},
		{"a product of more than one word", -top, rate, rate, -top, 0, api.OK},
		{"the least part below 0", -1, 1, rate, -1, rate - 1, api.OK},
		{"greatest quotient with a remainder", (2*top + 1) / 3, 3, 2, top, 1, api.OK},
		{"quotient too great", top, 2, 1, 0, 0, api.ErrWide},
		{"quotient of more than one word", top, rate, 1, 0, 0, api.ErrWide},
		{"quotient of more than one word below 0", -top, rate, 1, 0, 0, api.ErrWide},
		{"rounded down to too little", -(2*top + 1) / 3, 3, 2, 0, 0, api.ErrWide},
		{"no amount", top + 1, 0, 1, 0, 0, api.ErrRange},
		{"factor below 0", 1, -1, 1, 0, 0, api.ErrRange},
		{"factor too great", 1, rate + 1, 1, 0, 0, api.ErrRange},
		{"divided by 0", 1, 1, 0, 0, 0, api.ErrRange},
		{"divided by less than 0", 1, 1, -1, 0, 0, api.ErrRange},
		{"divided by too much", 1, 1, rate + 1, 0, 0, api.ErrRange},
		{"the range comes before the width", top, rate, 0, 0, 0, api.ErrRange},
	} {
		q, r, err := money.Part(c.a, c.b, c.c)
		if q != c.quotient || r != c.remainder || err != c.err {
			t.Errorf("%s: Part = %d, %d, %d; want %d, %d, %d", c.name, q, r, err, c.quotient, c.remainder, c.err)
		}
	}
}

func TestA2Near(t *testing.T) {
	for _, c := range []struct {
		name    string
		a, b, c int
		near    int
		err     api.Errno
	}{
		{"below a half", 7, 1, 5, 1, api.OK},
		{"above a half", 8, 1, 5, 2, api.OK},
		{"a half stays even", 5, 1, 2, 2, api.OK},
		{"a half becomes even", 7, 1, 2, 4, api.OK},
		{"a half below 0 becomes even", -5, 1, 2, -2, api.OK},
		{"a half below 0 stays even", -7, 1, 2, -4, api.OK},
		{"nearly 0", -1, 1, rate, 0, api.OK},
		{"greatest result and a half", (2*top + 1) / 3, 3, 2, top, api.OK},
		{"rounded up to too much", (3*top + 2) / 5, 5, 3, 0, api.ErrWide},
		{"rounded down by Part to too little", -(2*top + 1) / 3, 3, 2, 0, api.ErrWide},
		{"quotient too great", top, 2, 1, 0, api.ErrWide},
		{"no amount", -top - 1, 1, 1, 0, api.ErrRange},
		{"factor below 0", 1, -1, 1, 0, api.ErrRange},
		{"divided by 0", 1, 1, 0, 0, api.ErrRange},
	} {
		if got, err := money.Near(c.a, c.b, c.c); got != c.near || err != c.err {
			t.Errorf("%s: Near = %d, %d; want %d, %d", c.name, got, err, c.near, c.err)
		}
	}
}

func TestP1NothingBesideAnError(t *testing.T) {
	for _, a := range edges {
		for _, b := range edges {
			if n, err := money.Add(a, b); err != api.OK && n != 0 {
				t.Errorf("Add(%d, %d) = %d with error %d", a, b, n, err)
			}
			if n, err := money.Total([]int{a, b}); err != api.OK && n != 0 {
				t.Errorf("Total(%d, %d) = %d with error %d", a, b, n, err)
			}
			for _, c := range edges {
				if q, r, err := money.Part(a, b, c); err != api.OK && (q != 0 || r != 0) {
					t.Errorf("Part(%d, %d, %d) = %d, %d with error %d", a, b, c, q, r, err)
				}
				if n, err := money.Near(a, b, c); err != api.OK && n != 0 {
					t.Errorf("Near(%d, %d, %d) = %d with error %d", a, b, c, n, err)
				}
			}
		}
	}
}

func TestP2TotalOnlyReadsItsList(t *testing.T) {
	whole := []int{4, -9, 2, 77, 78}
	list := whole[:3]
	money.Total(list)
	if !slices.Equal(whole, []int{4, -9, 2, 77, 78}) {
		t.Errorf("after Total the list and what is behind it are %v", whole)
	}
}

func TestP3CallsDoNotSeeEarlierOnes(t *testing.T) {
	list := []int{top, 5, -top}
	for range 3 {
		money.Add(top, top)
		money.Part(top, rate, 1)
		list[1] = 6
		money.Total(list) // a sum that was kept would show below
		list[1] = 5
		if n, err := money.Total(list); n != 5 || err != api.OK {
			t.Errorf("Total = %d, %d; want 5, 0", n, err)
		}
		if n, err := money.Near(7, 1, 2); n != 4 || err != api.OK {
			t.Errorf("Near = %d, %d; want 4, 0", n, err)
		}
	}
}

func TestP4TotalOfALongList(t *testing.T) {
	if n, err := money.Total(make([]int, 1<<22)); n != 0 || err != api.ErrMany {
		t.Errorf("Total = %d, %d; want 0, %d", n, err, api.ErrMany)
	}
}
