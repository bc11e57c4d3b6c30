package number_test

import (
	"math/rand"
	"regexp"
	"strconv"
	"strings"
	"testing"

	"demurrage/api"
	"demurrage/number"
)

var form = regexp.MustCompile(`\A(0|[1-9][0-9]{0,17})\z`)

// want reads a number anew.
func want(s string) (int, api.Errno) {
	if !form.MatchString(s) {
		return 0, api.ErrForm
	}
	n := 0
	for _, digit := range []byte(s) {
		n = 10*n + int(digit-'0')
	}
	return n, api.OK
}

func compare(t *testing.T, s string) {
	t.Helper()
	n, err := number.Read(s)
	if wantN, wantErr := want(s); n != wantN || err != wantErr {
		t.Errorf("Read(%q) = %d, %d; want %d, %d", s, n, err, wantN, wantErr)
	}
}

func TestNumberRead(t *testing.T) {
	for _, c := range []struct {
		s    string
		want int
		err  api.Errno
	}{
		{"0", 0, api.OK},
		{"1", 1, api.OK},
		{"9", 9, api.OK},
		{"10", 10, api.OK},
		{"739935", 739935, api.OK},
		{"100000000000000000", 100000000000000000, api.OK},
		{"999999999999999999", 999999999999999999, api.OK},
		{"1000000000000000000", 0, api.ErrForm},
		{"9223372036854775807", 0, api.ErrForm},
		{"18446744073709551617", 0, api.ErrForm},
		{"", 0, api.ErrForm},
		{" ", 0, api.ErrForm},
		{" 1", 0, api.ErrForm},
		{"1 ", 0, api.ErrForm},
		{"1\n", 0, api.ErrForm},
		{"1\x00", 0, api.ErrForm},
		{"+1", 0, api.ErrForm},
		{"-1", 0, api.ErrForm},
		{"-0", 0, api.ErrForm},
		{"+0", 0, api.ErrForm},
		{"00", 0, api.ErrForm},
		{"01", 0, api.ErrForm},
		{"000000000000000001", 0, api.ErrForm},
		{"1_0", 0, api.ErrForm},
		{"0x1", 0, api.ErrForm},
		{"1e3", 0, api.ErrForm},
		{"1.0", 0, api.ErrForm},
		{"a", 0, api.ErrForm},
		{"\u0661", 0, api.ErrForm}, // a digit of another script
		{"-", 0, api.ErrForm},
		{strings.Repeat("1", 1<<24), 0, api.ErrForm},
	} {
		if n, err := number.Read(c.s); n != c.want || err != c.err {
			t.Errorf("Read(%.30q) = %d, %d; want %d, %d", c.s, n, err, c.want, c.err)
		}
		compare(t, c.s)
	}
}

func TestNumberReadOfAllShortTexts(t *testing.T) {
	for a := range 256 {
		for b := range 256 {
			compare(t, string([]byte{byte(a)}))
			compare(t, string([]byte{byte(a), byte(b)}))
			compare(t, string([]byte{'1', byte(a), byte(b)}))
		}
	}
}

func TestNumberReadOfWhatIsShown(t *testing.T) {
	r := rand.New(rand.NewSource(1))
	for range 100000 {
		n := r.Intn(1000000000000000000) >> r.Intn(60)
		if got, err := number.Read(strconv.Itoa(n)); got != n || err != api.OK {
			t.Errorf("Read of %d = %d, %d", n, got, err)
		}
	}
}
