package tape_test

import (
	"bytes"
	"encoding/binary"
	"hash/crc32"
	"math"
	"math/rand"
	"slices"
	"testing"

	"demurrage/api"
	"demurrage/tape"
)

const most = 4000

// wantSum computes the checksum bit by bit, as the document says it.
func wantSum(b []byte) int {
	r := 4294967295
	for _, x := range b {
		for bit := range 8 {
			differs := int(x)>>bit&1 != r%2
			r /= 2
			if differs {
				r ^= 3988292384
			}
		}
	}
	return 4294967295 - r
}

// record is the bytes of a tape that a record takes, with the library's checksum.
func record(b []byte) []byte {
	t := binary.BigEndian.AppendUint16(nil, uint16(len(b)))
	t = append(t, b...)
	return binary.BigEndian.AppendUint32(t, crc32.ChecksumIEEE(b))
}

// onTape is a tape with records.
func onTape(l ...[]byte) []byte {
	var t []byte
	for _, b := range l {
		t = append(t, record(b)...)
	}
	return t
}

// texts are records of texts.
func texts(l ...string) [][]byte {
	var records [][]byte
	for _, s := range l {
		records = append(records, []byte(s))
	}
	return records
}

// changed is a tape with another byte at a position.
func changed(t []byte, at int, b byte) []byte {
	t = bytes.Clone(t)
	t[at] = b
	return t
}

// wantGet reads a tape anew.
func wantGet(t []byte) ([][]byte, int) {
	var l [][]byte
	at := 0
	for at+2 <= len(t) {
		size := 256*int(t[at]) + int(t[at+1])
		end := at + 2 + size + 4
		if size < 1 || end > len(t) || !bytes.Equal(t[at:end], record(t[at+2:end-4])) {
			break
		}
		l, at = append(l, t[at+2:end-4]), end
	}
	return l, at
}

func sameRecords(a, b [][]byte) bool { return slices.EqualFunc(a, b, bytes.Equal) }

func compareGet(t *testing.T, name string, on []byte) {
	t.Helper()
	l, at, err := tape.Get(on)
	if want, wantAt := wantGet(on); !sameRecords(l, want) || at != wantAt || err != api.OK {
		t.Errorf("%s: Get(%v) = %v, %d, %d; want %v, %d", name, on, l, at, err, want, wantAt)
	}
}

// drawRecords draws records that fit on a tape.
func drawRecords(r *rand.Rand) [][]byte {
	var l [][]byte
	left := r.Intn(most + 1)
	for left > 6 {
		b := make([]byte, 1+r.Intn(left-6)>>r.Intn(10))
		r.Read(b)
		l = append(l, b)
		left -= len(b) + 6
	}
	return l
}

func TestT1Sum(t *testing.T) {
	for _, c := range []struct {
		name string
		b    []byte
		want int
		err  api.Errno
	}{
		{"nil", nil, 0, api.OK},
		{"empty", []byte{}, 0, api.OK},
		{"0", []byte{0}, 3523407757, api.OK},
		{"two of 0", []byte{0, 0}, 1104745215, api.OK},
		{"255", []byte{255}, 4278190080, api.OK},
		{"four of 255", []byte{255, 255, 255, 255}, 4294967295, api.OK},
		{"a letter", []byte("a"), 3904355907, api.OK},
		{"the check value of this sum", []byte("123456789"), 3421780262, api.OK},
		{"in another order", []byte("213456789"), wantSum([]byte("213456789")), api.OK},
		{"as many as may be", make([]byte, most), 982225854, api.OK},
		{"one too many", make([]byte, most+1), 0, api.ErrMany},
	} {
		if got, err := tape.Sum(c.b); got != c.want || err != c.err {
			t.Errorf("%s: Sum = %d, %d; want %d, %d", c.name, got, err, c.want, c.err)
		}
	}
}

// TestT1SumOfAllBytes also has each byte behind another one, for which the remainder is another one.
func TestT1SumOfAllBytes(t *testing.T) {
	for a := range 256 {
		for _, b := range [][]byte{{byte(a)}, {0, byte(a)}, {200, 3, byte(a)}} {
			want := int(crc32.ChecksumIEEE(b))
			if got, err := tape.Sum(b); got != want || wantSum(b) != want || err != api.OK {
				t.Errorf("Sum(%v) = %d, %d; want %d", b, got, err, want)
			}
		}
	}
}

func TestT1SumOfAllLengths(t *testing.T) {
	b := make([]byte, most)
	rand.New(rand.NewSource(1)).Read(b)
	for n := range most + 1 {
		if got, err := tape.Sum(b[:n]); got != int(crc32.ChecksumIEEE(b[:n])) || err != api.OK {
			t.Errorf("Sum of %d bytes = %d, %d", n, got, err)
		}
	}
	if got, _ := tape.Sum(b); got != wantSum(b) {
		t.Errorf("Sum of all = %d, want %d", got, wantSum(b))
	}
}

func TestT2Put(t *testing.T) {
	a := []byte{0, 1, 'a', 232, 183, 190, 67}
	for _, c := range []struct {
		name string
		t, b []byte
		want []byte
		err  api.Errno
	}{
		{"the first one", nil, []byte("a"), a, api.OK},
		{"the first one, of an empty tape", []byte{}, []byte("a"), a, api.OK},
		{"another one", a, []byte("123456789"), append(bytes.Clone(a), 0, 9, '1', '2', '3', '4', '5', '6', '7', '8', '9', 203, 244, 57, 38), api.OK},
		{"the same one", a, []byte("a"), append(bytes.Clone(a), a...), api.OK},
		{"after what is no record", []byte{7, 7, 7}, []byte("a"), append([]byte{7, 7, 7}, a...), api.OK},
		{"a byte of 0", nil, []byte{0}, []byte{0, 1, 0, 210, 2, 239, 141}, api.OK},
		{"255 bytes", nil, make([]byte, 255), record(make([]byte, 255)), api.OK},
		{"256 bytes", nil, make([]byte, 256), record(make([]byte, 256)), api.OK},
		{"a record as long as may be", nil, make([]byte, most-6), record(make([]byte, most-6)), api.OK},
		{"a tape as long as may be", make([]byte, most-7), []byte("a"), append(make([]byte, most-7), a...), api.OK},
		{"a tape longer by one", make([]byte, most-6), []byte("a"), nil, api.ErrWide},
		{"a record longer by one", nil, make([]byte, most-5), nil, api.ErrWide},
		{"both longer by one in all", a, make([]byte, most-12), nil, api.ErrWide},
		{"a full tape", make([]byte, most), []byte("a"), nil, api.ErrWide},
		{"a record of all bytes of a tape", nil, make([]byte, most), nil, api.ErrWide},
		{"a record of more bytes than a tape has", nil, make([]byte, most+1), nil, api.ErrWide},
		{"a record of so many bytes that two cannot count them", nil, make([]byte, 65537), nil, api.ErrWide},
		{"no bytes", a, nil, nil, api.ErrRange},
		{"an empty list of bytes", nil, []byte{}, nil, api.ErrRange},
		{"no bytes, and a full tape", make([]byte, most), nil, nil, api.ErrRange},
		{"too long a tape", make([]byte, most+1), []byte("a"), nil, api.ErrMany},
		{"too long a tape, and no bytes", make([]byte, most+1), nil, nil, api.ErrMany},
		{"too long a tape, and too long a record", make([]byte, most+1), make([]byte, most+1), nil, api.ErrMany},
	} {
		if got, err := tape.Put(c.t, c.b); !bytes.Equal(got, c.want) || err != c.err {
			t.Errorf("%s: Put = %v, %d; want %v, %d", c.name, got, err, c.want, c.err)
		}
	}
}

func TestT3Get(t *testing.T) {
	three := texts("add", "deliver it", "n")
	on := onTape(three...) // of 9, 16 and 7 bytes
	long := [][]byte{bytes.Repeat([]byte{7}, 256), bytes.Repeat([]byte{8}, 255), []byte("x")}
	full := slices.Repeat([][]byte{{0}}, most/7) // of 3997 bytes
	for _, c := range []struct {
		name string
		t    []byte
		want [][]byte
		at   int
		err  api.Errno
	}{
		{"nil", nil, nil, 0, api.OK},
		{"an empty tape", []byte{}, nil, 0, api.OK},
		{"one", record([]byte("a")), texts("a"), 7, api.OK},
		{"three", on, three, 32, api.OK},
		{"long ones", onTape(long...), long, 530, api.OK},
		{"as many as may be", onTape(full...), full, 3997, api.OK},
		{"as many as may be, and nothing behind them", append(onTape(full...), 0, 0, 0), full, 3997, api.OK},
		{"one as long as may be", record(make([]byte, most-6)), [][]byte{make([]byte, most-6)}, most, api.OK},
		{"a byte of 0 behind", append(onTape(three...), 0), three, 32, api.OK},
		{"a length behind", append(onTape(three...), 0, 1), three, 32, api.OK},
		{"another checksum behind", append(onTape(three...), 0, 1, 'a', 232, 183, 190, 68), three, 32, api.OK},
		{"another first byte of a checksum", changed(on, 5, on[5]^128), nil, 0, api.OK},
		{"another last byte of a checksum", changed(on, 24, on[24]^1), three[:1], 9, api.OK},
		{"another byte of the last one", changed(on, 27, 'm'), three[:2], 25, api.OK},
		{"a lesser length", changed(on, 10, 9), three[:1], 9, api.OK},
		{"a greater length", changed(on, 1, 4), nil, 0, api.OK},
		{"a length of more than there is", changed(on, 26, 2), three[:2], 25, api.OK},
		{"a length of much more than there is", changed(on, 9, 255), three[:1], 9, api.OK},
		{"a length of 0", changed(on, 1, 0), nil, 0, api.OK},
		{"no bytes, with the checksum of none", []byte{0, 0, 0, 0, 0, 0}, nil, 0, api.OK},
		{"no bytes, with the checksum of none, between others", slices.Concat(record([]byte("a")), make([]byte, 6), record([]byte("b"))), texts("a"), 7, api.OK},
		{"one that begins later", append([]byte{0}, on...), nil, 0, api.OK},
		{"a checksum with the lowest byte first", []byte{0, 1, 'a', 67, 190, 183, 232}, nil, 0, api.OK},
		{"a length with the lower byte first", []byte{1, 0, 'a', 232, 183, 190, 67}, nil, 0, api.OK},
		{"bytes of 0", make([]byte, most), nil, 0, api.OK},
		{"bytes of 255", bytes.Repeat([]byte{255}, most), nil, 0, api.OK},
		{"too long a tape", make([]byte, most+1), nil, 0, api.ErrMany},
		{"too long a tape, with records", append(onTape(three...), make([]byte, most)...), nil, 0, api.ErrMany},
	} {
		if l, at, err := tape.Get(c.t); !sameRecords(l, c.want) || at != c.at || err != c.err {
			t.Errorf("%s: Get = %v, %d, %d; want %v, %d, %d", c.name, l, at, err, c.want, c.at, c.err)
		}
		if c.err == api.OK {
			compareGet(t, c.name, c.t)
		}
	}
}

func TestT3Torn(t *testing.T) {
	for _, c := range []struct {
		name string
		t    []byte
		keep int
		want []byte
		err  api.Errno
	}{
		{"some", []byte{1, 2, 3}, 2, []byte{1, 2}, api.OK},
		{"all", []byte{1, 2, 3}, 3, []byte{1, 2, 3}, api.OK},
		{"none", []byte{1, 2, 3}, 0, nil, api.OK},
		{"none of none", nil, 0, nil, api.OK},
		{"all of a full tape", bytes.Repeat([]byte{9}, most), most, bytes.Repeat([]byte{9}, most), api.OK},
		{"one less than none", []byte{1, 2, 3}, -1, nil, api.ErrRange},
		{"one more than all", []byte{1, 2, 3}, 4, nil, api.ErrRange},
		{"one of none", nil, 1, nil, api.ErrRange},
		{"one more than a full tape", make([]byte, most), most + 1, nil, api.ErrRange},
		{"the least number", []byte{1, 2, 3}, math.MinInt, nil, api.ErrRange},
		{"the greatest number", []byte{1, 2, 3}, math.MaxInt, nil, api.ErrRange},
		{"not those behind", []byte{1, 2, 3}[:1], 2, nil, api.ErrRange},
		{"of too long a tape", make([]byte, most+1), 0, nil, api.ErrMany},
		{"too many of too long a tape", make([]byte, most+1), most + 2, nil, api.ErrMany},
		{"less than none of too long a tape", make([]byte, most+1), -1, nil, api.ErrMany},
	} {
		if got, err := tape.Torn(c.t, c.keep); !bytes.Equal(got, c.want) || err != c.err {
			t.Errorf("%s: Torn = %v, %d; want %v, %d", c.name, got, err, c.want, c.err)
		}
	}
}

// TestT2T3WhatIsPutIsGot puts drawn records, one by one.
func TestT2T3WhatIsPutIsGot(t *testing.T) {
	r := rand.New(rand.NewSource(2))
	for range 300 {
		l := drawRecords(r)
		var on []byte
		for _, b := range l {
			longer, err := tape.Put(on, b)
			if !bytes.Equal(longer, append(on, record(b)...)) || err != api.OK {
				t.Fatalf("Put(%v, %v) = %v, %d", on, b, longer, err)
			}
			on = longer
		}
		if got, at, err := tape.Get(on); !sameRecords(got, l) || at != len(on) || err != api.OK {
			t.Errorf("Get(%v) = %v, %d, %d; want %v", on, got, at, err, l)
		}
	}
}

// TestT3NothingThatIsNotCompleteIsGot tears a tape at each of its positions.
func TestT3NothingThatIsNotCompleteIsGot(t *testing.T) {
	r := rand.New(rand.NewSource(3))
	for range 20 {
		l := drawRecords(r)
		on := onTape(l...)
		complete, end := 0, 0
		for keep := range len(on) + 1 {
			if complete < len(l) && keep == end+len(l[complete])+6 {
				complete, end = complete+1, keep
			}
			torn, err := tape.Torn(on, keep)
			if !bytes.Equal(torn, on[:keep]) || err != api.OK {
				t.Errorf("Torn at %d = %v, %d", keep, torn, err)
			}
			if got, at, err := tape.Get(torn); !sameRecords(got, l[:complete]) || at != end || err != api.OK {
				t.Errorf("Get of %d bytes = %v, %d, %d; want %d records, %d", keep, got, at, err, complete, end)
			}
		}
	}
}

// TestT3NothingThatIsWrongIsGot changes each bit of a tape; no record behind a wrong one is got.
func TestT3NothingThatIsWrongIsGot(t *testing.T) {
	l := texts("one", "two", "and a third one", "4", "the fifth")
	on := onTape(l...)
	for i, b := range l {
		before := len(onTape(l[:i]...))
		for at := range len(b) + 6 {
			for bit := range 8 {
				wrong := changed(on, before+at, on[before+at]^1<<bit)
				if got, end, err := tape.Get(wrong); !sameRecords(got, l[:i]) || end != before || err != api.OK {
					t.Errorf("Get with bit %d of byte %d changed = %v, %d, %d; want %d records, %d", bit, before+at, got, end, err, i, before)
				}
				compareGet(t, "changed", wrong)
			}
		}
	}
}

func TestT3GetOfDrawnTapes(t *testing.T) {
	r := rand.New(rand.NewSource(4))
	for range 2000 {
		on := onTape(drawRecords(r)...)
		for range min(len(on), r.Intn(3)) {
			on[r.Intn(len(on))] = byte(r.Intn(256))
		}
		behind := make([]byte, r.Intn(most+1-len(on)))
		r.Read(behind)
		compareGet(t, "drawn", append(on, behind...))
	}
}

func TestP1NothingBesideAnError(t *testing.T) {
	for _, n := range []int{0, 1, 2, 6, 7, most - 7, most - 6, most - 5, most, most + 1, 65535, 65536, 100000} {
		on := bytes.Repeat(record([]byte("a")), n/7+1)[:n]
		if sum, err := tape.Sum(on); err != api.OK && sum != 0 || (err != api.OK) != (n > most) {
			t.Errorf("Sum of %d bytes = %d, %d", n, sum, err)
		}
		if l, at, err := tape.Get(on); err != api.OK && (len(l) != 0 || at != 0) || (err != api.OK) != (n > most) {
			t.Errorf("Get of %d bytes = %v, %d, %d", n, l, at, err)
		}
		for _, m := range []int{math.MinInt, -1, 0, 1, 7, most, most + 1, 65536, math.MaxInt} {
			if torn, err := tape.Torn(on, m); err != api.OK && len(torn) != 0 || (err == api.OK) != (n <= most && m >= 0 && m <= n) {
				t.Errorf("Torn of %d bytes at %d = %v, %d", n, m, torn, err)
			}
			b := make([]byte, max(0, min(m, 100000)))
			if longer, err := tape.Put(on, b); err != api.OK && len(longer) != 0 || (err == api.OK) != (len(b) > 0 && n+len(b)+6 <= most) {
				t.Errorf("Put of %d bytes to %d = %v, %d", len(b), n, longer, err)
			}
		}
	}
}

func TestP2ListsAreOnlyReadAndResultsAreNew(t *testing.T) {
	l := texts("one", "two")
	fresh := func() []byte { return append(onTape(l...), record([]byte("behind"))...) }
	whole, b := fresh(), []byte("three, behind")
	on := whole[:18]
	for range 2 {
		if sum, err := tape.Sum(on); sum != int(crc32.ChecksumIEEE(on)) || err != api.OK {
			t.Errorf("Sum = %d, %d", sum, err)
		}
		longer, err := tape.Put(on, b[:5])
		if !bytes.Equal(longer, onTape(texts("one", "two", "three")...)) || err != api.OK {
			t.Errorf("Put = %v, %d", longer, err)
		}
		torn, err := tape.Torn(on, 9)
		if !bytes.Equal(torn, record(l[0])) || err != api.OK {
			t.Errorf("Torn = %v, %d", torn, err)
		}
		got, at, err := tape.Get(on)
		if !sameRecords(got, l) || at != 18 || err != api.OK {
			t.Errorf("Get = %v, %d, %d", got, at, err)
		}
		clear(longer[:cap(longer)]) // results that shared memory would show below, or in the next round
		clear(torn[:cap(torn)])
		clear(got[0][:cap(got[0])])
		if string(got[1]) != "two" {
			t.Errorf("after a change of the first record the second one is %v", got[1])
		}
		clear(got[1][:cap(got[1])])
		none, _ := tape.Torn(on, 0)
		clear(none[:cap(none)])
		all, _ := tape.Torn(on, 18)
		clear(all[:cap(all)])
	}
	if !bytes.Equal(whole, fresh()) || string(b) != "three, behind" {
		t.Errorf("after the calls the tape is %v, and the record %q", whole, b)
	}
}

func TestP3CallsDoNotSeeEarlierOnes(t *testing.T) {
	b := []byte("x")
	for range 3 {
		for _, x := range []byte("xyz") {
			b[0] = x // a record that was kept would show here
			on, err := tape.Put(nil, b)
			if !bytes.Equal(on, record(b)) || err != api.OK {
				t.Errorf("Put of %q = %v, %d", b, on, err)
			}
			if l, at, err := tape.Get(on); !sameRecords(l, [][]byte{{x}}) || at != 7 || err != api.OK {
				t.Errorf("Get of %q = %v, %d, %d", b, l, at, err)
			}
			if sum, err := tape.Sum(b); sum != wantSum(b) || err != api.OK {
				t.Errorf("Sum of %q = %d, %d", b, sum, err)
			}
			if torn, err := tape.Torn(b, 1); !bytes.Equal(torn, b) || err != api.OK {
				t.Errorf("Torn of %q = %v, %d", b, torn, err)
			}
		}
	}
}

func TestP4LongTapes(t *testing.T) {
	long := make([]byte, 1<<28)
	_, ofSum := tape.Sum(long)
	_, ofTape := tape.Put(long, long)
	_, ofRecord := tape.Put(nil, long)
	_, _, ofGet := tape.Get(long)
	_, ofTorn := tape.Torn(long, len(long))
	got := []api.Errno{ofSum, ofTape, ofRecord, ofGet, ofTorn}
	if want := []api.Errno{api.ErrMany, api.ErrMany, api.ErrWide, api.ErrMany, api.ErrMany}; !slices.Equal(got, want) {
		t.Errorf("errors of Sum, Put, Put, Get and Torn are %v, want %v", got, want)
	}
}
