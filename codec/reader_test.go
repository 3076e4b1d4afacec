package codec_test

import (
	"math"
	"strings"
	"testing"

	"touchstone/codec"
)

func wantU(t *testing.T, r *codec.Reader, x uint64) {
	t.Helper()
	if got := r.U(); got != x {
		t.Fatalf("U: %d, not %d", got, x)
	}
}

func wantI(t *testing.T, r *codec.Reader, n int) {
	t.Helper()
	if got := r.I(); got != n {
		t.Fatalf("I: %d, not %d", got, n)
	}
}

func wantT(t *testing.T, r *codec.Reader, s string) {
	t.Helper()
	if got := r.T(); got != s {
		t.Fatalf("T: %.80q, not %.80q", got, s)
	}
}

// wantState asks twice, as looks change nothing.
func wantState(t *testing.T, r *codec.Reader, bad, done bool) {
	t.Helper()
	for range 2 {
		if r.Bad() != bad || r.Done() != done {
			t.Fatalf("Bad, Done: %v, %v, not %v, %v", r.Bad(), r.Done(), bad, done)
		}
	}
}

// wantBad asks for a reader that is bad, and stays so whatever is read.
func wantBad(t *testing.T, r *codec.Reader) {
	t.Helper()
	wantState(t, r, true, false)
	for range 3 {
		wantU(t, r, 0)
		wantI(t, r, 0)
		wantT(t, r, "")
		wantState(t, r, true, false)
	}
}

// P2.4: numbers, one behind the other, to the end.
func TestReaderU(t *testing.T) {
	all := ""
	for _, n := range numbers {
		all += n.bytes
	}
	r := codec.NewReader(all)
	for _, n := range numbers {
		wantState(t, r, false, false)
		wantU(t, r, n.x)
	}
	wantState(t, r, false, true)
	wantU(t, r, 0)
	wantBad(t, r)
}

// P2.4: zigzags, up to the least and the greatest int.
func TestReaderI(t *testing.T) {
	r := codec.NewReader("\x00\x01\x02\x7F\x80\x01" +
		"\xFF\xFF\xFF\xFF\xFF\xFF\xFF\xFF\xFF\x01" + "\xFE\xFF\xFF\xFF\xFF\xFF\xFF\xFF\xFF\x01")
	for _, n := range []int{0, -1, 1, -64, 64, math.MinInt, math.MaxInt} {
		wantState(t, r, false, false)
		wantI(t, r, n)
	}
	wantState(t, r, false, true)
	wantI(t, r, 0)
	wantBad(t, r)
}

// P2.4: texts, with any bytes, also none.
func TestReaderT(t *testing.T) {
	long := strings.Repeat("\xFFy", 100)
	r := codec.NewReader("\x01a\x00\x02bc\x04\xC3\xA4\x00\xFF\xC8\x01" + long + "\x00")
	for _, s := range []string{"a", "", "bc", "ä\x00\xFF", long, ""} {
		wantState(t, r, false, false)
		wantT(t, r, s)
	}
	wantState(t, r, false, true)
	wantT(t, r, "")
	wantBad(t, r)
}

// P2.4: each call goes on where the one ahead of it stopped.
func TestReaderOrder(t *testing.T) {
	r := codec.NewReader("\x02ab\x01\x03\x02\x01c\x03")
	wantT(t, r, "ab")
	wantU(t, r, 1)
	wantI(t, r, -2)
	wantI(t, r, 1)
	wantT(t, r, "c")
	wantState(t, r, false, false)
	wantU(t, r, 3)
	wantState(t, r, false, true)
}

// P2.4: a number that stands for something else is one all the same.
func TestReaderOtherwise(t *testing.T) {
	s := "\x03abc"
	r := codec.NewReader(s)
	wantI(t, r, -2)
	wantU(t, r, 'a')
	wantI(t, r, 'b'/2)
	wantU(t, r, 'c')
	wantState(t, r, false, true)
}

// P2.4: of no bytes nothing is left, and nothing can be read.
func TestReaderOfNothing(t *testing.T) {
	for _, read := range []func(r *codec.Reader){
		func(r *codec.Reader) { wantU(t, r, 0) },
		func(r *codec.Reader) { wantI(t, r, 0) },
		func(r *codec.Reader) { wantT(t, r, "") },
	} {
		r := codec.NewReader("")
		wantState(t, r, false, true)
		read(r)
		wantBad(t, r)
	}
}

// P2.4: where no number stands, U, I and T alike spoil the reader, though more stands behind.
func TestReaderBadNumbers(t *testing.T) {
	for _, s := range []string{
		"\x80", "\xFF\xFF", strings.Repeat("\x80", 9), // they don't end
		"\x80\x00", "\xFF\x00", "\x80\x80\x00", strings.Repeat("\xFF", 9) + "\x00", // a last byte 0 behind others
		strings.Repeat("\xFF", 9) + "\x02", strings.Repeat("\x80", 9) + "\x7F", // more than 64 bits
		strings.Repeat("\x80", 10) + "\x01", strings.Repeat("\x80", 10) + "\x00", strings.Repeat("\xFF", 11), // more than ten
	} {
		ends := []string{""}
		if s[len(s)-1] < 0x80 {
			ends = append(ends, "\x01", "\x01a", "\x00\x00")
		}
		for _, end := range ends {
			r := codec.NewReader("\x01" + s + end)
			wantU(t, r, 1)
			wantU(t, r, 0)
			wantBad(t, r)
			r = codec.NewReader("\x01" + s + end)
			wantI(t, r, -1)
			wantI(t, r, 0)
			wantBad(t, r)
			r = codec.NewReader("\x01a" + s + end)
			wantT(t, r, "a")
			wantT(t, r, "")
			wantBad(t, r)
		}
	}
}

// P2.4: a text that is shorter than its length says is none, and what stands behind the length is not read either.
func TestReaderShortTexts(t *testing.T) {
	for _, s := range []string{
		"\x01", "\x02a", "\x03\x01\x01", "\x7F" + strings.Repeat("x", 126), "\x80\x01" + strings.Repeat("x", 127),
		codec.Uvarint(math.MaxInt32) + "\x01", codec.Uvarint(math.MaxUint32) + "\x01", codec.Uvarint(1<<32) + "\x01",
		codec.Uvarint(math.MaxInt64) + "\x01", codec.Uvarint(1<<63) + "\x01", codec.Uvarint(1<<63+1) + "\x01",
		codec.Uvarint(math.MaxUint64) + "\x01", codec.Uvarint(math.MaxUint64-1) + "\x01", codec.Uvarint(math.MaxUint64),
	} {
		r := codec.NewReader("\x02ab" + s)
		wantT(t, r, "ab")
		wantState(t, r, false, false)
		wantT(t, r, "")
		wantBad(t, r)
	}
}

// P2.4: two Readers of the same bytes have nothing in common.
func TestReaders(t *testing.T) {
	s := "\x01\x02"
	a, b := codec.NewReader(s), codec.NewReader(s)
	wantU(t, a, 1)
	wantU(t, a, 2)
	wantU(t, a, 0)
	wantBad(t, a)
	wantState(t, b, false, false)
	wantU(t, b, 1)
	wantU(t, b, 2)
	wantState(t, b, false, true)
}

// P2.4: a nil Reader is bad.
func TestReaderNil(t *testing.T) {
	var r *codec.Reader
	wantBad(t, r)
}
