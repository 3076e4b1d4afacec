package codec_test

import (
	"math"
	"slices"
	"strings"
	"testing"

	"touchstone/codec"
)

func wantBytes(t *testing.T, w *codec.Writer, s string) {
	t.Helper()
	if got := w.String(); got != s {
		t.Fatalf("String: %.80q (%d bytes), not %.80q (%d)", got, len(got), s, len(s))
	}
}

// P2.3: numbers' bytes go behind all so far.
func TestWriterU(t *testing.T) {
	w, all := &codec.Writer{}, ""
	for _, n := range numbers {
		w.U(n.x)
		all += n.bytes
		wantBytes(t, w, all)
	}
	w.U(300, 0, math.MaxUint64, 127)
	wantBytes(t, w, all+"\xAC\x02\x00\xFF\xFF\xFF\xFF\xFF\xFF\xFF\xFF\xFF\x01\x7F")
}

// P2.3: numbers that may be below 0 are written as zigzags.
func TestWriterI(t *testing.T) {
	w := &codec.Writer{}
	w.I(0, -1, 1)
	wantBytes(t, w, "\x00\x01\x02")
	w.I(63)
	w.I(-64, 64)
	wantBytes(t, w, "\x00\x01\x02\x7E\x7F\x80\x01")
	w.I(math.MinInt, math.MaxInt)
	nines := strings.Repeat("\xFF", 8)
	wantBytes(t, w, "\x00\x01\x02\x7E\x7F\x80\x01\xFF"+nines+"\x01\xFE"+nines+"\x01")
}

// P2.3: a text's bytes are the bytes of how many it has, and it.
func TestWriterT(t *testing.T) {
	w := &codec.Writer{}
	w.T("")
	wantBytes(t, w, "\x00")
	w.T("a", "", "bc")
	wantBytes(t, w, "\x00\x01a\x00\x02bc")
	w.T("ä\x00\xFF")
	wantBytes(t, w, "\x00\x01a\x00\x02bc\x04\xC3\xA4\x00\xFF")
	for _, n := range []int{127, 128, 300, 1 << 14, 70000} {
		s := strings.Repeat("x", n)
		w = &codec.Writer{}
		w.T(s)
		wantBytes(t, w, codec.Uvarint(uint64(n))+s)
	}
}

// P2.3: all calls write to one place, in their order; those of nothing write nothing.
func TestWriterOrder(t *testing.T) {
	var w codec.Writer
	wantBytes(t, &w, "")
	w.U()
	w.I()
	w.T()
	w.U(nil...)
	w.I([]int{}...)
	w.T(nil...)
	wantBytes(t, &w, "")
	w.T("ab")
	w.U(1, 2)
	w.I(1, -2)
	w.U()
	w.T("c")
	w.U(3)
	wantBytes(t, &w, "\x02ab\x01\x02\x02\x03\x01c\x03")
}

// P2.3: String looks, and changes nothing; what it gave stays as it was.
func TestWriterLooks(t *testing.T) {
	w := &codec.Writer{}
	var given []string
	for i := range 100 {
		w.U(uint64(i))
		given = append(given, w.String())
		wantBytes(t, w, given[i])
	}
	for i, s := range given {
		if len(s) != i+1 || s != given[99][:i+1] {
			t.Fatalf("the bytes of %d numbers are now % X", i+1, s)
		}
	}
}

// P2.3: two Writers have nothing in common.
func TestWriters(t *testing.T) {
	a, b := &codec.Writer{}, &codec.Writer{}
	a.T("a")
	b.U(7)
	a.I(-1)
	wantBytes(t, a, "\x01a\x01")
	wantBytes(t, b, "\x07")
}

// Rule 3: what is handed in is not changed, nor kept.
func TestWriterKeepsNothing(t *testing.T) {
	w := &codec.Writer{}
	u, i, s := []uint64{300, 1}, []int{-1, 1}, []string{"a", "bc"}
	w.U(u...)
	w.I(i...)
	w.T(s...)
	if !slices.Equal(u, []uint64{300, 1}) || !slices.Equal(i, []int{-1, 1}) || !slices.Equal(s, []string{"a", "bc"}) {
		t.Fatal(u, i, s)
	}
	u[0], i[0], s[0] = 9, 9, "z"
	wantBytes(t, w, "\xAC\x02\x01\x01\x02\x01a\x02bc")
}

// P2.3: to a nil Writer nothing is written.
func TestWriterNil(t *testing.T) {
	var w *codec.Writer
	wantBytes(t, w, "")
	w.U(1, 2)
	w.I(-1)
	w.T("a", "")
	w.U()
	w.I()
	w.T()
	wantBytes(t, w, "")
}
