package frame_test

import (
	"math/rand/v2"
	"slices"
	"testing"

	"touchstone/api"
	"touchstone/frame"
)

// P3.1: the bytes of frames that are known.
func TestPut(t *testing.T) {
	wantPut(t, "\x01\x00\x00\x00\x34\xD2\x7C\x96a\x36\x29\xA2\xE2", "a")
	wantPut(t, "\x00\x00\x00\x00\x98\xBD\x6D\xAE\xC4\xB0\x80\xD2", "")
	wantPut(t, "\x0C\x00\x00\x00\xB9\x08\x4F\x8Btouchstone\x00\xFF\xB9\x55\x25\x4F", "touchstone\x00\xFF")
	if s := put(t, "a"); len(s) != 13 || s[:4] != "\x01\x00\x00\x00" || s[8] != 'a' {
		t.Errorf("% X", s)
	}
}

// P3.1: a length has four bytes, the lowest first; the sums are those of the length with h, and of the record with b.
func TestPutOne(t *testing.T) {
	for _, record := range []string{"", "a", "h", "b", "\x00", "\xFF", "ä\x00\xFF", long(255), long(256), long(300), long(4096), long(59999), framed("a")} {
		wantPut(t, framed(record), record)
	}
}

// P3.1: of no record there is no frame, and no error.
func TestPutNothing(t *testing.T) {
	wantPut(t, "")
	wantPut(t, "", []string{}...)
	wantPut(t, "", nil...)
}

// P3.1: frames stand one behind the other, in the records' order.
func TestPutMany(t *testing.T) {
	wantPut(t, framed("a")+framed("b"), "a", "b")
	wantPut(t, framed("b")+framed("a"), "b", "a")
	wantPut(t, framed("")+framed("")+framed(""), "", "", "")
	wantPut(t, framed("a")+framed("")+framed("a")+framed(long(1000)), "a", "", "a", long(1000))
	d := rand.New(rand.NewPCG(3, 1))
	for range 300 {
		l := someRecords(d, 20, 100)
		wantPut(t, framed(l...), l...)
	}
}

// P3.1: a record of MaxRecord bytes has a frame, one of MaxRecord + 1 has none.
func TestPutLimit(t *testing.T) {
	most := long(api.MaxRecord)
	wantPut(t, framed(most), most)
	wantPut(t, framed(most, "a", most), most, "a", most)
	wantPut(t, framed(most[1:]), most[1:])
	wantLimit(t, most+"x")
	wantLimit(t, most+most)
	wantLimit(t, long(1<<16))
	wantLimit(t, long(1<<20))
}

// P3.1: one record that is too long, wherever it stands, refuses all.
func TestPutLimitAmong(t *testing.T) {
	much := long(api.MaxRecord + 1)
	wantLimit(t, much, "a", "b")
	wantLimit(t, "a", much, "b")
	wantLimit(t, "a", "b", much)
	wantLimit(t, "", much)
	wantLimit(t, much, much)
	wantLimit(t, "a", much, long(api.MaxRecord), much)
	// The call that was refused left nothing behind.
	wantPut(t, framed("a"), "a")
}

// P3.1: a frame has 12 bytes more than its record, also than one that Put refuses.
func TestSize(t *testing.T) {
	for _, n := range []int{0, 1, 2, 11, 12, 127, 128, 255, 256, 4096, api.MaxRecord - 1, api.MaxRecord, api.MaxRecord + 1, 1 << 16, 1 << 20} {
		if got := frame.Size(long(n)); got != n+12 {
			t.Errorf("Size of %d bytes: %d", n, got)
		}
	}
	if got := frame.Size("ä\x00"); got != 15 {
		t.Errorf("Size of three bytes: %d", got)
	}
	for _, record := range []string{"", "a", long(300), long(api.MaxRecord)} {
		if s := put(t, record); len(s) != frame.Size(record) {
			t.Errorf("Put of %d bytes: %d, Size: %d", len(record), len(s), frame.Size(record))
		}
	}
}

// Rule 3: what is handed in is not changed, nor kept.
func TestPutKeepsNothing(t *testing.T) {
	l := []string{"a", "", "bc"}
	s := put(t, l...)
	if !slices.Equal(l, []string{"a", "", "bc"}) {
		t.Fatalf("%q", l)
	}
	l[0], l[2] = "z", "y"
	if s != framed("a", "", "bc") {
		t.Fatalf("% X", s)
	}
}
