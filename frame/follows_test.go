package frame_test

import (
	"encoding/binary"
	"math/rand/v2"
	"slices"
	"strings"
	"testing"

	"touchstone/api"
	"touchstone/frame"
)

// wantBeginning asks for the records whose frames are whole in the first n bytes of what Put makes of all.
func wantBeginning(t *testing.T, s string, n int, records []string) {
	t.Helper()
	whole, taken := 0, 0
	for whole < len(records) && taken+frame.Size(records[whole]) <= n {
		taken += frame.Size(records[whole])
		whole++
	}
	end := api.EndTorn
	if taken == n {
		end = api.EndClean
	}
	wantScan(t, s[:n], end, records[:whole]...)
}

// P3.3: Scan of Put, and of each beginning of it.
func TestBack(t *testing.T) {
	d := rand.New(rand.NewPCG(3, 2))
	for range 300 {
		l := someRecords(d, 8, 40)
		s := put(t, l...)
		wantScan(t, s, api.EndClean, l...)
		for n := range len(s) + 1 {
			wantBeginning(t, s, n, l)
		}
	}
}

// P3.3: also of long records, and of none.
func TestBackLong(t *testing.T) {
	d := rand.New(rand.NewPCG(3, 3))
	for _, l := range [][]string{
		nil, {""}, {"", "", ""}, {long(api.MaxRecord)}, {"a", long(api.MaxRecord), "", long(api.MaxRecord - 1)}, someRecords(d, 12, api.MaxRecord),
	} {
		s := put(t, l...)
		wantScan(t, s, api.EndClean, l...)
		for range 40 {
			wantBeginning(t, s, d.IntN(len(s)+1), l)
		}
	}
}

// P3.3: a record whose bytes are what frames are made of comes back as it is.
func TestBackOfFrames(t *testing.T) {
	l := []string{"a"}
	for range 8 {
		l = []string{put(t, l...), head(1), body("a"), "h", "b"}
		wantScan(t, put(t, l...), api.EndClean, l...)
	}
}

// regions of a frame, as places in it: the head's length, its sum, the record, its sum.
func regions(record string) [][2]int {
	n := headBytes + len(record)
	return [][2]int{{0, 4}, {4, headBytes}, {headBytes, n}, {n, n + sumBytes}}
}

// wantTurned turns bytes of the frame of records[k], and asks for the records ahead of it.
func wantTurned(t *testing.T, records []string, k, at int, by ...byte) {
	t.Helper()
	ahead := len(put(t, records[:k]...))
	wantScan(t, turned(put(t, records...), ahead+at, by...), api.EndBroken, records[:k]...)
}

// P3.4: each other byte at each place of a frame that stands first, between others, last, and alone.
func TestTurnedByte(t *testing.T) {
	for _, l := range [][]string{{"a"}, {""}, {"one", "", "three"}} {
		for k := range l {
			for at := range frame.Size(l[k]) {
				for by := 1; by < 256; by++ {
					wantTurned(t, l, k, at, byte(by))
				}
			}
		}
	}
}

// P3.4: one to four bytes that stand together, at all places of each of a frame's four parts.
func TestTurned(t *testing.T) {
	d := rand.New(rand.NewPCG(3, 4))
	l := []string{"", "some record", "x", "\x00\xFF\x00\xFF\x00", "", strings.Repeat("\x00", 20)}
	for k := range l {
		for _, r := range regions(l[k]) {
			for n := 1; n <= 4; n++ {
				for at := r[0]; at+n <= r[1]; at++ {
					for range 60 {
						by := make([]byte, n)
						for i := range by {
							by[i] = byte(1 + d.IntN(255))
						}
						wantTurned(t, l, k, at, by...)
					}
				}
			}
		}
	}
}

// P3.4: a length that is turned into another one, of which there is as much, less, or more than Scan may take.
func TestTurnedLength(t *testing.T) {
	l := []string{"abc", "def", long(100)}
	for k := range l {
		for _, n := range []uint32{0, 1, 2, 4, 15, 99, 101, 200, 300, api.MaxRecord, api.MaxRecord + 1, 1 << 16, 1 << 24, 1 << 31, 1<<32 - 1} {
			by := binary.LittleEndian.AppendUint32(nil, n^uint32(len(l[k])))
			wantTurned(t, l, k, 0, by...)
		}
	}
}

// P3.4: bytes of a long record, and its sum.
func TestTurnedLong(t *testing.T) {
	d := rand.New(rand.NewPCG(3, 5))
	record := long(api.MaxRecord)
	s := framed("a", record)
	for range 200 {
		by := make([]byte, 1+d.IntN(4))
		for i := range by {
			by[i] = byte(1 + d.IntN(255))
		}
		for _, r := range regions(record) {
			at := r[0] + d.IntN(r[1]-r[0]-len(by)+1)
			wantScan(t, turned(s, frame.Size("a")+at, by...), api.EndBroken, "a")
		}
	}
}

// someBytes are pieces of frames, right and wrong, in any order.
func someBytes(d *rand.Rand) string {
	s := ""
	for range d.IntN(6) {
		switch d.IntN(8) {
		case 0:
			s += someText(d, 12)
		case 1:
			s += head(uint32(d.IntN(6)))
		case 2:
			s += head(api.MaxRecord - 1 + uint32(d.IntN(3)))
		case 3:
			whole := framed(someText(d, 5))
			s += turned(whole, d.IntN(len(whole)), byte(d.IntN(256)))
		case 4:
			whole := framed(someText(d, 5))
			s += whole[:d.IntN(len(whole))]
		default:
			s += framed(someText(d, 5))
		}
	}
	return s
}

// scanned is what the chapter says of Scan, told a second time: the frame of each record that may stand there is tried.
func scanned(s string) ([]string, int, int) {
	left := s
	var l []string
	for left != "" {
		n := -1
		if len(left) >= headBytes {
			n = int(binary.LittleEndian.Uint32([]byte(left)))
		}
		switch {
		case len(left) < headBytes:
			return l, len(s) - len(left), api.EndTorn
		case n > api.MaxRecord || !strings.HasPrefix(left, head(uint32(n))):
			return l, len(s) - len(left), api.EndBroken
		case len(left) < n+12:
			return l, len(s) - len(left), api.EndTorn
		case !strings.HasPrefix(left, framed(left[headBytes:headBytes+n])):
			return l, len(s) - len(left), api.EndBroken
		}
		l = append(l, left[headBytes:headBytes+n])
		left = left[n+12:]
	}
	return l, len(s), api.EndClean
}

// P3.2, P1: any bytes are told as the chapter says, and no call panics.
func TestScanAny(t *testing.T) {
	d := rand.New(rand.NewPCG(3, 6))
	ends := [3]int{}
	for range 50000 {
		s := someBytes(d)
		l, n, end := scanned(s)
		got, gotN, gotEnd := frame.Scan(s)
		if !slices.Equal(got, l) || gotN != n || gotEnd != end {
			t.Fatalf("Scan(% X): %q, %d, %d, not %q, %d, %d", s, got, gotN, gotEnd, l, n, end)
		}
		ends[end]++
	}
	if slices.Min(ends[:]) < 1000 {
		t.Fatalf("some end is hardly tried: %v", ends)
	}
}

// P3.5: what stands behind what Scan took changes how it ends, and what follows, alone.
func TestMoreBehind(t *testing.T) {
	d := rand.New(rand.NewPCG(3, 7))
	for range 20000 {
		s := someBytes(d)
		l, n, _ := frame.Scan(s)
		wantScan(t, s[:n], api.EndClean, l...)
		behind := someBytes(d)
		got, gotN, end := frame.Scan(s[:n] + behind)
		more, moreN, moreEnd := frame.Scan(behind)
		if !slices.Equal(got, append(slices.Clone(l), more...)) || gotN != n+moreN || end != moreEnd {
			t.Fatalf("Scan(% X, % X): %q, %d, %d, not %q and %q, %d and %d, %d", s[:n], behind, got, gotN, end, l, more, n, moreN, moreEnd)
		}
		got, gotN, _ = frame.Scan(s + behind)
		if len(got) < len(l) || !slices.Equal(got[:len(l)], l) || gotN < n {
			t.Fatalf("Scan(% X, % X): %q, %d; ahead it was %q, %d", s, behind, got, gotN, l, n)
		}
	}
}

// P3.5: so it is with bytes that are no frame, and with pieces of one, behind each beginning that was taken.
func TestMoreBehindWhole(t *testing.T) {
	l := []string{"a", "", "bc", long(300)}
	for k := range len(l) + 1 {
		s := put(t, l[:k]...)
		for _, more := range []struct {
			left string
			end  int
		}{
			{"", api.EndClean}, {"\x00", api.EndTorn}, {"no fram", api.EndTorn}, {"no frame", api.EndBroken}, {strings.Repeat("\x00", 600), api.EndBroken},
			{head(3), api.EndTorn}, {framed("abc")[:14], api.EndTorn}, {turned(framed("abc"), 9, 1), api.EndBroken}, {turned(framed("abc"), 0, 1), api.EndBroken},
		} {
			wantScan(t, s+more.left, more.end, l[:k]...)
		}
		wantScan(t, s+framed("new")+"\x00", api.EndTorn, append(slices.Clone(l[:k]), "new")...)
	}
}
