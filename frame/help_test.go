package frame_test

import (
	"encoding/binary"
	"hash/crc32"
	"math/rand/v2"
	"slices"
	"strings"
	"testing"

	"touchstone/api"
	"touchstone/frame"
)

const (
	headBytes = 8
	sumBytes  = 4
)

// number and sum tell the chapter's words a second time, by other means than the program's.
func number(x uint32) string { return string(binary.LittleEndian.AppendUint32(nil, x)) }

func sum(s string) string {
	return number(crc32.Checksum([]byte(s), crc32.MakeTable(crc32.Castagnoli)))
}

func head(n uint32) string { return number(n) + sum(number(n)+"h") }

func body(record string) string { return record + sum(record+"b") }

func framed(records ...string) string {
	s := ""
	for _, record := range records {
		s += head(uint32(len(record))) + body(record)
	}
	return s
}

// turned has other bytes at a place: what is there, exclusive or by.
func turned(s string, at int, by ...byte) string {
	b := []byte(s)
	for i := range by {
		b[at+i] ^= by[i]
	}
	return string(b)
}

func long(n int) string { return strings.Repeat("x", n) }

func someText(d *rand.Rand, most int) string {
	b := make([]byte, d.IntN(most+1))
	for i := range b {
		b[i] = byte(d.Uint32())
	}
	return string(b)
}

func someRecords(d *rand.Rand, most, bytes int) []string {
	var l []string
	for range d.IntN(most + 1) {
		l = append(l, someText(d, bytes))
	}
	return l
}

func put(t *testing.T, records ...string) string {
	t.Helper()
	s, e := frame.Put(records...)
	if e != api.OK {
		t.Fatalf("Put(%.80q): %v", records, e)
	}
	return s
}

func wantPut(t *testing.T, s string, records ...string) {
	t.Helper()
	if got := put(t, records...); got != s {
		t.Fatalf("Put(%.80q): % .80X (%d bytes), not % .80X (%d)", records, got, len(got), s, len(s))
	}
}

func wantLimit(t *testing.T, records ...string) {
	t.Helper()
	if s, e := frame.Put(records...); s != "" || e != api.ErrLimit {
		t.Fatalf("Put: %d bytes, %v, not none, %v", len(s), e, api.ErrLimit)
	}
}

// wantScan asks for some records whose frames stand first in s, and for how it ends behind them.
func wantScan(t *testing.T, s string, end int, records ...string) {
	t.Helper()
	n := 0
	for _, record := range records {
		n += len(record) + 12
	}
	got, gotN, gotEnd := frame.Scan(s)
	if !slices.Equal(got, records) || gotN != n || gotEnd != end {
		t.Fatalf("Scan(% .80X) (%d bytes): %d records %.80q, %d bytes, end %d, not %d records %.80q, %d bytes, end %d",
			s, len(s), len(got), got, gotN, gotEnd, len(records), records, n, end)
	}
}

// wantBehind asks for how it ends with what is left, behind no frame and behind whole frames.
func wantBehind(t *testing.T, left string, end int) {
	t.Helper()
	for _, records := range [][]string{nil, {""}, {"a"}, {"a", "", "bc"}, {long(300), "\x00\xFF"}} {
		wantScan(t, framed(records...)+left, end, records...)
	}
}
