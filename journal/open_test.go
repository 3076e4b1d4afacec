package journal_test

import (
	"math"
	"testing"

	"touchstone/api"
	"touchstone/journal"
	"touchstone/vfs"
)

// P4.2: what was made by hand as the chapter says is a journal.
func TestOpen(t *testing.T) {
	one := framed("a", "", long(300))
	f := laid(t, 20, "manifest", manifest(4, len(one), 13), "seg-000001", one, "seg-000002", framed("z"))
	j := open(t, f)
	wantRecords(t, j, "a", "", long(300), "z")
	wantSegments(t, j, len(one), 13)
	if j.Stopped() {
		t.Error("it is stopped")
	}
}

// P4.2: segments that count nothing, and whose files have nothing, are segments.
func TestOpenEmptySegments(t *testing.T) {
	f := laid(t, 20, "manifest", manifest(1, 0, 13, 0), "seg-000001", "", "seg-000002", framed("a"), "seg-000003", "more")
	j := open(t, f)
	wantRecords(t, j, "a")
	wantSegments(t, j, 0, 13, 0)
	add(t, j, "b")
	wantSegments(t, j, 0, 13, 13)
	wantFile(t, f, "seg-000003", framed("b"))
}

// P4.2, rule 4: of a store that no call made.
func TestOpenNil(t *testing.T) {
	for _, f := range []*vfs.FS{nil, {}} {
		if j, e := journal.Open(f); j != nil || e != api.ErrNil {
			t.Errorf("Open: %v, %v", j, e)
		}
		if r, e := journal.Fsck(f); r != (api.Report{}) || e != api.ErrNil {
			t.Errorf("Fsck: %v, %v", r, e)
		}
	}
}

// P4.2: a store without a manifest, whatever else it has.
func TestOpenNone(t *testing.T) {
	wantError(t, store(t, 4), api.ErrNone)
	wantError(t, laid(t, 4, "manifest.tmp", manifest(0), "seg-000001", framed("a")), api.ErrNone)
}

// P4.2: the power is told ahead of what is there.
func TestOpenPower(t *testing.T) {
	for _, f := range []*vfs.FS{store(t, 4), laid(t, 4, "manifest", "x"), laid(t, 4, "manifest", manifest(0))} {
		f.Power(0)
		f.SyncDir()
		wantError(t, f, api.ErrPower)
	}
}

// P4.2: bytes that are no manifest.
func TestOpenNoManifest(t *testing.T) {
	right := manifest(1, 13)
	for what, s := range map[string]string{
		"nothing":                     "",
		"other bytes":                 "this is no manifest",
		"a piece":                     right[:len(right)-1],
		"a piece of a head":           right[:7],
		"a byte more":                 right + "\x00",
		"two frames":                  right + right,
		"a frame more":                right + framed(""),
		"the record without a frame":  numbers(1, 13, 1),
		"a byte turned":               right[:8] + "\x02" + right[9:],
		"an empty record":             framed(""),
		"no count of records":         framed(numbers(1, 13)),
		"no count of segments":        framed(numbers(0)),
		"fewer segments":              framed(numbers(2, 13, 1)),
		"more behind":                 framed(numbers(1, 13, 1, 0)),
		"more segments":               framed(numbers(0, 13, 1)),
		"a number that does not end":  framed("\x01\x0D\x81"),
		"a number in another form":    framed("\x01\x8D\x00\x01"),
		"no number of 64 bits":        framed("\x01\x0D\xFF\xFF\xFF\xFF\xFF\xFF\xFF\xFF\xFF\x02"),
		"as many segments as go":      framed(numbers(math.MaxUint64, 13, 1)),
		"segments, below 0 as an int": framed(numbers(1<<63, 13, 1)),
		"very many segments":          framed(numbers(1<<40, 13, 1)),
		"fixed numbers":               framed("\x01\x00\x00\x00\x0D\x00\x00\x00\x01\x00\x00\x00"),
	} {
		t.Run(what, func(t *testing.T) {
			wantError(t, laid(t, 8, "manifest", s, "seg-000001", framed("a")), api.ErrBroken)
		})
	}
}

// P4.2: a segment's file that is not there, or has another name.
func TestOpenNoSegment(t *testing.T) {
	wantError(t, laid(t, 8, "manifest", manifest(1, 13)), api.ErrBroken)
	wantError(t, laid(t, 8, "manifest", manifest(0, 0)), api.ErrBroken)
	wantError(t, laid(t, 8, "manifest", manifest(2, 13, 13), "seg-000001", framed("a")), api.ErrBroken)
	wantError(t, laid(t, 8, "manifest", manifest(2, 13, 13), "seg-000002", framed("a")), api.ErrBroken)
	wantError(t, laid(t, 8, "manifest", manifest(2, 13, 13), "seg-000002", framed("a"), "seg-000003", framed("a")), api.ErrBroken)
	for _, name := range []string{"seg-1", "seg-01", "seg-00001", "seg-0000001", "seg-000000", "seg-000010", "seg-100000", "seg.000001", "000001"} {
		wantError(t, laid(t, 8, "manifest", manifest(1, 13), name, framed("a")), api.ErrBroken)
	}
}

// P4.2: a segment's file with fewer bytes than count.
func TestOpenShortSegment(t *testing.T) {
	s := framed("a", "b")
	for n := range len(s) {
		wantError(t, laid(t, 8, "manifest", manifest(2, len(s)), "seg-000001", s[:n]), api.ErrBroken)
	}
	for _, n := range []int{27, api.MaxFile, api.MaxFile + 1, 1 << 32, math.MaxInt} {
		wantError(t, laid(t, 8, "manifest", manifest(2, n), "seg-000001", s), api.ErrBroken)
	}
	for _, n := range []uint64{1 << 63, 1<<63 + 26, math.MaxUint64, 1<<32 + 26} {
		wantError(t, laid(t, 8, "manifest", framed(numbers(1, n, 2)), "seg-000001", s), api.ErrBroken)
	}
}

// P4.2: bytes behind those that count don't matter, whatever they are.
func TestOpenLongSegment(t *testing.T) {
	for _, more := range []string{"", "x", "\x00", framed("b"), framed("b")[:12], long(5000)} {
		f := laid(t, 20, "manifest", manifest(1, 13), "seg-000001", framed("a")+more)
		j := open(t, f)
		wantRecords(t, j, "a")
		wantSegments(t, j, 13)
		wantReport(t, f, api.Report{Segments: 1, Records: 1, Loose: len(more)})
	}
}

// P4.2: bytes that count, and are not whole frames and nothing else.
func TestOpenNoFrames(t *testing.T) {
	for _, s := range []string{"x", "no frame", framed("a")[:12], framed("a") + "x", framed("a")[1:], framed("a") + framed("b")[:12], "\x00" + framed("a"), long(26)} {
		wantError(t, laid(t, 8, "manifest", manifest(1, len(s)), "seg-000001", s), api.ErrBroken)
		wantError(t, laid(t, 8, "manifest", manifest(0, len(s)), "seg-000001", s), api.ErrBroken)
	}
	s := framed("a", "b")
	for n := 1; n < len(s); n++ {
		if n != 13 {
			wantError(t, laid(t, 8, "manifest", manifest(1, n), "seg-000001", s), api.ErrBroken)
		}
	}
	for i := range len(s) {
		turned := s[:i] + string([]byte{s[i] ^ 1}) + s[i+1:]
		wantError(t, laid(t, 8, "manifest", manifest(2, len(s)), "seg-000001", turned), api.ErrBroken)
	}
}

// P4.2: a frame does not go on in the next segment.
func TestOpenFrameInTwo(t *testing.T) {
	s := framed("a", "b")
	wantError(t, laid(t, 8, "manifest", manifest(2, 20, 6), "seg-000001", s[:20], "seg-000002", s[20:]), api.ErrBroken)
}

// P4.2: another number of records than the manifest tells.
func TestOpenOtherNumber(t *testing.T) {
	s := framed("a", "b")
	for _, n := range []uint64{0, 1, 3, 4000, 1 << 32, 1<<32 + 2, 1 << 63, math.MaxUint64} {
		wantError(t, laid(t, 8, "manifest", framed(numbers(1, 26, n)), "seg-000001", s), api.ErrBroken)
	}
	wantError(t, laid(t, 8, "manifest", manifest(1)), api.ErrBroken)
}

// P4.2: Open does one step, SyncDir; its error is Open's. Fsck does none.
func TestOpenSyncs(t *testing.T) {
	f := store(t, 8)
	write(t, f, "manifest", manifest(0))
	f.Fsync("manifest")
	f.Fail(0)
	wantReport(t, f, api.Report{})
	if j, e := journal.Open(f); j != nil || e != api.ErrIO {
		t.Fatalf("Open: %v, %v", j, e)
	}
	wantNames(t, f.Crash(nil))
	f.Fail(1)
	open(t, f)
	want(t, "what Fail(1) was for", f.SyncDir(), api.ErrIO)
	wantFile(t, f.Crash(nil), "manifest", manifest(0))
	f.Power(0)
	wantReport(t, f, api.Report{})
	if j, e := journal.Open(f); j != nil || e != api.ErrPower {
		t.Fatalf("Open: %v, %v", j, e)
	}
}

// P4.2: what is refused does no step.
func TestOpenRefusedSyncsNothing(t *testing.T) {
	for _, f := range []*vfs.FS{store(t, 4), laid(t, 4, "manifest", "x"), laid(t, 4, "manifest", manifest(1))} {
		f.Fail(0)
		if j, e := journal.Open(f); j != nil || e == api.OK || e == api.ErrIO {
			t.Fatalf("Open: %v, %v", j, e)
		}
		want(t, "what Fail(0) was for", f.SyncDir(), api.ErrIO)
	}
}
