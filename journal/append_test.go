package journal_test

import (
	"fmt"
	"slices"
	"testing"

	"touchstone/api"
	"touchstone/journal"
)

// P4.3, example 1: records stand behind one another, in one segment and in the manifest.
func TestAppend(t *testing.T) {
	f, j := fresh(t, 8)
	add(t, j, "a")
	wantRecords(t, j, "a")
	wantSegments(t, j, 13)
	wantNames(t, f, "manifest", "seg-000001")
	wantFile(t, f, "manifest", manifest(1, 13))
	wantFile(t, f, "seg-000001", framed("a"))
	add(t, j, "b")
	wantRecords(t, j, "a", "b")
	wantSegments(t, j, 26)
	wantNames(t, f, "manifest", "seg-000001")
	wantFile(t, f, "manifest", manifest(2, 26))
	wantFile(t, f, "seg-000001", framed("a", "b"))
	wantReport(t, f, api.Report{Segments: 1, Records: 2})
}

// P4.3: any bytes are a record, none too, and one may come twice.
func TestAppendAny(t *testing.T) {
	f, j := fresh(t, 40)
	l := []string{"", "a", "", "\x00\xFF\n", "a", framed("a"), manifest(1, 13), "ä", long(3000)}
	add(t, j, l...)
	wantRecords(t, j, l...)
	wantSegments(t, j, placed(l...)...)
	wantRecords(t, open(t, f.Crash(nil)), l...)
}

// P4.3: one who has no journal.
func TestAppendNil(t *testing.T) {
	var none *journal.Journal
	for _, j := range []*journal.Journal{none, {}} {
		want(t, "a record", j.Append("a"), api.ErrNil)
		want(t, "one that is too long", j.Append(long(api.MaxRecord+1)), api.ErrNil)
	}
}

// P4.3: a record of MaxRecord bytes is taken, one more is not, and leaves all as it was.
func TestAppendMaxRecord(t *testing.T) {
	f, j := fresh(t, 300)
	add(t, j, "a")
	before := told(f)
	f.Fail(0)
	want(t, "one more", j.Append(long(api.MaxRecord+1)), api.ErrLimit)
	want(t, "far more", j.Append(long(api.MaxFile)), api.ErrLimit)
	want(t, "what Fail(0) was for", f.SyncDir(), api.ErrIO)
	if now := told(f); now != before {
		t.Fatal("the store was changed")
	}
	if j.Stopped() {
		t.Fatal("it is stopped")
	}
	wantRecords(t, j, "a")
	most := long(api.MaxRecord)
	add(t, j, most)
	wantSegments(t, j, 13+60012)
	add(t, j, most)
	wantSegments(t, j, 13+60012, 60012)
	wantRecords(t, open(t, f.Crash(nil)), "a", most, most)
}

// P4.3: a segment takes one more record as long as it counts less than MaxSegment bytes.
func TestAppendMaxSegment(t *testing.T) {
	for _, n := range []int{4094, 4095} {
		f, j := fresh(t, 300)
		add(t, j, filling(n))
		wantSegments(t, j, n)
		add(t, j, "a")
		wantSegments(t, j, n+13)
		add(t, j, "b")
		wantSegments(t, j, n+13, 13)
		wantFile(t, f, "seg-000001", framed(filling(n), "a"))
		wantFile(t, f, "seg-000002", framed("b"))
		wantFile(t, f, "manifest", manifest(3, n+13, 13))
	}
	for _, n := range []int{4096, 4097} {
		f, j := fresh(t, 300)
		add(t, j, filling(n))
		wantSegments(t, j, n)
		add(t, j, "a")
		wantSegments(t, j, n, 13)
		wantFile(t, f, "seg-000001", framed(filling(n)))
		wantFile(t, f, "seg-000002", framed("a"))
		wantNames(t, f, "manifest", "seg-000001", "seg-000002")
		wantRecords(t, open(t, f.Crash(nil)), filling(n), "a")
	}
}

// P4.3: a segment that counts just below MaxSegment bytes takes also the longest record.
func TestAppendLongestToSegment(t *testing.T) {
	f, j := fresh(t, 300)
	add(t, j, filling(4095), long(api.MaxRecord), "a")
	wantSegments(t, j, 4095+60012, 13)
	wantRecords(t, open(t, f.Crash(nil)), filling(4095), long(api.MaxRecord), "a")
}

// P4.3: segments have six digits, all of them, and go on behind one another.
func TestAppendManySegments(t *testing.T) {
	f, j := fresh(t, api.MaxDisk)
	names := []string{"manifest"}
	var l []string
	for i := range 120 {
		l = append(l, filling(4096)[:4083]+string(rune('a'+i%26)))
		names = append(names, fmt.Sprintf("seg-%06d", i+1))
	}
	add(t, j, l...)
	wantNames(t, f, names...)
	wantSegments(t, j, slices.Repeat([]int{4096}, 120)...)
	wantFile(t, f, "seg-000120", framed(l[119]))
	wantRecords(t, open(t, f.Crash(nil)), l...)
	wantReport(t, f, api.Report{Segments: 120, Records: 120})
}

// P4.3: MaxRecords records are taken, and not one more.
func TestAppendMaxRecords(t *testing.T) {
	f, j := fresh(t, api.MaxDisk)
	var l []string
	for i := range api.MaxRecords {
		l = append(l, fmt.Sprint(i))
		add(t, j, l[i])
	}
	wantSegments(t, j, placed(l...)...)
	f.Fail(0)
	want(t, "one more", j.Append("a"), api.ErrLimit)
	want(t, "none of it", j.Append(""), api.ErrLimit)
	want(t, "too long, too", j.Append(long(api.MaxRecord+1)), api.ErrLimit)
	if j.Stopped() {
		t.Fatal("it is stopped")
	}
	want(t, "what Fail(0) was for", f.SyncDir(), api.ErrIO)
	wantRecords(t, j, l...)
	again := open(t, f)
	wantRecords(t, again, l...)
	want(t, "one more, opened anew", again.Append("a"), api.ErrLimit)
	wantReport(t, f, api.Report{Segments: len(j.Segments()), Records: api.MaxRecords})
}

// P4.3: the last one that may be is taken behind all that an opened journal has.
func TestAppendLastOne(t *testing.T) {
	for _, n := range []int{api.MaxRecords - 1, api.MaxRecords, api.MaxRecords + 1} {
		s := framed(slices.Repeat([]string{"r"}, n)...)
		f := laid(t, 300, "manifest", manifest(n, len(s)), "seg-000001", s)
		j := open(t, f)
		if n < api.MaxRecords {
			add(t, j, "last")
			wantSegments(t, j, len(s), 16)
		}
		want(t, "one more", j.Append("a"), api.ErrLimit)
	}
}

// P4.3: what the last segment's file has behind the bytes that count is cut off, also if the frame is shorter than that.
func TestAppendOverLoose(t *testing.T) {
	for _, more := range []string{"x", framed("old"), framed("old")[:5], long(13), long(14), long(3000)} {
		f := laid(t, 20, "manifest", manifest(1, 13), "seg-000001", framed("a")+more)
		j := open(t, f)
		add(t, j, "b")
		wantFile(t, f, "seg-000001", framed("a", "b"))
		wantSegments(t, j, 26)
		wantReport(t, f, api.Report{Segments: 1, Records: 2})
		wantRecords(t, open(t, f.Crash(nil)), "a", "b")
	}
}

// P4.3: a segment's file that is there ahead of its segment is made empty.
func TestAppendOverFile(t *testing.T) {
	for _, old := range []string{"", "x", framed("old"), long(3000)} {
		f := laid(t, 20, "manifest", manifest(0), "seg-000001", old)
		j := open(t, f)
		add(t, j, "a")
		wantFile(t, f, "seg-000001", framed("a"))
		wantRecords(t, open(t, f.Crash(nil)), "a")
		full := framed(filling(4096))
		f = laid(t, 40, "manifest", manifest(1, 4096), "seg-000001", full+"more", "seg-000002", old, "seg-000003", "z")
		j = open(t, f)
		add(t, j, "a")
		wantSegments(t, j, 4096, 13)
		wantFile(t, f, "seg-000001", full+"more")
		wantFile(t, f, "seg-000002", framed("a"))
		wantFile(t, f, "seg-000003", "z")
		wantReport(t, f, api.Report{Segments: 2, Records: 2, Loose: 4, Strange: 1})
	}
}

// P4.3: what manifest.tmp has is cut off ahead of the manifest.
func TestAppendOverDraft(t *testing.T) {
	for _, old := range []string{"", "x", manifest(7, 1, 2, 3), long(3000)} {
		f := laid(t, 20, "manifest", manifest(0), "manifest.tmp", old)
		j := open(t, f)
		add(t, j, "a")
		wantNames(t, f, "manifest", "seg-000001")
		wantFile(t, f, "manifest", manifest(1, 13))
		wantRecords(t, open(t, f.Crash(nil)), "a")
	}
}

// P4.3: a last segment's file that lost bytes that count is told by the step's error, and stops the journal.
func TestAppendBehindLostBytes(t *testing.T) {
	for _, lose := range []func() (*journal.Journal, api.Errno){
		func() (*journal.Journal, api.Errno) {
			f := laid(t, 8, "manifest", manifest(1, 13), "seg-000001", framed("a"))
			j := open(t, f)
			return j, f.Truncate("seg-000001", 12)
		},
		func() (*journal.Journal, api.Errno) {
			f := laid(t, 8, "manifest", manifest(1, 13), "seg-000001", framed("a"))
			j := open(t, f)
			return j, f.Remove("seg-000001")
		},
	} {
		j, e := lose()
		want(t, "the loss", e, api.OK)
		want(t, "Append", j.Append("b"), api.ErrArg)
		if !j.Stopped() {
			t.Error("it is not stopped")
		}
		wantRecords(t, j, "a")
	}
}

// P1, P4.3: a manifest that has no room in a frame is refused ahead of all steps.
func TestAppendNoRoomInManifest(t *testing.T) {
	n := api.MaxRecord - 3 - 2
	files := []string{"manifest", manifest(2, append(slices.Repeat([]int{0}, n-1), 127)...)}
	for i := range n - 1 {
		files = append(files, segment(i+1), "")
	}
	s := framed("a", filling(114))
	f := laid(t, 300, append(files, segment(n), s)...)
	j := open(t, f)
	wantRecords(t, j, "a", filling(114))
	add(t, j, "b")
	f.Fail(0)
	wantRecords(t, j, "a", filling(114), "b")
	big := long(1 << 14)
	want(t, "one byte too many", j.Append(big), api.ErrLimit)
	if j.Stopped() {
		t.Error("it is stopped")
	}
	want(t, "what Fail(0) was for", f.SyncDir(), api.ErrIO)
	wantRecords(t, j, "a", filling(114), "b")
	wantRecords(t, open(t, f), "a", filling(114), "b")
}

// Rule 3: what is handed in and out is nobody else's.
func TestAppendKeepsNothing(t *testing.T) {
	b := []byte("abc")
	_, j := fresh(t, 8)
	add(t, j, string(b))
	b[0] = 'z'
	wantRecords(t, j, "abc")
}
