package journal_test

import (
	"testing"

	"touchstone/api"
	"touchstone/journal"
)

// P4.4: of a journal that no call made.
func TestLooksNil(t *testing.T) {
	var none *journal.Journal
	for _, j := range []*journal.Journal{none, {}} {
		if len(j.Records()) > 0 || len(j.Segments()) > 0 || j.Stopped() {
			t.Errorf("%v, %v, %v", j.Records(), j.Segments(), j.Stopped())
		}
	}
}

// P4.4, rule 3: the lists are the caller's own.
func TestLooksOwn(t *testing.T) {
	_, j := fresh(t, 40)
	add(t, j, "a", "b", filling(4096), "c")
	records, segments := j.Records(), j.Segments()
	records[0], segments[0] = "z", 99
	_ = append(records[:1], "y")
	_ = append(segments[:1], 98)
	wantRecords(t, j, "a", "b", filling(4096), "c")
	wantSegments(t, j, 26+4096, 13)
	add(t, j, "d")
	if records[0] != "z" || records[1] != "y" || segments[1] != 98 {
		t.Errorf("%.80q, %v", records, segments)
	}
	wantRecords(t, j, "a", "b", filling(4096), "c", "d")
}

// P4.4: looks are told of what an Append without an error left, not of more.
func TestLooksBetween(t *testing.T) {
	f, j := fresh(t, 40)
	early := j.Records()
	add(t, j, "a")
	wantRecords(t, j, "a")
	if len(early) > 0 {
		t.Errorf("%q", early)
	}
	other := open(t, f)
	add(t, j, "b")
	wantRecords(t, other, "a")
	wantSegments(t, other, 13)
}

// P4.4: Fsck counts segments, records, bytes that don't count, and files that don't belong to it.
func TestFsck(t *testing.T) {
	one, two := framed("a", "b", long(5000)), framed("c")
	f := laid(t, 100, "manifest", manifest(4, len(one), 13), "seg-000001", one+"abc", "seg-000002", two+long(700))
	wantReport(t, f, api.Report{Segments: 2, Records: 4, Loose: 703})
	for i, name := range []string{"a", "manifest.tmp", "seg-000003", "seg-000000", "seg-1", "manifest2", "seg-0000011", "seg-000001.tmp"} {
		keep(t, f, name, long(100))
		wantReport(t, f, api.Report{Segments: 2, Records: 4, Loose: 703, Strange: i + 1})
	}
	keep(t, f, "empty", "")
	wantReport(t, f, api.Report{Segments: 2, Records: 4, Loose: 703, Strange: 9})
}

// P4.4: segments that count nothing belong to it, with all their bytes loose.
func TestFsckEmptySegments(t *testing.T) {
	f := laid(t, 20, "manifest", manifest(1, 0, 13, 0), "seg-000001", "", "seg-000002", framed("a"), "seg-000003", "more")
	wantReport(t, f, api.Report{Segments: 3, Records: 1, Loose: 4})
}

// P4.4: Fsck looks at the store, not at a journal, and changes nothing.
func TestFsckChangesNothing(t *testing.T) {
	f, j := fresh(t, 40)
	add(t, j, "a", filling(4096), "b")
	write(t, f, "manifest.tmp", "x")
	f.Write("seg-000002", 13, []byte("yz"))
	before := told(f)
	wantReport(t, f, api.Report{Segments: 2, Records: 3, Loose: 2, Strange: 1})
	if now := told(f); now != before {
		t.Fatal("the store was changed")
	}
	f.Remove("seg-000002")
	if r, e := journal.Fsck(f); r != (api.Report{}) || e != api.ErrBroken {
		t.Fatalf("Fsck: %+v, %v", r, e)
	}
	wantRecords(t, j, "a", filling(4096), "b")
}

// P4.4: what is left loose behind ErrSpace is counted.
func TestFsckBehindSpace(t *testing.T) {
	f, j := fresh(t, 4)
	add(t, j, "a")
	keep(t, f, "other", long(512))
	want(t, "no room for the manifest", j.Append(long(500)), api.ErrSpace)
	wantReport(t, f, api.Report{Segments: 1, Records: 1, Loose: 512, Strange: 1})
}
