package journal_test

import (
	"testing"

	"touchstone/api"
	"touchstone/journal"
	"touchstone/vfs"
)

// P4.1: a manifest of no segments, and nothing else; its bytes are known.
func TestFormat(t *testing.T) {
	f := store(t, 1)
	want(t, "Format", journal.Format(f), api.OK)
	wantNames(t, f, "manifest")
	wantFile(t, f, "manifest", framed("\x00\x00"))
	wantReport(t, f, api.Report{})
	j := open(t, f)
	wantRecords(t, j)
	wantSegments(t, j)
	if j.Stopped() {
		t.Error("it is stopped")
	}
}

// P4.1: what it made lasts, name and bytes.
func TestFormatLasts(t *testing.T) {
	f := store(t, 1)
	want(t, "Format", journal.Format(f), api.OK)
	c := f.Crash(nil)
	wantNames(t, c, "manifest")
	wantFile(t, c, "manifest", framed("\x00\x00"))
}

// P4.1, rule 4: of a store that no call made.
func TestFormatNil(t *testing.T) {
	want(t, "nil", journal.Format(nil), api.ErrNil)
	want(t, "a zero one", journal.Format(&vfs.FS{}), api.ErrNil)
}

// P4.1: a file manifest, whatever is in it, is left as it is.
func TestFormatThere(t *testing.T) {
	for _, s := range []string{"", "x", manifest(0), manifest(1, 13)} {
		f := laid(t, 4, "manifest", s, "manifest.tmp", "y")
		before := told(f)
		f.Fail(0)
		want(t, "Format", journal.Format(f), api.ErrThere)
		want(t, "what Fail(0) was for", f.SyncDir(), api.ErrIO)
		if now := told(f); now != before {
			t.Fatalf("the store was changed: %.300s, not %.300s", now, before)
		}
	}
	f, j := fresh(t, 8)
	add(t, j, "a")
	want(t, "a journal", journal.Format(f), api.ErrThere)
	wantRecords(t, open(t, f), "a")
}

// P4.1: ErrThere is told ahead of the steps' errors, so also when the power is gone.
func TestFormatThereWithoutPower(t *testing.T) {
	f := laid(t, 4, "manifest", manifest(0))
	f.Power(0)
	want(t, "SyncDir", f.SyncDir(), api.ErrPower)
	want(t, "with a manifest", journal.Format(f), api.ErrThere)
	g := store(t, 4)
	g.Power(0)
	want(t, "without", journal.Format(g), api.ErrPower)
	want(t, "again", journal.Format(g), api.ErrPower)
	wantNames(t, g)
}

// P4.1: manifest.tmp is made anew, whatever was in it; other files stay.
func TestFormatOverDraft(t *testing.T) {
	for _, s := range []string{"", "x", manifest(0), manifest(3, 100), long(2000)} {
		f := laid(t, 8, "manifest.tmp", s, "seg-000001", "abc", "other", "d")
		want(t, "Format", journal.Format(f), api.OK)
		wantNames(t, f, "manifest", "other", "seg-000001")
		wantFile(t, f, "manifest", manifest(0))
		wantFile(t, f, "seg-000001", "abc")
		wantReport(t, f, api.Report{Strange: 2})
		if now := plain(f.Crash(nil)); now != plain(f) {
			t.Fatalf("behind a crash: %s, not %s", now, plain(f))
		}
	}
}

// P4.1: a store that is full has no room for a manifest, but what manifest.tmp had.
func TestFormatSpace(t *testing.T) {
	f := laid(t, 2, "a", long(1024))
	want(t, "full", journal.Format(f), api.ErrSpace)
	wantNames(t, f, "a")
	f = laid(t, 2, "a", long(512), "manifest.tmp", long(512))
	want(t, "full with it", journal.Format(f), api.OK)
	wantNames(t, f, "a", "manifest")
	f = laid(t, 2, "a", long(1024), "manifest.tmp", "")
	want(t, "full, and it empty", journal.Format(f), api.ErrSpace)
	wantNames(t, f, "a")
}
