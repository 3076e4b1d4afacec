package journal_test

import (
	"fmt"
	"testing"

	"touchstone/api"
	"touchstone/journal"
	"touchstone/vfs"
)

// step is one that the chapter names, done by the test on a twin of the store.
type step func(f *vfs.FS) api.Errno

func remove(name string) step {
	return func(f *vfs.FS) api.Errno { return f.Remove(name) }
}

func truncate(name string, n int) step {
	return func(f *vfs.FS) api.Errno { return f.Truncate(name, n) }
}

func put(name string, at int, s string) step {
	return func(f *vfs.FS) api.Errno { return f.Write(name, at, []byte(s)) }
}

func fsync(name string) step {
	return func(f *vfs.FS) api.Errno { return f.Fsync(name) }
}

func syncDir(f *vfs.FS) api.Errno { return f.SyncDir() }

func rename(f *vfs.FS) api.Errno { return f.Rename("manifest.tmp", "manifest") }

// scene is a store, one call on it, and the steps that the chapter names for that call there.
type scene struct {
	what    string
	files   []string // that last ahead of it
	loose   []string // that don't
	room    int
	records []string // appended ahead of it
	record  string
	steps   []step
}

func (s scene) store(t *testing.T) *vfs.FS {
	t.Helper()
	f := laid(t, s.room, s.files...)
	for i := 0; i < len(s.loose); i += 2 {
		write(t, f, s.loose[i], s.loose[i+1])
	}
	return f
}

func (s scene) journal(t *testing.T) (*vfs.FS, *journal.Journal) {
	t.Helper()
	f := s.store(t)
	j := open(t, f)
	add(t, j, s.records...)
	return f, j
}

func formats() []scene {
	lay := []step{put("manifest.tmp", 0, manifest(0)), fsync("manifest.tmp"), rename, syncDir}
	anew := append([]step{remove("manifest.tmp")}, lay...)
	return []scene{
		{what: "an empty store", room: 2, steps: lay},
		{what: "with other files", files: []string{"a", "b", "seg-000001", "c"}, room: 8, steps: lay},
		{what: "over manifest.tmp", files: []string{"manifest.tmp", "old"}, room: 2, steps: anew},
		{what: "over an empty manifest.tmp", files: []string{"manifest.tmp", ""}, room: 2, steps: anew},
		{what: "over a manifest.tmp that does not last", loose: []string{"manifest.tmp", "old"}, room: 2, steps: anew},
	}
}

func laying(s string) []step {
	return []step{put("manifest.tmp", 0, s), fsync("manifest.tmp"), rename, syncDir}
}

func layingOver(s string) []step {
	return append([]step{truncate("manifest.tmp", 0)}, laying(s)...)
}

func appends() []scene {
	first := func(name, s string) []step { return []step{put(name, 0, s), fsync(name), syncDir} }
	over := func(name, s string) []step { return append([]step{truncate(name, 0)}, first(name, s)...) }
	behind := func(at int, s string) []step { return []step{put("seg-000001", at, s), fsync("seg-000001")} }
	full := filling(4096)
	return []scene{
		{"the first one", []string{"manifest", manifest(0)}, nil, 8, nil, "a",
			append(first("seg-000001", framed("a")), laying(manifest(1, 13))...)},
		{"the first one, over a file", []string{"manifest", manifest(0), "seg-000001", "old"}, nil, 8, nil, "a",
			append(over("seg-000001", framed("a")), laying(manifest(1, 13))...)},
		{"the first one, over an empty file", []string{"manifest", manifest(0), "seg-000001", ""}, nil, 8, nil, "a",
			append(over("seg-000001", framed("a")), laying(manifest(1, 13))...)},
		{"the first one, over files that don't last", []string{"manifest", manifest(0)}, []string{"seg-000001", long(900), "manifest.tmp", "old"}, 8, nil, "a",
			append(over("seg-000001", framed("a")), layingOver(manifest(1, 13))...)},
		{"the next one", []string{"manifest", manifest(0)}, nil, 8, []string{"a"}, "b",
			append(behind(13, framed("b")), laying(manifest(2, 26))...)},
		{"one over sectors", []string{"manifest", manifest(0)}, nil, 12, []string{long(500)}, long(700),
			append(behind(512, framed(long(700))), laying(manifest(2, 1224))...)},
		{"one into sectors", []string{"manifest", manifest(0)}, nil, 12, []string{long(400)}, long(200),
			append(behind(412, framed(long(200))), laying(manifest(2, 624))...)},
		{"the next one, over manifest.tmp", []string{"manifest", manifest(1, 13), "seg-000001", framed("a"), "manifest.tmp", manifest(3, 39)}, nil, 8, nil, "b",
			append(behind(13, framed("b")), layingOver(manifest(2, 26))...)},
		{"the next one, over an empty manifest.tmp", []string{"manifest", manifest(1, 13), "seg-000001", framed("a"), "manifest.tmp", ""}, nil, 8, nil, "b",
			append(behind(13, framed("b")), layingOver(manifest(2, 26))...)},
		{"the next one, over loose bytes", []string{"manifest", manifest(1, 13), "seg-000001", framed("a") + long(600)}, nil, 8, nil, "b",
			append([]step{truncate("seg-000001", 13)}, append(behind(13, framed("b")), laying(manifest(2, 26))...)...)},
		{"the next one, over loose bytes that don't last", []string{"manifest", manifest(1, 13), "seg-000001", framed("a")}, []string{"seg-000001", framed("a", "c")}, 8, nil, "b",
			append([]step{truncate("seg-000001", 13)}, append(behind(13, framed("b")), laying(manifest(2, 26))...)...)},
		{"one more in a segment", []string{"manifest", manifest(0)}, nil, 40, []string{filling(4095)}, "b",
			append(behind(4095, framed("b")), laying(manifest(2, 4108))...)},
		{"a new segment", []string{"manifest", manifest(0)}, nil, 40, []string{full}, "b",
			append(first("seg-000002", framed("b")), laying(manifest(2, 4096, 13))...)},
		{"a new segment, over a file", []string{"manifest", manifest(0), "seg-000002", framed("old", "older")}, nil, 40, []string{full}, "b",
			append(over("seg-000002", framed("b")), laying(manifest(2, 4096, 13))...)},
		{"a new segment, ahead of which bytes are loose", []string{"manifest", manifest(1, 4096), "seg-000001", framed(full) + "x"}, nil, 40, nil, "b",
			append(first("seg-000002", framed("b")), laying(manifest(2, 4096, 13))...)},
	}
}

// wantTwin asks that a store is as a twin on which the first n steps were done.
func wantTwin(t *testing.T, f, twin *vfs.FS, steps []step) {
	t.Helper()
	for i, s := range steps {
		want(t, fmt.Sprintf("step %d, by the test", i), s(twin), api.OK)
	}
	if got, wanted := told(f), told(twin); got != wanted {
		t.Fatalf("behind %d steps: %.400s, not %.400s", len(steps), got, wanted)
	}
}

// P4.1: the steps of Format, each in its place, and no other; the first error is the answer.
func TestFormatSteps(t *testing.T) {
	for _, s := range formats() {
		t.Run(s.what, func(t *testing.T) {
			for n := range s.steps {
				f := s.store(t)
				f.Fail(n)
				want(t, fmt.Sprintf("Format, Fail(%d)", n), journal.Format(f), api.ErrIO)
				wantTwin(t, f, s.store(t), s.steps[:n])
				g := s.store(t)
				g.Power(n)
				want(t, fmt.Sprintf("Format, Power(%d)", n), journal.Format(g), api.ErrPower)
				wantTwin(t, g.Crash(upTo(9), survivors()...), s.store(t), append(s.steps[:n:n], all...))
			}
			f := s.store(t)
			f.Fail(len(s.steps))
			want(t, "Format", journal.Format(f), api.OK)
			wantTwin(t, f, s.store(t), s.steps)
			want(t, "the step behind", f.SyncDir(), api.ErrIO)
		})
	}
}

// survivors are all files, with all that they have.
func survivors() []api.Survive {
	var l []api.Survive
	for _, name := range []string{"manifest", "manifest.tmp", "a", segment(1), segment(2), segment(3)} {
		l = append(l, api.Survive{Name: name, Sectors: upTo(200), Long: true})
	}
	return l
}

// all makes what a twin has last, as a crash that leaves all does.
var all = []step{func(f *vfs.FS) api.Errno {
	for _, name := range f.Names() {
		if e := f.Fsync(name); e != api.OK {
			return e
		}
	}
	return f.SyncDir()
}}

// P4.3: the steps of Append, each in its place, and no other; the journal has the record behind the last one, not ahead.
func TestAppendSteps(t *testing.T) {
	for _, s := range appends() {
		t.Run(s.what, func(t *testing.T) {
			f, j := s.journal(t)
			twin, _ := s.journal(t)
			ahead := j.Records()
			f.Fail(len(s.steps))
			add(t, j, s.record)
			wantTwin(t, f, twin, s.steps)
			want(t, "the step behind", f.SyncDir(), api.ErrIO)
			wantRecords(t, j, append(ahead, s.record)...)
			if j.Stopped() {
				t.Fatal("it is stopped")
			}
		})
	}
}

// wantStopped asks that a journal does nothing any more, and has what it had.
func wantStopped(t *testing.T, f *vfs.FS, j *journal.Journal, records []string, segments []int) {
	t.Helper()
	if !j.Stopped() {
		t.Fatal("it is not stopped")
	}
	before := told(f)
	for _, record := range []string{"", "a", long(api.MaxRecord + 1)} {
		want(t, "Append to one that is stopped", j.Append(record), api.ErrStop)
	}
	if now := told(f); now != before {
		t.Fatal("one that is stopped changed the store")
	}
	wantRecords(t, j, records...)
	wantSegments(t, j, segments...)
}

// P4.3: each step that fails is the answer, leaves the store as it was ahead of it, and stops the journal.
func TestAppendFails(t *testing.T) {
	for _, s := range appends() {
		t.Run(s.what, func(t *testing.T) {
			for n := range s.steps {
				f, j := s.journal(t)
				twin, _ := s.journal(t)
				records, segments := j.Records(), j.Segments()
				f.Fail(n)
				want(t, fmt.Sprintf("Append, Fail(%d)", n), j.Append(s.record), api.ErrIO)
				wantTwin(t, f, twin, s.steps[:n])
				wantStopped(t, f, j, records, segments)
			}
		})
	}
}

// P4.3: so it is where a step finds the power gone.
func TestAppendLosesPower(t *testing.T) {
	for _, s := range appends() {
		t.Run(s.what, func(t *testing.T) {
			for n := range s.steps {
				f, j := s.journal(t)
				twin, _ := s.journal(t)
				records, segments := j.Records(), j.Segments()
				f.Power(n)
				want(t, fmt.Sprintf("Append, Power(%d)", n), j.Append(s.record), api.ErrPower)
				twin.Power(n)
				for i, step := range s.steps[:n+1] {
					if e := step(twin); (e != api.OK) != (i == n) {
						t.Fatalf("step %d, by the test: %v", i, e)
					}
				}
				if told(f) != told(twin) {
					t.Fatalf("behind %d steps: %.400s, not %.400s", n, told(f), told(twin))
				}
				wantStopped(t, f, j, records, segments)
			}
		})
	}
}

// P4.3: an Append that finds the power gone already.
func TestAppendWithoutPower(t *testing.T) {
	for _, s := range appends() {
		f, j := s.journal(t)
		records, segments := j.Records(), j.Segments()
		f.Power(0)
		f.SyncDir()
		want(t, "too long", j.Append(long(api.MaxRecord+1)), api.ErrLimit)
		want(t, s.what, j.Append(s.record), api.ErrPower)
		wantStopped(t, f, j, records, segments)
	}
}

// squeezed takes all room of a store but so many sectors.
func squeezed(t *testing.T, f *vfs.FS, capacity, room int) {
	t.Helper()
	n := capacity - f.Used() - room
	write(t, f, "other", long(n*api.Sector))
	if f.Used() != capacity-room {
		t.Fatalf("%d sectors used", f.Used())
	}
}

// P4.3: where there is no room, all is as if nothing had been done, but for bytes that don't count; with room the record is taken.
func TestAppendSpace(t *testing.T) {
	times := 0
	for _, s := range appends() {
		t.Run(s.what, func(t *testing.T) {
			s.room = 60
			room := 0
			for !appendedInto(t, s, room) {
				room++
			}
			if room > 4 {
				t.Fatalf("only with room for %d it is taken", room)
			}
			times += room
		})
	}
	if times < len(appends()) {
		t.Fatalf("%d times there was no room", times)
	}
}

// appendedInto tells whether a scene's record was taken with room for so many sectors more; if not, it asks for what must be so then.
func appendedInto(t *testing.T, s scene, room int) bool {
	t.Helper()
	f, j := s.journal(t)
	records, segments := j.Records(), j.Segments()
	squeezed(t, f, s.room, room)
	e := j.Append(s.record)
	if e == api.OK {
		return true
	}
	want(t, fmt.Sprintf("Append, with room for %d", room), e, api.ErrSpace)
	wantUnchanged(t, f, j, records, segments)
	want(t, "Remove", f.Remove("other"), api.OK)
	wantUnchanged(t, f, j, records, segments)
	add(t, j, s.record, "next")
	records = append(records, s.record, "next")
	wantRecords(t, j, records...)
	wantRecords(t, open(t, f.Crash(nil)), records...)
	return false
}

// wantUnchanged asks that a journal, and one that is opened anew, also behind a crash, have what it had.
func wantUnchanged(t *testing.T, f *vfs.FS, j *journal.Journal, records []string, segments []int) {
	t.Helper()
	if j.Stopped() {
		t.Fatal("it is stopped")
	}
	wantRecords(t, j, records...)
	wantSegments(t, j, segments...)
	for _, c := range append(leavings(crashes(f, 3, 3)), f) {
		again := open(t, c)
		wantRecords(t, again, records...)
		wantSegments(t, again, segments...)
	}
}

// P4.3: a failure that is still to come is not used up where there is no room, unless a step does.
func TestAppendSpaceAtSteps(t *testing.T) {
	f, j := fresh(t, 1)
	f.Fail(1)
	want(t, "no room for a segment", j.Append("a"), api.ErrSpace)
	wantNames(t, f, "manifest")
	want(t, "what Fail(1) was for", f.SyncDir(), api.ErrIO)
	f, j = fresh(t, 2)
	f.Fail(4)
	want(t, "no room for a manifest", j.Append("a"), api.ErrSpace)
	wantNames(t, f, "manifest", "seg-000001")
	want(t, "what Fail(4) was for", f.SyncDir(), api.ErrIO)
	wantRecords(t, j)
	wantReport(t, f, api.Report{Strange: 1})
	f.Fail(2)
	want(t, "Truncate, Write, then Fsync fails", j.Append("a"), api.ErrIO)
	wantStopped(t, f, j, nil, nil)
}

// P4.3: a store that is full takes as many records as it has room for, and has them all.
func TestAppendUntilFull(t *testing.T) {
	f, j := fresh(t, 8)
	var l []string
	for {
		record := long(100 + len(l))
		e := j.Append(record)
		if e == api.ErrSpace {
			break
		}
		want(t, "Append", e, api.OK)
		l = append(l, record)
	}
	if len(l) < 20 || len(l) > 40 {
		t.Fatalf("%d records", len(l))
	}
	for range 5 {
		want(t, "again", j.Append(long(4000)), api.ErrSpace)
	}
	wantUnchanged(t, f, j, l, placed(l...))
}
