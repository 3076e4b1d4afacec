package journal_test

import (
	"fmt"
	"math/rand/v2"
	"slices"
	"testing"

	"touchstone/api"
	"touchstone/journal"
	"touchstone/vfs"
)

// wantWhole asks for what was appended, and at most what was under way behind it; it tells whether that is there.
func wantWhole(t *testing.T, j *journal.Journal, done []string, under ...string) bool {
	t.Helper()
	got := j.Records()
	if !slices.Equal(got, done) && !slices.Equal(got, append(slices.Clone(done), under...)) {
		t.Fatalf("Records: %d %.200q, not %d %.200q, perhaps with %.80q", len(got), got, len(done), done, under)
	}
	wantSegments(t, j, placed(got...)...)
	return len(got) > len(done)
}

// wantLasting asks that what is there at an Open is there behind what follows: a crash that leaves nothing, more records, and a failure at any step of another one.
func wantLasting(t *testing.T, f *vfs.FS) {
	t.Helper()
	j := open(t, f)
	has := j.Records()
	wantRecords(t, open(t, f.Crash(nil)), has...)
	for n := range 10 {
		c := f.Crash(nil)
		j := open(t, c)
		c.Power(n)
		if j.Append("next") == api.OK {
			break
		}
		wantWhole(t, open(t, c.Crash(upTo(9), survivors()...)), has, "next")
		wantWhole(t, open(t, c.Crash(nil)), has, "next")
	}
	add(t, j, "more", "still more")
	wantRecords(t, open(t, f.Crash(nil)), append(has, "more", "still more")...)
}

// P4.5: the power goes at each step of each Append, and any turns, sectors and lengths survive.
func TestWholeBehindPower(t *testing.T) {
	for _, s := range appends() {
		t.Run(s.what, func(t *testing.T) {
			there := 0
			for n := range len(s.steps) + 1 {
				f, j := s.journal(t)
				ahead := j.Records()
				f.Power(n)
				done, under := ahead, []string{s.record}
				if e := j.Append(s.record); e == api.OK {
					done, under = append(ahead, s.record), nil
				}
				for _, c := range leavings(crashes(f, 3, 4)) {
					if wantWhole(t, open(t, c), done, under...) {
						there++
					}
					wantLasting(t, c)
				}
			}
			if there == 0 {
				t.Error("what was under way was there behind no crash")
			}
		})
	}
}

// P4.5: a step fails; the journal is opened anew, with a crash between and without.
func TestWholeBehindFailure(t *testing.T) {
	for _, s := range appends() {
		t.Run(s.what, func(t *testing.T) {
			for n := range s.steps {
				f, j := s.journal(t)
				ahead := j.Records()
				f.Fail(n)
				want(t, "Append", j.Append(s.record), api.ErrIO)
				for _, c := range leavings(crashes(f, 3, 4)) {
					wantWhole(t, open(t, c), ahead, s.record)
					wantLasting(t, c)
				}
				wantWhole(t, open(t, f), ahead, s.record)
				wantLasting(t, f)
			}
		})
	}
}

// P4.5: what an Open found behind a failure of the last step lasts, as that Open made the directory last.
func TestWholeBehindLastSync(t *testing.T) {
	f, j := fresh(t, 8)
	add(t, j, "a")
	f.Fail(5)
	want(t, "Append", j.Append("b"), api.ErrIO)
	wantRecords(t, j, "a")
	wantRecords(t, open(t, f.Crash(nil)), "a")
	f.Fail(0)
	if none, e := journal.Open(f); none != nil || e != api.ErrIO {
		t.Fatalf("Open: %v, %v", none, e)
	}
	wantRecords(t, open(t, f.Crash(nil)), "a")
	wantRecords(t, open(t, f), "a", "b")
	for _, c := range leavings(crashes(f, 3, 2)) {
		wantRecords(t, open(t, c), "a", "b")
	}
}

// P4.5: the power goes in Format: behind it there is a journal without a record, or none, which is made then.
func TestWholeBehindFormat(t *testing.T) {
	for n := range 5 {
		f := store(t, 8)
		f.Power(n)
		e := journal.Format(f)
		for _, c := range leavings(crashes(f, 3, 1)) {
			j, opened := journal.Open(c)
			if e == api.OK && opened != api.OK || opened != api.OK && opened != api.ErrNone {
				t.Fatalf("Power(%d): Format %v, Open %v", n, e, opened)
			}
			if opened == api.ErrNone {
				want(t, "Format, again", journal.Format(c), api.OK)
				j = open(t, c)
			}
			wantRecords(t, j)
			wantLasting(t, c)
		}
	}
}

// someRecord has a length at which segments end in different ways.
func someRecord(d *rand.Rand) string {
	n := []int{0, 5, 40, 500, 1500, 4084, 6000}[d.IntN(7)]
	b := make([]byte, d.IntN(n+1))
	for i := range b {
		b[i] = byte(d.Uint32())
	}
	return string(b)
}

// someCrash is what a crash may leave.
func someCrash(d *rand.Rand, f *vfs.FS) *vfs.FS {
	some := func(n int) []int {
		return slices.DeleteFunc(upTo(n), func(int) bool { return d.IntN(2) == 0 })
	}
	var files []api.Survive
	for _, name := range f.Names() {
		if d.IntN(4) > 0 {
			files = append(files, api.Survive{Name: name, Sectors: some(24), Long: d.IntN(2) == 0})
		}
	}
	return f.Crash(some(6), files...)
}

// life is a journal to which anything may happen, and what is known of it.
type life struct {
	f     *vfs.FS
	j     *journal.Journal
	done  []string
	under []string
}

// open opens the journal anew; what was under way is settled then.
func (l *life) open(t *testing.T) {
	t.Helper()
	l.j = open(t, l.f)
	if wantWhole(t, l.j, l.done, l.under...) {
		l.done = append(l.done, l.under...)
	}
	l.under = nil
}

func (l *life) append(t *testing.T, record string) api.Errno {
	t.Helper()
	stopped := l.j.Stopped()
	e := l.j.Append(record)
	if stopped != (e == api.ErrStop) {
		t.Fatalf("stopped: %v, Append: %v", stopped, e)
	}
	switch e {
	case api.OK:
		l.done = append(l.done, record)
	case api.ErrIO, api.ErrPower:
		l.under = []string{record}
	}
	if l.j.Stopped() != (e != api.OK && e != api.ErrSpace) {
		t.Fatalf("behind %v: stopped %v", e, l.j.Stopped())
	}
	wantRecords(t, l.j, l.done...)
	wantSegments(t, l.j, placed(l.done...)...)
	return e
}

// happen lets one of all things happen.
func (l *life) happen(t *testing.T, d *rand.Rand) {
	t.Helper()
	switch d.IntN(20) {
	case 0, 1:
		l.f.Fail(d.IntN(12))
	case 2:
		l.f.Power(d.IntN(12))
	case 3, 4:
		l.f = someCrash(d, l.f)
		l.open(t)
	case 5, 6:
		if l.f.Off() {
			l.f = someCrash(d, l.f)
		}
		// No failure that is still to come is to come at the step of Open.
		l.f.Fail(-1)
		l.f.Power(-1)
		l.open(t)
	default:
		l.append(t, someRecord(d))
	}
}

// P4.5, P4.6: long lives of journals, in which anything happens in any order.
func TestWholeLives(t *testing.T) {
	for seed := range uint64(150) {
		t.Run(fmt.Sprint(seed), func(t *testing.T) {
			d := rand.New(rand.NewPCG(4, seed))
			l := life{}
			l.f, l.j = fresh(t, []int{3, 8, 20, 100, 400}[d.IntN(5)])
			for range 200 {
				l.happen(t, d)
			}
		})
	}
}

// P4.6: opened anew, with a crash or without, a journal has the same records and segments, and goes on as it would have.
func TestAgain(t *testing.T) {
	d := rand.New(rand.NewPCG(4, 1000))
	for range 40 {
		f, j := fresh(t, 400)
		for range d.IntN(30) {
			add(t, j, someRecord(d))
		}
		before := told(f)
		records, segments := j.Records(), j.Segments()
		for range 3 {
			j = open(t, f)
			wantRecords(t, j, records...)
			wantSegments(t, j, segments...)
		}
		if now := told(f); now != before {
			t.Fatal("Open changed the store")
		}
		twin := f.Crash(nil)
		other := open(t, twin)
		add(t, j, "next", filling(4096), "last")
		add(t, other, "next", filling(4096), "last")
		wantRecords(t, other, j.Records()...)
		wantSegments(t, other, j.Segments()...)
		if plain(twin) != plain(f) {
			t.Fatalf("%.300s, not %.300s", plain(twin), plain(f))
		}
	}
}
