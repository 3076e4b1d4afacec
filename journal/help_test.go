package journal_test

import (
	"encoding/binary"
	"fmt"
	"hash/crc32"
	"slices"
	"strings"
	"testing"

	"touchstone/api"
	"touchstone/journal"
	"touchstone/vfs"
)

func want(t *testing.T, what string, got, wanted api.Errno) {
	t.Helper()
	if got != wanted {
		t.Fatalf("%s: %v, not %v", what, got, wanted)
	}
}

func store(t *testing.T, capacity int) *vfs.FS {
	t.Helper()
	f, e := vfs.New(capacity)
	want(t, "New", e, api.OK)
	return f
}

// framed and manifest tell the chapters' words a second time, by other means than the program's.
func framed(records ...string) string {
	sum := func(s string) string {
		return string(binary.LittleEndian.AppendUint32(nil, crc32.Checksum([]byte(s), crc32.MakeTable(crc32.Castagnoli))))
	}
	s := ""
	for _, record := range records {
		n := string(binary.LittleEndian.AppendUint32(nil, uint32(len(record))))
		s += n + sum(n+"h") + record + sum(record+"b")
	}
	return s
}

func numbers(l ...uint64) string {
	var b []byte
	for _, n := range l {
		b = binary.AppendUvarint(b, n)
	}
	return string(b)
}

func manifest(records int, segments ...int) string {
	l := []uint64{uint64(len(segments))}
	for _, n := range segments {
		l = append(l, uint64(n))
	}
	return framed(numbers(append(l, uint64(records))...))
}

func segment(number int) string { return fmt.Sprintf("seg-%06d", number) }

func long(n int) string { return strings.Repeat("x", n) }

// filling is a record whose frame has n bytes.
func filling(n int) string { return long(n - 12) }

func write(t *testing.T, f *vfs.FS, name, s string) {
	t.Helper()
	if e := f.Truncate(name, 0); e != api.OK && e != api.ErrNone {
		t.Fatalf("Truncate %s: %v", name, e)
	}
	want(t, "Write "+name, f.Write(name, 0, []byte(s)), api.OK)
}

// keep makes files with bytes and names that last: names and bytes, by turns.
func keep(t *testing.T, f *vfs.FS, files ...string) {
	t.Helper()
	for i := 0; i < len(files); i += 2 {
		write(t, f, files[i], files[i+1])
		want(t, "Fsync", f.Fsync(files[i]), api.OK)
	}
	want(t, "SyncDir", f.SyncDir(), api.OK)
}

// laid is a store with files that last.
func laid(t *testing.T, capacity int, files ...string) *vfs.FS {
	t.Helper()
	f := store(t, capacity)
	keep(t, f, files...)
	return f
}

func open(t *testing.T, f *vfs.FS) *journal.Journal {
	t.Helper()
	j, e := journal.Open(f)
	if e != api.OK || j == nil {
		t.Fatalf("Open: %v, %v; of %.300s", j, e, plain(f))
	}
	return j
}

// fresh is a journal on a store that was made ready.
func fresh(t *testing.T, capacity int) (*vfs.FS, *journal.Journal) {
	t.Helper()
	f := store(t, capacity)
	want(t, "Format", journal.Format(f), api.OK)
	return f, open(t, f)
}

func add(t *testing.T, j *journal.Journal, records ...string) {
	t.Helper()
	for _, record := range records {
		if e := j.Append(record); e != api.OK {
			t.Fatalf("Append(%.40q): %v", record, e)
		}
	}
}

func wantRecords(t *testing.T, j *journal.Journal, records ...string) {
	t.Helper()
	if got := j.Records(); !slices.Equal(got, records) {
		t.Fatalf("Records: %d %.200q, not %d %.200q", len(got), got, len(records), records)
	}
}

func wantSegments(t *testing.T, j *journal.Journal, segments ...int) {
	t.Helper()
	if got := j.Segments(); !slices.Equal(got, segments) {
		t.Fatalf("Segments: %v, not %v", got, segments)
	}
}

func wantFile(t *testing.T, f *vfs.FS, name, s string) {
	t.Helper()
	b, e := f.Read(name)
	want(t, "Read "+name, e, api.OK)
	if string(b) != s {
		t.Fatalf("%s: %d bytes % .80X, not %d bytes % .80X", name, len(b), b, len(s), s)
	}
}

func wantNames(t *testing.T, f *vfs.FS, names ...string) {
	t.Helper()
	if got := f.Names(); !slices.Equal(got, names) {
		t.Fatalf("Names: %v, not %v", got, names)
	}
}

func wantReport(t *testing.T, f *vfs.FS, r api.Report) {
	t.Helper()
	if got, e := journal.Fsck(f); e != api.OK || got != r {
		t.Fatalf("Fsck: %+v, %v, not %+v", got, e, r)
	}
}

// wantError asks Open and Fsck for one error, and for nothing beside it.
func wantError(t *testing.T, f *vfs.FS, wanted api.Errno) {
	t.Helper()
	before := plain(f)
	if j, e := journal.Open(f); j != nil || e != wanted {
		t.Fatalf("Open: %v, %v, not %v", j, e, wanted)
	}
	if r, e := journal.Fsck(f); r != (api.Report{}) || e != wanted {
		t.Fatalf("Fsck: %+v, %v, not %v", r, e, wanted)
	}
	if now := plain(f); now != before {
		t.Fatalf("they changed the store: %.300s, not %.300s", now, before)
	}
}

// placed is what segments count, told a second time, from the records' lengths.
func placed(records ...string) []int {
	var l []int
	for _, record := range records {
		if len(l) == 0 || l[len(l)-1] >= 4096 {
			l = append(l, 0)
		}
		l[len(l)-1] += len(record) + 12
	}
	return l
}

// plain is all that the looks of a store tell.
func plain(f *vfs.FS) string {
	var out strings.Builder
	fmt.Fprint(&out, f.Used(), f.Off())
	for _, name := range f.Names() {
		b, e := f.Read(name)
		fmt.Fprintf(&out, " %s:%d:%d:%08X", name, e, len(b), crc32.ChecksumIEEE(b))
	}
	return out.String()
}

func upTo(n int) []int {
	l := make([]int, n)
	for i := range l {
		l[i] = i
	}
	return l
}

// picks are all lists of numbers below n, rising.
func picks(n int) [][]int {
	var l [][]int
	for mask := range 1 << n {
		var pick []int
		for i := range n {
			if mask>>i&1 == 1 {
				pick = append(pick, i)
			}
		}
		l = append(l, pick)
	}
	return l
}

// survivals are ways in which a file's bytes may survive: nothing, all, its length alone, all but its length, single sectors, all but one.
func survivals(sectors int) []api.Survive {
	l := []api.Survive{{}, {Long: true}, {Sectors: upTo(sectors), Long: true}, {Sectors: upTo(sectors)}}
	for i := range sectors {
		l = append(l, api.Survive{Sectors: []int{i}, Long: true}, api.Survive{Sectors: []int{i}})
		l = append(l, api.Survive{Sectors: slices.Delete(upTo(sectors), i, i+1), Long: true})
	}
	return l
}

// crashes are what a crash of a store may leave: any of so many turns, and any survival of its files' first sectors.
func crashes(f *vfs.FS, turns, sectors int) []*vfs.FS {
	names := []string{"manifest", "manifest.tmp", segment(1), segment(2), segment(3)}
	var l []*vfs.FS
	for _, pick := range picks(turns) {
		for _, s := range survivals(sectors) {
			var files []api.Survive
			for _, name := range names {
				s.Name = name
				files = append(files, s)
			}
			l = append(l, f.Crash(pick, files...))
		}
	}
	return l
}

// leavings are stores behind crashes, each once: two that look alike are alike, as all of them lasts.
func leavings(l []*vfs.FS) []*vfs.FS {
	seen := map[string]bool{}
	return slices.DeleteFunc(l, func(c *vfs.FS) bool {
		looks := plain(c)
		defer func() { seen[looks] = true }()
		return seen[looks]
	})
}

// told is all that looks and crashes tell of a store, so that two that differ in what lasts differ here.
func told(f *vfs.FS) string {
	out := []string{plain(f)}
	for _, c := range crashes(f, 4, 2) {
		out = append(out, plain(c))
	}
	return strings.Join(out, "|")
}
