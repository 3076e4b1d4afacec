package vfs_test

import (
	"fmt"
	"strings"
	"testing"

	"touchstone/api"
	"touchstone/vfs"
)

func store(t *testing.T, capacity int) *vfs.FS {
	t.Helper()
	f, e := vfs.New(capacity)
	if e != api.OK || f == nil {
		t.Fatalf("New(%d): %v, %v", capacity, f, e)
	}
	return f
}

func want(t *testing.T, what string, got, wanted api.Errno) {
	t.Helper()
	if got != wanted {
		t.Fatalf("%s: %v, not %v", what, got, wanted)
	}
}

func write(t *testing.T, f *vfs.FS, name, s string) {
	t.Helper()
	want(t, "Write "+name, f.Write(name, 0, []byte(s)), api.OK)
}

// keep makes a file with bytes and a name that last.
func keep(t *testing.T, f *vfs.FS, name, s string) {
	t.Helper()
	write(t, f, name, s)
	want(t, "Fsync "+name, f.Fsync(name), api.OK)
	want(t, "SyncDir", f.SyncDir(), api.OK)
}

func wantFile(t *testing.T, f *vfs.FS, name, s string) {
	t.Helper()
	b, e := f.Read(name)
	want(t, "Read "+name, e, api.OK)
	if string(b) != s {
		t.Fatalf("%s has %d bytes, not the %d wanted, or others: %.80q, not %.80q", name, len(b), len(s), b, s)
	}
}

func wantNames(t *testing.T, f *vfs.FS, names ...string) {
	t.Helper()
	if got := strings.Join(f.Names(), " "); got != strings.Join(names, " ") {
		t.Fatalf("Names: %s, not %s", got, strings.Join(names, " "))
	}
}

func wantUsed(t *testing.T, f *vfs.FS, n int) {
	t.Helper()
	if f.Used() != n {
		t.Fatalf("Used: %d, not %d", f.Used(), n)
	}
}

// upTo are the numbers below n.
func upTo(n int) []int {
	var l []int
	for i := range n {
		l = append(l, i)
	}
	return l
}

func all(name string) api.Survive {
	return api.Survive{Name: name, Sectors: upTo(api.MaxFile / api.Sector), Long: true}
}

func fill(c string, n int) string { return strings.Repeat(c, n) }

// plain is all that the looks tell.
func plain(f *vfs.FS) string {
	out := fmt.Sprint(f.Used(), f.Off())
	for _, name := range f.Names() {
		b, e := f.Read(name)
		out += fmt.Sprintf(" %s:%d:%x", name, e, b)
	}
	return out
}

// told is all that looks and crashes tell, so that two stores that differ in what lasts differ here.
func told(f *vfs.FS, turns int) string {
	var files []api.Survive
	for _, name := range nameList {
		files = append(files, api.Survive{Name: name, Sectors: upTo(4), Long: true})
	}
	out := plain(f) + "|" + plain(f.Crash(nil)) + "|" + plain(f.Crash(upTo(turns), files...))
	for i := range turns {
		out += "|" + plain(f.Crash([]int{i}, files...))
	}
	return out
}

// nameList is what made-up stores call their files.
var nameList = []string{"a", "b", "c.tmp", "seg-000001"}
