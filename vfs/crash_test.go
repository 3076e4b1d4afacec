package vfs_test

import (
	"testing"

	"touchstone/api"
	"touchstone/vfs"
)

// P1.4: the document's example.
func TestCrashExample(t *testing.T) {
	f := store(t, 4)
	write(t, f, "a", "x")
	wantNames(t, f.Crash(nil))
	wantFile(t, f.Crash([]int{0}), "a", "")
	wantFile(t, f.Crash([]int{0}, api.Survive{Name: "a", Sectors: []int{0}, Long: true}), "a", "x")
	wantFile(t, f.Crash([]int{0}, api.Survive{Name: "a", Long: true}), "a", "\x00")
	wantFile(t, f.Crash([]int{0}, api.Survive{Name: "a", Sectors: []int{0}}), "a", "")
}

// P1.4: each kind of turn is made, or not.
func TestCrashTurns(t *testing.T) {
	f := store(t, 8)
	keep(t, f, "a", "A")
	keep(t, f, "b", "B")
	f.Remove("b")      // 0
	f.Rename("a", "c") // 1
	write(t, f, "b", "N")
	f.Fsync("b")       // 2: b came to be
	f.Rename("b", "c") // 3: onto a's file
	for _, x := range []struct {
		turns []int
		names string
		bytes string
	}{
		{nil, "ab", "AB"},
		{[]int{0}, "a", "A"},
		{[]int{1}, "bc", "BA"},
		{[]int{2}, "ab", "AN"},
		{[]int{3}, "ac", "AB"},
		{[]int{0, 1}, "c", "A"},
		{[]int{0, 2}, "ab", "AN"},
		{[]int{0, 3}, "a", "A"},
		{[]int{1, 2}, "bc", "NA"},
		{[]int{1, 3}, "c", "B"},
		{[]int{2, 3}, "ac", "AN"},
		{[]int{0, 1, 2}, "bc", "NA"},
		{[]int{0, 1, 3}, "c", "A"},
		{[]int{1, 2, 3}, "c", "N"},
		{[]int{0, 1, 2, 3}, "c", "N"},
		{[]int{3, 2, 1, 0}, "c", "N"},
		{[]int{3, 1, 3, 1, 1}, "c", "B"},
		{[]int{-1, 4, 5, 1 << 40, -1 << 63}, "ab", "AB"},
	} {
		c := f.Crash(x.turns)
		var names []string
		for _, name := range x.names {
			names = append(names, string(name))
		}
		wantNames(t, c, names...)
		for i, name := range names {
			wantFile(t, c, name, x.bytes[i:i+1])
		}
		wantUsed(t, c, len(names))
	}
}

// P1.4: turns begin anew with each SyncDir, and what is refused is none.
func TestTurnsSinceSyncDir(t *testing.T) {
	f := store(t, 1)
	write(t, f, "a", "")
	f.SyncDir()
	f.Write("b", 0, make([]byte, 513)) // refused
	f.Remove("b")                      // refused
	f.Rename("a", "a")                 // refused
	f.Write("a", 0, []byte("x"))       // a is there
	f.Fsync("a")
	f.Truncate("a", 0)
	f.Fail(0)
	f.Remove("a") // fails
	f.Rename("a", "c")
	wantNames(t, f.Crash([]int{0}), "c")
	wantNames(t, f.Crash([]int{1}), "a")
}

// P1.4: which bytes of which sectors survive.
func TestCrashSectors(t *testing.T) {
	long := func(sectors ...int) api.Survive { return api.Survive{Name: "a", Sectors: sectors, Long: true} }
	short := func(sectors ...int) api.Survive { return api.Survive{Name: "a", Sectors: sectors} }
	old, noughts := fill("o", 1000), fill("\x00", 2000)
	for _, x := range []struct {
		now  string
		file api.Survive
		left string
	}{
		{fill("n", 1300), long(), old + noughts[:300]},
		{fill("n", 1300), long(0), fill("n", 512) + old[512:] + noughts[:300]},
		{fill("n", 1300), long(1), old[:512] + fill("n", 512) + noughts[:276]},
		{fill("n", 1300), long(2), old + noughts[:24] + fill("n", 276)},
		{fill("n", 1300), long(2, 0, 0), fill("n", 512) + old[512:] + noughts[:24] + fill("n", 276)},
		{fill("n", 1300), long(-1, 3, 1<<62), old + noughts[:300]},
		{fill("n", 1300), short(), old},
		{fill("n", 1300), short(1, 2), old[:512] + fill("n", 488)},
		{fill("n", 1000), short(0), fill("n", 512) + old[512:]},
		{fill("n", 511), long(0), fill("n", 511)},
		{fill("n", 511), long(), old[:511]},
		{fill("n", 512), long(0, 1), fill("n", 512)},
		{fill("n", 513), long(0), fill("n", 512) + "o"},
		{fill("n", 513), long(1), old[:512] + "n"},
		// What a file had of a sector is told whole, with noughts where it had none.
		{fill("n", 511), short(0), fill("n", 511) + "\x00" + old[512:]},
		{fill("n", 511), short(1), old[:512] + noughts[:488]},
		{fill("n", 513), short(1), old[:512] + "n" + noughts[:487]},
		{"", short(0), noughts[:512] + old[512:]},
		{"", long(0), ""},
	} {
		f := store(t, 8)
		keep(t, f, "a", old)
		f.Truncate("a", 0)
		write(t, f, "a", x.now)
		c := f.Crash(nil, x.file)
		wantFile(t, c, "a", x.left)
		wantUsed(t, c, (len(x.left)+511)/512)
		wantFile(t, f, "a", x.now)
	}
}

// P1.4: files survive by the names that they have then, the first Survive of each; others are what lasts.
func TestCrashNames(t *testing.T) {
	f := store(t, 8)
	keep(t, f, "a", "A")
	keep(t, f, "b", "B")
	write(t, f, "a", "1")
	write(t, f, "b", "2")
	f.Rename("a", "c")
	a, b, c := all("a"), all("b"), all("c")
	wantFile(t, f.Crash(nil, a), "a", "1")
	wantFile(t, f.Crash(nil, a), "b", "B")
	wantFile(t, f.Crash(nil, c), "a", "A")
	wantFile(t, f.Crash([]int{0}, c), "c", "1")
	wantFile(t, f.Crash([]int{0}, a, b), "c", "A")
	wantFile(t, f.Crash([]int{0}, a, b), "b", "2")
	none := api.Survive{Name: "b"}
	wantFile(t, f.Crash(nil, none, b), "b", "B")
	wantFile(t, f.Crash(nil, b, none), "b", "2")
	wantFile(t, f.Crash(nil, api.Survive{Name: "b", Sectors: []int{1}}, b, a), "b", "B")
	wantNames(t, f.Crash(nil, all("zzz"), all(""), all("A")), "a", "b")
}

// P1.4: another store with the same capacity, with power, without Fail and Power; all of it lasts; the old one stays.
func TestCrashIsAnother(t *testing.T) {
	f := store(t, 2)
	write(t, f, "a", fill("x", 600))
	f.Fail(0)
	f.Power(0)
	c := f.Crash([]int{0}, all("a"))
	want(t, "no Fail, no Power", c.SyncDir(), api.OK)
	want(t, "f's power", f.SyncDir(), api.ErrPower)
	c = f.Crash([]int{0}, all("a"))
	if c.Off() || !f.Off() {
		t.Fatal(c.Off(), f.Off())
	}
	d := c.Crash(nil)
	wantFile(t, d, "a", fill("x", 600))
	wantFile(t, c.Crash([]int{0, 1, 2}), "a", fill("x", 600))
	want(t, "capacity", c.Write("b", 0, []byte("x")), api.ErrSpace)
	want(t, "over it", c.Write("a", 0, fillBytes(1024)), api.OK)
	want(t, "another name", c.Rename("a", "b"), api.OK)
	wantNames(t, f, "a")
	wantFile(t, d, "a", fill("x", 600))
	wantFile(t, f.Crash([]int{0}, all("a")), "a", fill("x", 600))
	want(t, "d's own", d.Remove("a"), api.OK)
	wantNames(t, c, "b")
}

// P1.4: what is done to the one store is not seen in the other one.
func TestCrashShareNothing(t *testing.T) {
	f := store(t, 4)
	keep(t, f, "a", "old")
	for _, files := range [][]api.Survive{nil, {all("a")}} {
		c := f.Crash(nil, files...)
		ahead := told(f, 2)
		want(t, "over it", c.Write("a", 0, []byte("NEW")), api.OK)
		if told(f, 2) != ahead {
			t.Fatalf("%s, not %s", told(f, 2), ahead)
		}
		wantFile(t, c.Crash(nil), "a", "old")
		c = f.Crash(nil, files...)
		want(t, "over the old one", f.Write("a", 0, []byte("NOW")), api.OK)
		wantFile(t, c, "a", "old")
		wantFile(t, c.Crash(nil), "a", "old")
		want(t, "as it was", f.Write("a", 0, []byte("old")), api.OK)
	}
}

func fillBytes(n int) []byte { return []byte(fill("f", n)) }

// P1.4: what is handed in is not kept, nor changed.
func TestCrashKeepsNothing(t *testing.T) {
	f := store(t, 2)
	write(t, f, "a", "x")
	turns, files := []int{0}, []api.Survive{{Name: "a", Sectors: []int{0}, Long: true}}
	c := f.Crash(turns, files...)
	if turns[0] != 0 || len(files) != 1 || files[0].Name != "a" || files[0].Sectors[0] != 0 {
		t.Fatal(turns, files)
	}
	turns[0], files[0].Sectors[0], files[0].Name = 7, 7, "q"
	wantFile(t, c, "a", "x")
	wantFile(t, f.Crash([]int{0}, all("a")), "a", "x")
}

// P1.5: what was synced is there behind any crash that has no turns.
func TestSyncedIsThere(t *testing.T) {
	f := store(t, 8)
	keep(t, f, "a", fill("s", 700))
	write(t, f, "b", "t")
	f.Rename("a", "c")
	f.Rename("b", "a")
	f.Remove("c")
	for _, files := range [][]api.Survive{nil, {all("a")}, {{Name: "a", Sectors: []int{1}}}, {{Name: "a", Long: true}}} {
		c := f.Crash(nil, files...)
		wantNames(t, c, "a")
		wantFile(t, c, "a", fill("s", 700))
	}
}

// P1.4: a name that came to be brings its own file, though the directory that lasts has another one by it.
func TestCrashBringsItsFile(t *testing.T) {
	f := store(t, 8)
	keep(t, f, "a", "old")
	f.Remove("a")
	write(t, f, "a", "new")
	f.Fsync("a")
	f.Remove("a")
	wantFile(t, f.Crash(nil), "a", "old")
	wantFile(t, f.Crash([]int{1}), "a", "new")
	wantNames(t, f.Crash([]int{0, 1, 2}))
	wantFile(t, f.Crash([]int{1}, api.Survive{Name: "a", Sectors: []int{0}, Long: true}), "a", "new")
	wantNames(t, f)
}

// Rule 4: of a store that nothing made.
func TestNil(t *testing.T) {
	var none *vfs.FS
	for _, f := range []*vfs.FS{none, {}} {
		want(t, "Write", f.Write("a", 0, nil), api.ErrNil)
		want(t, "Write, no name", f.Write("", -1, nil), api.ErrNil)
		want(t, "Truncate", f.Truncate("a", 0), api.ErrNil)
		want(t, "Truncate, no name", f.Truncate("", -1), api.ErrNil)
		want(t, "Fsync", f.Fsync(""), api.ErrNil)
		want(t, "Rename", f.Rename("", ""), api.ErrNil)
		want(t, "Remove", f.Remove(""), api.ErrNil)
		want(t, "SyncDir", f.SyncDir(), api.ErrNil)
		f.Fail(0)
		f.Power(0)
		b, e := f.Read("")
		want(t, "Read", e, api.ErrNil)
		if len(b) != 0 || len(f.Names()) != 0 || f.Used() != 0 || f.Off() || f.Crash([]int{0}, all("a")) != nil {
			t.Error("something of nothing")
		}
		want(t, "SyncDir", f.SyncDir(), api.ErrNil)
	}
}
