package vfs_test

import (
	"testing"

	"touchstone/api"
	"touchstone/vfs"
)

// P1.2: bytes stand from at on.
func TestWrite(t *testing.T) {
	f := store(t, 4)
	b := []byte("hello")
	want(t, "new", f.Write("a", 0, b), api.OK)
	b[0] = 'J'
	wantFile(t, f, "a", "hello")
	want(t, "within", f.Write("a", 1, []byte("EL")), api.OK)
	wantFile(t, f, "a", "hELlo")
	want(t, "over the end", f.Write("a", 4, []byte("O, you")), api.OK)
	wantFile(t, f, "a", "hELlO, you")
	want(t, "at the end", f.Write("a", 10, []byte("!")), api.OK)
	wantFile(t, f, "a", "hELlO, you!")
	want(t, "nothing", f.Write("a", 3, nil), api.OK)
	wantFile(t, f, "a", "hELlO, you!")
	want(t, "nothing, at the end", f.Write("a", 11, []byte{}), api.OK)
	want(t, "an empty one", f.Write("e", 0, nil), api.OK)
	wantNames(t, f, "a", "e")
	wantFile(t, f, "e", "")
	wantUsed(t, f, 1)
}

// P1.2: what Write may not be given.
func TestWriteArg(t *testing.T) {
	f := store(t, api.MaxDisk)
	write(t, f, "a", "xyz")
	f.Fail(0)
	for _, at := range []int{-1 << 63, -1, 4, 5, api.MaxFile, api.MaxFile + 1, 1<<63 - 1} {
		want(t, "at", f.Write("a", at, []byte("q")), api.ErrArg)
		want(t, "at, with nothing", f.Write("a", at, nil), api.ErrArg)
	}
	for _, at := range []int{-1, 1, 3} {
		want(t, "of none", f.Write("b", at, nil), api.ErrArg)
	}
	for _, name := range []string{"", "A", "a b", "a/b", "a_b", "\x00", "ä"} {
		want(t, "name "+name, f.Write(name, 0, nil), api.ErrArg)
	}
	wantNames(t, f, "a")
	want(t, "what Fail(0) was for", f.Write("a", 0, nil), api.ErrIO)
}

// P1.2: a file has at most MaxFile bytes.
func TestMaxFile(t *testing.T) {
	f := store(t, api.MaxDisk)
	want(t, "too many", f.Write("a", 0, make([]byte, api.MaxFile+1)), api.ErrArg)
	wantNames(t, f)
	want(t, "MaxFile", f.Write("a", 0, make([]byte, api.MaxFile)), api.OK)
	wantUsed(t, f, api.MaxFile/api.Sector)
	want(t, "one more", f.Write("a", api.MaxFile, []byte("x")), api.ErrArg)
	want(t, "none more", f.Write("a", api.MaxFile, nil), api.OK)
	want(t, "the last one", f.Write("a", api.MaxFile-1, []byte("x")), api.OK)
	want(t, "the last one, and one more", f.Write("a", api.MaxFile-1, []byte("xy")), api.ErrArg)
	b, e := f.Read("a")
	if e != api.OK || len(b) != api.MaxFile || b[api.MaxFile-1] != 'x' {
		t.Fatal(len(b), e)
	}
}

// P1.2: the last free sector, and what is beyond it.
func TestSpace(t *testing.T) {
	f := store(t, 3)
	write(t, f, "a", fill("a", 513))
	want(t, "two more", f.Write("b", 0, make([]byte, 513)), api.ErrSpace)
	wantNames(t, f, "a")
	want(t, "the last one", f.Write("b", 0, make([]byte, 512)), api.OK)
	wantUsed(t, f, 3)
	want(t, "one byte", f.Write("b", 512, []byte("x")), api.ErrSpace)
	wantFile(t, f, "b", string(make([]byte, 512)))
	want(t, "one byte of another one", f.Write("c", 0, []byte("x")), api.ErrSpace)
	want(t, "an empty one", f.Write("c", 0, nil), api.OK)
	want(t, "what is left of a sector", f.Write("a", 513, make([]byte, 511)), api.OK)
	want(t, "over what there is", f.Write("b", 0, []byte("x")), api.OK)
	wantUsed(t, f, 3)
	want(t, "Truncate", f.Truncate("b", 0), api.OK)
	want(t, "now there is room", f.Write("c", 0, make([]byte, 512)), api.OK)
	one := store(t, 1)
	want(t, "a sector", one.Write("a", 0, make([]byte, 512)), api.OK)
	want(t, "more", one.Write("a", 0, make([]byte, 513)), api.ErrSpace)
}

// P1.2: a whole store, to its last sector.
func TestMaxDisk(t *testing.T) {
	f := store(t, api.MaxDisk)
	n := api.MaxDisk * api.Sector / api.MaxFile
	for i := range n {
		want(t, "full files", f.Write("f"+string(rune('0'+i)), 0, make([]byte, api.MaxFile)), api.OK)
	}
	wantUsed(t, f, api.MaxDisk)
	want(t, "beyond", f.Write("g", 0, []byte("x")), api.ErrSpace)
	want(t, "Remove", f.Remove("f0"), api.OK)
	want(t, "room again", f.Write("g", 0, []byte("x")), api.OK)
}

// P1.2: a store may have more sectors behind a crash than its capacity; then each Write of it would have, too, that leaves too many.
func TestSpaceBehindCrash(t *testing.T) {
	f := store(t, 2)
	keep(t, f, "a", fill("a", 1024))
	f.Remove("a")
	write(t, f, "b", fill("b", 1024))
	f.Fsync("b")
	c := f.Crash([]int{1})
	wantNames(t, c, "a", "b")
	wantUsed(t, c, 4)
	want(t, "over", c.Write("a", 0, []byte("x")), api.ErrSpace)
	want(t, "nothing", c.Write("a", 0, nil), api.ErrSpace)
	want(t, "an empty one", c.Write("c", 0, nil), api.ErrSpace)
	want(t, "Truncate", c.Truncate("a", 513), api.OK)
	wantUsed(t, c, 4)
	want(t, "Remove", c.Remove("b"), api.OK)
	want(t, "then", c.Write("a", 0, []byte("x")), api.OK)
}

// P1.2: Truncate, and its errors in their order.
func TestTruncate(t *testing.T) {
	f := store(t, 4)
	write(t, f, "a", "hello")
	want(t, "all of it", f.Truncate("a", 5), api.OK)
	wantFile(t, f, "a", "hello")
	want(t, "a piece", f.Truncate("a", 2), api.OK)
	wantFile(t, f, "a", "he")
	f.Fail(0)
	want(t, "beyond", f.Truncate("a", 3), api.ErrArg)
	want(t, "far beyond", f.Truncate("a", 1<<63-1), api.ErrArg)
	want(t, "below 0", f.Truncate("a", -1), api.ErrArg)
	want(t, "none", f.Truncate("b", 0), api.ErrNone)
	want(t, "none, beyond", f.Truncate("b", 1), api.ErrNone)
	want(t, "none, below 0", f.Truncate("b", -1), api.ErrArg)
	want(t, "no name", f.Truncate("B", 0), api.ErrArg)
	wantFile(t, f, "a", "he")
	want(t, "the step", f.Truncate("a", 0), api.ErrIO)
	wantFile(t, f, "a", "he")
	want(t, "to nothing", f.Truncate("a", 0), api.OK)
	wantFile(t, f, "a", "")
	want(t, "written on", f.Write("a", 0, []byte("xyz")), api.OK)
	wantFile(t, f, "a", "xyz")
}

// P1.3: Fsync.
func TestFsync(t *testing.T) {
	f := store(t, 4)
	write(t, f, "a", "x")
	f.SyncDir()
	wantFile(t, f.Crash(nil), "a", "")
	f.Fail(0)
	want(t, "no name", f.Fsync("A"), api.ErrArg)
	want(t, "none", f.Fsync("b"), api.ErrNone)
	want(t, "the step", f.Fsync("a"), api.ErrIO)
	wantFile(t, f.Crash(nil), "a", "")
	want(t, "again", f.Fsync("a"), api.OK)
	wantFile(t, f.Crash(nil), "a", "x")
	want(t, "over it", f.Write("a", 0, []byte("yz")), api.OK)
	wantFile(t, f.Crash(nil), "a", "x")
	f.Truncate("a", 0)
	wantFile(t, f.Crash(nil), "a", "x")
	f.Fsync("a")
	wantFile(t, f.Crash(nil), "a", "")
}

// P1.3: Rename, also onto a file that is there.
func TestRename(t *testing.T) {
	f := store(t, 4)
	write(t, f, "a", "x")
	write(t, f, "b", "yy")
	f.Fail(0)
	want(t, "the same", f.Rename("a", "a"), api.ErrArg)
	want(t, "the same, not there", f.Rename("c", "c"), api.ErrArg)
	want(t, "not from a name", f.Rename("A", "b"), api.ErrArg)
	want(t, "not to a name", f.Rename("a", "B"), api.ErrArg)
	want(t, "none, not to a name", f.Rename("c", ""), api.ErrArg)
	want(t, "none", f.Rename("c", "a"), api.ErrNone)
	want(t, "the step", f.Rename("a", "b"), api.ErrIO)
	wantFile(t, f, "b", "yy")
	want(t, "onto b", f.Rename("a", "b"), api.OK)
	wantNames(t, f, "b")
	wantFile(t, f, "b", "x")
	wantUsed(t, f, 1)
	want(t, "to what is not there", f.Rename("b", "c"), api.OK)
	wantNames(t, f, "c")
	wantFile(t, f, "c", "x")
	wantUsed(t, f, 1)
}

// P1.3: Remove.
func TestRemove(t *testing.T) {
	f := store(t, 4)
	write(t, f, "a", "x")
	f.Fail(0)
	want(t, "no name", f.Remove("a b"), api.ErrArg)
	want(t, "none", f.Remove("b"), api.ErrNone)
	want(t, "the step", f.Remove("a"), api.ErrIO)
	wantNames(t, f, "a")
	want(t, "Remove", f.Remove("a"), api.OK)
	wantNames(t, f)
	wantUsed(t, f, 0)
	want(t, "again", f.Remove("a"), api.ErrNone)
	write(t, f, "a", "")
	wantFile(t, f, "a", "")
}

// P1.3: SyncDir makes names last, not bytes.
func TestSyncDir(t *testing.T) {
	f := store(t, 4)
	write(t, f, "a", "x")
	write(t, f, "b", "y")
	f.Fsync("b")
	f.Fail(0)
	want(t, "the step", f.SyncDir(), api.ErrIO)
	wantNames(t, f.Crash(nil))
	want(t, "SyncDir", f.SyncDir(), api.OK)
	c := f.Crash(nil)
	wantNames(t, c, "a", "b")
	wantFile(t, c, "a", "")
	wantFile(t, c, "b", "y")
	f.Rename("b", "a")
	wantNames(t, f.Crash(nil), "a", "b")
	f.SyncDir()
	wantNames(t, f.Crash(nil), "a")
	wantFile(t, f.Crash(nil), "a", "y")
	f.Remove("a")
	wantNames(t, f.Crash(nil), "a")
	f.SyncDir()
	wantNames(t, f.Crash(nil))
}

// steps are calls that are steps, whatever was done, as long as the files a and b are there.
func steps() []func(f *vfs.FS) api.Errno {
	return []func(f *vfs.FS) api.Errno{
		func(f *vfs.FS) api.Errno { return f.Write("a", 0, []byte("w")) },
		func(f *vfs.FS) api.Errno { return f.Write("c", 0, nil) },
		func(f *vfs.FS) api.Errno { return f.Truncate("a", 0) },
		func(f *vfs.FS) api.Errno { return f.Fsync("a") },
		func(f *vfs.FS) api.Errno { return f.Rename("a", "b") },
		func(f *vfs.FS) api.Errno { return f.Remove("a") },
		func(f *vfs.FS) api.Errno { return f.SyncDir() },
	}
}

// Words: each kind of step is counted, fails, and finds the power gone.
func TestEachStep(t *testing.T) {
	for i, do := range steps() {
		f := store(t, 4)
		write(t, f, "a", "x")
		write(t, f, "b", "y")
		ahead := plain(f)
		f.Fail(1)
		want(t, "counted", f.Write("a", 0, nil), api.OK)
		want(t, "Fail", do(f), api.ErrIO)
		if plain(f) != ahead {
			t.Errorf("step %d: %s, not %s", i, plain(f), ahead)
		}
		f.Fail(1)
		want(t, "once", do(f), api.OK)
		want(t, "behind it", f.SyncDir(), api.ErrIO)
		want(t, "once", f.SyncDir(), api.OK)

		f = store(t, 4)
		write(t, f, "a", "x")
		write(t, f, "b", "y")
		f.Power(1)
		want(t, "counted", f.Write("a", 0, nil), api.OK)
		if f.Off() {
			t.Error("off ahead of the step that finds it so")
		}
		want(t, "Power", do(f), api.ErrPower)
		if !f.Off() {
			t.Error("not off")
		}
		for _, other := range steps() {
			want(t, "without power", other(f), api.ErrPower)
		}
		wantNames(t, f, "a", "b")
		wantUsed(t, f, 2)
		wantFile(t, f.Crash(upTo(9), all("a"), all("b")), "a", "x")
	}
}

// Words: what is refused by ErrNil, ErrArg or ErrNone is no step; by ErrSpace it is one.
func TestWhatIsNoStep(t *testing.T) {
	f := store(t, 1)
	write(t, f, "a", "x")
	f.Fail(0)
	want(t, "ErrArg", f.Write("a", 2, nil), api.ErrArg)
	want(t, "ErrArg", f.Truncate("a", 2), api.ErrArg)
	want(t, "ErrNone", f.Truncate("b", 0), api.ErrNone)
	want(t, "ErrNone", f.Fsync("b"), api.ErrNone)
	want(t, "ErrNone", f.Remove("b"), api.ErrNone)
	want(t, "ErrArg", f.Rename("a", "a"), api.ErrArg)
	want(t, "ErrIO goes ahead of ErrSpace", f.Write("a", 0, make([]byte, 513)), api.ErrIO)
	f.Fail(1)
	want(t, "ErrSpace", f.Write("a", 0, make([]byte, 513)), api.ErrSpace)
	want(t, "it was a step", f.SyncDir(), api.ErrIO)
	f.Power(2)
	f.Fail(1)
	want(t, "a step", f.SyncDir(), api.OK)
	want(t, "one that fails is one, too", f.SyncDir(), api.ErrIO)
	want(t, "Power", f.SyncDir(), api.ErrPower)
	want(t, "ErrPower goes ahead of ErrSpace", f.Write("a", 0, make([]byte, 513)), api.ErrPower)
	want(t, "ErrArg goes ahead of ErrPower", f.Write("a", 2, nil), api.ErrArg)
	want(t, "ErrNone goes ahead of ErrPower", f.Remove("b"), api.ErrNone)
}

// Words: of Fail and Power the last call holds, none below 0; Power goes ahead.
func TestFailAndPower(t *testing.T) {
	f := store(t, 1)
	f.Fail(0)
	f.Fail(-1)
	f.Power(0)
	f.Power(-7)
	want(t, "neither", f.SyncDir(), api.OK)
	f.Fail(0)
	f.Fail(1)
	want(t, "Fail(1)", f.SyncDir(), api.OK)
	want(t, "Fail(1)", f.SyncDir(), api.ErrIO)
	f.Fail(5)
	f.Fail(-1 << 63)
	for range 8 {
		want(t, "none", f.SyncDir(), api.OK)
	}
	f.Fail(1)
	f.Power(1)
	want(t, "both", f.SyncDir(), api.OK)
	want(t, "both", f.SyncDir(), api.ErrPower)
	f.Power(-1)
	f.Fail(0)
	want(t, "gone is gone", f.SyncDir(), api.ErrPower)
	f.Power(5)
	want(t, "gone is gone", f.SyncDir(), api.ErrPower)
	if !f.Off() {
		t.Error("not off")
	}
}
