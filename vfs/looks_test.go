package vfs_test

import (
	"testing"

	"touchstone/api"
	"touchstone/vfs"
)

// P1.1: which capacities there are.
func TestNew(t *testing.T) {
	for _, n := range []int{-1 << 63, -1, 0, api.MaxDisk + 1, 1<<63 - 1} {
		if f, e := vfs.New(n); f != nil || e != api.ErrArg {
			t.Errorf("New(%d): %v, %v", n, f, e)
		}
	}
	for _, n := range []int{1, 2, api.MaxDisk - 1, api.MaxDisk} {
		f := store(t, n)
		wantNames(t, f)
		wantUsed(t, f, 0)
		if f.Off() {
			t.Errorf("New(%d) is off", n)
		}
	}
}

// P1.1: Read's errors in their order, and what it hands out.
func TestRead(t *testing.T) {
	f := store(t, 4)
	write(t, f, "a", "xy")
	wantFile(t, f, "a", "xy")
	write(t, f, "e", "")
	wantFile(t, f, "e", "")
	_, e := f.Read("b")
	want(t, "one that is not there", e, api.ErrNone)
	_, e = f.Read("B")
	want(t, "no name", e, api.ErrArg)
	b, _ := f.Read("a")
	b[0] = '!'
	_ = append(b[:1], '!')
	wantFile(t, f, "a", "xy")
	f.Power(0)
	f.SyncDir()
	for name, wanted := range map[string]api.Errno{"a": api.ErrPower, "b": api.ErrPower, "B": api.ErrArg, "": api.ErrArg} {
		b, e := f.Read(name)
		want(t, "without power: "+name, e, wanted)
		if len(b) != 0 {
			t.Errorf("bytes beside an error: %q", b)
		}
	}
}

// P1.1: names are those of the directory, rising, and the caller's own.
func TestNames(t *testing.T) {
	f := store(t, 4)
	for _, name := range []string{"b", "a", "aa", "-", ".", "9", "0", "z", "ab"} {
		write(t, f, name, "")
	}
	sorted := []string{"-", ".", "0", "9", "a", "aa", "ab", "b", "z"}
	wantNames(t, f, sorted...)
	f.Names()[0] = "!"
	wantNames(t, f, sorted...)
	f.Remove("aa")
	f.Rename("z", "aaa")
	wantNames(t, f, "-", ".", "0", "9", "a", "aaa", "ab", "b")
}

// Words: what a name is.
func TestNameBytes(t *testing.T) {
	for c := range 256 {
		s := string([]byte{'a', byte(c), 'b'})
		ok := c >= 'a' && c <= 'z' || c >= '0' && c <= '9' || c == '.' || c == '-'
		wanted := api.ErrArg
		if ok {
			wanted = api.OK
		}
		want(t, "Write "+s, store(t, 1).Write(s, 0, nil), wanted)
	}
	f := store(t, 1)
	want(t, "no bytes", f.Write("", 0, nil), api.ErrArg)
	want(t, "MaxName bytes", f.Write(fill("n", api.MaxName), 0, nil), api.OK)
	want(t, "one more", f.Write(fill("n", api.MaxName+1), 0, nil), api.ErrArg)
	wantNames(t, f, fill("n", api.MaxName))
}

// P1.1: each file's sectors are rounded up, and looks are no steps.
func TestUsed(t *testing.T) {
	f := store(t, 20)
	used := 0
	for i, n := range []int{0, 1, 511, 512, 513, 1024, 1025} {
		write(t, f, "f"+string(rune('0'+i)), fill("x", n))
		used += (n + 511) / 512
		wantUsed(t, f, used)
	}
	f.Truncate("f6", 1024)
	wantUsed(t, f, used-1)
	f.Truncate("f6", 513)
	wantUsed(t, f, used-1)
	f.Truncate("f6", 0)
	wantUsed(t, f, used-3)
	f.Rename("f0", "f5")
	wantUsed(t, f, used-5)
	f.Remove("f4")
	wantUsed(t, f, used-7)
}

// P1.1, Words: looks are no steps, Fail and Power none either.
func TestLooksAreNoSteps(t *testing.T) {
	f := store(t, 4)
	write(t, f, "a", "x")
	f.Fail(1)
	f.Power(2)
	for range 5 {
		f.Read("a")
		f.Read("none")
		f.Names()
		f.Used()
		f.Off()
		f.Crash([]int{0})
	}
	want(t, "first", f.SyncDir(), api.OK)
	want(t, "second", f.SyncDir(), api.ErrIO)
	want(t, "third", f.SyncDir(), api.ErrPower)
}
