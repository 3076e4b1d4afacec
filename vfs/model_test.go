package vfs_test

import (
	"fmt"
	"maps"
	"math/rand/v2"
	"slices"
	"testing"

	"touchstone/api"
	"touchstone/vfs"
)

// model tells the chapter's words again, by other means: files are numbers, and what a crash leaves is told byte by byte.
type model struct {
	capacity   int
	now, last  []string
	dir, kept  map[string]int
	turns      []func(map[string]int)
	fail, goes int
	off        bool
}

func newModel(capacity int) *model {
	return &model{capacity: capacity, dir: map[string]int{}, kept: map[string]int{}, fail: -1, goes: -1}
}

func (m *model) used(dir map[string]int) int {
	n := 0
	for _, x := range dir {
		n += (len(m.now[x]) + 511) / 512
	}
	return n
}

func (m *model) step() api.Errno {
	if m.goes == 0 {
		m.off = true
	}
	e := api.OK
	if m.fail == 0 {
		e = api.ErrIO
	}
	m.fail, m.goes = max(m.fail, 0)-1, max(m.goes, 0)-1
	if m.off {
		return api.ErrPower
	}
	return e
}

func (m *model) turn(do func(map[string]int)) {
	do(m.dir)
	m.turns = append(m.turns, do)
}

func (m *model) write(name string, at int, b string) api.Errno {
	x, there := m.dir[name]
	s := ""
	if there {
		s = m.now[x]
	}
	if at < 0 || at > len(s) {
		return api.ErrArg
	}
	if e := m.step(); e != api.OK {
		return e
	}
	whole := s[:at] + b
	if len(whole) < len(s) {
		whole += s[len(whole):]
	}
	if m.used(m.dir)-(len(s)+511)/512+(len(whole)+511)/512 > m.capacity {
		return api.ErrSpace
	}
	if !there {
		x = len(m.now)
		m.now, m.last = append(m.now, ""), append(m.last, "")
		m.turn(func(d map[string]int) { d[name] = x })
	}
	m.now[x] = whole
	return api.OK
}

func (m *model) truncate(name string, n int) api.Errno {
	x, there := m.dir[name]
	switch {
	case n < 0:
		return api.ErrArg
	case !there:
		return api.ErrNone
	case n > len(m.now[x]):
		return api.ErrArg
	}
	e := m.step()
	if e == api.OK {
		m.now[x] = m.now[x][:n]
	}
	return e
}

func (m *model) fsync(name string) api.Errno {
	x, there := m.dir[name]
	if !there {
		return api.ErrNone
	}
	e := m.step()
	if e == api.OK {
		m.last[x] = m.now[x]
	}
	return e
}

func (m *model) rename(from, to string) api.Errno {
	if from == to {
		return api.ErrArg
	}
	if _, there := m.dir[from]; !there {
		return api.ErrNone
	}
	e := m.step()
	if e == api.OK {
		m.turn(func(d map[string]int) {
			if x, there := d[from]; there {
				d[to] = x
				delete(d, from)
			}
		})
	}
	return e
}

func (m *model) remove(name string) api.Errno {
	if _, there := m.dir[name]; !there {
		return api.ErrNone
	}
	e := m.step()
	if e == api.OK {
		m.turn(func(d map[string]int) { delete(d, name) })
	}
	return e
}

func (m *model) syncDir() api.Errno {
	e := m.step()
	if e == api.OK {
		m.kept, m.turns = maps.Clone(m.dir), nil
	}
	return e
}

func (m *model) crash(turns []int, files []api.Survive) *model {
	dir := maps.Clone(m.kept)
	for i, do := range m.turns {
		if slices.Contains(turns, i) {
			do(dir)
		}
	}
	c := newModel(m.capacity)
	for name, x := range dir {
		s := m.last[x]
		at := slices.IndexFunc(files, func(f api.Survive) bool { return f.Name == name })
		if at >= 0 {
			s = survivor(m.now[x], m.last[x], files[at])
		}
		c.dir[name] = len(c.now)
		c.now, c.last = append(c.now, s), append(c.last, s)
	}
	c.kept = maps.Clone(c.dir)
	return c
}

func survivor(now, last string, file api.Survive) string {
	n := len(last)
	if file.Long {
		n = len(now)
	}
	var out []byte
	for k := range n {
		from, c := last, byte(0)
		if slices.Contains(file.Sectors, k/512) {
			from = now
		}
		if k < len(from) {
			c = from[k]
		}
		out = append(out, c)
	}
	return string(out)
}

func (m *model) plain() string {
	out := fmt.Sprint(m.used(m.dir), m.off)
	for _, name := range slices.Sorted(maps.Keys(m.dir)) {
		if m.off {
			out += fmt.Sprintf(" %s:%d:", name, api.ErrPower)
		} else {
			out += fmt.Sprintf(" %s:%d:%x", name, api.OK, m.now[m.dir[name]])
		}
	}
	return out
}

// dice throws what is done next: always the same from the same seed.
type dice struct{ *rand.Rand }

func (d dice) name() string { return nameList[d.IntN(len(nameList))] }

func (d dice) text() string {
	n := []int{0, 1, 40, 511, 512, 513, 900}[d.IntN(7)]
	out := make([]byte, n)
	for i := range out {
		out[i] = byte(1 + d.IntN(255))
	}
	return string(out)
}

func (d dice) numbers(n, bound int) []int {
	var out []int
	for range d.IntN(n + 1) {
		out = append(out, d.IntN(bound))
	}
	return out
}

func (d dice) files() []api.Survive {
	var out []api.Survive
	for range d.IntN(5) {
		out = append(out, api.Survive{Name: d.name(), Sectors: d.numbers(4, 5), Long: d.IntN(2) == 0})
	}
	return out
}

// both does one thing to the store and the model, and tells what each answered.
func (d dice) both(f *vfs.FS, m *model) (what string, got, wanted api.Errno) {
	name, to := d.name(), d.name()
	switch d.IntN(16) {
	case 0, 1, 2, 3, 4, 5:
		at, s := d.at(m, name), d.text()
		return fmt.Sprint("Write ", name, at, len(s)), f.Write(name, at, []byte(s)), m.write(name, at, s)
	case 6, 7:
		n := d.at(m, name)
		return fmt.Sprint("Truncate ", name, n), f.Truncate(name, n), m.truncate(name, n)
	case 8, 9, 10:
		return "Fsync " + name, f.Fsync(name), m.fsync(name)
	case 11, 12:
		return "Rename " + name + " " + to, f.Rename(name, to), m.rename(name, to)
	case 13:
		return "Remove " + name, f.Remove(name), m.remove(name)
	case 14:
		return "SyncDir", f.SyncDir(), m.syncDir()
	}
	n := d.IntN(12) - 3
	if d.IntN(8) == 0 {
		f.Power(n)
		m.goes = n
		return fmt.Sprint("Power ", n), 0, 0
	}
	f.Fail(n)
	m.fail = n
	return fmt.Sprint("Fail ", n), 0, 0
}

// at is mostly a place in the file.
func (d dice) at(m *model, name string) int {
	if x, there := m.dir[name]; there {
		return d.IntN(len(m.now[x])+4) - 1
	}
	return d.IntN(3) - 1
}

// P1.1 to P1.7, P2: whatever is done, a store is what the chapter says, behind crashes, too, and what is refused changes nothing.
func TestModel(t *testing.T) {
	for seed := range uint64(400) {
		d := dice{rand.New(rand.NewPCG(seed, 1))}
		capacity := 1 + d.IntN(9)
		f, m := store(t, capacity), newModel(capacity)
		var done []string
		for range 60 {
			ahead, off := told(f, len(m.turns)), f.Off()
			what, got, wanted := d.both(f, m)
			done = append(done, what)
			if got != wanted || plain(f) != m.plain() {
				t.Fatalf("seed %d, %v: %d, not %d: %s, not %s", seed, done, got, wanted, plain(f), m.plain())
			}
			if got != api.OK && off == f.Off() && told(f, len(m.turns)) != ahead {
				t.Fatalf("seed %d, %v: refused with %d, and changed", seed, done, got)
			}
			turns, files := d.numbers(len(m.turns), len(m.turns)+2), d.files()
			c, n := f.Crash(turns, files...), m.crash(turns, files)
			if plain(c) != n.plain() || plain(c.Crash(nil)) != n.plain() {
				t.Fatalf("seed %d, %v, %v %v: %s, not %s", seed, done, turns, files, plain(c), n.plain())
			}
			if d.IntN(25) == 0 || f.Off() && d.IntN(4) == 0 {
				f, m = c, n
				done = append(done, fmt.Sprint("Crash ", turns, files))
			}
		}
	}
}

// P1.5, P1.6: a crash without turns leaves what was synced; one with all of it what is read.
func TestWholeCrash(t *testing.T) {
	for seed := range uint64(200) {
		d := dice{rand.New(rand.NewPCG(seed, 2))}
		f, m := store(t, 6), newModel(6)
		for range 40 {
			d.both(f, m)
			if f.Off() {
				f, m = f.Crash(nil), m.crash(nil, nil)
			}
			var files []api.Survive
			for _, name := range nameList {
				files = append(files, api.Survive{Name: name, Sectors: upTo(6), Long: true})
			}
			if c := f.Crash(upTo(len(m.turns)), files...); plain(c) != plain(f) {
				t.Fatalf("seed %d: %s, not %s", seed, plain(c), plain(f))
			}
			for name, x := range m.kept {
				wantFile(t, f.Crash(nil), name, m.last[x])
			}
		}
	}
}

// P1: no call panics, whatever it is given.
func TestAnyArguments(t *testing.T) {
	d := dice{rand.New(rand.NewPCG(3, 3))}
	ints := []int{-1 << 63, -513, -1, 0, 1, 511, 512, api.MaxFile, api.MaxFile + 1, 1<<63 - 1}
	names := append([]string{"", "A", "ä", fill("x", 31), fill("x", 100000), "a\x00"}, nameList...)
	number := func() int { return ints[d.IntN(len(ints))] }
	name := func() string { return names[d.IntN(len(names))] }
	f := store(t, 3)
	for range 4000 {
		f.Write(name(), number(), make([]byte, d.IntN(600)))
		f.Write(name(), 0, nil)
		f.Truncate(name(), number())
		f.Fsync(name())
		f.Rename(name(), name())
		f.Read(name())
		if d.IntN(9) == 0 {
			f.Remove(name())
			f.SyncDir()
		}
		if d.IntN(30) == 0 {
			f.Fail(number())
			f.Power(number())
		}
		c := f.Crash([]int{number(), number(), 0}, api.Survive{Name: name(), Sectors: []int{number(), 0}, Long: d.IntN(2) == 0})
		if c == nil {
			t.Fatal("no store")
		}
		if f.Off() {
			f = c
		}
	}
}
