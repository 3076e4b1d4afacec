package vfs

import (
	"slices"

	"touchstone/api"
)

// Write writes bytes of a file.
func (f *FS) Write(name string, at int, b []byte) api.Errno {
	if !f.made() {
		return api.ErrNil
	}
	old := f.names[name].size()
	// Held against what is left of MaxFile, as at + len(b) might be too great for an int.
	if !isName(name) || at < 0 || at > old || len(b) > api.MaxFile-at {
		return api.ErrArg
	}
	if e := f.step(); e != api.OK {
		return e
	}
	used := f.used - sectors(old) + sectors(max(old, at+len(b)))
	if used > f.capacity {
		return api.ErrSpace
	}
	if _, there := f.names[name]; !there {
		f.do(turn{kind: comes, name: name, file: &file{}})
	}
	f.names[name].put(at, b)
	f.used = used
	return api.OK
}

// Truncate makes one shorter.
func (f *FS) Truncate(name string, n int) api.Errno {
	if !f.made() {
		return api.ErrNil
	}
	if n < 0 {
		return api.ErrArg
	}
	if e := f.find(name); e != api.OK {
		return e
	}
	x := f.names[name]
	if n > x.size() {
		return api.ErrArg
	}
	if e := f.step(); e != api.OK {
		return e
	}
	f.used += sectors(n) - sectors(x.size())
	x.bytes = x.bytes[:n]
	return api.OK
}

// Fsync makes a file's bytes last.
func (f *FS) Fsync(name string) api.Errno {
	if e := f.find(name); e != api.OK {
		return e
	}
	if e := f.step(); e != api.OK {
		return e
	}
	x := f.names[name]
	x.lasting = slices.Clone(x.bytes)
	return api.OK
}

// Rename gives a file another name.
func (f *FS) Rename(from, to string) api.Errno {
	if !f.made() {
		return api.ErrNil
	}
	if !isName(to) || from == to {
		return api.ErrArg
	}
	if e := f.find(from); e != api.OK {
		return e
	}
	if e := f.step(); e != api.OK {
		return e
	}
	f.used -= sectors(f.names[to].size())
	f.do(turn{kind: becomes, name: from, to: to})
	return api.OK
}

// Remove takes a name away.
func (f *FS) Remove(name string) api.Errno {
	if e := f.find(name); e != api.OK {
		return e
	}
	if e := f.step(); e != api.OK {
		return e
	}
	f.used -= sectors(f.names[name].size())
	f.do(turn{kind: goes, name: name})
	return api.OK
}

// SyncDir makes the directory last.
func (f *FS) SyncDir() api.Errno {
	if !f.made() {
		return api.ErrNil
	}
	if e := f.step(); e != api.OK {
		return e
	}
	for _, t := range f.turns {
		t.change(f.lasting)
	}
	f.turns = nil
	return api.OK
}

// find tells why a name's file can't be had, ahead of any step.
func (f *FS) find(name string) api.Errno {
	if !f.made() {
		return api.ErrNil
	}
	if !isName(name) {
		return api.ErrArg
	}
	if _, there := f.names[name]; !there {
		return api.ErrNone
	}
	return api.OK
}
