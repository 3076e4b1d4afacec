// Package vfs is layer 1: a stand-in for a file store: see shared/doc/01-vfs.md.
package vfs

import (
	"maps"
	"slices"

	"touchstone/api"
)

// FS is files.
type FS struct {
	capacity int
	// Counted along, as a store may have any number of empty files.
	used  int
	names map[string]*file
	// What the last SyncDir left; names is that, with all turns made.
	lasting map[string]*file
	turns   []turn
	// Steps that still come ahead of the one that fails, or finds the power gone; below 0: none does.
	fail  int
	power int
	off   bool
}

// New makes one.
func New(capacity int) (*FS, api.Errno) {
	if capacity < 1 || capacity > api.MaxDisk {
		return nil, api.ErrArg
	}
	return empty(capacity), api.OK
}

func empty(capacity int) *FS {
	return &FS{
		capacity: capacity,
		names:    map[string]*file{},
		lasting:  map[string]*file{},
		fail:     -1,
		power:    -1,
	}
}

// made also tells a zero FS from one of New: no call made that one either, and it has no maps to write to.
func (f *FS) made() bool { return f != nil && f.capacity > 0 }

func isName(s string) bool {
	if len(s) < 1 || len(s) > api.MaxName {
		return false
	}
	for i := range len(s) {
		if !isNameByte(s[i]) {
			return false
		}
	}
	return true
}

func isNameByte(c byte) bool {
	return c >= 'a' && c <= 'z' || c >= '0' && c <= '9' || c == '.' || c == '-'
}

// Read is a file's bytes.
func (f *FS) Read(name string) ([]byte, api.Errno) {
	if !f.made() {
		return nil, api.ErrNil
	}
	if !isName(name) {
		return nil, api.ErrArg
	}
	if f.off {
		return nil, api.ErrPower
	}
	x, there := f.names[name]
	if !there {
		return nil, api.ErrNone
	}
	return slices.Clone(x.bytes), api.OK
}

// Names are those of the directory.
func (f *FS) Names() []string {
	if !f.made() {
		return nil
	}
	return slices.Sorted(maps.Keys(f.names))
}

// Used is how many sectors files have.
func (f *FS) Used() int {
	if !f.made() {
		return 0
	}
	return f.used
}

// Fail lets a step fail.
func (f *FS) Fail(n int) {
	if f.made() {
		f.fail = n
	}
}

// Power lets the power go.
func (f *FS) Power(n int) {
	if f.made() {
		f.power = n
	}
}

// Off tells whether it is gone.
func (f *FS) Off() bool { return f.made() && f.off }

// step counts one step, and tells what befalls it. Power is asked ahead of Fail, as both may come at one step.
func (f *FS) step() api.Errno {
	fails, goes := f.fail == 0, f.power == 0
	f.fail, f.power = nearer(f.fail), nearer(f.power)
	f.off = f.off || goes
	if f.off {
		return api.ErrPower
	}
	if fails {
		return api.ErrIO
	}
	return api.OK
}

// nearer leaves what is below 0 as it is: what never comes must not come round by counting.
func nearer(n int) int {
	if n < 0 {
		return n
	}
	return n - 1
}
