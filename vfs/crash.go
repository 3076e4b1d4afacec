package vfs

import (
	"maps"
	"slices"

	"touchstone/api"
)

// The kinds of turns.
const (
	comes   = iota // a name comes to be, with its file
	goes           // a name goes
	becomes        // a name becomes another one
)

// turn is a change of the directory. It can be made on any directory, as a crash may leave out those ahead of it.
type turn struct {
	kind int
	name string
	to   string
	file *file
}

func (t turn) change(names map[string]*file) {
	switch t.kind {
	case comes:
		names[t.name] = t.file
	case goes:
		delete(names, t.name)
	case becomes:
		if x, there := names[t.name]; there {
			delete(names, t.name)
			names[t.to] = x
		}
	}
}

// do makes a turn, and keeps it for a crash ahead of the next SyncDir.
func (f *FS) do(t turn) {
	t.change(f.names)
	f.turns = append(f.turns, t)
}

// Crash is the store behind a crash.
func (f *FS) Crash(turns []int, files ...api.Survive) *FS {
	if !f.made() {
		return nil
	}
	told := firsts(files)
	kept := keptOf(told)
	out := empty(f.capacity)
	for name, x := range f.directory(turns) {
		b := x.lasting
		if s, ok := told[name]; ok {
			b = x.left(name, s.Long, kept)
		}
		out.names[name] = &file{bytes: slices.Clone(b), lasting: slices.Clone(b)}
		out.used += sectors(len(b))
	}
	out.lasting = maps.Clone(out.names)
	return out
}

// directory is the one that lasts, with some turns made: in the order of their places, whatever the order in which these are told.
func (f *FS) directory(turns []int) map[string]*file {
	told := map[int]struct{}{}
	for _, i := range turns {
		told[i] = struct{}{}
	}
	names := maps.Clone(f.lasting)
	for i, t := range f.turns {
		if _, ok := told[i]; ok {
			t.change(names)
		}
	}
	return names
}

func firsts(files []api.Survive) map[string]api.Survive {
	out := map[string]api.Survive{}
	for _, s := range files {
		if _, there := out[s.Name]; !there {
			out[s.Name] = s
		}
	}
	return out
}

func keptOf(told map[string]api.Survive) map[place]struct{} {
	out := map[place]struct{}{}
	for name, s := range told {
		for _, i := range s.Sectors {
			out[place{name, i}] = struct{}{}
		}
	}
	return out
}
