package journal

import (
	"touchstone/api"
	"touchstone/vfs"
)

// step is something that is done with a store.
type step func(fs *vfs.FS) api.Errno

// do does steps one behind the other, up to the first error.
func do(fs *vfs.FS, steps ...step) api.Errno {
	for _, s := range steps {
		if e := s(fs); e != api.OK {
			return e
		}
	}
	return api.OK
}

func of(act func(fs *vfs.FS, name string) api.Errno, name string) step {
	return func(fs *vfs.FS) api.Errno { return act(fs, name) }
}

func write(name string, at int, text string) step {
	return func(fs *vfs.FS) api.Errno { return fs.Write(name, at, []byte(text)) }
}

func truncate(name string, n int) step {
	return func(fs *vfs.FS) api.Errno { return fs.Truncate(name, n) }
}

func rename(from, to string) step {
	return func(fs *vfs.FS) api.Errno { return fs.Rename(from, to) }
}

// ifThere takes a file that is not there as one with which the step is done: the store counts no step then.
func ifThere(s step) step {
	return func(fs *vfs.FS) api.Errno {
		if e := s(fs); e != api.ErrNone {
			return e
		}
		return api.OK
	}
}

// cut makes a file that is longer than n bytes as long. What a look refuses is left to the step behind, which tells why.
func cut(name string, n int) step {
	return func(fs *vfs.FS) api.Errno {
		if b, e := fs.Read(name); e != api.OK || len(b) <= n {
			return api.OK
		}
		return fs.Truncate(name, n)
	}
}

func beginSegment(name, framed string) []step {
	return []step{
		ifThere(truncate(name, 0)),
		write(name, 0, framed),
		of((*vfs.FS).Fsync, name),
		(*vfs.FS).SyncDir,
	}
}

func continueSegment(name string, at int, framed string) []step {
	return []step{
		cut(name, at),
		write(name, at, framed),
		of((*vfs.FS).Fsync, name),
	}
}

// layManifest puts a manifest in the place of the one that is there, by a draft that lasts ahead of having its name. Clear does away with what the draft's file has.
func layManifest(clear step, text string) []step {
	return []step{
		ifThere(clear),
		write(draftFile, 0, text),
		of((*vfs.FS).Fsync, draftFile),
		rename(draftFile, manifestFile),
		(*vfs.FS).SyncDir,
	}
}
