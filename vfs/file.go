package vfs

import "touchstone/api"

// A sector has 2^shift bytes.
const shift = 9

func sectors(n int) int { return (n + api.Sector - 1) >> shift }

// file stands apart from its names, so that one that a name lost is there again when a crash undoes that.
type file struct {
	bytes   []byte
	lasting []byte
}

// size takes a file that is not there as an empty one, as Write does.
func (x *file) size() int {
	if x == nil {
		return 0
	}
	return len(x.bytes)
}

func (x *file) put(at int, b []byte) {
	n := copy(x.bytes[at:], b)
	x.bytes = append(x.bytes, b[n:]...)
}

// place is a sector of the file that a name has.
type place struct {
	name   string
	sector int
}

// left is what a crash leaves of a file that was told to survive under a name. A sector comes whole from one side: what that side lacks stays 0.
func (x *file) left(name string, long bool, kept map[place]struct{}) []byte {
	size := len(x.lasting)
	if long {
		size = len(x.bytes)
	}
	out := make([]byte, size)
	for i := range sectors(size) {
		from := x.lasting
		if _, ok := kept[place{name, i}]; ok {
			from = x.bytes
		}
		if at := i << shift; at < len(from) {
			copy(out[at:min(at+api.Sector, size)], from[at:])
		}
	}
	return out
}
