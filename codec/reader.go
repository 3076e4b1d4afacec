package codec

import "strings"

// Reader reads. It tells that it is good, not that it is bad, as one that NewReader did not make is bad like nil.
type Reader struct {
	rest string
	good bool
}

// NewReader reads some bytes.
func NewReader(s string) *Reader { return &Reader{rest: s, good: true} }

// U reads a number.
func (r *Reader) U() uint64 {
	if r.Bad() {
		return 0
	}
	x, n := GetUvarint(r.rest)
	if n == 0 {
		r.spoil()
		return 0
	}
	r.rest = r.rest[n:]
	return x
}

// I reads one that may be below 0.
func (r *Reader) I() int { return int(Zag(r.U())) }

// T reads a text.
func (r *Reader) T() string {
	n := r.U()
	if r.Bad() {
		return ""
	}
	// Held against each other as numbers of 64 bits: such a length may be too great for an int.
	if n > uint64(len(r.rest)) {
		r.spoil()
		return ""
	}
	text := strings.Clone(r.rest[:n])
	r.rest = r.rest[n:]
	return text
}

func (r *Reader) spoil() { *r = Reader{} }

// Bad tells whether something was not there.
func (r *Reader) Bad() bool { return r == nil || !r.good }

// Done tells whether all was read.
func (r *Reader) Done() bool { return !r.Bad() && r.rest == "" }
