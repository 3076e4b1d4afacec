package journal

import (
	"touchstone/api"
	"touchstone/codec"
	"touchstone/frame"
)

const (
	manifestFile = "manifest"
	draftFile    = "manifest.tmp"
	segmentStart = "seg-"
)

// segmentFile is the name of the file of the segment with a number.
func segmentFile(number int) string {
	var digits [6]byte
	for i := range len(digits) {
		digits[len(digits)-1-i] = '0' + byte(number%10)
		number /= 10
	}
	return segmentStart + string(digits[:])
}

// manifest tells what counts: how many bytes of each segment, and how many records they have.
type manifest struct {
	segments []int
	records  uint64
}

// text is a manifest's bytes. Many segments without a byte, as no journal makes them, may be more than a frame takes.
func (m manifest) text() (string, api.Errno) {
	var w codec.Writer
	w.U(uint64(len(m.segments)))
	for _, n := range m.segments {
		w.U(uint64(n))
	}
	w.U(m.records)
	return frame.Put(w.String())
}

// readManifest is the manifest whose bytes these are, and whether they are one's.
func readManifest(text string) (manifest, bool) {
	records, whole, _ := frame.Scan(text)
	if len(records) != 1 || whole != len(text) {
		return manifest{}, false
	}
	r := codec.NewReader(records[0])
	// Each count has a byte at least: more of them than bytes would only be looked for in vain.
	number := r.U()
	if number > uint64(len(records[0])) {
		return manifest{}, false
	}
	var m manifest
	for range int(number) {
		n := r.U()
		// Such a segment's file can't be there, and its count may be too great for an int.
		if n > api.MaxFile {
			return manifest{}, false
		}
		m.segments = append(m.segments, int(n))
	}
	m.records = r.U()
	return m, r.Done()
}
