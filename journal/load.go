package journal

import (
	"touchstone/api"
	"touchstone/frame"
	"touchstone/vfs"
)

// load finds what a store's manifest tells, without a step.
func load(fs *vfs.FS) (*Journal, api.Errno) {
	text, e := fs.Read(manifestFile)
	if e != api.OK {
		return nil, e
	}
	m, right := readManifest(string(text))
	if !right {
		return nil, api.ErrBroken
	}
	j := &Journal{fs: fs, segments: m.segments}
	for i, n := range m.segments {
		records, right := readSegment(fs, i+1, n)
		if !right {
			return nil, api.ErrBroken
		}
		j.records = append(j.records, records...)
	}
	if uint64(len(j.records)) != m.records {
		return nil, api.ErrBroken
	}
	return j, api.OK
}

// readSegment is the records of a segment of which n bytes count, and whether these bytes are there, and whole frames.
func readSegment(fs *vfs.FS, number, n int) ([]string, bool) {
	b, e := fs.Read(segmentFile(number))
	if e != api.OK || len(b) < n {
		return nil, false
	}
	records, whole, _ := frame.Scan(string(b[:n]))
	return records, whole == n
}

// Fsck looks over a store.
func Fsck(fs *vfs.FS) (api.Report, api.Errno) {
	j, e := load(fs)
	if e != api.OK {
		return api.Report{}, e
	}
	report := api.Report{Segments: len(j.segments), Records: len(j.records)}
	own := map[string]struct{}{manifestFile: {}}
	for i, n := range j.segments {
		name := segmentFile(i + 1)
		own[name] = struct{}{}
		b, _ := fs.Read(name)
		report.Loose += len(b) - n
	}
	for _, name := range fs.Names() {
		if _, belongs := own[name]; !belongs {
			report.Strange++
		}
	}
	return report, api.OK
}
