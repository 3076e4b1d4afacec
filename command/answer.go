package command

import (
	"touchstone/api"
	"touchstone/codec"
)

// Told is an answer's bytes.
func Told(a api.Answer) string {
	w := &writer{}
	w.I(int(a.Err), a.At, a.Gap, a.Change.Kind)
	w.T(a.Change.Name, a.Change.Con)
	w.U(uint64(len(a.Pins)))
	for _, p := range a.Pins {
		w.T(p.Pkg)
		w.I(p.Major, p.Minor, p.Patch)
	}
	w.T(a.Text)
	yanked := uint64(0)
	if a.Yanked {
		yanked = 1
	}
	w.U(yanked)
	w.I(a.Report.Segments, a.Report.Records, a.Report.Loose, a.Report.Strange)
	return w.String()
}

// Answer reads them.
func Answer(s string) (api.Answer, api.Errno) {
	r := &reader{codec.NewReader(s)}
	a := api.Answer{Err: api.Errno(r.I()), At: r.I(), Gap: r.I()}
	a.Change = api.Change{Kind: r.I(), Name: r.T(), Con: r.T()}
	for n := r.U(); n > 0 && !r.Bad(); n-- {
		a.Pins = append(a.Pins, r.answerPin())
	}
	a.Text = r.T()
	yanked := r.U()
	a.Yanked = yanked == 1
	a.Report = api.Report{Segments: r.I(), Records: r.I(), Loose: r.I(), Strange: r.I()}
	if !r.Done() || yanked > 1 {
		return api.Answer{}, api.ErrBroken
	}
	return a, api.OK
}

// answerPin reads a pin whose numbers may be any.
func (r *reader) answerPin() api.Pin {
	return api.Pin{Pkg: r.T(), Version: api.Version{Major: r.I(), Minor: r.I(), Patch: r.I()}}
}
