package match

import (
	"slices"

	"touchstone/api"
)

// row is patterns, side by side.
type row []*api.Term

// search looks for values that no row takes.
type search struct {
	*table
	steps int
}

// missing is a pattern whose values none of the patterns takes.
func (t *table) missing(pats []api.Term) (api.Term, bool, api.Errno) {
	s := &search{table: t}
	rows := make([]row, len(pats))
	for i := range pats {
		rows[i] = row{&pats[i]}
	}
	found, misses := s.rows(rows, 1)
	if s.steps > api.MaxSteps {
		return api.Term{}, false, api.ErrLimit
	}
	if !misses {
		return api.Term{}, false, api.OK
	}
	return found[0], true, api.OK
}

// rows is patterns, side by side, whose values no row takes, from the last one on.
func (s *search) rows(rows []row, width int) ([]api.Term, bool) {
	if len(rows) == 0 {
		return slices.Repeat([]api.Term{{Kind: api.PaAny}}, width), true
	}
	if slices.ContainsFunc(rows, takesAll) {
		return nil, false
	}
	heads := s.heads(rows)
	if len(heads) == 0 {
		found, misses := s.step(behindAny(rows), width-1)
		return append(found, api.Term{Kind: api.PaAny}), misses
	}
	for _, h := range heads {
		if s.steps > api.MaxSteps {
			break
		}
		if found, misses := s.step(h.behind(rows), width-1+len(h.parts)); misses {
			return h.with(found), true
		}
	}
	return nil, false
}

// step goes on with rows that come of others, as long as there are not too many.
func (s *search) step(rows []row, width int) ([]api.Term, bool) {
	if s.steps++; s.steps > api.MaxSteps {
		return nil, false
	}
	return s.rows(rows, width)
}

func takesAll(r row) bool {
	for _, p := range r {
		if p.Kind != api.PaAny && p.Kind != api.PaVar {
			return false
		}
	}
	return true
}

// behindAny is the rows without their first patterns, which take any.
func behindAny(rows []row) []row {
	var l []row
	for _, r := range rows {
		if isAny(*r[0]) {
			l = append(l, r[1:])
		}
	}
	return l
}

// behind is the rows that may take what the head takes, with the Kids of their first patterns in the place of these.
func (h head) behind(rows []row) []row {
	var l []row
	for _, r := range rows {
		if isAny(*r[0]) {
			// The parts are shared by many rows: what comes behind them goes to a place of its own.
			l = append(l, append(row(h.parts[:len(h.parts):len(h.parts)]), r[1:]...))
			continue
		}
		if !isAlike(r[0], &h.Term, len(h.parts)) {
			continue
		}
		var next row
		for i := range r[0].Kids {
			next = append(next, &r[0].Kids[i])
		}
		l = append(l, append(next, r[1:]...))
	}
	return l
}

// with is what was found, with the head in the place of its parts.
func (h head) with(found []api.Term) []api.Term {
	rest := len(found) - len(h.parts)
	p := h.Term
	for i := len(found) - 1; i >= rest; i-- {
		p.Kids = append(p.Kids, found[i])
	}
	return append(found[:rest], p)
}
