package engine

import (
	"slices"

	"touchstone/api"
	"touchstone/command"
	"touchstone/compat"
	"touchstone/semver"
	"touchstone/witness"
)

// change answers a command that mutates: what the index would refuse is not kept, and what is not kept is not done.
func (g *Engine) change(c api.Command) api.Answer {
	if g.journal.Stopped() {
		return api.Answer{Err: api.ErrStop}
	}
	if a := g.would(c); a.Err != api.OK {
		return a
	}
	record, _ := command.Encode(c)
	if e := g.journal.Append(record); e != api.OK {
		return api.Answer{Err: e}
	}
	return api.Answer{Err: do(g.index, c)}
}

// would is what the index would answer, which it does not do.
func (g *Engine) would(c api.Command) api.Answer {
	if c.Kind == api.CmdPublish {
		return g.wouldPublish(c)
	}
	r, there := g.index.Get(c.Pin)
	if !there {
		return api.Answer{Err: api.ErrNone}
	}
	if r.Yanked == (c.Kind == api.CmdYank) {
		return api.Answer{Err: api.ErrThere}
	}
	return api.Answer{}
}

func (g *Engine) wouldPublish(c api.Command) api.Answer {
	r, at, e := g.index.Try(c.Pin, c.Source)
	if e != api.ErrLabel {
		return api.Answer{Err: e, At: at}
	}
	for _, pair := range g.neighbours(r) {
		if !compat.Allows(semver.Gap(pair[0].Version, pair[1].Version), pair[0].Iface, pair[1].Iface) {
			a := compared(pair, c.Pin)
			a.Err = e
			return a
		}
	}
	return api.Answer{Err: e}
}

// neighbours are a release and the one below it, and it and the one above, the lower one first.
func (g *Engine) neighbours(r api.Release) [][2]api.Release {
	below, above := semver.Around(r.Version, g.index.Versions(r.Pkg)...)
	var pairs [][2]api.Release
	for _, v := range below {
		pairs = append(pairs, [2]api.Release{g.release(r.Pkg, v), r})
	}
	for _, v := range above {
		pairs = append(pairs, [2]api.Release{r, g.release(r.Pkg, v)})
	}
	return pairs
}

func (g *Engine) release(pkg string, v api.Version) api.Release {
	r, _ := g.index.Get(api.Pin{Pkg: pkg, Version: v})
	return r
}

// compared tells how two releases differ, with a client that imports one of them at a pin.
func compared(pair [2]api.Release, at api.Pin) api.Answer {
	a, b := pair[0].Iface, pair[1].Iface
	client, _, _ := witness.Both(a, b, at, slices.Concat(pair[0].Pins, pair[1].Pins))
	return api.Answer{Gap: compat.Classify(a, b), Change: compat.Missed(a, b), Text: client}
}
