package engine

import (
	"touchstone/api"
	"touchstone/iface"
	"touchstone/journal"
	"touchstone/resolve"
)

func (g *Engine) query(p api.Pin) api.Answer {
	r, there := g.index.Get(p)
	if !there {
		return api.Answer{Err: api.ErrNone}
	}
	bytes, e := iface.Encode(r.Iface)
	if e != api.OK {
		return api.Answer{Err: e}
	}
	return api.Answer{Text: bytes, Pins: r.Pins, Yanked: r.Yanked}
}

func (g *Engine) versions(pkg string) api.Answer {
	var a api.Answer
	for _, v := range g.index.Versions(pkg) {
		a.Pins = append(a.Pins, api.Pin{Pkg: pkg, Version: v})
	}
	return a
}

func (g *Engine) classify(p, other api.Pin) api.Answer {
	a, there := g.index.Get(p)
	b, alsoThere := g.index.Get(other)
	if !there || !alsoThere {
		return api.Answer{Err: api.ErrNone}
	}
	return compared([2]api.Release{a, b}, p)
}

func (g *Engine) client(source string) api.Answer {
	at, e := g.index.Client(source)
	return api.Answer{Err: e, At: at}
}

func (g *Engine) resolve(p api.Pin) api.Answer {
	pins, e := resolve.Resolve(g.index, p)
	return api.Answer{Err: e, Pins: pins}
}

func (g *Engine) fsck() api.Answer {
	report, e := journal.Fsck(g.fs)
	return api.Answer{Err: e, Report: report}
}
