package eval_test

import (
	"maps"
	"slices"

	"touchstone/api"
)

// second tells the chapter a second time: names that are bound stand in maps that are copied, and what is told is told with what is left of the steps.
type second struct {
	m    api.Module
	left int
	err  api.Errno
}

// bound is what a name is: a shown value, a function, or what is evaluated anew each time.
type bound struct {
	shown api.Term
	parts []bound
	fun   bool
	name  string
	body  api.Term
	rec   bool
	where map[string]bound
}

func (w *second) has(x api.Term, where map[string]bound) bound {
	if w.err != api.OK {
		return bound{}
	}
	if w.left == 0 {
		w.err = api.ErrLimit
		return bound{}
	}
	w.left--
	switch x.Kind {
	case api.ExVar:
		b, there := where[x.Name]
		if x.Pkg != "" {
			break
		}
		if there && !b.rec {
			return b
		}
		if there {
			inner := maps.Clone(b.where)
			inner[b.name] = b
			return w.has(b.body, inner)
		}
		if i := slices.IndexFunc(w.m.Lets, func(l api.Let) bool { return l.Name == x.Name }); i >= 0 {
			return w.has(w.m.Lets[i].Body, map[string]bound{})
		}
	case api.ExInt:
		return bound{shown: api.Term{Kind: api.PaInt, N: x.N}}
	case api.ExText:
		return bound{shown: api.Term{Kind: api.PaText, Name: x.Name}}
	case api.ExTuple, api.ExCon:
		b := bound{shown: api.Term{Kind: api.PaTuple}}
		if x.Kind == api.ExCon {
			b.shown = api.Term{Kind: api.PaCon, Pkg: x.Pkg, Name: x.Name}
		}
		for _, k := range x.Kids {
			b.parts = append(b.parts, w.has(k, where))
		}
		for _, p := range b.parts {
			b.shown.Kids = append(b.shown.Kids, p.shown)
		}
		return b
	case api.ExFun:
		return bound{shown: api.Term{Kind: api.PaAny}, fun: true, name: x.Name, body: x.Kids[0], where: where}
	case api.ExApp:
		f, a := w.has(x.Kids[0], where), bound{}
		if a = w.has(x.Kids[1], where); f.fun {
			inner := maps.Clone(f.where)
			inner[f.name] = a
			return w.has(f.body, inner)
		}
	case api.ExLet:
		inner := maps.Clone(where)
		if inner[x.Name] = (bound{rec: true, name: x.Name, body: x.Kids[0], where: where}); x.N == 0 {
			inner[x.Name] = w.has(x.Kids[0], where)
		}
		return w.has(x.Kids[1], inner)
	case api.ExMatch:
		v := w.has(x.Kids[0], where)
		for i := 1; i < len(x.Kids) && w.err == api.OK; i += 2 {
			inner := maps.Clone(where)
			if takes(x.Kids[i], v, inner) {
				return w.has(x.Kids[i+1], inner)
			}
		}
	case api.ExAnn:
		return w.has(x.Kids[0], where)
	}
	if w.err == api.OK {
		w.err = api.ErrBroken
	}
	return bound{}
}

// takes binds what a pattern's variables take.
func takes(p api.Term, v bound, where map[string]bound) bool {
	switch p.Kind {
	case api.PaVar:
		where[p.Name] = v
		return true
	case api.PaAny:
		return true
	}
	right := p.Kind == v.shown.Kind && p.N == v.shown.N && p.Name == v.shown.Name && p.Pkg == v.shown.Pkg && len(p.Kids) == len(v.parts)
	for i := range p.Kids {
		right = right && takes(p.Kids[i], v.parts[i], where)
	}
	return right
}

// told is what Eval is to tell.
func told(m api.Module, x api.Term, steps int) (api.Term, int, api.Errno) {
	w := &second{m: m, left: steps}
	b := w.has(x, map[string]bound{})
	if w.err != api.OK {
		b.shown = api.Term{}
	}
	return b.shown, steps - w.left, w.err
}
