package infer_test

import (
	"slices"
	"strconv"

	"touchstone/api"
	"touchstone/scheme"
	"touchstone/term"
)

// second tells the chapter a second time: by substitutions, names around as a list, and types that are told by types that there are nowhere else.
type second struct {
	env    []api.Entry
	cons   []api.Cons
	by     map[string]api.Term
	n      int
	wrong  bool
	around []around
	max    int // how many terms the greatest of all types has
	seen   []api.Term
}

// around is a name that is bound, its type, and the variables that stand for any type; all: those that are in no type of a name ahead.
type around struct {
	name string
	typ  api.Term
	vars []string
}

func (w *second) fresh() api.Term {
	w.n++
	return api.Term{Kind: api.TyVar, Name: "?" + strconv.Itoa(w.n)}
}

// put is a type with what is found of its variables.
func (w *second) put(x api.Term) api.Term {
	if y, there := w.by[x.Name]; x.Kind == api.TyVar && there {
		return w.put(y)
	}
	x.Kids = slices.Clone(x.Kids)
	for i := range x.Kids {
		x.Kids[i] = w.put(x.Kids[i])
	}
	return x
}

func (w *second) same(a, b api.Term) {
	a, b = w.put(a), w.put(b)
	if b.Kind == api.TyVar {
		a, b = b, a
	}
	switch {
	case w.wrong || raw(a) == raw(b):
	case a.Kind == api.TyVar:
		if w.wrong = slices.Contains(term.Vars(b), a.Name); !w.wrong {
			w.by[a.Name] = b
		}
	case a.Kind != b.Kind || a.Pkg != b.Pkg || a.Name != b.Name || len(a.Kids) != len(b.Kids):
		w.wrong = true
	default:
		for i := range a.Kids {
			w.same(a.Kids[i], b.Kids[i])
		}
	}
}

// instance is a type with others in the place of variables.
func instance(x api.Term, vars []string, one func() api.Term) api.Term {
	var by []api.Term
	for range vars {
		by = append(by, one())
	}
	return term.Subst(x, vars, by)
}

func (w *second) con(x api.Term) (api.Term, []api.Term) {
	i := slices.IndexFunc(w.cons, func(c api.Cons) bool { return c.Pkg == x.Pkg && c.Name == x.Name })
	c := w.cons[i]
	whole := api.Term{Kind: api.TyCon, Pkg: c.Pkg, Name: c.Type}
	for _, p := range c.Params {
		whole.Kids = append(whole.Kids, api.Term{Kind: api.TyVar, Name: p})
	}
	all := instance(api.Term{Kids: append([]api.Term{whole}, c.Args...)}, term.Vars(append([]api.Term{whole}, c.Args...)...), w.fresh)
	return all.Kids[0], all.Kids[1:]
}

func basic(name string) api.Term { return api.Term{Kind: api.TyCon, Name: name} }

// has is an expression's type.
func (w *second) has(x api.Term) api.Term {
	t := w.rule(x)
	w.seen = append(w.seen, t)
	return t
}

func (w *second) rule(x api.Term) api.Term {
	if w.wrong {
		return basic("int")
	}
	switch x.Kind {
	case api.ExVar:
		for i := len(w.around) - 1; i >= 0; i-- {
			if b := w.around[i]; b.name == x.Name && x.Pkg == "" {
				return instance(w.put(b.typ), b.vars, w.fresh)
			}
		}
		i := slices.IndexFunc(w.env, func(e api.Entry) bool { return e.Pkg == x.Pkg && e.Name == x.Name })
		return instance(w.env[i].Type, term.Vars(w.env[i].Type), w.fresh)
	case api.ExInt:
		return basic("int")
	case api.ExText:
		return basic("text")
	case api.ExTuple:
		t := api.Term{Kind: api.TyTuple}
		for _, k := range x.Kids {
			t.Kids = append(t.Kids, w.has(k))
		}
		return t
	case api.ExCon:
		whole, args := w.con(x)
		for i, k := range x.Kids {
			w.same(w.has(k), args[i])
		}
		return whole
	case api.ExFun:
		a := w.fresh()
		return api.Term{Kind: api.TyFun, Kids: []api.Term{a, w.where(x.Kids[0], around{name: x.Name, typ: a})}}
	case api.ExApp:
		b := w.fresh()
		w.same(w.has(x.Kids[0]), api.Term{Kind: api.TyFun, Kids: []api.Term{w.has(x.Kids[1]), b}})
		return b
	case api.ExAnn:
		w.must(x.Kids[0], x.Kids[1])
		return instance(x.Kids[1], term.Vars(x.Kids[1]), w.fresh)
	case api.ExMatch:
		a, b := w.has(x.Kids[0]), w.fresh()
		for i := 1; i < len(x.Kids); i += 2 {
			var names []around
			w.same(a, w.pat(x.Kids[i], &names))
			w.same(b, w.where(x.Kids[i+1], names...))
		}
		return b
	}
	return w.let(x)
}

// where is an expression's type, where more names are bound around it.
func (w *second) where(x api.Term, names ...around) api.Term {
	n := len(w.around)
	w.around = append(w.around, names...)
	t := w.has(x)
	w.around = w.around[:n]
	return t
}

// must asks that an expression has a type, whatever its variables are: types that are nowhere else, and not in those of names around.
func (w *second) must(x, ann api.Term, names ...around) {
	first := w.n
	rigid := instance(ann, term.Vars(ann), func() api.Term {
		w.n++
		return api.Term{Kind: api.TyCon, Pkg: "!", Name: strconv.Itoa(w.n)}
	})
	last := w.n
	w.same(w.where(x, names...), rigid)
	var within func(t api.Term)
	within = func(t api.Term) {
		if n, e := strconv.Atoi(t.Name); e == nil && t.Pkg == "!" && n > first && n <= last {
			w.wrong = true
		}
		for _, k := range t.Kids {
			within(k)
		}
	}
	for _, b := range w.around {
		within(w.put(b.typ))
	}
}

func (w *second) let(x api.Term) api.Term {
	b := around{name: x.Name}
	if len(x.Kids) == 3 {
		b.typ, b.vars = x.Kids[2], term.Vars(x.Kids[2])
		if x.N == 1 {
			w.must(x.Kids[0], x.Kids[2], b)
		} else {
			w.must(x.Kids[0], x.Kids[2])
		}
		return w.where(x.Kids[1], b)
	}
	b.typ = w.fresh()
	if x.N == 1 {
		w.same(b.typ, w.where(x.Kids[0], b))
	} else {
		w.same(b.typ, w.has(x.Kids[0]))
	}
	if w.wrong {
		return b.typ
	}
	b.typ = w.put(b.typ)
	fixed := api.Term{}
	for _, y := range w.around {
		t := w.put(y.typ)
		for _, name := range term.Vars(t) {
			if !slices.Contains(y.vars, name) {
				fixed.Kids = append(fixed.Kids, api.Term{Kind: api.TyVar, Name: name})
			}
		}
	}
	for _, name := range term.Vars(b.typ) {
		if !slices.Contains(term.Vars(fixed), name) {
			b.vars = append(b.vars, name)
		}
	}
	return w.where(x.Kids[1], b)
}

func (w *second) pat(x api.Term, names *[]around) api.Term {
	switch x.Kind {
	case api.PaVar:
		a := w.fresh()
		*names = append(*names, around{name: x.Name, typ: a})
		return a
	case api.PaInt:
		return basic("int")
	case api.PaText:
		return basic("text")
	case api.PaTuple:
		t := api.Term{Kind: api.TyTuple}
		for _, k := range x.Kids {
			t.Kids = append(t.Kids, w.pat(k, names))
		}
		return t
	case api.PaCon:
		whole, args := w.con(x)
		for i, k := range x.Kids {
			w.same(w.pat(k, names), args[i])
		}
		return whole
	}
	return w.fresh()
}

// missesName and missesArity go over all of an expression.
func (w *second) missesName(x api.Term) bool {
	known := func(y api.Term) bool {
		return slices.ContainsFunc(w.cons, func(c api.Cons) bool { return c.Pkg == y.Pkg && c.Name == y.Name })
	}
	var strange func(y api.Term) bool
	strange = func(y api.Term) bool {
		if (y.Kind == api.ExCon || y.Kind == api.PaCon) && !known(y) {
			return true
		}
		if y.Kind == api.ExVar && y.Pkg != "" && !slices.ContainsFunc(w.env, func(e api.Entry) bool { return e.Pkg == y.Pkg && e.Name == y.Name }) {
			return true
		}
		return slices.ContainsFunc(y.Kids, strange)
	}
	return strange(x) || slices.ContainsFunc(term.Free(x), func(name string) bool {
		return !slices.ContainsFunc(w.env, func(e api.Entry) bool { return e.Pkg == "" && e.Name == name })
	})
}

func (w *second) missesArity(x api.Term) bool {
	if x.Kind == api.ExCon || x.Kind == api.PaCon {
		if _, args := w.con(x); len(args) != len(x.Kids) {
			return true
		}
	}
	return slices.ContainsFunc(x.Kids, w.missesArity)
}

// toldType is what Expr is to tell; and how many terms the greatest of all types of names and expressions has.
func toldType(x api.Term, env []api.Entry, cons []api.Cons) (api.Term, int, api.Errno) {
	w := &second{env: env, cons: cons, by: map[string]api.Term{}}
	if w.missesName(x) {
		return api.Term{}, 0, api.ErrName
	}
	if w.missesArity(x) {
		return api.Term{}, 0, api.ErrArity
	}
	t := w.has(x)
	if w.wrong {
		return api.Term{}, 0, api.ErrType
	}
	most := 0
	for _, y := range w.seen {
		most = max(most, term.Size(w.put(y)))
	}
	for _, e := range env {
		most = max(most, term.Size(e.Type))
	}
	if t = scheme.Canon(w.put(t)); term.Size(t) > api.MaxType {
		return api.Term{}, most, api.ErrLimit
	}
	return t, most, api.OK
}
