package witness

import (
	"slices"
	"strconv"

	"touchstone/api"
)

// clientLet is the let of a client that misses what is changed: of an interface as it is seen from outside of a line.
func clientLet(a api.Iface, line string, change api.Change) api.Let {
	w := api.Let{Name: "w"}
	switch change.Kind {
	case api.ChangeType:
		v := slices.IndexFunc(a.Vals, func(v api.Val) bool { return v.Name == change.Name })
		w.Ann = []api.Term{a.Vals[v].Type}
		fallthrough
	case api.ChangeGone:
		w.Body = api.Term{Kind: api.ExVar, Pkg: line, Name: change.Name}
		return w
	}
	n := slices.IndexFunc(a.Types, func(x api.TypeDef) bool { return x.Name == change.Name })
	typ := typeOf(a.Types[n], line)
	zero, integer := api.Term{Kind: api.ExInt}, api.Term{Kind: api.TyCon, Name: "int"}
	switch cons := a.Types[n].Cons; change.Kind {
	case api.ChangeTypeGone, api.ChangeParams:
		w.Ann = []api.Term{arrow(typ, integer)}
		w.Body = fun("x", zero)
	case api.ChangeCons:
		w.Ann = []api.Term{arrow(typ, integer)}
		w.Body = fun("x", matchAll(cons, line, zero))
	case api.ChangeArgs:
		i := slices.IndexFunc(cons, func(c api.Con) bool { return c.Name == change.Con })
		w.Ann, w.Body = constructed(cons[i], line, typ)
	}
	return w
}

// typeOf is a type of its own Params.
func typeOf(x api.TypeDef, line string) api.Term {
	t := api.Term{Kind: api.TyCon, Pkg: line, Name: x.Name}
	for _, name := range x.Params {
		t.Kids = append(t.Kids, api.Term{Kind: api.TyVar, Name: name})
	}
	return t
}

func arrow(a, b api.Term) api.Term {
	return api.Term{Kind: api.TyFun, Kids: []api.Term{a, b}}
}

func fun(name string, body api.Term) api.Term {
	return api.Term{Kind: api.ExFun, Name: name, Kids: []api.Term{body}}
}

// matchAll is a match of x that names each constructor.
func matchAll(cons []api.Con, line string, body api.Term) api.Term {
	m := api.Term{Kind: api.ExMatch, Kids: []api.Term{{Kind: api.ExVar, Name: "x"}}}
	for _, c := range cons {
		p := api.Term{Kind: api.PaCon, Pkg: line, Name: c.Name}
		for range c.Args {
			p.Kids = append(p.Kids, api.Term{Kind: api.PaAny})
		}
		m.Kids = append(m.Kids, p, body)
	}
	return m
}

// constructed is a function that makes what a constructor makes, and its type.
func constructed(c api.Con, line string, typ api.Term) ([]api.Term, api.Term) {
	body := api.Term{Kind: api.ExCon, Pkg: line, Name: c.Name}
	for i := range c.Args {
		body.Kids = append(body.Kids, api.Term{Kind: api.ExVar, Name: nameOf(i)})
	}
	for i := len(c.Args) - 1; i >= 0; i-- {
		typ = arrow(c.Args[i], typ)
		body = fun(nameOf(i), body)
	}
	return []api.Term{typ}, body
}

func nameOf(i int) string { return "x" + strconv.Itoa(i) }
