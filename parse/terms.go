package parse

import "touchstone/api"

// typ reads a type.
func (r *reader) typ(depth int) api.Term {
	r.begin(depth)
	t := r.typeAtom(func() api.Term { return r.typ(depth + 1) })
	if !r.skipSign("->") {
		return t
	}
	return api.Term{Kind: api.TyFun, Kids: []api.Term{t, r.typ(depth + 1)}}
}

func (r *reader) typeAtom(inner func() api.Term) api.Term {
	pkg := ""
	switch r.next().Kind {
	case api.TokVar:
		return api.Term{Kind: api.TyVar, Name: r.take(api.TokVar)}
	case api.TokUpper:
		pkg = r.take(api.TokUpper)
		r.sign(".")
		fallthrough
	case api.TokLower:
		return api.Term{Kind: api.TyCon, Pkg: pkg, Name: r.take(api.TokLower), Kids: held(r, inner)}
	}
	return r.closed(api.TyTuple, r.opened(inner))
}

// annotation reads a type that may be told behind a name.
func (r *reader) annotation(depth int) []api.Term {
	if !r.skipSign(":") {
		return nil
	}
	return []api.Term{r.typ(depth)}
}

// pat reads a pattern.
func (r *reader) pat(depth int) api.Term {
	r.begin(depth)
	inner := func() api.Term { return r.pat(depth + 1) }
	switch t := r.next(); t.Kind {
	case api.TokLower:
		return api.Term{Kind: api.PaVar, Name: r.take(t.Kind)}
	case api.TokInt:
		r.take(t.Kind)
		return api.Term{Kind: api.PaInt, N: t.N}
	case api.TokText:
		return api.Term{Kind: api.PaText, Name: r.take(t.Kind)}
	case api.TokUpper:
		return r.constructor(api.PaCon, r.qualifier(), inner)
	}
	if r.skipSign("_") {
		return api.Term{Kind: api.PaAny}
	}
	return r.closed(api.PaTuple, r.opened(inner))
}

func (r *reader) constructor(kind int, pkg string, inner func() api.Term) api.Term {
	return api.Term{Kind: kind, Pkg: pkg, Name: r.take(api.TokUpper), Kids: held(r, inner)}
}

// expr reads an expression.
func (r *reader) expr(depth int) api.Term {
	r.begin(depth)
	switch {
	case r.skipKey("fun"):
		return r.fun(depth + 1)
	case r.skipKey("let"):
		return r.let(depth + 1)
	case r.skipKey("match"):
		return r.match(depth + 1)
	}
	return r.applied(func() api.Term { return r.atom(depth + 1) })
}

// fun reads what stands behind its keyword; so do let and match. What is in them lies at depth.
func (r *reader) fun(depth int) api.Term {
	name := r.take(api.TokLower)
	r.sign("->")
	return api.Term{Kind: api.ExFun, Name: name, Kids: []api.Term{r.expr(depth)}}
}

func (r *reader) let(depth int) api.Term {
	t := api.Term{Kind: api.ExLet}
	if r.skipKey("rec") {
		t.N = 1
	}
	t.Name = r.take(api.TokLower)
	ann := r.annotation(depth)
	r.sign("=")
	value := r.expr(depth)
	r.key("in")
	t.Kids = append([]api.Term{value, r.expr(depth)}, ann...)
	return t
}

func (r *reader) match(depth int) api.Term {
	kids := []api.Term{r.expr(depth)}
	r.key("with")
	arms := several(r, "|", func() []api.Term {
		pat := r.pat(depth)
		r.sign("->")
		return []api.Term{pat, r.expr(depth)}
	})
	r.key("end")
	for _, arm := range arms {
		kids = append(kids, arm...)
	}
	return api.Term{Kind: api.ExMatch, Kids: kids}
}

// applied reads an atom, and those that it is applied to.
func (r *reader) applied(atom func() api.Term) api.Term {
	t := atom()
	for n := 0; r.beginsAtom(); n++ {
		if n == api.MaxArgs {
			panic(r.fault(api.ErrLimit))
		}
		t = api.Term{Kind: api.ExApp, Kids: []api.Term{t, atom()}}
	}
	return t
}

func (r *reader) beginsAtom() bool {
	switch t := r.next(); t.Kind {
	case api.TokInt, api.TokText, api.TokLower, api.TokUpper:
		return true
	}
	return r.is(api.TokSign, "(")
}

// atom reads one; what is in it lies at depth.
func (r *reader) atom(depth int) api.Term {
	inner := func() api.Term { return r.expr(depth) }
	pkg := ""
	switch t := r.next(); t.Kind {
	case api.TokInt:
		r.take(t.Kind)
		return api.Term{Kind: api.ExInt, N: t.N}
	case api.TokText:
		return api.Term{Kind: api.ExText, Name: r.take(t.Kind)}
	case api.TokUpper:
		pkg = r.qualifier()
		if r.next().Kind == api.TokUpper {
			return r.constructor(api.ExCon, pkg, inner)
		}
		fallthrough
	case api.TokLower:
		return api.Term{Kind: api.ExVar, Pkg: pkg, Name: r.take(api.TokLower)}
	}
	l := r.opened(inner)
	if len(l) == 1 && r.is(api.TokSign, ":") {
		l = []api.Term{{Kind: api.ExAnn, Kids: append(l, r.annotation(depth)...)}}
	}
	return r.closed(api.ExTuple, l)
}
