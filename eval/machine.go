package eval

import "touchstone/api"

// machine evaluates, by steps.
type machine struct {
	taken int
	most  int
	lets  map[string]*api.Term
}

func (x *machine) step() {
	if x.taken == x.most {
		panic(stop{api.ErrLimit})
	}
	x.taken++
}

// eval is what an expression comes to, where names are bound.
func (x *machine) eval(t *api.Term, names *frame) *value {
	x.step()
	if !isExpr(t) {
		panic(stop{api.ErrBroken})
	}
	switch t.Kind {
	case api.ExVar:
		return x.named(t, names)
	case api.ExInt:
		return newValue(api.Term{Kind: api.PaInt, N: t.N})
	case api.ExText:
		return newValue(api.Term{Kind: api.PaText, Name: t.Name})
	case api.ExTuple:
		return newValue(api.Term{Kind: api.PaTuple}, x.all(t, names)...)
	case api.ExCon:
		return newValue(api.Term{Kind: api.PaCon, Pkg: t.Pkg, Name: t.Name}, x.all(t, names)...)
	case api.ExFun:
		v := newValue(api.Term{Kind: api.PaAny})
		v.fun, v.names = t, names
		return v
	case api.ExApp:
		return x.apply(t, names)
	case api.ExLet:
		return x.let(t, names)
	case api.ExMatch:
		return x.match(t, names)
	}
	return x.eval(&t.Kids[0], names) // ExAnn
}

// isExpr tells whether a term is an expression, as far as itself goes: not its name, nor its Kids.
func isExpr(t *api.Term) bool {
	hasPkg, hasName, hasNumber, kids := false, false, false, false
	switch n := len(t.Kids); t.Kind {
	case api.ExVar:
		hasPkg, hasName, kids = true, true, n == 0
	case api.ExInt:
		hasNumber, kids = true, n == 0
	case api.ExText:
		hasName, kids = true, n == 0
	case api.ExCon:
		hasPkg, hasName, kids = true, true, true
	case api.ExTuple:
		kids = n != 1
	case api.ExFun:
		hasName, kids = true, n == 1
	case api.ExApp, api.ExAnn:
		kids = n == 2
	case api.ExLet:
		hasName, hasNumber, kids = true, t.N == 0 || t.N == 1, n == 2 || n == 3
	case api.ExMatch:
		kids = n >= 3 && n%2 == 1
	}
	return kids && (hasPkg || t.Pkg == "") && (hasName || t.Name == "") && (hasNumber || t.N == 0)
}

func (x *machine) all(t *api.Term, names *frame) []*value {
	var l []*value
	for i := range t.Kids {
		l = append(l, x.eval(&t.Kids[i], names))
	}
	return l
}

// named is what a name is: the innermost one, or the module's.
func (x *machine) named(t *api.Term, names *frame) *value {
	if t.Pkg != "" {
		panic(stop{api.ErrBroken})
	}
	for f := names; f != nil; f = f.outer {
		if f.name == t.Name && f.rec != nil {
			return x.eval(f.rec, f)
		}
		if f.name == t.Name {
			return f.value
		}
	}
	body := x.lets[t.Name]
	if body == nil {
		panic(stop{api.ErrBroken})
	}
	return x.eval(body, nil)
}

func (x *machine) apply(t *api.Term, names *frame) *value {
	f := x.eval(&t.Kids[0], names)
	a := x.eval(&t.Kids[1], names)
	if f.fun == nil {
		panic(stop{api.ErrBroken})
	}
	return x.eval(&f.fun.Kids[0], &frame{name: f.fun.Name, value: a, outer: f.names})
}

func (x *machine) let(t *api.Term, names *frame) *value {
	f := &frame{name: t.Name, outer: names}
	if t.N == 1 {
		f.rec = &t.Kids[0]
	} else {
		f.value = x.eval(&t.Kids[0], names)
	}
	return x.eval(&t.Kids[1], f)
}

func (x *machine) match(t *api.Term, names *frame) *value {
	v := x.eval(&t.Kids[0], names)
	for i := 1; i < len(t.Kids); i += 2 {
		if inner, takes := v.bind(&t.Kids[i], names); takes {
			return x.eval(&t.Kids[i+1], inner)
		}
	}
	panic(stop{api.ErrBroken})
}

// bind is the names that are bound behind a pattern, and whether it takes the value.
func (v *value) bind(p *api.Term, names *frame) (*frame, bool) {
	if p.Kind == api.PaVar {
		return &frame{name: p.Name, value: v, outer: names}, true
	}
	if p.Kind == api.PaAny {
		return names, true
	}
	takes := asksFor(p, &v.head, len(v.parts))
	for i := 0; i < len(p.Kids) && takes; i++ {
		names, takes = v.parts[i].bind(&p.Kids[i], names)
	}
	return names, takes
}
