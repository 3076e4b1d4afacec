package infer

import "touchstone/api"

// infer is an expression's type. Behind an error it goes on: one that is named ahead of that may still come.
func (e *engine) infer(t api.Term) int {
	n := len(t.Kids)
	switch {
	case t.Kind == api.ExVar:
		return e.value(t)
	case t.Kind == api.ExInt:
		return e.Make(api.TyCon, "", "int")
	case t.Kind == api.ExText:
		return e.Make(api.TyCon, "", "text")
	case t.Kind == api.ExCon:
		return e.constructed(t, e.infer)
	case t.Kind == api.ExTuple:
		return e.Make(api.TyTuple, "", "", each(t.Kids, e.infer)...)
	case t.Kind == api.ExFun && n == 1:
		return e.fun(t)
	case t.Kind == api.ExApp && n == 2:
		return e.applied(t)
	case t.Kind == api.ExLet && (n == 2 || n == 3):
		return e.let(t)
	case t.Kind == api.ExMatch && n%2 == 1:
		return e.match(t)
	case t.Kind == api.ExAnn && n == 2:
		e.mustHave(t.Kids[0], t.Kids[1], nil)
		return e.load(t.Kids[1], e.fresh)
	}
	return e.fail(api.ErrType)
}

func each(l []api.Term, one func(api.Term) int) []int {
	ids := make([]int, len(l))
	for i, t := range l {
		ids[i] = one(t)
	}
	return ids
}

func (e *engine) value(t api.Term) int {
	if l := e.bound[t.Name]; t.Pkg == "" && len(l) > 0 {
		return l[len(l)-1].use(e)
	}
	if b := e.entries[key{t.Pkg, t.Name}]; b != nil {
		return b.use(e)
	}
	return e.fail(api.ErrName)
}

// constructed is the type of a constructor, in an expression or a pattern, whose parts have theirs.
func (e *engine) constructed(t api.Term, part func(api.Term) int) int {
	kids := each(t.Kids, part)
	c, there := e.cons[key{t.Pkg, t.Name}]
	if !there {
		return e.fail(api.ErrName)
	}
	if len(kids) != len(c.Args) {
		return e.fail(api.ErrArity)
	}
	vars := map[string]int{}
	params := make([]int, len(c.Params))
	for i, name := range c.Params {
		params[i] = e.Import(api.Term{Kind: api.TyVar, Name: name}, vars, e.fresh)
	}
	for i, arg := range c.Args {
		e.same(kids[i], e.Import(arg, vars, e.fresh))
	}
	return e.Make(api.TyCon, c.Pkg, c.Type, params...)
}

func (e *engine) fun(t api.Term) int {
	a := e.fresh()
	b := e.with([]local{{t.Name, fixed(a)}}, func() int { return e.infer(t.Kids[0]) })
	return e.Make(api.TyFun, "", "", a, b)
}

func (e *engine) applied(t api.Term) int {
	f, a := e.infer(t.Kids[0]), e.infer(t.Kids[1])
	b := e.fresh()
	e.same(f, e.Make(api.TyFun, "", "", a, b))
	return b
}

func (e *engine) let(t api.Term) int {
	is := local{name: t.Name}
	if len(t.Kids) == 3 {
		is.is = given{t.Kids[2]}
		var around []local
		if t.N == 1 {
			around = []local{is}
		}
		e.mustHave(t.Kids[0], t.Kids[2], around)
	} else {
		is.is = e.generalize(t)
	}
	return e.with([]local{is}, func() int { return e.infer(t.Kids[1]) })
}

// generalize is what a let's name has, where its type is not told.
func (e *engine) generalize(t api.Term) binding {
	e.level++
	id := -1
	if t.N == 1 {
		id = e.fresh()
		e.same(id, e.with([]local{{t.Name, fixed(id)}}, func() int { return e.infer(t.Kids[0]) }))
	} else {
		id = e.infer(t.Kids[0])
	}
	e.level--
	e.Close(id, e.level)
	return generalized(id)
}

// mustHave asks that an expression has a type, whatever its variables stand for.
func (e *engine) mustHave(t, ann api.Term, around []local) {
	e.level++
	id := e.with(around, func() int { return e.infer(t) })
	e.same(id, e.load(ann, e.rigid))
	e.level--
}

func (e *engine) match(t api.Term) int {
	subject, result := e.infer(t.Kids[0]), e.fresh()
	for i := 1; i < len(t.Kids); i += 2 {
		var names []local
		e.same(subject, e.pattern(t.Kids[i], &names))
		e.same(result, e.with(names, func() int { return e.infer(t.Kids[i+1]) }))
	}
	return result
}

// pattern is a pattern's type; the names that it binds go behind the others.
func (e *engine) pattern(t api.Term, names *[]local) int {
	inner := func(t api.Term) int { return e.pattern(t, names) }
	switch t.Kind {
	case api.PaAny:
		return e.fresh()
	case api.PaVar:
		id := e.fresh()
		*names = append(*names, local{t.Name, fixed(id)})
		return id
	case api.PaInt:
		return e.Make(api.TyCon, "", "int")
	case api.PaText:
		return e.Make(api.TyCon, "", "text")
	case api.PaTuple:
		return e.Make(api.TyTuple, "", "", each(t.Kids, inner)...)
	case api.PaCon:
		return e.constructed(t, inner)
	}
	return e.fail(api.ErrType)
}
