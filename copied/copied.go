// Package copied makes copies of terms, modules, interfaces and releases that share no list with what they are of.
package copied

import (
	"slices"

	"touchstone/api"
)

// List is what is made of each of a list's members.
func List[T any](l []T, made func(T) T) []T {
	var to []T
	for _, x := range l {
		to = append(to, made(x))
	}
	return to
}

// Term is a term, anew.
func Term(t api.Term) api.Term { return Kids(t, Term) }

// Kids is a term with what is made of each of its Kids.
func Kids(t api.Term, made func(api.Term) api.Term) api.Term {
	t.Kids = List(t.Kids, made)
	return t
}

// Types are types of constructors with what is made of each of their Args.
func Types(l []api.TypeDef, made func(api.Term) api.Term) []api.TypeDef {
	con := func(c api.Con) api.Con {
		c.Args = List(c.Args, made)
		return c
	}
	return List(l, func(x api.TypeDef) api.TypeDef {
		return api.TypeDef{Name: x.Name, Params: slices.Clone(x.Params), Cons: List(x.Cons, con)}
	})
}

// Module is a module with what is made of each of its types (but those in expressions), and of each expression.
func Module(m api.Module, typ, expr func(api.Term) api.Term) api.Module {
	alias := func(x api.Alias) api.Alias {
		return api.Alias{Name: x.Name, Params: slices.Clone(x.Params), Type: typ(x.Type)}
	}
	let := func(x api.Let) api.Let {
		return api.Let{Name: x.Name, Ann: List(x.Ann, typ), Body: expr(x.Body)}
	}
	export := func(x api.Export) api.Export {
		x.Ann = List(x.Ann, typ)
		return x
	}
	return api.Module{Imports: slices.Clone(m.Imports), Types: Types(m.Types, typ), Aliases: List(m.Aliases, alias), Lets: List(m.Lets, let), Exports: List(m.Exports, export)}
}

// Iface is an interface with what is made of each of its types.
func Iface(i api.Iface, made func(api.Term) api.Term) api.Iface {
	val := func(v api.Val) api.Val {
		v.Type = made(v.Type)
		return v
	}
	return api.Iface{Types: Types(i.Types, made), Vals: List(i.Vals, val)}
}

// Release is a release, anew.
func Release(r api.Release) api.Release {
	r.Iface, r.Pins = Iface(r.Iface, Term), slices.Clone(r.Pins)
	return r
}
