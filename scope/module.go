package scope

import (
	"slices"

	"touchstone/api"
	"touchstone/term"
)

// hasTerm tells whether one of all terms in a module is so.
func hasTerm(m api.Module, is func(api.Term) bool) bool {
	var inTerm func(t api.Term) bool
	inTerm = func(t api.Term) bool { return is(t) || slices.ContainsFunc(t.Kids, inTerm) }
	return slices.ContainsFunc(termsOf(m), inTerm)
}

func termsOf(m api.Module) []api.Term {
	var l []api.Term
	for _, x := range m.Types {
		for _, c := range x.Cons {
			l = append(l, c.Args...)
		}
	}
	for _, x := range m.Aliases {
		l = append(l, x.Type)
	}
	for _, x := range m.Lets {
		l = append(append(l, x.Ann...), x.Body)
	}
	for _, x := range m.Exports {
		l = append(l, x.Ann...)
	}
	return l
}

// hasTwice tells whether something stands in a list twice.
func hasTwice[T comparable](l []T) bool {
	met := map[T]struct{}{}
	for _, x := range l {
		note(met, x, struct{}{})
	}
	return len(met) < len(l)
}

// all is what each of a list's members has.
func all[T, P any](l []T, part func(T) P) []P {
	var parts []P
	for _, x := range l {
		parts = append(parts, part(x))
	}
	return parts
}

// namesTwice tells whether something stands twice that must not.
func namesTwice(m api.Module) bool {
	types := builtIn()
	var cons []string
	for _, x := range m.Types {
		types = append(types, x.Name)
		cons = append(cons, all(x.Cons, func(c api.Con) string { return c.Name })...)
	}
	types = append(types, all(m.Aliases, func(x api.Alias) string { return x.Name })...)
	lets := all(m.Lets, func(x api.Let) string { return x.Name })
	qualifiers := all(m.Imports, func(x api.Import) string { return x.As })
	// A type and a value may have one name.
	exports := all(m.Exports, func(x api.Export) export { return export{x.Type, x.Name} })
	return hasTwice(qualifiers) || hasTwice(all(m.Imports, lineOf)) || hasTwice(types) || hasTwice(cons) || hasTwice(lets) || hasTwice(exports) || hasParamTwice(m) || hasTerm(m, bindsTwice)
}

type export struct {
	isType bool
	name   string
}

func hasParamTwice(m api.Module) bool {
	return slices.ContainsFunc(m.Types, func(x api.TypeDef) bool { return hasTwice(x.Params) }) ||
		slices.ContainsFunc(m.Aliases, func(x api.Alias) bool { return hasTwice(x.Params) })
}

// bindsTwice tells whether one of a match's patterns binds a name twice.
func bindsTwice(t api.Term) bool {
	for i, k := range t.Kids {
		if t.Kind == api.ExMatch && i%2 == 1 && hasTwice(term.PatVars(k)) {
			return true
		}
	}
	return false
}

// hasStrangeVar tells whether a variable stands in a type's right side that is none of its Params.
func hasStrangeVar(m api.Module) bool {
	isStrange := func(params []string, right ...api.Term) bool {
		return slices.ContainsFunc(term.Vars(right...), func(name string) bool { return !slices.Contains(params, name) })
	}
	for _, x := range m.Types {
		for _, c := range x.Cons {
			if isStrange(x.Params, c.Args...) {
				return true
			}
		}
	}
	return slices.ContainsFunc(m.Aliases, func(x api.Alias) bool { return isStrange(x.Params, x.Type) })
}
