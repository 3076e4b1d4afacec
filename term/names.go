package term

import (
	"maps"
	"slices"

	"touchstone/api"
)

// Vars are the variables of types.
func Vars(l ...api.Term) []string {
	var names []string
	met := map[string]struct{}{}
	var walk func(l []api.Term)
	walk = func(l []api.Term) {
		for _, t := range l {
			if _, there := met[t.Name]; t.Kind == api.TyVar && !there {
				met[t.Name] = struct{}{}
				names = append(names, t.Name)
			}
			walk(t.Kids)
		}
	}
	walk(l)
	return names
}

// Subst puts types in the place of variables.
func Subst(t api.Term, names []string, by []api.Term) api.Term {
	first := map[string]int{}
	for i, name := range names {
		if _, there := first[name]; !there {
			first[name] = i
		}
	}
	var put func(t api.Term) api.Term
	put = func(t api.Term) api.Term {
		if i, named := first[t.Name]; t.Kind == api.TyVar && named && i < len(by) {
			return clone(by[i])
		}
		return withKids(t, put)
	}
	return put(t)
}

// clone is a term that shares no list with the one that it is of.
func clone(t api.Term) api.Term { return withKids(t, clone) }

// withKids is a term with what is made of each of its Kids.
func withKids(t api.Term, made func(api.Term) api.Term) api.Term {
	var kids []api.Term
	for _, k := range t.Kids {
		kids = append(kids, made(k))
	}
	t.Kids = kids
	return t
}

// PatVars are a pattern's variables.
func PatVars(p api.Term) []string {
	var names []string
	var walk func(t api.Term)
	walk = func(t api.Term) {
		if t.Kind == api.PaVar {
			names = append(names, t.Name)
		}
		for _, k := range t.Kids {
			walk(k)
		}
	}
	walk(p)
	return names
}

// Free are an expression's free names.
func Free(t api.Term) []string {
	free := map[string]struct{}{}
	bound := map[string]int{} // how often each name is bound around
	var walk func(t api.Term)
	walk = func(t api.Term) {
		if t.Kind == api.ExVar && t.Pkg == "" && bound[t.Name] == 0 {
			free[t.Name] = struct{}{}
		}
		for i, k := range t.Kids {
			if t.Kind == api.ExMatch && isPatPlace(i) {
				continue
			}
			names := bindsIn(t, i)
			for _, name := range names {
				bound[name]++
			}
			walk(k)
			for _, name := range names {
				if bound[name]--; bound[name] == 0 {
					delete(bound, name)
				}
			}
		}
	}
	walk(t)
	return slices.Sorted(maps.Keys(free))
}

// bindsIn are the names that a term binds in one of its Kids.
func bindsIn(t api.Term, i int) []string {
	switch t.Kind {
	case api.ExFun:
		return []string{t.Name}
	case api.ExLet:
		if i == 1 || i == 0 && t.N == 1 {
			return []string{t.Name}
		}
	case api.ExMatch:
		if i > 0 && !isPatPlace(i) {
			return PatVars(t.Kids[i-1])
		}
	}
	return nil
}
