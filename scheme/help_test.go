package scheme_test

import (
	"fmt"
	"math/rand/v2"
	"testing"

	"touchstone/api"
	"touchstone/parse"
	"touchstone/term"
)

// raw is all that is in a thing, as a text; lists that are nil and empty are alike.
func raw(x any) string { return fmt.Sprintf("%+v", x) }

func typ(t *testing.T, s string) api.Term {
	t.Helper()
	x, at, e := parse.Type(s)
	if e != api.OK {
		t.Fatalf("%q: %d, %v", s, at, e)
	}
	return x
}

func pick[T any](d *rand.Rand, l ...T) T { return l[d.IntN(len(l))] }

// someType has variables of the first so many names.
func someType(d *rand.Rand, depth, vars int) api.Term {
	one := func() api.Term { return someType(d, depth-1, vars) }
	if depth <= 0 || d.IntN(5) == 0 {
		if d.IntN(4) == 0 || vars == 0 {
			return pick(d, api.Term{Kind: api.TyCon, Name: "int"}, api.Term{Kind: api.TyTuple}, api.Term{Kind: api.TyCon, Pkg: "p/1", Name: "int"})
		}
		return api.Term{Kind: api.TyVar, Name: string(rune('a' + d.IntN(vars)))}
	}
	switch d.IntN(4) {
	case 0:
		return api.Term{Kind: api.TyCon, Name: pick(d, "list", "list", "t"), Kids: []api.Term{one()}}
	case 1:
		return api.Term{Kind: api.TyTuple, Kids: []api.Term{one(), one(), one()}}
	}
	return api.Term{Kind: pick(d, api.TyFun, api.TyFun, api.TyTuple), Kids: []api.Term{one(), one()}}
}

// special is a type with any types in the place of its variables.
func special(d *rand.Rand, x api.Term) api.Term {
	names := term.Vars(x)
	var by []api.Term
	for range names {
		by = append(by, someType(d, d.IntN(3), 4))
	}
	return term.Subst(x, names, by)
}

// above tells a second time whether a type is above another one: its variables by types, all at once.
func above(a, b api.Term, by map[string]string) bool {
	if a.Kind == api.TyVar {
		if by[a.Name] == "" {
			by[a.Name] = raw(b)
		}
		return by[a.Name] == raw(b)
	}
	right := a.Kind == b.Kind && a.Pkg == b.Pkg && a.Name == b.Name && len(a.Kids) == len(b.Kids)
	for i := range a.Kids {
		right = right && above(a.Kids[i], b.Kids[i], by)
	}
	return right
}
