package unify_test

import (
	"fmt"
	"math/rand/v2"
	"slices"
	"strings"
	"testing"

	"touchstone/api"
	"touchstone/parse"
	"touchstone/term"
	"touchstone/unify"
)

// raw is all that is in a thing, as a text; lists that are nil and empty are alike.
func raw(x any) string { return fmt.Sprintf("%+v", x) }

func typ(t *testing.T, s string) api.Term {
	t.Helper()
	x, at, e := parse.Type(s)
	if e != api.OK {
		t.Fatalf("%q: %d, %v", s, at, e)
	}
	return x
}

// equations are told as sides with = between, and ; behind.
func equations(t *testing.T, s string) []api.Equation {
	t.Helper()
	var l []api.Equation
	for _, x := range strings.Split(s, ";") {
		if strings.TrimSpace(x) != "" {
			a, b, _ := strings.Cut(x, "=")
			l = append(l, api.Equation{A: typ(t, a), B: typ(t, b)})
		}
	}
	return l
}

// vals are told as names and types with = between, and ; behind.
func vals(t *testing.T, s string) []api.Val {
	t.Helper()
	var l []api.Val
	for _, q := range equations(t, s) {
		l = append(l, api.Val{Name: q.A.Name, Type: q.B})
	}
	return l
}

func wantSolved(t *testing.T, l []api.Equation, wanted []api.Val) {
	t.Helper()
	before := raw(l)
	if got, e := unify.Solve(l); e != api.OK || raw(got) != raw(wanted) {
		t.Fatalf("%.500s: %.500s, %v, not %.500s", before, raw(got), e, raw(wanted))
	}
	if raw(l) != before {
		t.Fatalf("%.500s is changed", before)
	}
}

func wantUnsolved(t *testing.T, l []api.Equation, wanted api.Errno) {
	t.Helper()
	if got, e := unify.Solve(l); e != wanted || len(got) > 0 {
		t.Fatalf("%.500s: %.500s, %v, not %v", raw(l), raw(got), e, wanted)
	}
}

// told solves equations a second time: by putting in what is found, in all that is found, again and again. False: there is no solution.
func told(l []api.Equation) ([]api.Val, bool) {
	var terms []api.Term
	for _, q := range l {
		terms = append(terms, q.A, q.B)
	}
	names := term.Vars(terms...)
	by := map[string]api.Term{}
	var put func(x api.Term) api.Term
	put = func(x api.Term) api.Term {
		if y, there := by[x.Name]; x.Kind == api.TyVar && there {
			return put(y)
		}
		x.Kids = slices.Clone(x.Kids)
		for i := range x.Kids {
			x.Kids[i] = put(x.Kids[i])
		}
		return x
	}
	var same func(a, b api.Term) bool
	same = func(a, b api.Term) bool {
		a, b = put(a), put(b)
		if raw(a) == raw(b) {
			return true
		}
		if a.Kind == api.TyVar && b.Kind == api.TyVar {
			if slices.Index(names, a.Name) < slices.Index(names, b.Name) {
				a, b = b, a
			}
			by[a.Name] = b
			return true
		}
		if b.Kind == api.TyVar {
			a, b = b, a
		}
		if a.Kind == api.TyVar {
			by[a.Name] = b
			return !slices.Contains(term.Vars(b), a.Name)
		}
		if a.Kind != b.Kind || a.Pkg != b.Pkg || a.Name != b.Name || len(a.Kids) != len(b.Kids) {
			return false
		}
		for i := range a.Kids {
			if !same(a.Kids[i], b.Kids[i]) {
				return false
			}
		}
		return true
	}
	for _, q := range l {
		if !same(q.A, q.B) {
			return nil, false
		}
	}
	var found []api.Val
	for _, name := range names {
		found = append(found, api.Val{Name: name, Type: put(api.Term{Kind: api.TyVar, Name: name})})
	}
	return found, true
}

func pick[T any](d *rand.Rand, l ...T) T { return l[d.IntN(len(l))] }

// someType has variables of the first so many names.
func someType(d *rand.Rand, depth, vars int) api.Term {
	one := func() api.Term { return someType(d, depth-1, vars) }
	if depth <= 0 || d.IntN(4) == 0 {
		if d.IntN(4) == 0 || vars == 0 {
			return pick(d, api.Term{Kind: api.TyCon, Name: "int"}, api.Term{Kind: api.TyTuple}, api.Term{Kind: api.TyCon, Pkg: "P", Name: "int"})
		}
		return api.Term{Kind: api.TyVar, Name: string(rune('a' + d.IntN(vars)))}
	}
	switch d.IntN(4) {
	case 0:
		return api.Term{Kind: api.TyCon, Name: pick(d, "list", "list", "t"), Kids: []api.Term{one()}}
	case 1:
		return api.Term{Kind: api.TyTuple, Kids: []api.Term{one(), one(), one()}}
	}
	return api.Term{Kind: pick(d, api.TyFun, api.TyFun, api.TyTuple), Kids: []api.Term{one(), one()}}
}

func someEquations(d *rand.Rand) []api.Equation {
	var l []api.Equation
	vars := 1 + d.IntN(8)
	for range d.IntN(5) {
		l = append(l, api.Equation{A: someType(d, d.IntN(4), vars), B: someType(d, d.IntN(3), vars)})
	}
	return l
}

// put puts a solution in.
func put(x api.Term, l []api.Val) api.Term {
	var names []string
	var by []api.Term
	for _, v := range l {
		names, by = append(names, v.Name), append(by, v.Type)
	}
	return term.Subst(x, names, by)
}
