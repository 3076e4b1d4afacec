package eval_test

import (
	"math/rand/v2"
	"strings"
	"testing"

	"touchstone/api"
	"touchstone/eval"
	"touchstone/infer"
	"touchstone/match"
	"touchstone/parse"
	"touchstone/scope"
	"touchstone/unify"
)

// P26.1, P26.5: any expressions, held against the second telling, with any steps; with more steps the answer is the same, if it was no ErrLimit.
func TestAny(t *testing.T) {
	d := rand.New(rand.NewPCG(26, 1))
	m := module(t, lib())
	met := map[api.Errno]int{}
	for range 30000 {
		s := someExpr(d, 1+d.IntN(5))
		x, _, e := parse.Expr(s)
		if e != api.OK {
			t.Fatal(s, e)
		}
		steps := pick(d, 1+d.IntN(20), 1+d.IntN(200), 300)
		wanted, n, e := told(m, x, steps)
		got, taken, err := eval.Eval(m, x, steps)
		if met[e]++; err != e || taken != n || raw(got) != raw(wanted) {
			t.Fatalf("%s with %d: %s, %d, %v, not %s, %d, %v", s, steps, raw(got), taken, err, raw(wanted), n, e)
		}
		more, again, err := eval.Eval(m, x, steps+d.IntN(300))
		if e != api.ErrLimit && (err != e || again != n || raw(more) != raw(wanted)) {
			t.Fatalf("%s with more: %s, %d, %v, not %s, %d, %v", s, raw(more), again, err, raw(wanted), n, e)
		}
	}
	for _, e := range []api.Errno{api.OK, api.ErrBroken, api.ErrLimit} {
		if met[e] < 2000 {
			t.Fatal(met)
		}
	}
}

// P26.3, P26.4: what has a type, and matches that take all, is never stuck, and comes to what its type has.
func TestSafe(t *testing.T) {
	d := rand.New(rand.NewPCG(26, 3))
	m := module(t, lib())
	cons := scope.Cons(m, nil)
	vals, e := infer.Module(m, nil)
	if e != api.OK {
		t.Fatal(e)
	}
	var env []api.Entry
	for _, v := range vals {
		env = append(env, api.Entry{Name: v.Name, Type: v.Type})
	}
	safe, functions := 0, 0
	for range 40000 {
		s := strings.ReplaceAll(someExpr(d, 1+d.IntN(5)), "(x, x) ->", "(x, f) ->")
		x := expr(t, s)
		typ, e := infer.Expr(x, env, cons)
		if e != api.OK || match.Module(api.Module{Types: m.Types, Lets: []api.Let{{Name: "x", Body: x}}}, nil) != api.OK {
			continue
		}
		got, _, e := eval.Eval(m, x, 2000)
		if e == api.ErrLimit {
			continue
		}
		if e != api.OK {
			t.Fatalf("%s: %v", s, e)
		}
		safe++
		if got.Kind == api.PaAny {
			functions++
		}
		// The type of the pattern that it is.
		shown, e := infer.Expr(api.Term{Kind: api.ExFun, Name: "z", Kids: []api.Term{{Kind: api.ExMatch, Kids: []api.Term{{Kind: api.ExVar, Name: "z"}, got, {Kind: api.ExInt}}}}}, nil, cons)
		if e != api.OK {
			t.Fatalf("%s: %s has no type", s, raw(got))
		}
		if _, e := unify.Meet(typ, apart(shown.Kids[0])); e != api.OK {
			t.Fatalf("%s: %s is of %s, not %s", s, raw(got), raw(shown.Kids[0]), raw(typ))
		}
	}
	if safe < 3000 || functions < 300 || functions > safe/2+2000 {
		t.Fatal(safe, functions)
	}
}

// apart is a type whose variables have other names.
func apart(x api.Term) api.Term {
	if x.Kind == api.TyVar {
		x.Name += "_"
	}
	var kids []api.Term
	for _, k := range x.Kids {
		kids = append(kids, apart(k))
	}
	x.Kids = kids
	return x
}
