package infer_test

import (
	"math/rand/v2"
	"slices"
	"testing"

	"touchstone/api"
	"touchstone/infer"
	"touchstone/scheme"
	"touchstone/term"
)

// some are expressions of which a part has a type, each with what is to be told.
func some(t *testing.T, seed uint64, n int, do func(d *rand.Rand, s string, x api.Term, got api.Term)) {
	d := rand.New(rand.NewPCG(15, seed))
	env, cons := env(t), cons(t)
	met := map[api.Errno]int{}
	for range n {
		s := someExpr(d, 2+d.IntN(4))
		x := expr(t, s)
		wanted, most, e := toldType(x, env, cons)
		met[e]++
		got, err := infer.Expr(x, env, cons)
		if err != e || raw(got) != raw(wanted) {
			t.Fatalf("%s: %s, %v, not %s, %v", s, raw(got), err, raw(wanted), e)
		}
		if e == api.OK && most <= api.MaxType {
			do(d, s, x, got)
		}
	}
	if met[api.OK] < n/10 || met[api.ErrType] < n/10 || met[api.ErrName] < n/100 {
		t.Fatal(met)
	}
}

// P15.1: any expressions, held against the second telling.
func TestAny(t *testing.T) {
	some(t, 1, 25000, func(d *rand.Rand, s string, x, got api.Term) {
		if raw(scheme.Canon(got)) != raw(got) {
			t.Fatalf("%s: %s", s, raw(got))
		}
	})
}

// ExAnn of an expression.
func annotated(x, ann api.Term) api.Term {
	return api.Term{Kind: api.ExAnn, Kids: []api.Term{x, ann}}
}

// P15.6: with its principal type, or one that comes of it, put to it it has that; with no other one.
func TestPutTo(t *testing.T) {
	env, cons := env(t), cons(t)
	others := 0
	some(t, 6, 8000, func(d *rand.Rand, s string, x, principal api.Term) {
		for _, ann := range []api.Term{principal, special(d, principal), special(d, principal)} {
			if got, e := infer.Expr(annotated(x, ann), env, cons); e != api.OK || raw(got) != canon(ann) {
				t.Fatalf("%s: with %s it is %s, %v", s, raw(ann), raw(got), e)
			}
		}
		other := someType(d, 3)
		got, e := infer.Expr(annotated(x, other), env, cons)
		if scheme.Above(principal, other) != (e == api.OK) || e != api.OK && e != api.ErrType {
			t.Fatalf("%s: with %s it is %s, %v", s, raw(other), raw(got), e)
		}
		if e != api.OK {
			others++
		}
	})
	if others < 200 {
		t.Fatal(others)
	}
}

// P15.7: let x = e in x, and (fun x -> x) e, have the type of e.
func TestAround(t *testing.T) {
	env, cons := env(t), cons(t)
	x := api.Term{Kind: api.ExVar, Name: "x"}
	some(t, 7, 6000, func(d *rand.Rand, s string, e, principal api.Term) {
		for _, y := range []api.Term{
			{Kind: api.ExLet, Name: "x", Kids: []api.Term{e, x}},
			{Kind: api.ExApp, Kids: []api.Term{{Kind: api.ExFun, Name: "x", Kids: []api.Term{x}}, e}},
		} {
			if got, err := infer.Expr(y, env, cons); err != api.OK || raw(got) != raw(principal) {
				t.Fatalf("%s: %s, %v, not %s", s, raw(got), err, raw(principal))
			}
		}
	})
}

// raised is a type that is above one: some of what is in it are variables.
func raised(d *rand.Rand, x api.Term) api.Term {
	if d.IntN(4) == 0 {
		return api.Term{Kind: api.TyVar, Name: pick(d, "r", "s", "q") + pick(d, "1", "2", "3")}
	}
	x.Kids = slices.Clone(x.Kids)
	for i := range x.Kids {
		x.Kids[i] = raised(d, x.Kids[i])
	}
	return x
}

// P15.5: where entries have types that are above theirs, an expression that has a type has one, which is above that.
func TestMore(t *testing.T) {
	cons := cons(t)
	first := env(t)
	changed := 0
	some(t, 5, 8000, func(d *rand.Rand, s string, x, principal api.Term) {
		more := slices.Clone(first)
		for i := range more {
			if r := raised(d, more[i].Type); scheme.Above(r, more[i].Type) {
				more[i].Type = r
			}
		}
		got, e := infer.Expr(x, more, cons)
		if e != api.OK || !scheme.Above(got, principal) {
			t.Fatalf("%s: %s, %v, which is not above %s, with %s", s, raw(got), e, raw(principal), raw(more))
		}
		if raw(got) != raw(principal) {
			changed++
		}
	})
	if changed < 50 {
		t.Fatal(changed)
	}
}

// P15.3: a module of lets that are told has the types that the expressions have, one by one.
func TestModuleAny(t *testing.T) {
	some(t, 3, 5000, func(d *rand.Rand, s string, x, principal api.Term) {
		types := api.Module{Types: parsed(t, types).Types}
		free := term.Free(x)
		if len(free) > 0 || hasPkg(x) {
			return
		}
		types.Lets = []api.Let{{Name: "w", Body: api.Term{Kind: api.ExVar, Name: "v"}}, {Name: "v", Body: x}, {Name: "u", Ann: []api.Term{special(d, principal)}, Body: api.Term{Kind: api.ExVar, Name: "v"}}}
		got, e := infer.Module(types, nil)
		if e != api.OK || len(got) != 3 || raw(got[0].Type) != raw(principal) || raw(got[1].Type) != raw(principal) || raw(got[2].Type) != canon(types.Lets[2].Ann[0]) || got[0].Name != "w" || got[2].Name != "u" {
			t.Fatalf("%s: %s, %v", s, raw(got), e)
		}
	})
}

func hasPkg(x api.Term) bool { return x.Pkg != "" || slices.ContainsFunc(x.Kids, hasPkg) }

// What is handed out shares no list with what was handed in.
func TestOwn(t *testing.T) {
	m := module(t, "let x : list(int -> 'a) = x; type list('a) = N;")
	before := raw(m)
	got, e := infer.Module(m, nil)
	if e != api.OK {
		t.Fatal(e)
	}
	got[0].Type.Kids[0].Name, got[0].Type.Kids[0].Kids[0].Name = "?", "?"
	if raw(m) != before {
		t.Fatal("what is handed out is shared")
	}
}
