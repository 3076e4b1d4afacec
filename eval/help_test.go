package eval_test

import (
	"fmt"
	"math/rand/v2"
	"slices"
	"strings"
	"testing"

	"touchstone/api"
	"touchstone/eval"
	"touchstone/parse"
)

// raw is all that is in a thing, as a text; lists that are nil and empty are alike.
func raw(x any) string { return fmt.Sprintf("%+v", x) }

func module(t *testing.T, s string) api.Module {
	t.Helper()
	m, at, e := parse.Module(s)
	if e != api.OK {
		t.Fatalf("%q: %d, %v", s, at, e)
	}
	return m
}

func expr(t *testing.T, s string) api.Term {
	t.Helper()
	x, at, e := parse.Expr(s)
	if e != api.OK {
		t.Fatalf("%q: %d, %v", s, at, e)
	}
	return x
}

// pattern is told as a match has it.
func pattern(t *testing.T, s string) api.Term {
	t.Helper()
	return expr(t, "match x with "+s+" -> x end").Kids[1]
}

// want asks for what expressions come to, told as patterns, in just so many steps: with one fewer it is ErrLimit, with more the same.
func want(t *testing.T, source, s, wanted string, steps int) {
	t.Helper()
	m, x := module(t, source), expr(t, s)
	before := raw(m) + raw(x)
	for _, most := range []int{steps, steps + 1, min(2*steps, api.MaxEval), api.MaxEval} {
		if got, n, e := eval.Eval(m, x, most); e != api.OK || n != steps || raw(got) != raw(pattern(t, wanted)) {
			t.Fatalf("%s with %d: %s, %d, %v, not %s, %d", s, most, raw(got), n, e, wanted, steps)
		}
	}
	for _, fewer := range []int{1, steps / 2, steps - 1} {
		if fewer < 1 || fewer >= steps {
			continue
		}
		if got, n, e := eval.Eval(m, x, fewer); e != api.ErrLimit || n != fewer || raw(got) != raw(api.Term{}) {
			t.Fatalf("%s with %d: %s, %d, %v", s, fewer, raw(got), n, e)
		}
	}
	if raw(m)+raw(x) != before {
		t.Fatalf("%s: what was handed in is changed", s)
	}
}

// wantStuck asks for ErrBroken behind just so many steps; with fewer it is ErrLimit.
func wantStuck(t *testing.T, source string, x api.Term, steps int) {
	t.Helper()
	m := module(t, source)
	for _, most := range []int{steps, steps + 1, api.MaxEval} {
		if got, n, e := eval.Eval(m, x, most); e != api.ErrBroken || n != steps || raw(got) != raw(api.Term{}) {
			t.Fatalf("%.200s with %d: %s, %d, %v, not %d", raw(x), most, raw(got), n, e, steps)
		}
	}
	if steps > 1 {
		if got, n, e := eval.Eval(m, x, steps-1); e != api.ErrLimit || n != steps-1 || raw(got) != raw(api.Term{}) {
			t.Fatalf("%.200s with %d: %s, %d, %v", raw(x), steps-1, raw(got), n, e)
		}
	}
}

func pick[T any](d *rand.Rand, l ...T) T { return l[d.IntN(len(l))] }

// someExpr is one of few names and constructors, most of which fit.
func someExpr(d *rand.Rand, depth int, bound ...string) string {
	one := func(more ...string) string { return someExpr(d, depth-1, append(slices.Clone(bound), more...)...) }
	if depth <= 0 || d.IntN(8) == 0 {
		if len(bound) > 0 && d.IntN(3) > 0 {
			return pick(d, bound...)
		}
		return pick(d, "1", "2", "\"a\"", "id", "map", "Nil", "B", "Cons(1, Nil)", "twice", "()", "pair")
	}
	x := pick(d, "x", "y", "f")
	switch d.IntN(12) {
	case 0, 1, 2:
		return "(" + one() + ") (" + one() + ")"
	case 3, 4:
		return "fun " + x + " -> " + one(x)
	case 5, 6:
		return "let " + x + " = " + one() + " in " + one(x)
	case 7:
		return "let rec " + x + " = " + one(x) + " in " + one(x)
	case 8:
		return "match " + one() + " with " + pick(d, "Cons(x, y) -> "+one("x", "y")+" | Nil -> "+one()+" end", "(x, x) -> "+one("x")+" end", "1 -> "+one()+" | x -> "+one("x")+" end", "\"a\" -> "+one()+" | _ -> "+one()+" end", "A(f) -> "+one("f")+" | B -> "+one()+" end")
	case 9:
		return "(" + one() + ", " + one() + ")"
	case 10:
		return "(" + one() + " : int)"
	}
	return pick(d, "Cons("+one()+", "+one()+")", "A("+one()+")", "map ("+one()+") ("+one()+")", "Cons("+one()+", Nil)")
}

// library is a module whose values the expressions use.
const library = "type list('a) = Nil | Cons('a, list('a)); type t = A(int) | B; let id = fun x -> x; let map = fun f -> fun l -> match l with Nil -> Nil | Cons(x, r) -> Cons(f x, map f r) end; let twice = fun f -> fun x -> f (f x); let pair = fun x -> (x, x); let id = nothing;"

// lib is that, without what stands twice.
func lib() string { return strings.TrimSuffix(library, " let id = nothing;") }
