package eval_test

import (
	"math"
	"testing"

	"touchstone/api"
	"touchstone/eval"
)

// P26.1: each rule, with its steps.
func TestRules(t *testing.T) {
	want(t, "", "(fun x -> Cons(x, Nil)) 1", "Cons(1, Nil)", 6)
	want(t, "", "1", "1", 1)
	want(t, "", "-7", "-7", 1)
	want(t, "", "\"a\\n\"", "\"a\\n\"", 1)
	want(t, "", "()", "()", 1)
	want(t, "", "(1, (\"a\", Nil))", "(1, (\"a\", Nil))", 5)
	want(t, "", "Cons(A(1), Cons(2, Nil))", "Cons(A(1), Cons(2, Nil))", 6)
	want(t, "", "P.Cons(1, P.Nil)", "P.Cons(1, P.Nil)", 3)
	want(t, "", "fun x -> 1 1", "_", 1)
	want(t, "", "(fun x -> x, A(fun y -> y))", "(_, A(_))", 4)
	want(t, "", "(fun x -> fun y -> (x, y)) 1 2", "(1, 2)", 9)
	want(t, "", "(1 : text)", "1", 2)
	want(t, "", "((fun x -> x : 'a -> 'a) 5 : int)", "5", 6)
	want(t, "", "let x = (1, 2) in (x, x)", "((1, 2), (1, 2))", 7)
	want(t, "", "let x : int = 1 in x", "1", 3)
	// A function keeps the names that were bound where it stood.
	want(t, "", "let x = 1 in let f = fun y -> (x, y) in let x = 2 in f x", "(1, 2)", 12)
	want(t, "", "(fun x -> fun x -> x) 1 2", "2", 7)
	want(t, "", "let x = 1 in let x = A(x) in let x = B(x) in x", "B(A(1))", 9)
}

// P26.1: names of a module, the first of several; names around it are not bound in it.
func TestModule(t *testing.T) {
	want(t, "let x = 1; let y = (x, x); let x = 2;", "y", "(1, 1)", 6)
	want(t, "let x = 1; let y = x;", "let x = 2 in (x, y)", "(2, 1)", 7)
	want(t, "let f = fun z -> (x, z); let x = 5;", "(fun x -> f x) 7", "(5, 7)", 11)
	want(t, library, "id 1", "1", 5)
	want(t, library, "twice id B", "B", 15)
	want(t, library, "map pair (Cons(1, Cons(2, Nil)))", "Cons((1, 1), Cons((2, 2), Nil))", 47)
}

// P26.1: a let rec is what it is evaluated to, each time; one that is not used is not evaluated.
func TestRec(t *testing.T) {
	want(t, "", "let rec x = 1 in x", "1", 3)
	want(t, "", "let rec x = x in 1", "1", 2)
	want(t, "", "let rec x = (1, 2) in (x, x)", "((1, 2), (1, 2))", 10)
	want(t, "", "let rec x = nowhere in fun y -> x", "_", 2)
	want(t, "", "let rec f = fun l -> match l with Nil -> 0 | Cons(_, r) -> f r end in f (Cons(1, Cons(2, Nil)))", "0", 24)
	want(t, "", "let y = 1 in let rec x = y in let y = 2 in (x, y)", "(1, 2)", 9)
	want(t, "", "let x = 1 in let rec x = A(fun y -> x) in match x with A(f) -> match f 0 with A(g) -> B | _ -> C end | _ -> D end", "B", 15)
	want(t, "", "let rec x = 1 in let rec y = x in let x = 2 in y", "1", 7)
}

// P26.1: the first pattern that takes the value; of several variables with one name the last.
func TestMatch(t *testing.T) {
	want(t, "", "match 1 with 2 -> A | 1 -> B | _ -> C end", "B", 3)
	want(t, "", "match \"a\" with \"\" -> A | \"a\" -> B | \"a\" -> C end", "B", 3)
	want(t, "", "match 1 with x -> (x, x) | 1 -> 2 end", "(1, 1)", 5)
	want(t, "", "match (1, (2, Cons(3, Nil))) with (_, (2, Cons(x, y))) -> (y, x) end", "(Nil, 3)", 11)
	want(t, "", "match (1, 2) with (x, x) -> x end", "2", 5)
	want(t, "", "match ((1, 2), 3) with ((x, y), x) -> (x, y) end", "(3, 2)", 9)
	want(t, "", "match Cons(1, Nil) with Cons(x, Cons(_, _)) -> x | Cons(2, _) -> 2 | Cons(_, Nil) -> 3 end", "3", 5)
	want(t, "", "match fun x -> x with 1 -> A | () -> B | C -> C | f -> f D end", "D", 6)
	want(t, "", "let x = 1 in match 2 with x -> x end", "2", 5)
	want(t, "", "let x = 1 in match 2 with y -> x end", "1", 5)
	want(t, "", "match A with P.A -> 1 | A(_) -> 2 | A -> 3 end", "3", 3)
	want(t, "", "match () with (_, _) -> 1 | () -> 2 end", "2", 3)
}

// P26.1: each way of being stuck, and in how many steps.
func TestStuck(t *testing.T) {
	for s, steps := range map[string]int{
		"x": 1, "P.x": 1, "fun x -> x": -1, "(fun x -> y) 1": 4, "1 2": 3, "Nil 1": 3, "(1, 2) ((), 3)": 7, "\"a\" 1": 3, "(1, x)": 3, "(x, 1)": 2, "A(B(x))": 3, "x 1": 2, "1 x": 3, "(fun z -> z) x": 3, "let x = y in 1": 2, "let x = x in x": 2, "let rec x = y in x": 3, "let x = 1 in P.x": 3, "(x : int)": 2,
		"match 1 with 2 -> 1 end": 2, "match x with _ -> 1 end": 2, "match 1 with _ -> x end": 3, "match (1, 2) with (1, 1) -> 1 | (2, _) -> 2 end": 4, "match fun x -> x with 1 -> 1 end": 2, "match Nil with P.Nil -> 1 | Cons(_, _) -> 2 end": 2, "match 1 with \"1\" -> 1 | () -> 2 | A -> 3 end": 2,
		"let f = fun x -> match x with 0 -> f x | _ -> 1 end in f 0": 9,
	} {
		if steps > 0 {
			wantStuck(t, "", expr(t, s), steps)
		}
	}
	wantStuck(t, "let x = y;", expr(t, "(1, x)"), 4)
	wantStuck(t, "let f = fun x -> z; let g = fun z -> f z;", expr(t, "g 1"), 9)
}

// P26.1: terms that are no expressions.
func TestNoExpressions(t *testing.T) {
	integer := api.Term{Kind: api.ExInt}
	two := []api.Term{integer, integer}
	for _, x := range []api.Term{{}, {Kind: 99}, {Kind: -1}, {Kind: api.TyVar, Name: "a"}, {Kind: api.PaAny}, {Kind: api.PaInt, N: 1}, {Kind: api.ExFun, Name: "x"}, {Kind: api.ExFun, Name: "x", Kids: two}, {Kind: api.ExApp}, {Kind: api.ExApp, Kids: two[:1]}, {Kind: api.ExLet, Name: "x", Kids: two[:1]}, {Kind: api.ExLet, Name: "x", Kids: append(two, two...)}, {Kind: api.ExLet, Name: "x", N: 2, Kids: two}, {Kind: api.ExMatch}, {Kind: api.ExMatch, Kids: two[:1]}, {Kind: api.ExMatch, Kids: two}, {Kind: api.ExAnn}, {Kind: api.ExAnn, Kids: two[:1]}, {Kind: api.ExTuple, Kids: two[:1]},
		{Kind: api.ExInt, Name: "x"}, {Kind: api.ExInt, Kids: two}, {Kind: api.ExText, N: 1}, {Kind: api.ExTuple, Pkg: "P"}, {Kind: api.ExTuple, Name: "x"}, {Kind: api.ExApp, Kids: []api.Term{{Kind: api.ExFun, Name: "x", Kids: two[:1]}, integer}, N: 1}, {Kind: api.ExAnn, Name: "x", Kids: []api.Term{integer, {Kind: api.TyTuple}}}, {Kind: api.ExMatch, Pkg: "P", Kids: []api.Term{integer, {Kind: api.PaAny}, integer}}} {
		for _, y := range []api.Term{x, {Kind: api.ExTuple, Kids: []api.Term{integer, x}}, {Kind: api.ExMatch, Kids: []api.Term{integer, {Kind: api.PaAny}, x}}} {
			if got, n, e := eval.Eval(api.Module{}, y, 50); e != api.ErrBroken || raw(got) != raw(api.Term{}) || n > 50 {
				t.Fatalf("%s: %s, %d, %v", raw(y), raw(got), n, e)
			}
		}
		// Where it is not evaluated nothing comes of it.
		if got, n, e := eval.Eval(api.Module{}, api.Term{Kind: api.ExFun, Name: "x", Kids: []api.Term{x}}, 1); e != api.OK || n != 1 || got.Kind != api.PaAny {
			t.Fatal(raw(x), n, e)
		}
	}
	// Patterns that are none take nothing.
	for _, p := range []api.Term{{}, {Kind: 99}, {Kind: api.ExInt}, {Kind: api.TyTuple}, {Kind: api.PaTuple, Kids: two[:1]}} {
		x := api.Term{Kind: api.ExMatch, Kids: []api.Term{integer, p, integer, {Kind: api.PaAny}, {Kind: api.ExInt, N: 7}}}
		if got, _, e := eval.Eval(api.Module{}, x, 50); e != api.OK || got.N != 7 {
			t.Fatal(raw(p), raw(got), e)
		}
	}
}

// P26.1: steps that may not be, and what never ends.
func TestSteps(t *testing.T) {
	x := expr(t, "1")
	for _, steps := range []int{0, -1, math.MinInt, api.MaxEval + 1, math.MaxInt} {
		for _, y := range []api.Term{x, {}, expr(t, "1 1")} {
			if got, n, e := eval.Eval(api.Module{}, y, steps); e != api.ErrArg || n != 0 || raw(got) != raw(api.Term{}) {
				t.Fatal(steps, raw(got), n, e)
			}
		}
	}
	for _, s := range []string{"let rec x = x in x", "let rec f = fun x -> f x in f 1", "(fun x -> x x) (fun x -> x x)", "let rec f = fun x -> f (x, x) in f 1", "let rec x = Cons(1, x) in x", "loop", "1 loop", "(loop, x)", "let rec l = (l, l) in l"} {
		for _, steps := range []int{1, 2, 100, api.MaxEval} {
			if got, n, e := eval.Eval(module(t, "let loop = loop;"), expr(t, s), steps); e != api.ErrLimit || n != steps || raw(got) != raw(api.Term{}) {
				t.Fatalf("%s with %d: %s, %d, %v", s, steps, raw(got), n, e)
			}
		}
	}
	// As many as there may be.
	deep := api.Term{Kind: api.ExInt, N: 3}
	for range api.MaxEval - 1 {
		deep = api.Term{Kind: api.ExAnn, Kids: []api.Term{deep, {Kind: api.TyTuple}}}
	}
	if got, n, e := eval.Eval(api.Module{}, deep, api.MaxEval); e != api.OK || n != api.MaxEval || got.N != 3 {
		t.Fatal(n, e)
	}
	if _, n, e := eval.Eval(api.Module{}, api.Term{Kind: api.ExTuple, Kids: []api.Term{deep, {Kind: api.ExInt}}}, api.MaxEval); e != api.ErrLimit || n != api.MaxEval {
		t.Fatal(n, e)
	}
	if _, n, e := eval.Eval(api.Module{}, deep, api.MaxEval-1); e != api.ErrLimit || n != api.MaxEval-1 {
		t.Fatal(n, e)
	}
}

// P26.2: which patterns take which shown values.
func TestTakes(t *testing.T) {
	values := []string{"1", "2", "\"\"", "\"a\"", "()", "(1, 2)", "(1, 1)", "(1, 2, 3)", "Nil", "Cons(1, Nil)", "Cons(1, Cons(2, Nil))", "A", "A(1)", "_", "(_, 1)", "A(_)", "((1, 2), 3)"}
	for _, v := range values {
		for _, p := range []string{"_", "x"} {
			if !eval.Takes(pattern(t, p), pattern(t, v)) {
				t.Fatal(p, v)
			}
		}
		for _, p := range values {
			if p != "_" && eval.Takes(pattern(t, p), pattern(t, v)) != (p == v || p == "(_, 1)" && v == "(1, 1)" || p == "A(_)" && v == "A(1)") {
				t.Fatal(p, v)
			}
		}
	}
	for _, x := range []struct {
		p, v   string
		wanted bool
	}{{"(x, x)", "(1, 2)", true}, {"Cons(x, _)", "Cons(1, Nil)", true}, {"Cons(2, _)", "Cons(1, Nil)", false}, {"P.A", "A", false}, {"A", "P.A", false}, {"P.A", "P.A", true}, {"P.A", "Q.A", false}, {"(_, x)", "(_, _)", true}, {"(1, _)", "(_, _)", false}, {"Cons(_, Cons(_, y))", "Cons(1, Cons(2, Nil))", true}, {"1", "\"1\"", false}, {"-1", "-1", true}, {"-1", "1", false}} {
		if eval.Takes(pattern(t, x.p), pattern(t, x.v)) != x.wanted {
			t.Fatal(x)
		}
	}
	// What is no shown value is taken by any.
	for _, v := range []api.Term{{}, {Kind: 99}, {Kind: api.ExInt, N: 1}, pattern(t, "x"), {Kind: api.TyTuple}} {
		for _, p := range []string{"1", "\"a\"", "()", "A", "(_, _)", "A(_)"} {
			if eval.Takes(pattern(t, p), v) {
				t.Fatal(p, raw(v))
			}
		}
		if !eval.Takes(pattern(t, "_"), v) || !eval.Takes(pattern(t, "x"), v) {
			t.Fatal(raw(v))
		}
	}
}

// What is handed out is the caller's own.
func TestOwn(t *testing.T) {
	m, x := module(t, "let l = Cons(1, Cons(2, Nil));"), expr(t, "let y = (1, 2) in (y, y, l)")
	before := raw(m) + raw(x)
	got, _, _ := eval.Eval(m, x, 100)
	again := raw(got)
	got.Kids[0].Kids[0].N = 99
	if got.Kids[1].Kids[0].N == 99 {
		t.Fatal("a list stands twice")
	}
	got.Kids[2].Kids[1].Kids[0].N = 99
	if second, _, _ := eval.Eval(m, x, 100); raw(m)+raw(x) != before || raw(second) != again {
		t.Fatal("what is handed out is shared")
	}
}
