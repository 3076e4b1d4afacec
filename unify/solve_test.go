package unify_test

import (
	"fmt"
	"strings"
	"testing"

	"touchstone/api"
	"touchstone/unify"
)

// P13.1: what each variable is, in the order in which they are met.
func TestSolve(t *testing.T) {
	for _, x := range []struct{ equations, wanted string }{
		{"", ""},
		{"int = int", ""},
		{"'a = 'a", "'a = 'a"},
		{"'a -> int = 'b -> 'b", "'a = int; 'b = int"},
		{"'b = 'a", "'b = 'b; 'a = 'b"},
		{"'b = 'a; 'c = 'a", "'b = 'b; 'a = 'b; 'c = 'b"},
		{"'c = 'd; 'a = 'b; 'b = 'd", "'c = 'c; 'd = 'c; 'a = 'c; 'b = 'c"},
		{"('d, 'c) = ('b, 'a); 'a = 'b", "'d = 'd; 'c = 'd; 'b = 'd; 'a = 'd"},
		{"'a = list('b); 'c = 'a; 'c = list(int)", "'a = list(int); 'b = int; 'c = list(int)"},
		{"list('x) = 'y; 'y = 'z", "'x = 'x; 'y = list('x); 'z = list('x)"},
		{"('a, 'b) -> 'c = 'd -> 'd", "'a = 'a; 'b = 'b; 'c = ('a, 'b); 'd = ('a, 'b)"},
		{"'b = 'c -> 'c; 'a = 'b; 'a = 'd -> int", "'b = int -> int; 'c = int; 'a = int -> int; 'd = int"},
		{"P.list('a) = P.list(()); 'b = t", "'a = (); 'b = t"},
		{"'a = (int, 'b, 'c); 'a = ('c, 'd, 'd)", "'a = (int, int, int); 'b = int; 'c = int; 'd = int"},
	} {
		wantSolved(t, equations(t, x.equations), vals(t, x.wanted))
	}
}

// P13.1: equations without a solution.
func TestNoSolution(t *testing.T) {
	for _, s := range []string{
		"int = text", "int = ()", "int = int -> int", "list('a) = 'a -> 'b", "list('a) = list('a, 'b)", "list = list('a)", "P.int = int", "P.int = Q.int", "('a, 'b) = ('a, 'b, 'c)", "() = ('a, 'b)", "('a, 'b) = 'a -> 'b",
		"'a = list('a)", "list('a) = 'a", "'a = 'b; 'b = 'a -> int", "'a = list('b); 'b = list('a)", "'a = ('b, int); 'c = ('a, int); 'b = 'c", "'a -> 'a = list('b) -> 'b", "('a, 'b) = ('b, list('a))",
		"'a = int; 'a = text", "'a = int; 'b = text; 'a = 'b", "'a -> 'a = int -> text", "int = int; text = text; int = text", "list('a) = list(int); list(list('a)) = list(list(text))",
	} {
		wantUnsolved(t, equations(t, s), api.ErrType)
		wantUnsolved(t, equations(t, "'x = 'y;"+s+"; 'z = int"), api.ErrType)
		wantUnsolved(t, append(equations(t, s), api.Equation{A: api.Term{Kind: api.TyVar, Name: "z"}, B: wide(2000)}), api.ErrType)
	}
}

// wide is a tuple of so many terms in all.
func wide(n int) api.Term {
	x := api.Term{Kind: api.TyTuple}
	for range n - 1 {
		x.Kids = append(x.Kids, api.Term{Kind: api.TyCon, Name: "int"})
	}
	return x
}

// P13.1, P13.2: a type of MaxType terms, and one more.
func TestLimit(t *testing.T) {
	a := api.Term{Kind: api.TyVar, Name: "a"}
	b := api.Term{Kind: api.TyVar, Name: "b"}
	fun := func(a, b api.Term) api.Term { return api.Term{Kind: api.TyFun, Kids: []api.Term{a, b}} }
	for n := api.MaxType - 3; n <= api.MaxType+3; n++ {
		l := []api.Equation{{A: a, B: wide(n)}, {A: b, B: fun(a, typ(t, "int"))}}
		wanted := []api.Val{{Name: "a", Type: wide(n)}, {Name: "b", Type: fun(wide(n), typ(t, "int"))}}
		if n > api.MaxType-2 {
			wantUnsolved(t, l, api.ErrLimit)
		} else {
			wantSolved(t, l, wanted)
		}
		got, e := unify.Meet(a, wide(n))
		if n > api.MaxType {
			wantUnsolved(t, l[:1], api.ErrLimit)
			if e != api.ErrLimit || raw(got) != raw(api.Term{}) {
				t.Fatal(n, e)
			}
		} else if wantSolved(t, l[:1], wanted[:1]); e != api.OK || raw(got) != raw(wide(n)) {
			t.Fatal(n, e)
		}
		// What is met may be too much, where none of the variables is; or one of them, where it is not.
		got, e = unify.Meet(fun(a, typ(t, "int")), fun(wide(n), b))
		if n > api.MaxType-2 != (e == api.ErrLimit) || e == api.OK && raw(got) != raw(fun(wide(n), typ(t, "int"))) {
			t.Fatal(n, e)
		}
		if got, e = unify.Meet(typ(t, "int"), typ(t, "int")); e != api.OK {
			t.Fatal(raw(got), e)
		}
	}
	// Sides may have any size, where no variable is of it.
	wantSolved(t, []api.Equation{{A: wide(300000), B: wide(300000)}, {A: a, B: typ(t, "int")}}, vals(t, "'a = int"))
	wantUnsolved(t, []api.Equation{{A: wide(300000), B: wide(300001)}}, api.ErrType)
}

// P13.1: equations each of which doubles.
func TestDoubling(t *testing.T) {
	var l []api.Equation
	for i := range 300 {
		for _, c := range "xy" {
			l = append(l, equations(t, fmt.Sprintf("'%c%d = ('%c%d, '%c%d)", c, i+1, c, i, c, i))...)
		}
	}
	wantUnsolved(t, l, api.ErrLimit)
	same := append(l, equations(t, "'x300 = 'y300")...)
	wantUnsolved(t, same, api.ErrLimit)
	wantUnsolved(t, append(same, equations(t, "'x0 = list('y0)")...), api.ErrType)
	wantUnsolved(t, append(same, equations(t, "'x0 = int; 'y0 = text")...), api.ErrType)
	wantUnsolved(t, append(l, equations(t, "'x0 = int; 'y0 = text; 'x300 = 'y300")...), api.ErrType)
	wantUnsolved(t, append(l, equations(t, "'x0 = 'y300")...), api.ErrLimit)
	wantUnsolved(t, append(l, equations(t, "'x0 = 'y300; 'y0 = 'x1")...), api.ErrType)
	// Turned round: the last ones are found first.
	for i := range len(l) / 2 {
		l[i], l[len(l)-1-i] = l[len(l)-1-i], l[i]
	}
	wantUnsolved(t, append(l, equations(t, "'x300 = 'y300")...), api.ErrLimit)
	wantUnsolved(t, append(l, equations(t, "'x300 = 'y300; 'x0 = list('y0)")...), api.ErrType)
	nine := strings.Repeat("('c, ", 9) + "'a" + strings.Repeat(")", 9)
	wantSolved(t, equations(t, "'a = 'b; 'b = int; "+nine+" = 'd"), vals(t, "'a = int; 'b = int; 'c = 'c; 'd = "+strings.ReplaceAll(nine, "'a", "int")))
}

// P13.2: what comes of two types.
func TestMeet(t *testing.T) {
	for _, x := range []struct{ a, b, wanted string }{
		{"int", "int", "int"}, {"'a", "int", "int"}, {"int", "'a", "int"}, {"'a", "'b", "'a"}, {"'b", "'a", "'b"}, {"'a -> 'b", "'c -> 'c", "'a -> 'a"}, {"'c -> 'c", "'a -> 'b", "'c -> 'c"},
		{"list('a)", "list(int -> 'b)", "list(int -> 'b)"}, {"('a, 'b, 'c)", "('b, 'c, int)", "(int, int, int)"}, {"('x, list('y))", "('y, 'z)", "('x, list('x))"}, {"'a", "list('b) -> P.t", "list('b) -> P.t"},
	} {
		a, b := typ(t, x.a), typ(t, x.b)
		if got, e := unify.Meet(a, b); e != api.OK || raw(got) != raw(typ(t, x.wanted)) {
			t.Fatalf("%s, %s: %s, %v", x.a, x.b, raw(got), e)
		}
		if raw(a) != raw(typ(t, x.a)) || raw(b) != raw(typ(t, x.b)) {
			t.Fatalf("%s, %s: what was handed in is changed", x.a, x.b)
		}
	}
	for _, x := range [][2]string{{"int", "text"}, {"'a", "list('a)"}, {"'a -> 'a", "int -> text"}, {"'a -> 'b", "('a, 'b)"}} {
		if got, e := unify.Meet(typ(t, x[0]), typ(t, x[1])); e != api.ErrType || raw(got) != raw(api.Term{}) {
			t.Fatalf("%s: %s, %v", x, raw(got), e)
		}
	}
}

// P1: what is no type ends too.
func TestNoTypes(t *testing.T) {
	deep := typ(t, "'a")
	for range 60000 {
		deep = api.Term{Kind: api.TyCon, Name: "list", Kids: []api.Term{deep}}
	}
	odd := []api.Term{{}, {Kind: api.ExVar, Name: "a"}, {Kind: api.TyRigid, Name: "a"}, {Kind: -1}, {Kind: api.TyVar, Name: "a", Kids: []api.Term{{}}}, {Kind: api.TyFun}, {Kind: api.TyTuple, Kids: []api.Term{{Kind: 99}}}, deep}
	for _, a := range odd {
		for _, b := range odd {
			unify.Meet(a, b)
			unify.Solve([]api.Equation{{A: a, B: b}, {A: typ(t, "'a"), B: typ(t, "int")}})
		}
	}
	wantUnsolved(t, []api.Equation{{A: deep, B: typ(t, "'b")}}, api.ErrLimit)
	wantUnsolved(t, []api.Equation{{A: deep, B: typ(t, "'a")}}, api.ErrType)
}
