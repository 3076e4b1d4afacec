package compat_test

import (
	"testing"

	"touchstone/api"
	"touchstone/compat"
)

var none api.Change

// P19.1, P19.2: values that are there, gone, more general, less general, alike.
func TestValues(t *testing.T) {
	want(t, "", "", none, none)
	want(t, "let f : int = 0;", "let f : int = 0;", none, none)
	want(t, "", "let f : int = 0;", none, gone("f"))
	want(t, "let f : int -> int = 0;", "let f : 'a -> 'a = 0;", none, typed("f"))
	want(t, "let f : 'a -> 'b = 0;", "let f : 'a -> 'a = 0;", typed("f"), none)
	want(t, "let f : int = 0;", "let f : text = 0;", typed("f"), typed("f"))
	want(t, "let f : 'a -> 'b = 0;", "let f : 'b -> 'a = 0;", none, none)
	want(t, "let f : int = 0; let g : int = 0;", "let g : int = 0;", gone("f"), none)
	want(t, "let f : int = 0; let h : int = 0;", "let f : int = 0; let g : int = 0;", gone("h"), gone("g"))
	want(t, "let a : int = 0; let b : int = 0;", "let a : text = 0;", typed("a"), typed("a"))
	want(t, "let a : int = 0; let b : int = 0; let c : int = 0;", "let a : int = 0; let b : 'a = 0;", gone("c"), typed("b"))
	want(t, "let a : int = 0; let b : int = 0;", "let b : text = 0;", gone("a"), typed("b"))
	want(t, "let f : P.t = 0;", "let f : t = 0;", typed("f"), typed("f"))
	want(t, "let f : P.t -> int = 0;", "let f : P.t -> 'a = 0;", none, typed("f"))
	want(t, "let f : P.t = 0;", "let f : Q.t = 0;", typed("f"), typed("f"))
}

// P19.1, P19.2: types of constructors that are the same, or not.
func TestTypes(t *testing.T) {
	want(t, "type t = A;", "type t = A;", none, none)
	want(t, "", "type t = A;", none, typeGone("t"))
	want(t, "type t('a) = A;", "type t = A;", params("t"), params("t"))
	want(t, "type t('a) = A('a);", "type t('a, 'b) = A('b);", params("t"), params("t"))
	want(t, "type t = A;", "type t = A | B;", cons("t", "B"), cons("t", "B"))
	want(t, "type t = A | C;", "type t = B | C;", cons("t", "A"), cons("t", "A"))
	want(t, "type t = A | C;", "type t = A | B | D;", cons("t", "B"), cons("t", "B"))
	want(t, "type t = A(int);", "type t = A(text);", args("t", "A"), args("t", "A"))
	want(t, "type t = A(int);", "type t = A;", args("t", "A"), args("t", "A"))
	want(t, "type t = A(int);", "type t = A(int, int);", args("t", "A"), args("t", "A"))
	want(t, "type t('a) = A('a);", "type t('a) = A(int);", args("t", "A"), args("t", "A"))
	want(t, "type t('a, 'b) = A('a, 'b);", "type t('a, 'b) = A('b, 'a);", args("t", "A"), args("t", "A"))
	want(t, "type t('a, 'b) = A('a);", "type t('a, 'b) = A('b);", args("t", "A"), args("t", "A"))
	want(t, "type t('a, 'b) = A('a, 'a);", "type t('a, 'b) = A('a, 'b);", args("t", "A"), args("t", "A"))
	want(t, "type t = A | B(int) | C(t);", "type t = C(t) | A | B(int);", none, none)
	want(t, "type t = B | A;", "type t = A | B(int);", args("t", "B"), args("t", "B"))
	want(t, "type t('x, 'y) = A('y, list('x), 'x -> 'y) | B;", "type t('a, 'b) = B | A('b, list('a), 'a -> 'b);", none, none)
	want(t, "type t('x, 'y) = A('y, 'x);", "type t('y, 'x) = A('x, 'y);", none, none)
	want(t, "type t('x, 'y) = A('y, 'x);", "type t('y, 'x) = A('y, 'x);", args("t", "A"), args("t", "A"))
	want(t, "type t = A(P.u);", "type t = A(Q.u);", args("t", "A"), args("t", "A"))
	want(t, "type u = B; type t = A(u);", "type t = A(u);", typeGone("u"), none)
	want(t, "type t = A | B | C(int);", "type t = A | B(int) | C;", args("t", "B"), args("t", "B"))
}

// P19.1: of two changes the one that is told: types ahead of values, each by rising names, of one type by kinds.
func TestTwo(t *testing.T) {
	want(t, "type t = A; type u = B;", "", typeGone("t"), none)
	want(t, "type u = B; type t = A;", "", typeGone("t"), none)
	want(t, "type t = A; type u = B;", "type t = A | C; type w = B;", cons("t", "C"), cons("t", "C"))
	want(t, "type t = A; type v = B;", "type v = C; type w = A;", typeGone("t"), cons("v", "B"))
	want(t, "type t('a) = A | B('a);", "type t = C(int) | B;", params("t"), params("t"))
	want(t, "type t = A(int) | B | D;", "type t = A(text) | C | D;", cons("t", "B"), cons("t", "B"))
	want(t, "type t = A(int) | Z;", "type t = A(text) | Z | B;", cons("t", "B"), cons("t", "B"))
	want(t, "type t = B(int) | A(int);", "type t = A(text) | B(text);", args("t", "A"), args("t", "A"))
	want(t, "type t = A; let a : int = 0;", "type t = B; let a : text = 0;", cons("t", "A"), cons("t", "A"))
	want(t, "type z = A; let a : int = 0;", "let b : int = 0;", typeGone("z"), gone("b"))
	want(t, "let b : int = 0; let a : int = 0;", "let b : text = 0;", gone("a"), typed("b"))
	want(t, "let b : int = 0; let a : int = 0;", "", gone("a"), none)
	want(t, "type x = X; let x : x = 0;", "type x = X; let x : int = 0;", typed("x"), typed("x"))
}

// P1: what is not right ends too.
func TestAnything(t *testing.T) {
	odd := api.Term{Kind: 99, Kids: []api.Term{{Kind: api.TyVar, Kids: []api.Term{{}}}, {}}}
	i := api.Iface{Types: []api.TypeDef{{}, {}, {Name: "t", Params: []string{"", "", "a"}, Cons: []api.Con{{Args: []api.Term{odd}}, {Args: []api.Term{odd, odd}}}}}, Vals: []api.Val{{Type: odd}, {Name: "x"}, {}}}
	for _, x := range []api.Iface{i, {}, iface(t, "type t = A; let x : int = 0;")} {
		for gap := -1; gap < 6; gap++ {
			compat.Missed(i, x)
			compat.Allows(gap, i, x)
			compat.Allows(gap, x, i)
			compat.Classify(x, i)
		}
	}
}
