package iface_test

import (
	"math/rand/v2"
	"slices"
	"testing"

	"touchstone/api"
	"touchstone/iface"
)

// P17.1: what is exported, by rising names.
func TestOf(t *testing.T) {
	wantOf(t, "", "")
	wantOf(t, "let x = 1; type t = A;", "")
	wantOf(t, "let f = fun x -> x; export f;", "let f : 'a -> 'a = 0;")
	wantOf(t, "let z = 1; let b = \"a\"; let a = fun y -> fun x -> (x, y); export z; export a; export b;", "let a : 'a -> 'b -> ('b, 'a) = 0; let b : text = 0; let z : int = 0;")
	wantOf(t, "type t = B | A; let x = A; export x; export type t;", "type t = A | B; let x : t = 0;")
	wantOf(t, "type u('x, 'y) = C('y, u('y, 'x)) | B | A('x -> int); type t('z) = D(u('z, t(int))); export type u; export type t;", "type t('a) = D(u('a, t(int))); type u('a, 'b) = A('a -> int) | B | C('b, u('b, 'a));")
	wantOf(t, "type t = A; type u = B(t); export type t;", "type t = A;")
	wantOf(t, "type x = X; let x = X; export type x; export x;", "type x = X; let x : x = 0;")
	wantOf(t, "alias p('a) = ('a, 'a); type t = A(p(int)); let f : p('x) -> 'x = fun y -> match y with (a, _) -> a end; export type t; export f;", "type t = A((int, int)); let f : ('a, 'a) -> 'a = 0;")
	// Params beyond the 26th.
	wantOf(t, "type t('z1, 'y1, 'c, 'd, 'e, 'f, 'g, 'h, 'i, 'j, 'k, 'l, 'm, 'n, 'o, 'p, 'q, 'r, 's, 't, 'u, 'v, 'w, 'x, 'y, 'z, 'a, 'b) = A('b, 'z1, 'a, 'z); export type t;", "type t('a, 'b, 'c, 'd, 'e, 'f, 'g, 'h, 'i, 'j, 'k, 'l, 'm, 'n, 'o, 'p, 'q, 'r, 's, 't, 'u, 'v, 'w, 'x, 'y, 'z, 'a1, 'b1) = A('b1, 'a, 'a1, 'z);")
}

// P17.1: an export with an Ann tells that, if the let's type is above it.
func TestAnn(t *testing.T) {
	wantOf(t, "let f = fun x -> x; export f : int -> int;", "let f : int -> int = 0;")
	wantOf(t, "let f = fun x -> x; export f : 'z -> 'z;", "let f : 'a -> 'a = 0;")
	wantOf(t, "let f = fun x -> fun y -> x; export f : 'b -> 'a -> 'b;", "let f : 'a -> 'b -> 'a = 0;")
	wantOf(t, "let f = fun x -> fun y -> x; export f : 'b -> int -> 'b;", "let f : 'a -> int -> 'a = 0;")
	wantOf(t, "let f : 'a -> 'a = fun x -> x; export f : text -> text;", "let f : text -> text = 0;")
	wantNoIface(t, api.ErrType, "let f = fun x -> x; export f : 'a -> 'b;", "let f = 1; export f : text;", "let f = 1; export f : 'a;", "let f : int -> int = fun x -> x; export f : 'a -> 'a;", "let f = fun x -> x; let g = 1; export g; export f : int;", "type t = A; type u = B; let x = A; export x : u; export type t; export type u;")
}

// P17.1: types that escape by a value, by an Ann, by Args.
func TestEscape(t *testing.T) {
	wantNoIface(t, api.ErrEscape,
		"type t = B | A; let x = A; export x;", "type t = A; let f = fun x -> match x with A -> 1 end; export f;", "type t = A; type u = B; let x = (A, B); export x; export type u;", "type t = A; type list('a) = N | C('a, list('a)); let x = C(A, N); export type list; export x;",
		"type t = A; let f = fun x -> x; export f : t -> t;", "type t = A; let f = fun x -> x; let y = A; export f : int -> int; export y;",
		"type x = X; let x = X; export x;", "type t = A; type u = B(t); let t = 1; export type u; export t;",
		"type t = A; type u = B(t); export type u;", "type t = A; type u('a) = B('a) | C(int -> (t, 'a)); export type u;", "type t = A(u); type u = B(t); export type t;",
	)
	wantOf(t, "type t = A; let f = fun x -> x; let g = f A; export f : int -> int;", "let f : int -> int = 0;")
	wantOf(t, "type t = A; let f = fun x -> x; export f; let g = f A;", "let f : 'a -> 'a = 0;")
	wantOf(t, "type t = A(u); type u = B(t); export type t; export type u;", "type t = A(u); type u = B(t);")
	// An Ann hides what the let's type tells.
	wantOf(t, "type t('a) = A; let x = fun y -> (y : int); export x : int -> int;", "let x : int -> int = 0;")
	// ErrType comes first.
	for _, s := range []string{"type t = A; let x = A; let y = 1; export x; export y : text;", "type t = A; let x = A; let y = 1; export y : text; export x;", "type t = A; let x = 1; export x : t;", "type t = A; type u = B(t); let x = 1; export type u; export x : 'a;"} {
		wantNoIface(t, api.ErrType, s)
	}
}

// P17.1: types of imports are no module's own.
func TestImports(t *testing.T) {
	q := dep(t, "type t('a) = T('a); let v : t(int) = 0;")
	wantOf(t, "import Q = q@1.2.3; let x = Q.v; type t = A(Q.t(text)); export type t; export x; let y = fun z -> match z with A(Q.T(w)) -> w end; export y;", "type t = A(Q.t(text)); let x : Q.t(int) = 0; let y : t -> text = 0;", q)
	wantOf(t, "import Q = q@1.2.3; type t = A; let x = Q.v; export x;", "let x : Q.t(int) = 0;", q)
}

// P17.6: the order of items changes nothing.
func TestOrder(t *testing.T) {
	d := rand.New(rand.NewPCG(17, 6))
	const source = "type t('x) = B('x) | A; type u = C(t(u)); type v = D; alias p = t(int); let f = fun x -> B(x); let g : p -> u = fun x -> C(A); let h = 1; let i = D; export f : int -> p; export g; export h; export type u; export type t;"
	wanted, e := of(t, source)
	if e != api.OK {
		t.Fatal(e)
	}
	for range 200 {
		m := parsed(t, source)
		d.Shuffle(len(m.Types), func(i, j int) { m.Types[i], m.Types[j] = m.Types[j], m.Types[i] })
		d.Shuffle(len(m.Lets), func(i, j int) { m.Lets[i], m.Lets[j] = m.Lets[j], m.Lets[i] })
		d.Shuffle(len(m.Exports), func(i, j int) { m.Exports[i], m.Exports[j] = m.Exports[j], m.Exports[i] })
		for i := range m.Types {
			d.Shuffle(len(m.Types[i].Cons), func(a, b int) {
				m.Types[i].Cons[a], m.Types[i].Cons[b] = m.Types[i].Cons[b], m.Types[i].Cons[a]
			})
		}
		if got, e := ofModule(t, m); e != api.OK || raw(got) != raw(wanted) {
			t.Fatalf("%s: %s, %v", raw(m), raw(got), e)
		}
	}
}

// P17.5, P17.6, P17.1: vals may stand in any order; what is made is the caller's own.
func TestOwn(t *testing.T) {
	m := parsed(t, "type t('a) = A(t('a)); export type t; export x; export y : t('b);")
	m.Exports[0], m.Exports[2] = m.Exports[2], m.Exports[0]
	list := api.Term{Kind: api.TyCon, Name: "t", Kids: []api.Term{{Kind: api.TyVar, Name: "a"}}}
	vals := []api.Val{{Name: "y", Type: list}, {Name: "z", Type: list}, {Name: "x", Type: list}}
	before := raw(m) + raw(vals)
	i, e := iface.Of(m, vals)
	if e != api.OK || len(i.Vals) != 2 || i.Vals[0].Name != "x" || i.Vals[1].Name != "y" {
		t.Fatal(raw(i), e)
	}
	wantRight(t, i)
	i.Types[0].Params[0], i.Types[0].Cons[0].Args[0].Kids[0].Name, i.Types[0].Cons[0].Name, i.Vals[0].Type.Kids[0].Name, i.Vals[1].Type.Kids[0].Name = "?", "?", "?", "?", "?"
	if raw(m)+raw(vals) != before {
		t.Fatal("what is handed out is shared")
	}
	slices.Reverse(vals)
	if again, e := iface.Of(m, vals); e != api.OK || len(again.Vals) != 2 {
		t.Fatal(raw(again), e)
	}
}

// P1: what is no module of types ends too.
func TestAnything(t *testing.T) {
	odd := api.Term{Kind: 77, Pkg: "q", Kids: []api.Term{{Kind: api.TyVar}, {Kind: api.TyCon}}}
	m := api.Module{Types: []api.TypeDef{{}, {Name: "t", Params: []string{"", ""}, Cons: []api.Con{{Args: []api.Term{odd}}}}}, Exports: []api.Export{{Type: true, Name: "t", Ann: []api.Term{odd}}, {Name: "x"}, {Name: "y", Ann: []api.Term{odd, odd}}, {Type: true, Name: "none"}}}
	iface.Of(m, nil)
	iface.Of(m, []api.Val{{Name: "x", Type: odd}, {Name: "y", Type: api.Term{Kind: api.TyVar}}})
}
