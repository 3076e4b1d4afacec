package scope_test

import (
	"testing"

	"touchstone/api"
	"touchstone/scope"
)

// P10.1: what is resolved is the module, with the lines of its imports as qualifiers.
func TestResolve(t *testing.T) {
	sources := []string{
		"",
		"let x = P.nil;",
		"let x = fun f -> (P.map f Q.x, Q.nil, P.Nil, P.Cons(1, Q.Nil));",
		"type t('a) = A(P.list('a), t('a)) | B; alias u = t(Q.list); let x : u -> P.unit = fun y -> match y with A(P.Cons(z, _), _) -> P.Unit | _ -> P.Unit end; export type t; export x : u -> P.unit;",
		"let x = let y : P.list('a) = P.Nil in let rec z = fun y -> (y : Q.list) in z; export x;",
		"let x = y; let y = x; export y; export x;",
		"type x = X; let x = X; export type x; export x;",
	}
	by := map[string]string{"P": "list/1", "Q": "more/0"}
	for _, s := range sources {
		m := module(t, imports+s)
		got, e := scope.Resolve(m, []api.Iface{dep(t, list), dep(t, more)})
		if e != api.OK || raw(got) != raw(requalifiedModule(m, by)) {
			t.Fatalf("%s: %v, %s", s, e, raw(got))
		}
	}
	m := module(t, "import A = b@0.0.7; import B = b@12.0.0; let x = (A.nil, B.nil);")
	got, e := scope.Resolve(m, []api.Iface{dep(t, more), dep(t, list)})
	if e != api.OK || raw(got) != raw(requalifiedModule(m, map[string]string{"A": "b/0", "B": "b/12"})) {
		t.Fatalf("%v, %s", e, raw(got))
	}
}

// P10.1: ErrArg, whatever else is wrong.
func TestArg(t *testing.T) {
	want(t, api.ErrArg, "let x = 1;", list)
	want(t, api.ErrArg, "import P = a@1.0.0;")
	want(t, api.ErrArg, "import P = a@1.0.0;", list, more)
	want(t, api.ErrArg, imports+"let x = 1;", list)
	want(t, api.ErrArg, "let x = 1; let x = y; export z; type t = A(int(int));", list)
	want(t, api.OK, "")
}

// P10.1: each thing that stands twice.
func TestTwice(t *testing.T) {
	want(t, api.ErrTwice, "import P = a@1.0.0; import P = b@1.0.0;", list, more)
	want(t, api.ErrTwice, "import P = a@1.0.0; import Q = a@1.2.3;", list, more)
	want(t, api.OK, "import P = a@1.0.0; import Q = a@2.0.0;", list, more)
	want(t, api.OK, "import P = a@1.0.0; import Q = b@1.0.0;", list, more)
	wantAll(t, api.ErrTwice,
		"type t = A; type t = B;", "type t = A; alias t = int;", "alias t = int; alias t = int;", "alias t = int; type t = A;",
		"type int = A;", "type text = A;", "alias int = text;", "alias text = int;",
		"type t('a, 'a) = A;", "type t('a, 'b, 'a) = A;", "alias t('a, 'a) = int;", "type u = B; type t('b, 'b) = A;",
		"type t = A | A;", "type t = A | B | A(int);", "type t = A; type u = A;", "type t = A | B; type u = C | B;",
		"let x = 1; let x = 1;", "let x = 1; let y = 2; let x = 3;",
		"type t = A; export type t; export type t;", "let x = 1; export x; export x;", "let x = 1; export x; export x : int;",
		"let x = fun y -> match y with (a, a) -> 1 end;", "let x = match 1 with _ -> 2 | P.Cons(a, P.Cons(b, a)) -> 3 end;",
		"let x = let f = fun y -> (match y with ((a, b), (c, b)) -> 1 | _ -> 2 end, 1) in f;",
		"let x = match 1 with _ -> match 2 with (a, a) -> 1 end end;", "let x = match match 2 with (a, a) -> 1 end with _ -> 3 end;")
	wantAll(t, api.OK,
		"type t = T; let t = 1; export type t; export t;", "type list = Nil | Cons; let nil = Nil; let map = 1;", "type unit = Int; alias v('a) = 'a; type w('a) = W('a);",
		"let x = fun y -> match y with (a, b) -> 1 | (b, a) -> 2 end;", "let x = fun a -> fun a -> match a with a -> a end;", "let a = match 1 with (a, _) -> match a with (a, _) -> a end end;",
		"let x = match match 1 with a -> 1 | a -> 2 end with _ -> match 1 with b -> 1 | (b, _) -> 2 end end;", "let x = (match 1 with a -> 1 end, match 1 with a -> 1 end, match 1 with a -> 2 end);", "let ints = 1;", "let int = 1; let text = int; export int;", "type t = Int | Text;")
}

// P10.1: each name that nothing has.
func TestName(t *testing.T) {
	wantAll(t, api.ErrName,
		// qualifiers that no import has
		"let x = R.nil;", "let x = R.Nil;", "let x : R.list = 1;", "type t = A(R.t);", "alias t = R.t;", "let x = match 1 with R.Nil -> 1 end;", "let x = (1 : R.t);", "let x = 1; export x : R.t;", "let x = let y : R.t = 1 in y;",
		// what no interface has
		"let x = P.x;", "let x = P.cons;", "let x = Q.Cons(1);", "let x = Q.Unit;", "let x : Q.unit = 1;", "let x = match 1 with Q.Unit -> 1 end;", "let x : P.int = 1;", "let x : P.text = 1;", "let nil = P.list;", "type t = A(P.map);",
		// what the module has not
		"let x = y;", "let x = A;", "let x = nil;", "let x = Nil;", "let x : t = 1;", "type t = A(u);", "alias t = u;", "let x = match 1 with A -> 1 end;", "let x = (1 : t);", "let x = let y : t = 1 in y;", "let x = 1; export x : t;", "alias u = int; type t = A(v);", "type t = A; let x = t;", "let x = 1; let y : x = 1;",
		// variables that are no Params
		"type t = A('a);", "type t('a) = A('b);", "type t('a) = A('a) | B(('a, 'b));", "alias t = 'a;", "alias t('a) = 'a -> 'b;", "type t('a) = A(int); type u = B('a);", "alias t('a) = int; alias u = 'a;", "type t('a) = A(t('c));",
		// exports of what is not there
		"export x;", "export type t;", "alias t = int; export type t;", "type t = A; export t;", "let x = 1; export type x;", "export type int;", "export nil;", "export type list;", "export map : int;")
	wantAll(t, api.OK, "let x : 'a -> 'b = 1; let y = (1 : 'c); let z = let y : 'd = 1 in y; export x : 'e;", "type t('a, 'b) = A('b, 'a); alias u('c) = t('c, 'c);", "type t('a) = A(int);", "type t = A(int, text); let x : int = 1;")
}

// P10.1: names that are bound around, and names just beside.
func TestBound(t *testing.T) {
	wantAll(t, api.OK,
		"let x = fun y -> y;", "let x = let y = 1 in y;", "let x = let rec y = y in y;", "let x = match 1 with y -> y end;", "let x = match 1 with (P.Cons(y, _), z) -> (z, y) end;", "let x = fun y -> fun z -> (y, z, x);",
		"let x = match 1 with y -> y | _ -> 1 end;", "let x = let rec y = fun z -> y z in y;", "let x = y; let y = 1;", "let x = x;", "let x = fun x -> x;", "let x = fun y -> (y : int);")
	wantAll(t, api.ErrName,
		"let x = (fun y -> y) y;", "let x = fun y -> z;", "let x = let y = y in y;", "let x = (let y = 1 in y, y);", "let x = (let rec y = 1 in y, y);", "let x = match y with y -> y end;", "let x = match 1 with y -> y | _ -> y end;", "let x = match 1 with _ -> y | y -> y end;", "let x = (match 1 with y -> y end, y);",
		"let x = let z = y in fun y -> z;", "let x = let rec z = y in z;", "let x = fun y -> 1; let z = y;", "let x = fun a -> P.a;", "let x = let nil = 1 in Q.nil Q.map;")
}

// P10.1: each number of Kids that is not the arity.
func TestArity(t *testing.T) {
	wantAll(t, api.ErrArity,
		"let x : int(int) = 1;", "let x : text(int) = 1;", "type t = A(int(text));", "alias t = text(int, int);",
		"type t('a) = A; let x : t = A;", "type t('a) = A; let x : t(int, int) = A;", "type t = A; let x : t(int) = A;", "type t('a, 'b) = A(t('a));", "alias t('a) = 'a; let x = (1 : t);", "alias t = int; let x = let y : t(int) = 1 in y;", "alias t = int; let x = 1; export x : t(t);",
		"let x : P.list = 1;", "let x : P.list(int, int) = 1;", "let x : Q.list(int) = 1;", "type t = A(P.unit(int));",
		"type t = A; let x = A(1);", "type t = A(int); let x = A;", "type t = A(int, int); let x = A(1);", "type t = A(int); let x = A(1, 2);", "type t = A(int); let x = match 1 with A -> 1 end;", "type t = A; let x = match 1 with (A(_), _) -> 1 end;", "type t = A(int); let x = match 1 with A(_, _) -> 1 end;",
		"let x = P.Cons(1);", "let x = P.Cons;", "let x = P.Nil(1);", "let x = Q.Nil(1);", "let x = match 1 with P.Cons(_) -> 1 end;", "let x = match 1 with _ -> 1 | P.Cons(_, _, _) -> 1 end;", "let x = fun y -> P.Nil(y);")
	wantAll(t, api.OK, "type t('a) = A | B(t('a), t(t('a))); alias u('a, 'b) = t('a); let x : u(int, int) = B(A, A);", "let x = (P.Cons(1, P.Nil), Q.Nil);", "let x = (P.map : P.list(int) -> P.unit);")
}

// wrongs are items with one error each, the one that comes first ahead.
var wrongs = []struct {
	e     api.Errno
	items []string
}{
	{api.ErrTwice, []string{"let a1 = 1; let a1 = 2;", "type a2 = A2; alias a2 = int;", "let a3 = fun x -> match x with (y, y) -> 1 end;", "alias a4('x, 'x) = int;", "type a5 = A5; export type a5; export type a5;"}},
	{api.ErrName, []string{"let b1 = nowhere;", "let b2 = R.x;", "type b3 = B3('z);", "export b4;", "let b5 : nothing = 1;", "let b6 = match 1 with Nowhere -> 1 end;"}},
	{api.ErrArity, []string{"let c1 : int(int) = 1;", "let c2 = P.Cons;", "type c3 = C3(P.list);", "let c4 = match 1 with P.Nil(_) -> 1 end;"}},
}

// P10.1: of two errors in one module the one that is named first, whichever stands first.
func TestWhichFirst(t *testing.T) {
	for i, a := range wrongs {
		for _, b := range wrongs[i:] {
			for _, x := range a.items {
				wantAll(t, a.e, x)
				for _, y := range b.items {
					if x != y {
						wantAll(t, a.e, x+y, y+x)
						want(t, api.ErrArg, imports+x+y, list)
					}
				}
			}
		}
	}
	want(t, api.ErrTwice, "import P = a@1.0.0; import P = b@1.0.0; let x = P.x;", list, more)
	want(t, api.ErrArg, "import P = a@1.0.0; import P = b@1.0.0; let x = P.x;", list)
}

// P1: what is not right, or not there, ends too.
func TestAnything(t *testing.T) {
	deep := api.Term{Kind: api.ExVar, Name: "x"}
	for range 20000 {
		deep = api.Term{Kind: api.ExFun, Name: "x", Kids: []api.Term{deep}}
	}
	if _, e := scope.Resolve(api.Module{Lets: []api.Let{{Name: "x", Body: deep}}}, nil); e != api.OK {
		t.Fatal(e)
	}
	odd := api.Term{Kind: api.ExMatch, Kids: []api.Term{{Kind: 99, Pkg: "P"}, {Kind: api.ExLet, Pkg: "R"}, {}}}
	scope.Resolve(api.Module{Imports: []api.Import{{}}, Lets: []api.Let{{Body: odd, Ann: []api.Term{odd, odd}}}, Types: []api.TypeDef{{}}, Exports: []api.Export{{Type: true, Ann: []api.Term{odd}}}}, []api.Iface{{Vals: []api.Val{{Type: odd}}}})
	scope.Outside(api.Iface{Types: []api.TypeDef{{Cons: []api.Con{{Args: []api.Term{odd}}}}}, Vals: []api.Val{{Type: odd}}}, api.Line{})
}
