package infer_test

import (
	"fmt"
	"testing"

	"touchstone/api"
	"touchstone/infer"
)

const lib = "type u('a) = A('a, u('a)) | N; type v = V(u(v)); let n : u('a) = 0; let map : ('a -> 'b) -> u('a) -> u('b) = 0; let k : int = 0; let r : R.w -> text = 0;"

// P15.2: the values of all imports, seen from outside.
func TestEnv(t *testing.T) {
	m := parsed(t, "import P = p@1.2.3; import Q = q@0.1.0; let k = 1;")
	deps := []api.Iface{dep(t, lib), dep(t, "let k : u(int) -> 'a = 0;")}
	before := raw(deps)
	entry := func(pkg, name, s string) api.Entry { return api.Entry{Pkg: pkg, Name: name, Type: typ(t, s)} }
	first := []api.Entry{entry("p/1", "n", "P.u('a)"), entry("p/1", "map", "('a -> 'b) -> P.u('a) -> P.u('b)"), entry("p/1", "k", "int"), entry("p/1", "r", "R.w -> text")}
	second := entry("q/0", "k", "u(int) -> 'a")
	second.Type.Kids[0].Pkg = "q/0"
	for _, x := range []struct {
		deps   []api.Iface
		wanted []api.Entry
	}{{deps, append(first, second)}, {append(deps, deps[0]), append(first, second)}, {deps[:1], first}, {nil, nil}} {
		if got := infer.Env(m, x.deps); raw(got) != raw(x.wanted) {
			t.Fatalf("%s, not %s", raw(got), raw(x.wanted))
		}
	}
	if got := infer.Env(api.Module{}, deps); len(got) > 0 {
		t.Fatal(raw(got))
	}
	got := infer.Env(m, deps)
	got[0].Type.Kids[0].Name = "?"
	if raw(deps) != before {
		t.Fatal("what is handed out is shared")
	}
}

// P15.3: lets' types, in order.
func TestModule(t *testing.T) {
	wantModule(t, "", "")
	wantModule(t, "let x = 1; let f = fun x -> x; let s = \"a\";", "x : int; f : 'a -> 'a; s : text")
	wantModule(t, "let h = f 1; let f = fun x -> (x, g); let g = f2 \"a\"; let f2 = fun x -> x;", "h : (int, text); f : 'a -> ('a, text); g : text; f2 : 'a -> 'a")
	wantModule(t, "let f = fun x -> x; let y = (f 1, f \"a\");", "f : 'a -> 'a; y : (int, text)")
	wantModule(t, data+"let f = fun x -> match x with A(n) -> n | B -> 1 end; let l = Cons(f B, Nil);", "f : t -> int; l : list(int)")
	wantModule(t, "alias p('a) = ('a, 'a); let f : p('x) -> 'x = fun y -> match y with (a, _) -> a end; let g = fun x -> (f (x, x) : int);", "f : ('a, 'a) -> 'a; g : int -> int")
	// Lets of one group have just their types in it, and stand for any behind it.
	wantModule(t, "let even = fun n -> match n with 0 -> 1 | _ -> odd n end; let odd = fun n -> even n;", "even : int -> int; odd : int -> int")
	wantModule(t, "let f = fun x -> g x; let g = fun x -> f x; let h = (f 1, f \"a\", g);", "f : 'a -> 'b; g : 'a -> 'b; h : ('a, 'b, 'c -> 'd)")
	wantModule(t, "let f = fun x -> x; let g = fun x -> (h, f x); let h = fun y -> f y;", "f : 'a -> 'a; g : 'a -> ('b -> 'b, 'a); h : 'a -> 'a")
	wantModule(t, "let a = fun x -> match 1 with 0 -> b x | _ -> x end; let b = fun y -> a y; let c = (b 1, a \"a\");", "a : 'a -> 'a; b : 'a -> 'a; c : (int, text)")
	wantModule(t, "let x = x;", "x : 'a")
	// All Anns count from the beginning on.
	wantModule(t, "let f : 'z -> int = fun x -> g (x, 1); let g : 'y -> int = fun x -> f \"a\";", "f : 'a -> int; g : 'a -> int")
	wantModule(t, "let use = (f 1, f \"a\"); let f : 'a -> 'a = fun x -> match use with _ -> x end;", "use : (int, text); f : 'a -> 'a")
	wantModule(t, "let f : int -> int = fun x -> x; let g = f;", "f : int -> int; g : int -> int")
	wantModule(t, "let f : 'b -> 'a -> 'b = fun x -> fun y -> x; let g = f 1;", "f : 'a -> 'b -> 'a; g : 'a -> int")
	wantModule(t, "let f = fun f -> f; let g = let f = 1 in f;", "f : 'a -> 'a; g : int")
	// Imports.
	d := dep(t, lib)
	wantModule(t, "import P = p@1.0.0; let x = P.map (fun x -> x) P.n; let y = P.A(P.k, P.N); let f = fun x -> match x with P.V(P.A(a, _)) -> a | _ -> x end; let k = P.k; let z : P.u(int) = P.n;", "x : P.u('a); y : P.u(int); f : P.v -> P.v; k : int; z : P.u(int)", d)
}

// P15.3: modules whose lets have no types.
func TestNoModule(t *testing.T) {
	wantNoModule(t, api.ErrType,
		"let x = 1 1;", "let f = fun x -> x x;", "let x = 1; let y = x 1;", "let f = fun x -> g 1; let g = fun x -> f \"a\"; let h = plus; let plus = fun x -> (x : int); let z = h \"a\";", "let f = fun x -> (g 1, g \"a\"); let g = fun x -> match 1 with 0 -> f x | _ -> (x, x) end;",
		"let f : 'a -> 'b = fun x -> x;", "let f : 'a = 1;", "let f : int = \"a\";", "let f : 'a -> 'a = g; let g : int -> int = f;", "let f : 'a -> 'a = fun x -> g x; let g = fun y -> (f y : int);", "let x : int = f 1; let f : text -> int = fun x -> 1;", "let f : 'a -> int = fun x -> g x; let g = fun y -> match y with 0 -> 1 | _ -> f y end;", "let x = x; let y = (x x, y y);",
		data+"let f = fun x -> match x with A(n) -> n | Nil -> 1 end;", "let f = fun x -> (f 1, f \"a\");",
	)
	d := dep(t, lib)
	for _, s := range []string{"let x = P.k 1;", "let x = P.A(1, P.A(\"a\", P.N));", "let x : int = P.n;", "let x = P.r 1;", "type u('a) = N; let x = P.map (fun x -> x) N;"} {
		if got, e := infer.Module(module(t, "import P = p@1.0.0;"+s, d), []api.Iface{d}); e != api.ErrType || len(got) > 0 {
			t.Fatal(s, raw(got), e)
		}
	}
}

// P15.3: ErrLimit, behind ErrType, wherever that is.
func TestModuleLimit(t *testing.T) {
	wantNoModule(t, api.ErrLimit, "let x = "+huge(12)+";", "let a = 1; let x = "+huge(12)+"; let b = x;", "let f = "+tuple(1000)+";")
	wantModule(t, "let y = match x with _ -> 1 end; let x = "+tuple(3)+";", "y : int; x : (int, int, int)")
	for _, s := range []string{"let y = 1 1;", "let y : 'a = 1;", "let y = match x with 1 -> 1 end;", "let y = (x : int);"} {
		wantNoModule(t, api.ErrType, "let x = "+huge(12)+";"+s, s+"let x = "+huge(12)+";")
	}
	// Lets that take more types than a store has, or just their great ones: what has no types is told ahead of it.
	many := "let p0 = fun x -> x;"
	for i := range 25 {
		many += fmt.Sprintf("let p%d = (p%d, p%d);", i+1, i, i)
	}
	wantNoModule(t, api.ErrLimit, many, many+"let z = match p25 with _ -> 1 end;", many+"let f : int -> int = fun x -> match p25 with _ -> x end;")
	for _, s := range []string{"let z = 1 1;", "let z = fun x -> x x; let y = z;", "let z : 'a = 1;", "let a = fun x -> b (1 x); let b = fun x -> a x;"} {
		wantNoModule(t, api.ErrType, many+s, s+many, many+"let q = p25;"+s)
	}
	// Of a let with an Ann that is what is told.
	for n := api.MaxType - 1; n <= api.MaxType; n++ {
		ann := api.Term{Kind: api.TyTuple}
		for range n - 1 {
			ann.Kids = append(ann.Kids, typ(t, "int"))
		}
		got, e := infer.Module(api.Module{Lets: []api.Let{{Name: "x", Ann: []api.Term{ann}, Body: expr(t, "let rec x = x in x")}}}, nil)
		if e != api.OK || raw(got) != raw([]api.Val{{Name: "x", Type: ann}}) {
			t.Fatal(n, e)
		}
	}
}
