package infer_test

import (
	"fmt"
	"strings"
	"testing"

	"touchstone/api"
	"touchstone/infer"
	"touchstone/term"
)

// P15.1: each rule.
func TestRules(t *testing.T) {
	want(t,
		[2]string{"1", "int"}, [2]string{"-5", "int"}, [2]string{`"a"`, "text"}, [2]string{"()", "()"}, [2]string{"(1, (), \"a\")", "(int, (), text)"},
		[2]string{"fun x -> x", "'a -> 'a"}, [2]string{"fun x -> 1", "'a -> int"}, [2]string{"fun x -> fun y -> x", "'a -> 'b -> 'a"}, [2]string{"fun y -> fun x -> (x, y)", "'a -> 'b -> ('b, 'a)"}, [2]string{"fun x -> fun x -> x", "'a -> 'b -> 'b"},
		[2]string{"(fun x -> x) 1", "int"}, [2]string{"fun f -> f 1", "(int -> 'a) -> 'a"}, [2]string{"fun f -> fun x -> f (f x)", "('a -> 'a) -> 'a -> 'a"}, [2]string{"fun f -> fun g -> fun x -> f (g x)", "('a -> 'b) -> ('c -> 'a) -> 'c -> 'b"}, [2]string{"fun f -> fun x -> f x x", "('a -> 'a -> 'b) -> 'a -> 'b"},
		[2]string{"id", "'a -> 'a"}, [2]string{"id id", "'a -> 'a"}, [2]string{"(id 1, id \"a\")", "(int, text)"}, [2]string{"pair 1", "'a -> (int, 'a)"}, [2]string{"plus 1 2", "int"}, [2]string{"P.id", "int"}, [2]string{"P.map id", "P.u('a) -> P.u('a)"}, [2]string{"any", "'a"}, [2]string{"any 1 any", "'a"}, [2]string{"(any, any)", "('a, 'b)"},
		[2]string{"fun id -> id", "'a -> 'a"}, [2]string{"fun id -> P.id", "'a -> int"}, [2]string{"fun id -> (id, P.id)", "'a -> ('a, int)"},
	)
}

// P15.1: constructors, in expressions and patterns.
func TestConstructors(t *testing.T) {
	want(t,
		[2]string{"Nil", "list('a)"}, [2]string{"Cons(1, Nil)", "list(int)"}, [2]string{"Cons(Nil, Nil)", "list(list('a))"}, [2]string{"A(1)", "t"}, [2]string{"B", "t"}, [2]string{"P.A(1, P.N)", "P.u(int)"}, [2]string{"Two(\"a\", (), 1)", "two((), text)"}, [2]string{"fun x -> fun y -> Two(x, y, 1)", "'a -> 'b -> two('b, 'a)"}, [2]string{"fun x -> Cons(x, Cons(x, Nil))", "'a -> list('a)"},
		[2]string{"Odd(fun x -> x, 1)", "odd"}, [2]string{"Odd(plus 1, id)", "odd"},
		[2]string{"match 1 with x -> x end", "int"}, [2]string{"fun y -> match y with _ -> 1 end", "'a -> int"}, [2]string{"fun y -> match y with 1 -> \"a\" | _ -> \"b\" end", "int -> text"}, [2]string{"fun y -> match y with \"a\" -> 1 | \"b\" -> 2 end", "text -> int"}, [2]string{"fun y -> match y with (a, (b, _)) -> (b, a) end", "('a, ('b, 'c)) -> ('b, 'a)"}, [2]string{"fun y -> match y with () -> 1 end", "() -> int"},
		[2]string{"fun y -> match y with Nil -> 1 | Cons(x, _) -> x end", "list(int) -> int"}, [2]string{"fun y -> match y with Cons(x, Cons(_, z)) -> (x, z) end", "list('a) -> ('a, list('a))"}, [2]string{"fun y -> match y with A(x) -> x | B -> 1 end", "t -> int"}, [2]string{"fun y -> match y with P.A(x, _) -> x | P.N -> 1 end", "P.u(int) -> int"}, [2]string{"fun y -> match y with Two(a, b, c) -> (a, b, c) end", "two('a, 'b) -> ('b, 'a, int)"},
		[2]string{"fun y -> match y with Odd(f, x) -> 1 end", "odd -> int"}, [2]string{"fun y -> match y with x -> x | z -> z end", "'a -> 'a"}, [2]string{"fun y -> fun z -> match y with 1 -> z | _ -> any end", "int -> 'a -> 'a"}, [2]string{"fun x -> match x with x -> x end", "'a -> 'a"}, [2]string{"match (1, \"a\") with (x, y) -> (y, x) end", "(text, int)"},
		[2]string{"match Cons(1, Nil) with Cons(id, _) -> id | _ -> id 2 end", "int"},
	)
	wantNone(t, api.ErrType, "match fun x -> x with f -> (f 1, f \"a\") end", "fun y -> match y with 1 -> 1 | \"a\" -> 2 end", "fun y -> match y with _ -> 1 | _ -> \"a\" end", "fun y -> match y with Nil -> 1 | B -> 2 end", "match 1 with \"a\" -> 1 end", "match (1, 2) with (x, y, z) -> 1 end", "match 1 with () -> 1 end", "Cons(1, Cons(\"a\", Nil))", "Cons(1, 2)", "A(\"a\")", "P.A(1, Nil)", "Two(1, 2, \"a\")", "Odd(1, 2)", "Odd(fun x -> 1, 2) 1", "fun y -> match y with A(x) -> x | P.N -> 1 end", "fun y -> match y with (x, y) -> plus x \"a\" end", "match Cons(1, Nil) with Cons(x, y) -> Cons(y, x) | _ -> Nil end")
}

// P15.1: names of lets stand for any type, but where they are bound around, or in themselves.
func TestLets(t *testing.T) {
	want(t,
		[2]string{"let f = fun x -> x in (f 1, f \"a\")", "(int, text)"}, [2]string{"let f = fun x -> x in f f", "'a -> 'a"}, [2]string{"let x = 1 in let x = \"a\" in x", "text"}, [2]string{"let f = id id in (f 1, f ())", "(int, ())"}, [2]string{"let p = (Nil, Nil) in match p with (a, b) -> (Cons(1, a), Cons(\"a\", b)) end", "(list(int), list(text))"},
		[2]string{"fun y -> let f = fun x -> y in (f 1, f \"a\")", "'a -> ('a, 'a)"}, [2]string{"fun y -> let f = fun x -> (x, y) in (f 1, f \"a\")", "'a -> ((int, 'a), (text, 'a))"}, [2]string{"fun y -> let z = y in (z, z)", "'a -> ('a, 'a)"}, [2]string{"fun g -> let f = fun x -> g x in (f 1, f 2)", "(int -> 'a) -> ('a, 'a)"},
		[2]string{"let rec f = fun x -> f x in f", "'a -> 'b"}, [2]string{"let rec f = fun x -> x in (f 1, f \"a\")", "(int, text)"}, [2]string{"let rec f = fun n -> match n with 0 -> Nil | _ -> Cons(n, f (plus n -1)) end in f", "int -> list(int)"}, [2]string{"let rec map = fun f -> fun l -> match l with Nil -> Nil | Cons(x, r) -> Cons(f x, map f r) end in map", "('a -> 'b) -> list('a) -> list('b)"}, [2]string{"let rec x = x in x", "'a"}, [2]string{"let rec x = Cons(1, x) in x", "list(int)"},
		[2]string{"let id = fun x -> 1 in id", "'a -> int"}, [2]string{"let id = id in id 1", "int"}, [2]string{"let f = fun x -> let g = fun y -> (x, y) in (g 1, g ()) in (f 1, f \"a\")", "(((int, int), (int, ())), ((text, int), (text, ())))"},
		[2]string{"fun x -> let f = fun y -> let g = fun z -> (x, y, z) in g in f", "'a -> 'b -> 'c -> ('a, 'b, 'c)"}, [2]string{"fun x -> let f = fun y -> let g = x y in g in (f 1, f)", "(int -> 'a) -> ('a, int -> 'a)"},
	)
	wantNone(t, api.ErrType, "fun f -> (f 1, f \"a\")", "fun y -> let z = y in (z 1, z \"a\")", "let rec f = fun x -> (f 1, f \"a\") in f", "fun y -> let f = fun x -> y x in (f 1, f \"a\")", "let f = fun x -> plus x 1 in f \"a\"", "let rec f = fun x -> f in f", "(fun f -> (f 1, f ())) id", "fun x -> let y = (x 1) in let z = x \"a\" in 1")
}

// P15.1: lets whose types are told, and types that are told of expressions.
func TestTold(t *testing.T) {
	want(t,
		[2]string{"let f : 'a -> 'a = fun x -> x in (f 1, f \"a\")", "(int, text)"}, [2]string{"let f : int -> int = fun x -> x in f", "int -> int"}, [2]string{"let f : 'b -> int = fun x -> 1 in f", "'a -> int"}, [2]string{"let x : 'a = any in (x 1, x)", "('a, 'b)"}, [2]string{"let x : list('a) = Nil in (Cons(1, x), Cons(\"a\", x))", "(list(int), list(text))"},
		[2]string{"let rec f : 'a -> int = fun x -> plus (f 1) (f \"a\") in f ()", "int"}, [2]string{"let rec f : 'a -> 'b = fun x -> f (x, x) in f", "'a -> 'b"}, [2]string{"let rec f : list('a) -> int = fun l -> match l with Nil -> 0 | Cons(x, r) -> plus (f r) (f Nil) end in f Nil", "int"}, [2]string{"let rec x : list('a) = x in x", "list('a)"}, [2]string{"let f : int -> int = id in let f : text -> text = id in f", "text -> text"},
		[2]string{"(1 : int)", "int"}, [2]string{"(fun x -> x : 'a -> 'a)", "'a -> 'a"}, [2]string{"(fun x -> x : int -> int)", "int -> int"}, [2]string{"(id : 'b -> 'b) 1", "int"}, [2]string{"let f = (id : 'a -> 'a) in (f 1, f \"a\")", "(int, text)"}, [2]string{"fun x -> ((fun y -> y : 'a -> 'a) x, x)", "'a -> ('a, 'a)"}, [2]string{"((any : 'a) : int)", "int"}, [2]string{"(any : 'a -> 'b)", "'a -> 'b"}, [2]string{"fun x -> (any : 'a)", "'a -> 'b"},
		[2]string{"(fun x -> (x : int) : int -> int)", "int -> int"}, [2]string{"(Nil : list(list('a)))", "list(list('a))"}, [2]string{"(fun x -> fun y -> (y : int) : 'b -> int -> int)", "'a -> int -> int"}, [2]string{"fun x -> let f : 'a -> 'a = fun y -> y in (f x, f 1)", "'a -> ('a, int)"},
	)
	wantNone(t, api.ErrType,
		"(1 : text)", "(1 : 'a)", "(fun x -> 1 : 'a -> 'a)", "(fun x -> x : 'a -> 'b)", "fun x -> (x : 'a)", "fun x -> (x : 'a -> 'a)", "(plus : 'a -> 'a)", "(id : int -> text)", "(any : 'a) (1 : text)",
		"let f : 'a -> 'b = fun x -> x in f", "let f : 'a = 1 in 1", "let f : int = \"a\" in 1", "let f : int -> int = id in f \"a\"", "fun x -> let y : 'a = x in 1", "fun x -> let f : 'a -> 'a = fun y -> x in f", "fun x -> let f : 'a -> ('a, int) = fun y -> (y, x) in plus 1 \"a\"",
		"let rec f : 'a -> int = fun x -> f in f", "let rec f : 'a -> 'a = fun x -> plus x 1 in f", "let f : 'a -> int = fun x -> plus x 1 in 1", "(fun x -> (x : 'a) : 'a -> 'a)", "fun f -> (f 1 : 'a)", "let g : 'a -> list('b) = fun x -> Cons(x, Nil) in g", "fun g -> let f : 'a -> int = fun x -> g x in f",
	)
}

// P15.1: types within themselves.
func TestWithin(t *testing.T) {
	wantNone(t, api.ErrType, "fun x -> x x", "fun f -> f f", "let rec f = fun x -> f in f", "let rec x = (x, x) in x", "fun x -> fun y -> (x y, y x)", "let rec l = Cons(l, Nil) in l", "fun f -> fun x -> match f x with y -> (y f, f y, f f) end")
}

// P15.1: names that nothing has, and constructors with too many Kids or too few; which of two errors comes first.
func TestWhichFirst(t *testing.T) {
	names := []string{"nowhere", "P.nowhere", "Q.id", "Nowhere", "P.Nil", "Q.A(1)", "(fun x -> x, x)", "let y = y in y", "(let y = 1 in 1, y)", "match 1 with Nowhere -> 1 end", "match 1 with P.B -> 1 | _ -> 1 end", "match 1 with x -> 1 | _ -> x end", "let z : int = z in 1", "match y with y -> 1 end"}
	arities := []string{"A", "A(1, 2)", "Nil(1)", "Cons(1)", "P.A(1)", "P.N(P.N)", "match Nil with Cons(_) -> 1 | _ -> 2 end", "match B with B(_) -> 1 end", "match B with A -> 1 | B -> 2 end", "fun x -> Two(x, x)"}
	types := []string{"1 1", "fun x -> x x", "(1 : text)", "Cons(1, 2)", "match 1 with \"a\" -> 1 end", "plus ()"}
	for _, a := range names {
		wantNone(t, api.ErrName, a)
		for _, b := range append(arities, types...) {
			wantNone(t, api.ErrName, "("+a+", "+b+")", "("+b+", "+a+")", "("+b+") ("+a+")", "let q = "+b+" in "+a)
		}
	}
	for _, a := range arities {
		wantNone(t, api.ErrArity, a)
		for _, b := range types {
			wantNone(t, api.ErrArity, "("+a+", "+b+")", "("+b+", "+a+")", "("+b+") ("+a+")", "let q = "+b+" in "+a, "let q : int = "+a+" in "+b, "match "+b+" with _ -> "+a+" end")
		}
	}
	for _, a := range types {
		wantNone(t, api.ErrType, a, "("+a+", "+huge(12)+")", "("+huge(12)+", "+a+")", "let q = "+huge(12)+" in "+a)
	}
}

// huge has a type of 2^n terms and more.
func huge(n int) string {
	return strings.Repeat("(fun x -> (x, x)) (", n) + "1" + strings.Repeat(")", n)
}

// tuple is one of so many ints.
func tuple(n int) string { return "(1" + strings.Repeat(", 1", n-1) + ")" }

// P15.1: a principal type of MaxType terms, and one more.
func TestLimit(t *testing.T) {
	for n := api.MaxType - 3; n <= api.MaxType+2; n++ {
		got, e := infer.Expr(expr(t, tuple(n)), nil, nil)
		if wanted := n+1 > api.MaxType; wanted != (e == api.ErrLimit) || !wanted && (e != api.OK || term.Size(got) != n+1) || wanted && raw(got) != raw(api.Term{}) {
			t.Fatal(n, e)
		}
		// What stands in it may have any type.
		want(t, [2]string{"let x = " + tuple(n) + " in 1", "int"}, [2]string{"match (" + tuple(n) + ", 1) with (_, x) -> x end", "int"})
	}
	wantNone(t, api.ErrLimit, huge(9), huge(10), huge(30), "fun f -> f ("+huge(30)+")", "let f = fun x -> (x, x) in let g = fun x -> f (f (f x)) in let h = fun x -> g (g (g x)) in h (h 1)")
	want(t, [2]string{"match " + huge(30) + " with _ -> 1 end", "int"}, [2]string{"let x = " + huge(32) + " in let y = x in match y with (a, b) -> 1 end", "int"})
	want(t, [2]string{"match (" + huge(30) + ", " + huge(30) + ") with (x, y) -> (fun f -> (f x, f y)) (fun x -> 1) end", "(int, int)"})
}

// P15.1: an expression that takes more types than a store has, or very many: the call ends, and tells the type, if it tells one.
func TestMany(t *testing.T) {
	s := "let p = fun z -> z in "
	for range 25 {
		s += "let p = (p, p) in "
	}
	got, e := infer.Expr(expr(t, s+"1"), nil, nil)
	if e != api.ErrLimit && (e != api.OK || raw(got) != raw(typ(t, "int"))) {
		t.Fatal(raw(got), e)
	}
	deep := api.Term{Kind: api.ExInt}
	for range 60000 {
		deep = api.Term{Kind: api.ExLet, Name: "x", Kids: []api.Term{{Kind: api.ExInt}, deep}}
	}
	if got, e = infer.Expr(deep, nil, nil); e != api.OK || raw(got) != raw(typ(t, "int")) {
		t.Fatal(raw(got), e)
	}
	deep = api.Term{Kind: api.ExInt}
	for range 60000 {
		deep = api.Term{Kind: api.ExFun, Name: "x", Kids: []api.Term{deep}}
	}
	if got, e = infer.Expr(deep, nil, nil); e != api.ErrLimit || raw(got) != raw(api.Term{}) {
		t.Fatal(e)
	}
}

// P15.4: ErrLimit is never answered, if 8 n (M + 1) is at most MaxNodes; here with as many uses of a great type as there is room for.
func TestRoom(t *testing.T) {
	for _, m := range []int{1, 5, 20, 60, 100, 140} {
		great := api.Term{Kind: api.TyTuple}
		for i := range m - 1 {
			great.Kids = append(great.Kids, api.Term{Kind: api.TyVar, Name: fmt.Sprint("v", i)})
		}
		env := []api.Entry{{Name: "great", Type: great}}
		uses := api.MaxNodes/8/(m+1) - m - 3
		for _, form := range []string{"let", "rec", "ann", "match", "con"} {
			x := api.Term{Kind: api.ExInt}
			cons := []api.Cons{{Name: "C", Type: "c", Args: []api.Term{great}}}
			n := 1
			for n < uses {
				use := api.Term{Kind: api.ExVar, Name: "great"}
				switch form {
				case "let":
					x = api.Term{Kind: api.ExLet, Name: "great", Kids: []api.Term{use, x}}
				case "rec":
					x = api.Term{Kind: api.ExLet, Name: "x", N: 1, Kids: []api.Term{use, x}}
				case "ann":
					x = api.Term{Kind: api.ExLet, Name: "x", Kids: []api.Term{{Kind: api.ExAnn, Kids: []api.Term{use, great}}, x}}
				case "match":
					x = api.Term{Kind: api.ExMatch, Kids: []api.Term{use, {Kind: api.PaVar, Name: "great"}, x}}
				case "con":
					x = api.Term{Kind: api.ExMatch, Kids: []api.Term{{Kind: api.ExCon, Name: "C", Kids: []api.Term{use}}, {Kind: api.PaCon, Name: "C", Kids: []api.Term{{Kind: api.PaAny}}}, x}}
				}
				n = term.Size(x)
			}
			if got, e := infer.Expr(x, env, cons); e != api.OK || raw(got) != raw(typ(t, "int")) {
				t.Fatalf("%d uses of %d terms: %v", uses, m, e)
			}
		}
	}
}

// P1: what is no expression, and entries that are none, end too.
func TestAnything(t *testing.T) {
	odd := []api.Term{{}, {Kind: 99, Kids: []api.Term{{}}}, {Kind: api.TyVar, Name: "a"}, {Kind: api.ExFun}, {Kind: api.ExApp}, {Kind: api.ExLet}, {Kind: api.ExLet, Kids: make([]api.Term, 4)}, {Kind: api.ExMatch}, {Kind: api.ExMatch, Kids: make([]api.Term, 2)}, {Kind: api.ExMatch, Kids: []api.Term{{Kind: api.ExInt}, {Kind: api.ExInt}, {Kind: api.ExInt}}}, {Kind: api.ExAnn}, {Kind: api.ExAnn, Kids: make([]api.Term, 2)}, {Kind: api.ExVar, Name: "o"}, {Kind: api.ExCon, Name: "O", Kids: make([]api.Term, 1)}, {Kind: api.PaAny}}
	for _, x := range odd {
		for _, y := range odd {
			l := api.Term{Kind: api.ExLet, Name: "o", N: 7, Kids: []api.Term{x, y, x}}
			env, cons := []api.Entry{{Name: "o", Type: x}, {}}, []api.Cons{{Name: "O", Args: []api.Term{y}, Params: []string{"", "a", "a"}}}
			infer.Expr(x, env, cons)
			infer.Expr(l, env, cons)
			infer.Module(api.Module{Imports: make([]api.Import, 2), Lets: []api.Let{{Body: l}, {Ann: []api.Term{y, x}, Body: x}, {Body: y}}}, []api.Iface{{Vals: []api.Val{{Type: x}}}})
		}
	}
}
