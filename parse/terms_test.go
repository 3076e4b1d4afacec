package parse_test

import (
	"strings"
	"testing"

	"touchstone/api"
)

// P8.2: types of each kind.
func TestType(t *testing.T) {
	wantType(t, "'a", tv("a"))
	wantType(t, "int", tc("int"))
	wantType(t, "P.t", in("P", tc("t")))
	wantType(t, "P . t ('a)", in("P", tc("t", tv("a"))))
	wantType(t, "list('a)", tc("list", tv("a")))
	wantType(t, "t('a, int,P.u(text))", tc("t", tv("a"), tc("int"), in("P", tc("u", tc("text")))))
	wantType(t, "'a -> 'b", arrow(tv("a"), tv("b")))
	wantType(t, "'a -> 'b -> 'c", arrow(tv("a"), arrow(tv("b"), tv("c"))))
	wantType(t, "('a -> 'b) -> 'c", arrow(arrow(tv("a"), tv("b")), tv("c")))
	wantType(t, "t('a -> 'b) -> (int -> int, 'a)", arrow(tc("t", arrow(tv("a"), tv("b"))), tt(arrow(tc("int"), tc("int")), tv("a"))))
	wantType(t, "()", tt())
	wantType(t, "( )", tt())
	wantType(t, "(int)", tc("int"))
	wantType(t, "((('a)))", tv("a"))
	wantType(t, "(())", tt())
	wantType(t, "(int, text)", tt(tc("int"), tc("text")))
	wantType(t, "((int, text), (), 'a)", tt(tt(tc("int"), tc("text")), tt(), tv("a")))
	wantType(t, "t(())", tc("t", tt()))
	wantType(t, "t((int, int))", tc("t", tt(tc("int"), tc("int"))))
	wantType(t, "t((int))", tc("t", tc("int")))
}

// P8.2: a variable has, with its ', MaxIdent bytes at most; at a longer one lex's error is told.
func TestTypeVariablesLong(t *testing.T) {
	name := strings.Repeat("a", api.MaxIdent-1)
	wantType(t, "'"+name, tv(name))
	wantType(t, "t('"+name+", 'a)", tc("t", tv(name), tv("a")))
	wantForm(t, readType, "!'"+name+"a", "t('a, !'"+name+"a)")
	wantForm(t, readModule, "type t(!'"+name+"a) = A;", "alias t('"+name+") = !'"+name+"a;")
}

// P8.2: what is no type, and what stands behind one.
func TestTypeFaults(t *testing.T) {
	wantForm(t, readType, "!", " !", "-- a\n!", "!1", "!\"a\"", "!1.0.0", "!let", "!_", "!->", "!)", "!=", "P!", "P!(int)", "P !t", "P.!", "P.!T", "P.!'a", "P.!Q.t", "T!", "(!", "(int!", "(int,!", "(int,!)", "(!,int)", "(int !int)", "(int ->!)", "t(!)", "t(!,", "t(int,!)", "t(int!", "t(int)!(int)", "'a!(int)", "'a ->!", "'a -> !-> 'b", "'a !'b", "int !int", "int !;", "()!()", "() !)", "int!, int", "'a!.b", "t!.u", "P.t!.u", "(int !: int)", "t(!_)", "int != int", "int -> !1", "(int) !x")
}

// P8.2, example 1: expressions of each kind.
func TestExpr(t *testing.T) {
	f, g, x, y := ev("f"), ev("g"), ev("x"), ev("y")
	wantExpr(t, "f (g 1) x", apply(f, apply(g, en(1)), x))
	wantExpr(t, "x", x)
	wantExpr(t, "_x'", ev("_x'"))
	wantExpr(t, "P.x", in("P", x))
	wantExpr(t, "1", en(1))
	wantExpr(t, "-999999999999999999", en(-999999999999999999))
	wantExpr(t, `"a\n\"\\\t"`, es("a\n\"\\\t"))
	wantExpr(t, `""`, es(""))
	wantExpr(t, "A", ec("A"))
	wantExpr(t, "P.A", in("P", ec("A")))
	wantExpr(t, "A(x)", ec("A", x))
	wantExpr(t, "P . A ( x , 1 )", in("P", ec("A", x, en(1))))
	wantExpr(t, "A(B, B(C), f x, fun x -> y)", ec("A", ec("B"), ec("B", ec("C")), apply(f, x), fun("x", y)))
	wantExpr(t, "fun x -> x", fun("x", x))
	wantExpr(t, "fun x -> fun y -> f x y", fun("x", fun("y", apply(f, x, y))))
	wantExpr(t, "()", et())
	wantExpr(t, "(x)", x)
	wantExpr(t, "((x))", x)
	wantExpr(t, "(x, y)", et(x, y))
	wantExpr(t, "(x, (), (x, y, 1))", et(x, et(), et(x, y, en(1))))
	wantExpr(t, "(x : int)", ann(x, tc("int")))
	wantExpr(t, "(fun x -> x : 'a -> 'a)", ann(fun("x", x), arrow(tv("a"), tv("a"))))
	wantExpr(t, "((x : int), y)", et(ann(x, tc("int")), y))
	wantExpr(t, "((x : int) : int)", ann(ann(x, tc("int")), tc("int")))
	wantExpr(t, "((x, y) : (int, int))", ann(et(x, y), tt(tc("int"), tc("int"))))
}

// P8.2: atoms behind one another are applied, from the left; parentheses behind a constructor hold what is its own.
func TestApplied(t *testing.T) {
	f, g, x, y := ev("f"), ev("g"), ev("x"), ev("y")
	wantExpr(t, "f x", apply(f, x))
	wantExpr(t, "f x y", apply(apply(f, x), y))
	wantExpr(t, "(f x) y", apply(apply(f, x), y))
	wantExpr(t, "f (x y)", apply(f, apply(x, y)))
	wantExpr(t, "f 1 -1 \"a\" () (x, y) A P.B P.x", apply(f, en(1), en(-1), es("a"), et(), et(x, y), ec("A"), in("P", ec("B")), in("P", x)))
	wantExpr(t, "1 2", apply(en(1), en(2)))
	wantExpr(t, "\"a\" x", apply(es("a"), x))
	wantExpr(t, "() ()", apply(et(), et()))
	wantExpr(t, "A x", apply(ec("A"), x))
	wantExpr(t, "(A) (x)", apply(ec("A"), x))
	wantExpr(t, "A (x) (y)", apply(ec("A", x), y))
	wantExpr(t, "A(x) B(y) C", apply(ec("A", x), ec("B", y), ec("C")))
	wantExpr(t, "f A(x)", apply(f, ec("A", x)))
	wantExpr(t, "f P.A(x) y", apply(f, in("P", ec("A", x)), y))
	wantExpr(t, "f P.g (x)", apply(f, in("P", g), x))
	wantExpr(t, "f g (x)", apply(f, g, x))
	wantExpr(t, "f (x : int) y", apply(f, ann(x, tc("int")), y))
	wantExpr(t, "(fun x -> x) y", apply(fun("x", x), y))
	wantExpr(t, "f (fun x -> x) (let x = y in x)", apply(f, fun("x", x), let("x", y, x)))
	wantForm(t, readExpr, "f !fun x -> x", "f !let x = 1 in x", "f !match x with _ -> x end", "f x !rec", "A !fun x -> x", "f x !'a", "f x !_", "f x !1.0.0", "f !-> x", "f !.x", "f!.x", "f x !: int", "f x !)", "f!, x", "x != x", "x !; y", "x !| y", "x !@ y")
}

// P8.2: lets, with rec and without, with a type and without.
func TestExprLets(t *testing.T) {
	x, y := ev("x"), ev("y")
	wantExpr(t, "let x = y in x", let("x", y, x))
	wantExpr(t, "let rec x = y in x", rec(let("x", y, x)))
	wantExpr(t, "let x : int = y in x", let("x", y, x, tc("int")))
	wantExpr(t, "let rec x : 'a -> 'a = y in x y", rec(let("x", y, apply(x, y), arrow(tv("a"), tv("a")))))
	wantExpr(t, "let x = let y = 1 in y in let x = x in x", let("x", let("y", en(1), y), let("x", x, x)))
	wantExpr(t, "fun f -> let x = fun x -> x in f x", fun("f", let("x", fun("x", x), apply(ev("f"), x))))
	wantForm(t, readExpr, "let!", "let !X = 1 in x", "let !_ = 1 in x", "let rec !rec x = 1 in x", "let x !in y", "let x = !in x", "let x = 1!", "let x = 1 !; x", "let x = 1 in!", "let x = 1 in !in x", "let rec!", "let x : !", "let x : !1 = 1 in x", "let x : int !in x", "let x : int !: int = 1 in x", "let x = 1 in x !in x", "let !(x) = 1 in x", "let x !y = 1 in x", "let !type x = 1 in x")
	wantForm(t, readExpr, "fun!", "fun !X -> x", "fun !_ -> x", "fun x!", "fun x !y -> x", "fun x !: int -> x", "fun x != x", "fun x ->!", "fun x -> !-> x", "fun x -> !)", "fun x -> x !-> x", "fun !(x) -> x", "fun !rec -> x", "fun !fun x -> x")
}

// P8.2: matches of one arm and more; what stands in them ends where theirs begins.
func TestMatches(t *testing.T) {
	x, y, z := ev("x"), ev("y"), ev("z")
	wantExpr(t, "match x with _ -> y end", match(x, pa(), y))
	wantExpr(t, "match x with a -> y | b -> z end", match(x, pv("a"), y, pv("b"), z))
	wantExpr(t, "match f x with A(a, _) -> a | B -> y | 0 -> fun x -> x | \"a\" -> z end", match(apply(ev("f"), x), pc("A", pv("a"), pa()), ev("a"), pc("B"), y, pn(0), fun("x", x), ps("a"), z))
	wantExpr(t, "match match x with _ -> y end with _ -> match z with _ -> x | a -> y end | _ -> z end", match(match(x, pa(), y), pa(), match(z, pa(), x, pv("a"), y), pa(), z))
	wantExpr(t, "match fun x -> x with _ -> fun x -> x | _ -> let x = y in z end", match(fun("x", x), pa(), fun("x", x), pa(), let("x", y, z)))
	wantExpr(t, "match (x, y) with (a, b) -> (a, b) end", match(et(x, y), pt(pv("a"), pv("b")), et(ev("a"), ev("b"))))
	wantForm(t, readExpr, "match!", "match !with _ -> x end", "match x!", "match x with!", "match x with !end", "match x with !| _ -> x end", "match x with _!", "match x with _ !end", "match x with _ -> !end", "match x with _ ->!", "match x with _ -> x!", "match x with _ -> x |!", "match x with _ -> x | !end", "match x with _ -> x !_ -> x end", "match x with _ -> x end !end", "match x with _ -> x !; x end", "match x with _ != x end", "match x with _ !| _ -> x end", "match x with _ -> x | _ !, _ -> x end", "match x !end", "match x with _ -> x end !x", "match x with _ -> x end !with", "match x with _ -> x !with _ -> x end", "match x with _ !-1 -> x end")
}

// P8.2: patterns of each kind.
func TestPatterns(t *testing.T) {
	wantPat(t, "_", pa())
	wantPat(t, "x", pv("x"))
	wantPat(t, "_x", pv("_x"))
	wantPat(t, "1", pn(1))
	wantPat(t, "-1", pn(-1))
	wantPat(t, `"a\n"`, ps("a\n"))
	wantPat(t, "A", pc("A"))
	wantPat(t, "P.A", in("P", pc("A")))
	wantPat(t, "A(_)", pc("A", pa()))
	wantPat(t, "P.A(x, _, 1)", in("P", pc("A", pv("x"), pa(), pn(1))))
	wantPat(t, "A(B(x), C, ())", pc("A", pc("B", pv("x")), pc("C"), pt()))
	wantPat(t, "()", pt())
	wantPat(t, "(_)", pa())
	wantPat(t, "((A))", pc("A"))
	wantPat(t, "(x, x)", pt(pv("x"), pv("x")))
	wantPat(t, "((), (1, \"a\"), _)", pt(pt(), pt(pn(1), ps("a")), pa()))
	wantPat(t, "A((x, y))", pc("A", pt(pv("x"), pv("y"))))
	for _, s := range []string{"!'a", "!1.0.0", "!let", "!->", "!)", "!,", "P.!x", "P.!", "P.!_", "P.!'a", "P !x", "P.A!.x", "A !_", "A !x", "A(!)", "A(_,!)", "A(_ !_)", "A(_!", "A(_)!(_)", "(!", "(_!", "(_,!)", "(!,_)", "(_ !_)", "(_ !: int)", "(_ !->", "x!.y", "x !y", "x!(y)", "1 !1", "_ !_", "!fun x -> x", "(!match", "!=", "_ !: int", "_ !| _"} {
		wantForm(t, readExpr, "match x with "+s)
	}
}

// P8.2: a qualifier stands ahead of names and constructors, and of nothing else.
func TestQualifiers(t *testing.T) {
	wantForm(t, readExpr, "P.!", "P.!1", "P.!\"a\"", "P.!(x)", "P.!_", "P.!fun", "P.!'a", "P.!.x", "P.x!.y", "P.A!.x", "P.A(x)!.y", "P.Q!.x", "x!.P", "f P.!", "A(x)!.x", "P.!let", "P !=", "P.!=", "1!.x", "(x)!.y")
	wantExpr(t, "P.x P.y", apply(in("P", ev("x")), in("P", ev("y"))))
	wantExpr(t, "P.Q P.x", apply(in("P", ec("Q")), in("P", ev("x"))))
	wantExpr(t, "P Q.x", apply(ec("P"), in("Q", ev("x"))))
	wantExpr(t, "P -- a\n .\n x", in("P", ev("x")))
}

// P8.2: parentheses with none, one and two in them, and what else may not stand there.
func TestParentheses(t *testing.T) {
	wantForm(t, readExpr, "!", " \n!", "!)", "(!", "(x!", "(x,!", "(x,!)", "(!,", "(!, x)", "(!: int)", "(x :!", "(x : !)", "(x : !1)", "(x : int!", "(x : int !, y)", "(x : int !: int)", "(x, y !: int)", "(x !; y)", "(x !-> y)", "(x, y!", "x !)", "() !)", "(x)!)", "((x)!", "A(!", "A(x!", "A(x,!)", "A(x !: int)", "A(x) !)", "P.A(x, !)", "A(!,x)", "(x !| y)", "(fun x -> !)", "(x : int -> !)", "(!=)", "(x !in y)", "(!in)")
}

// P8.2: nothing may stand behind a type or an expression; an item is none.
func TestNothingBehind(t *testing.T) {
	for _, s := range []string{";", "let", "=", ")", ",", "|", "@", ":", ".", "end", "in", "with", "type", "export", "import", "alias", "rec", "_", "1.0.0", "'a"} {
		wantForm(t, readExpr, "x !"+s, "fun x -> x !"+s, "match x with _ -> x end !"+s, "let x = 1 in x !"+s, "() !"+s, "P.A(x) !"+s)
		wantForm(t, readType, "'a !"+s, "'a -> int !"+s, "t(int) !"+s, "() !"+s)
	}
	wantForm(t, readExpr, "!type t = A;", "!export x;", "!alias t = int;", "!import P = a@1.0.0;", "let x = 1!;", "!'a", "!1.0.0", "!_", "!=", "!rec", "!end", "!in", "!with")
	wantRead(t, readExpr, "x"+strings.Repeat(" ", api.MaxSource-1))
	wantRead(t, readType, strings.Repeat("\n", api.MaxSource-2)+"'a")
}
