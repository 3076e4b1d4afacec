package print_test

import (
	"math/rand/v2"
	"strings"
	"testing"

	"touchstone/api"
	"touchstone/print"
)

// P9.1, example 1: types of each kind.
func TestType(t *testing.T) {
	a, b, c := tv("a"), tv("b"), tv("c")
	for wanted, x := range map[string]api.Term{
		"'a": a, "int": tc("int"), "P.t": in("P", tc("t")), "list('a)": tc("list", a), "P.t('a, int, ())": in("P", tc("t", a, tc("int"), tt())),
		"'a -> 'b": arrow(a, b), "'a -> 'b -> 'c": arrow(a, arrow(b, c)), "('a -> 'b) -> 'c": arrow(arrow(a, b), c), "(('a -> 'b) -> 'c) -> 'a": arrow(arrow(arrow(a, b), c), a),
		"('a -> 'b) -> 'b -> 'c": arrow(arrow(a, b), arrow(b, c)), "()": tt(), "('a, 'b)": tt(a, b), "('a, ('b, 'c), ())": tt(a, tt(b, c), tt()),
		"('a, 'b) -> ()": arrow(tt(a, b), tt()), "t('a -> 'b)": tc("t", arrow(a, b)), "('a -> 'b, 'c)": tt(arrow(a, b), c), "t(u('a)) -> P.v": arrow(tc("t", tc("u", a)), in("P", tc("v"))),
		"'let": tv("let"), "t((), ('a, 'a))": tc("t", tt(), tt(a, a)),
	} {
		wantText(t, print.Type(x), wanted)
	}
	// A variable's text, with the ' ahead, has MaxIdent bytes at most.
	name := strings.Repeat("a", api.MaxIdent-1)
	wantText(t, print.Type(tc("t", tv(name))), "t('"+name+")")
	wantText(t, print.Type(tc("t", tv(name+"a"))), "")
}

// P9.1: patterns of each kind.
func TestPat(t *testing.T) {
	for wanted, x := range map[string]api.Term{
		"_": pa(), "x": pv("x"), "_x'": pv("_x'"), "0": pn(0), "-1": pn(-1), "999999999999999999": pn(999999999999999999), "-999999999999999999": pn(-999999999999999999),
		`""`: ps(""), `"a b"`: ps("a b"), `"\\\"\n\t"`: ps("\\\"\n\t"), "Nil": pc("Nil"), "P.Nil": in("P", pc("Nil")), "Cons(x, _)": pc("Cons", pv("x"), pa()), "P.A(B(1), \"a\")": in("P", pc("A", pc("B", pn(1)), ps("a"))),
		"()": pt(), "(x, _)": pt(pv("x"), pa()), "((), (1, 2), A)": pt(pt(), pt(pn(1), pn(2)), pc("A")), "A((x, y))": pc("A", pt(pv("x"), pv("y"))),
	} {
		wantText(t, print.Pat(x), wanted)
	}
}

// P9.1: expressions of each kind.
func TestExpr(t *testing.T) {
	x, y := ev("x"), ev("y")
	for wanted, e := range map[string]api.Term{
		"x": x, "P.x": in("P", x), "0": en(0), "-5": en(-5), "999999999999999999": en(999999999999999999), `""`: es(""), `"a \\ \" \n \t b"`: es("a \\ \" \n \t b"),
		"A": ec("A"), "P.A": in("P", ec("A")), "A(x)": ec("A", x), "P.A(x, B, 1)": in("P", ec("A", x, ec("B"), en(1))), "A(f x, fun x -> x)": ec("A", apply(ev("f"), x), fun("x", x)),
		"()": et(), "(x, y)": et(x, y), "(x, (), (y, y), A)": et(x, et(), et(y, y), ec("A")), "(fun x -> x, f x)": et(fun("x", x), apply(ev("f"), x)),
		"fun x -> x": fun("x", x), "fun x -> fun y -> x y": fun("x", fun("y", apply(x, y))),
		"let x = y in x": let("x", y, x), "let rec x = y in x": rec(let("x", y, x)), "let x : int = y in x": let("x", y, x, tc("int")), "let rec x : 'a -> 'b = y in x": rec(let("x", y, x, arrow(tv("a"), tv("b")))),
		"let x = let y = x in y in let y = x in y": let("x", let("y", x, y), let("y", x, y)), "let f = fun x -> x in f x": let("f", fun("x", x), apply(ev("f"), x)),
		"match x with _ -> y end": match(x, pa(), y), "match x with A(x) -> x | _ -> y end": match(x, pc("A", pv("x")), x, pa(), y), "match f x with (a, b) -> fun x -> a | 1 -> match y with _ -> x end | \"a\" -> () end": match(apply(ev("f"), x), pt(pv("a"), pv("b")), fun("x", ev("a")), pn(1), match(y, pa(), x), ps("a"), et()),
		"match match x with _ -> y end with _ -> let x = y in x end": match(match(x, pa(), y), pa(), let("x", y, x)),
		"(x : int)": ann(x, tc("int")), "(fun x -> x : 'a -> 'a)": ann(fun("x", x), arrow(tv("a"), tv("a"))), "((x : int) : int)": ann(ann(x, tc("int")), tc("int")), "(f x : ())": ann(apply(ev("f"), x), tt()), "((x, y) : (int, int))": ann(et(x, y), tt(tc("int"), tc("int"))),
	} {
		wantText(t, print.Expr(e), wanted)
	}
}

// P9.1, example 1: what stands in parentheses, and what does not, in each place of an application.
func TestApplication(t *testing.T) {
	f, x := ev("f"), ev("x")
	alone := map[string]api.Term{"x": x, "P.x": in("P", x), "1": en(1), "-1": en(-1), `"a"`: es("a"), "A(x)": ec("A", x), "P.A(x)": in("P", ec("A", x)), "()": et(), "(x, x)": et(x, x), "(x : int)": ann(x, tc("int"))}
	inside := map[string]api.Term{"fun x -> x": fun("x", x), "let x = x in x": let("x", x, x), "let rec x = x in x": rec(let("x", x, x)), "let x : int = x in x": let("x", x, x, tc("int")), "match x with _ -> x end": match(x, pa(), x), "A": ec("A"), "P.A": in("P", ec("A"))}
	for s, e := range alone {
		wantText(t, print.Expr(apply(f, e)), "f "+s)
		wantText(t, print.Expr(apply(e, x)), s+" x")
		wantText(t, print.Expr(apply(e, e, e)), s+" "+s+" "+s)
	}
	for s, e := range inside {
		wantText(t, print.Expr(apply(f, e)), "f ("+s+")")
		wantText(t, print.Expr(apply(e, x)), "("+s+") x")
		wantText(t, print.Expr(apply(e, e, e)), "("+s+") ("+s+") ("+s+")")
		wantText(t, print.Expr(et(e, e)), "("+s+", "+s+")")
		wantText(t, print.Expr(ec("C", e)), "C("+s+")")
		wantText(t, print.Expr(fun("y", e)), "fun y -> "+s)
		wantText(t, print.Expr(let("y", e, e)), "let y = "+s+" in "+s)
		wantText(t, print.Expr(match(e, pa(), e, pa(), e)), "match "+s+" with _ -> "+s+" | _ -> "+s+" end")
		wantText(t, print.Expr(ann(e, tt())), "("+s+" : ())")
	}
	wantText(t, print.Expr(apply(f, x, x, x)), "f x x x")
	wantText(t, print.Expr(apply(apply(f, x), x)), "f x x")
	wantText(t, print.Expr(apply(f, apply(x, x))), "f (x x)")
	wantText(t, print.Expr(apply(f, apply(f, apply(f, x)))), "f (f (f x))")
	wantText(t, print.Expr(apply(apply(f, apply(f, x)), apply(x, x))), "f (f x) (x x)")
	wantText(t, print.Expr(fun("x", apply(f, x))), "fun x -> f x")
}

// P9.1: a term that is none has no text, whatever is wrong in it.
func TestNoTerms(t *testing.T) {
	right := map[string]api.Term{"type": tc("t", tv("a")), "pattern": pc("A", pv("x")), "expression": let("x", ev("x"), ec("A"), tt())}
	for name, x := range right {
		for call, got := range map[string]string{"type": print.Type(x), "pattern": print.Pat(x), "expression": print.Expr(x)} {
			if (got != "") != (call == name) {
				t.Fatalf("a %s as a %s: %q", name, call, got)
			}
		}
	}
	for _, x := range []api.Term{
		{}, {Kind: 5}, {Kind: 99}, {Kind: -1}, {Kind: 31}, tv(""), tv("A"), tv("_a"), tc("T"), tc("let"), in("p", tc("t")), rec(tc("t")), tt(tv("a")), of(api.TyFun, "", tv("a")), of(api.TyFun, ""), arrow(tv("a"), ev("x")), tc("t", tt(tv("a"))),
		pv("X"), pv("_"), pt(pa()), pc("a"), ps("\x00"), pn(1 << 62), pt(pa(), ev("x")), of(api.PaAny, "x"), rec(pa()), in("P", pv("x")),
		ev("X"), ev("in"), et(ev("x")), es("\r"), en(-1 << 63), of(api.ExFun, "x"), of(api.ExFun, "X", ev("x")), of(api.ExApp, "", ev("x")), of(api.ExApp, ""), let("x"), let("x", ev("x")), let("x", ev("x"), ev("x"), ev("x")), match(), match(ev("x")), match(ev("x"), pa()), match(ev("x"), pa(), pa()),
		match(ev("x"), ev("x"), ev("x")), of(api.ExAnn, ""), of(api.ExAnn, "", ev("x")), ann(ev("x"), ev("x")), {Kind: api.ExLet, Name: "x", N: 2, Kids: []api.Term{ev("x"), ev("x")}}, {Kind: api.ExLet, Name: "x", N: -1, Kids: []api.Term{ev("x"), ev("x")}},
	} {
		if s := print.Type(x) + print.Pat(x) + print.Expr(x); s != "" {
			t.Fatalf("%s: %q", raw(x), s)
		}
	}
}

// P9.1: any terms, held against the second telling.
func TestAnyTerm(t *testing.T) {
	d := rand.New(rand.NewPCG(9, 1))
	for range 5000 {
		ty, p, e := someType(d, 4), somePat(d, 3), someExpr(d, 4)
		wantText(t, print.Type(ty), told(ty))
		wantText(t, print.Pat(p), told(p))
		wantText(t, print.Expr(e), told(e))
		for _, x := range []string{print.Type(p), print.Type(e), print.Pat(ty), print.Pat(e), print.Expr(ty), print.Expr(p)} {
			wantText(t, x, "")
		}
	}
}

// P9.1: terms that lie deeper, and have more to which one is applied, than a source may tell.
func TestDeepTerms(t *testing.T) {
	const n = 30000
	e, ty, p, left, right := ev("x"), tv("a"), pv("x"), tv("a"), tv("a")
	for range n {
		e, ty, p = fun("x", e), tc("t", ty), pc("A", p)
		left, right = arrow(left, tv("b")), arrow(tv("b"), right)
	}
	wantText(t, print.Expr(e), strings.Repeat("fun x -> ", n)+"x")
	wantText(t, print.Type(ty), strings.Repeat("t(", n)+"'a"+strings.Repeat(")", n))
	wantText(t, print.Pat(p), strings.Repeat("A(", n)+"x"+strings.Repeat(")", n))
	wantText(t, print.Type(right), strings.Repeat("'b -> ", n)+"'a")
	wantText(t, print.Type(left), strings.Repeat("(", n-1)+"'a -> 'b"+strings.Repeat(") -> 'b", n-1))
	l := make([]api.Term, n)
	for i := range l {
		l[i] = ev("x")
	}
	wantText(t, print.Expr(apply(l...)), strings.Repeat("x ", n-1)+"x")
}

// Rules 3 and 6: nothing is changed, and a text is the same each time.
func TestUnchanged(t *testing.T) {
	d := rand.New(rand.NewPCG(9, 2))
	for range 300 {
		m, e := someModule(d), someExpr(d, 3)
		kept := raw(m) + raw(e)
		s, _ := print.Module(m)
		again, _ := print.Module(m)
		wantText(t, again, s)
		wantText(t, print.Expr(e), print.Expr(e))
		wantText(t, raw(m)+raw(e), kept)
	}
}
