package term_test

import (
	"math/rand/v2"
	"slices"
	"strings"
	"testing"

	"touchstone/api"
	"touchstone/term"
)

// wantKind asks which of the three a term is: t, p, e, or - for none.
func wantKind(t *testing.T, wanted string, l ...api.Term) {
	t.Helper()
	for _, x := range l {
		if term.IsType(x) != (wanted == "t") || term.IsPat(x) != (wanted == "p") || term.IsExpr(x) != (wanted == "e") {
			t.Fatalf("%.300s: type %v, pattern %v, expression %v, not %s", told(x), term.IsType(x), term.IsPat(x), term.IsExpr(x), wanted)
		}
	}
}

// P7.1: types of each kind.
func TestTypes(t *testing.T) {
	wantKind(t, "t", tv("a"), tv("a1"), tv("let"), tv(strings.Repeat("a", 29)), tc("int"), tc("_t'"), in("P", tc("t")), in("P'_0", tc("t")), tc("list", tv("a")), tc("t", tv("a"), tv("b"), tc("int"), tt()))
	wantKind(t, "t", arrow(tv("a"), tv("b")), arrow(arrow(tc("int"), tt()), tv("a")), tt(), tt(tv("a"), tv("a")), tt(tt(), tt(), tt()), tt(tv("a"), tv("b"), tv("c"), tv("d")))
	wantKind(t, "-", tv(""), tv("A"), tv("_a"), tv("a'"), tv("'a"), in("P", tv("a")), rec(tv("a")), of(api.TyVar, "a", tv("b")), tv(strings.Repeat("a", 30)), tc("list", tv(strings.Repeat("a", 30))), tv(strings.Repeat("a", 31)))
	wantKind(t, "-", tc(""), tc("T"), tc("_"), tc("let"), tc("a b"), in("p", tc("t")), in("", tc("T")), in("P.Q", tc("t")), in(" ", tc("t")), rec(tc("t")), tc("list", pv("a")), tc("list", tv("a"), ev("x")), tc("t", tt(tv("a"))))
	wantKind(t, "-", of(api.TyFun, ""), of(api.TyFun, "", tv("a")), of(api.TyFun, "", tv("a"), tv("b"), tv("c")), of(api.TyFun, "a", tv("a"), tv("b")), in("P", arrow(tv("a"), tv("b"))), rec(arrow(tv("a"), tv("b"))), arrow(tv("a"), pv("b")), arrow(ev("a"), tv("b")))
	wantKind(t, "-", tt(tv("a")), of(api.TyTuple, "a"), in("P", tt()), rec(tt()), tt(tv("a"), pv("b")), tt(ev("a"), tv("b")), tt(tv("a"), tv("A")))
}

// P7.1: patterns of each kind.
func TestPatterns(t *testing.T) {
	wantKind(t, "p", pa(), pv("a"), pv("_a"), pv("a'"), number(api.PaInt, 0), number(api.PaInt, -5), number(api.PaInt, mostInt), number(api.PaInt, -mostInt), of(api.PaText, ""), of(api.PaText, "a \"\\\n\t~"), of(api.PaText, strings.Repeat("a", maxText)))
	wantKind(t, "p", pc("Nil"), in("P", pc("Nil")), pc("Cons", pa(), pc("Nil")), pc("A", pv("x")), pc("A", pv("x"), pv("x"), pv("x"), pt()), pt(), pt(pa(), pa()), pt(pt(), pt(), number(api.PaInt, 1)))
	wantKind(t, "-", of(api.PaAny, "a"), in("P", pa()), rec(pa()), of(api.PaAny, "", pa()), pv(""), pv("A"), pv("_"), pv("let"), in("P", pv("a")), rec(pv("a")), of(api.PaVar, "a", pa()))
	wantKind(t, "-", number(api.PaInt, mostInt+1), number(api.PaInt, -mostInt-1), of(api.PaInt, "a"), in("P", number(api.PaInt, 1)), of(api.PaInt, "", pa()), of(api.PaText, "ä"), of(api.PaText, "\r"), rec(of(api.PaText, "a")), in("P", of(api.PaText, "a")), of(api.PaText, "a", pa()), of(api.PaText, strings.Repeat("a", maxText+1)))
	wantKind(t, "-", pc(""), pc("cons"), pc("_"), in("p", pc("A")), in("let", pc("A")), rec(pc("A")), pc("A", ev("x")), pc("A", pa(), tv("a")), pc("A", pv("A")), pt(pa()), of(api.PaTuple, "a"), in("P", pt()), rec(pt()), pt(pa(), et()), pt(tt(), pa()))
}

// P7.1: expressions of each kind.
func TestExprs(t *testing.T) {
	x, y := ev("x"), ev("y")
	wantKind(t, "e", x, in("P", x), ev("_'"), number(api.ExInt, 0), number(api.ExInt, mostInt), number(api.ExInt, -mostInt), of(api.ExText, ""), of(api.ExText, "\\\"\n\t"), ec("Nil"), in("P", ec("A", x)), ec("A", x, y, x, y), et(), et(x, y), et(x, et(), y))
	wantKind(t, "e", fun("x", x), apply(x, y), apply(apply(x, y), fun("x", et())), let("x", x, y), letRec("x", x, y), let("x", x, y, tv("a")), letRec("x", x, y, tc("int")), match(x, pa(), y), match(x, pv("y"), y, pc("A", pv("x")), x), ann(x, tv("a")), ann(ann(x, tt()), tt()))
	wantKind(t, "-", ev(""), ev("X"), ev("_"), ev("in"), in("p", x), rec(x), of(api.ExVar, "x", y), number(api.ExInt, mostInt+1), number(api.ExInt, -mostInt-1), of(api.ExInt, "1"), of(api.ExInt, "", x), in("P", number(api.ExInt, 1)), of(api.ExText, "\x00"), of(api.ExText, "a", x), rec(of(api.ExText, "a")), in("P", of(api.ExText, "a")))
	wantKind(t, "-", ec("a"), ec(""), in("a", ec("A")), rec(ec("A")), ec("A", pv("x")), ec("A", x, tv("a")), et(x), of(api.ExTuple, "x"), in("P", et()), rec(et()), et(x, pv("y")), et(tt(), x))
	wantKind(t, "-", fun("X", x), fun("", x), fun("_", x), fun("fun", x), in("P", fun("x", x)), rec(fun("x", x)), of(api.ExFun, "x"), of(api.ExFun, "x", x, y), fun("x", pv("x")), of(api.ExApp, "", x), of(api.ExApp, ""), of(api.ExApp, "", x, y, x), of(api.ExApp, "x", x, y), in("P", apply(x, y)), rec(apply(x, y)), apply(x, tv("a")), apply(pv("x"), x))
}

// P7.1: lets with N of each number, with and without a type; matches of one Kid and more; annotations.
func TestLetsMatchesAnns(t *testing.T) {
	x, y := ev("x"), ev("y")
	for n, wanted := range map[int]string{-2: "-", -1: "-", 0: "e", 1: "e", 2: "-", 3: "-", 1 << 62: "-", -1 << 63: "-"} {
		for _, s := range []api.Term{let("x", x, y), let("x", x, y, tv("a"))} {
			s.N = n
			wantKind(t, wanted, s)
		}
	}
	wantKind(t, "-", let("x"), let("x", x), let("x", x, y, x), let("x", x, y, pv("a")), let("x", x, y, tv("a"), tv("a")), let("x", x, tv("a")), let("x", tv("a"), x), let("x", pv("x"), x), let("x", x, y, tv("A")))
	wantKind(t, "-", let("X", x, y), let("", x, y), let("_", x, y), let("let", x, y), in("P", let("x", x, y)), in("P", letRec("x", x, y, tt())))
	wantKind(t, "-", match(), match(x), match(x, pa()), match(x, pa(), y, pa()), match(pa(), pa(), x), match(x, y, x), match(x, pa(), pa()), match(x, pa(), x, y, x), match(x, pa(), x, pa(), pa()), match(x, tv("a"), x), match(x, pa(), tv("a")))
	wantKind(t, "e", match(x, pa(), y, pa(), x, pa(), y, pt(), et()))
	wantKind(t, "-", of(api.ExMatch, "x", x, pa(), y), in("P", match(x, pa(), y)), rec(match(x, pa(), y)))
	wantKind(t, "-", of(api.ExAnn, ""), of(api.ExAnn, "", x), of(api.ExAnn, "", x, tv("a"), tv("a")), ann(x, x), ann(tv("a"), tv("a")), ann(tv("a"), x), ann(x, pv("a")), of(api.ExAnn, "x", x, tv("a")), in("P", ann(x, tv("a"))), rec(ann(x, tv("a"))))
}

// P7.1: each kind, with Kids of each kind, from none to four.
func TestKidsCounted(t *testing.T) {
	leaf := []api.Term{tv("a"), pa(), ev("x"), {}}
	for _, k := range slices.Concat(types(), patterns(), exprs(), strangers()) {
		l := [][]api.Term{nil}
		for i := 0; i < len(l); i++ {
			for _, name := range []string{"", "a", "A"} {
				x := of(k, name, l[i]...)
				wantKind(t, kind(x), x)
			}
			if len(l[i]) < 4 {
				for _, x := range leaf {
					l = append(l, append(slices.Clone(l[i]), x))
				}
			}
		}
	}
}

// right is a term of each kind that is one.
func right() []api.Term {
	x := ev("x")
	return []api.Term{
		tv("a"), tc("t", tv("a")), arrow(tv("a"), tv("b")), tt(), tt(tv("a"), tv("b")),
		pa(), pv("x"), number(api.PaInt, 1), of(api.PaText, "x"), pc("A", pa()), pt(), pt(pa(), pa()),
		x, number(api.ExInt, 1), of(api.ExText, "x"), ec("A", x), et(), et(x, x), fun("x", x), apply(x, x), let("x", x, x), let("x", x, x, tt()), match(x, pa(), x), ann(x, tv("a")),
	}
}

// P7.1: each name and each qualifier, right and wrong, of each kind.
func TestNamesOfKinds(t *testing.T) {
	for _, x := range right() {
		for _, s := range names() {
			named, qualified := x, x
			named.Name, qualified.Pkg = s, s
			wantKind(t, kind(named), named)
			wantKind(t, kind(qualified), qualified)
		}
	}
	for _, s := range []string{"P", "Z'", "A_0", strings.Repeat("P", 30)} {
		wantKind(t, "t", in(s, tc("t")))
		wantKind(t, "p", in(s, pc("A")))
		wantKind(t, "e", in(s, ec("A")), in(s, ev("x")))
	}
}

// P7.1: each number of each kind.
func TestNumbersOfKinds(t *testing.T) {
	for _, x := range right() {
		for _, n := range []int{0, 1, 2, -1, 1000, mostInt, -mostInt, mostInt + 1, -mostInt - 1, 1<<63 - 1, -1 << 63} {
			x.N = n
			wantKind(t, kind(x), x)
		}
	}
}

// P7.1: kinds that are none, and Kids that are none, at each place.
func TestStrangers(t *testing.T) {
	for _, k := range strangers() {
		stranger := api.Term{Kind: k}
		wantKind(t, "-", stranger, of(k, "a"), of(k, "A"), of(k, "", tv("a"), tv("b")), number(k, 1))
		for _, x := range right() {
			for i := range x.Kids {
				y := clone(x)
				y.Kids[i] = stranger
				wantKind(t, "-", y)
			}
		}
	}
}

// P7.1: Kids that are nil and Kids that are empty are alike.
func TestNoKids(t *testing.T) {
	for _, x := range right() {
		if len(x.Kids) == 0 {
			wanted := kind(x)
			x.Kids = nil
			wantKind(t, wanted, x)
			x.Kids = []api.Term{}
			wantKind(t, wanted, x)
		}
	}
}

// P7.1: terms of any parts, and such as are spoilt in one place, held against the second telling.
func TestAnyTerm(t *testing.T) {
	d := rand.New(rand.NewPCG(7, 1))
	wrong := 0
	for range 20000 {
		x := someTerm(d)
		if kind(x) == "-" {
			t.Fatalf("%s is none", told(x))
		}
		wantKind(t, kind(x), x)
		y := spoil(d, x)
		wantKind(t, kind(y), y)
		if kind(y) == "-" {
			wrong++
		}
	}
	if wrong < 5000 || wrong == 20000 {
		t.Fatalf("%d are wrong", wrong)
	}
}

// P7.1: terms that stand deep within one another.
func TestDeepKinds(t *testing.T) {
	const n = 50000
	wantKind(t, "t", deep(n, tv("a"), func(x api.Term) api.Term { return tc("t", x) }), deep(n, tt(), func(x api.Term) api.Term { return arrow(x, tv("a")) }))
	wantKind(t, "p", deep(n, pa(), func(x api.Term) api.Term { return pc("A", x) }), deep(n, pt(), func(x api.Term) api.Term { return pt(pa(), x) }))
	wantKind(t, "e", deep(n, ev("x"), func(x api.Term) api.Term { return fun("x", x) }), deep(n, ev("x"), func(x api.Term) api.Term { return letRec("x", x, ev("x"), tt()) }))
	wantKind(t, "e", deep(n, ev("x"), func(x api.Term) api.Term { return match(x, pa(), ev("x")) }), deep(n, ev("x"), func(x api.Term) api.Term { return ann(x, tt()) }))
	wantKind(t, "-", deep(n, tv("A"), func(x api.Term) api.Term { return tc("t", x) }), deep(n, tv("a"), func(x api.Term) api.Term { return pc("A", x) }))
	wantKind(t, "-", deep(n, pv("x"), func(x api.Term) api.Term { return let("x", x, ev("x")) }), deep(n, pa(), func(x api.Term) api.Term { return match(ev("x"), pa(), x) }))
}
