package term_test

import (
	"maps"
	"math/rand/v2"
	"slices"
	"testing"

	"touchstone/api"
	"touchstone/term"
)

// P7.4: names of all PaVar, in order, as often as they stand.
func TestPatVars(t *testing.T) {
	wantNames(t, term.PatVars(pa()))
	wantNames(t, term.PatVars(pv("x")), "x")
	wantNames(t, term.PatVars(pt(pv("b"), pv("a"), pv("b"))), "b", "a", "b")
	wantNames(t, term.PatVars(pc("Cons", pt(pv("y"), pa()), pc("Cons", pv("x"), pc("A", pv("z"))), pv("w"))), "y", "x", "z", "w")
	wantNames(t, term.PatVars(pt(number(api.PaInt, 1), of(api.PaText, "x"), pc("X"), in("P", pc("A", pv("x"))))), "x")
}

// P7.4: of other terms, too: all Kids are gone through, a term ahead of its Kids.
func TestPatVarsOther(t *testing.T) {
	wantNames(t, term.PatVars(api.Term{}))
	wantNames(t, term.PatVars(tt(tv("a"), ev("b"), fun("c", ev("d")))))
	wantNames(t, term.PatVars(of(api.PaVar, "a", pv("b"), pv("a"))), "a", "b", "a")
	wantNames(t, term.PatVars(match(ev("x"), pv("a"), fun("y", match(ev("z"), pt(pv("b"), pv("a")), et())))), "a", "b", "a")
	wantNames(t, term.PatVars(of(99, "x", pv("A"), pv(""), in("P", pv("c")))), "A", "", "c")
	wantNames(t, term.PatVars(deep(50000, pv("x"), func(x api.Term) api.Term { return pc("A", x) })), "x")
	d := rand.New(rand.NewPCG(7, 7))
	for range 3000 {
		x := spoil(d, someTerm(d))
		var wanted []string
		for _, p := range parts(&x) {
			if p.Kind == api.PaVar {
				wanted = append(wanted, p.Name)
			}
		}
		wantNames(t, term.PatVars(x), wanted...)
	}
}

// P7.4, example 1: names that nothing around binds, rising, each once.
func TestFree(t *testing.T) {
	x, y, z := ev("x"), ev("y"), ev("z")
	wantNames(t, term.Free(fun("x", apply(ev("f"), x))), "f")
	wantNames(t, term.Free(x), "x")
	wantNames(t, term.Free(et()))
	wantNames(t, term.Free(et(z, x, y, x, z)), "x", "y", "z")
	wantNames(t, term.Free(ec("A", ev("b"), ev("_a"), ev("a'"), ev("aB"), ev("a"))), "_a", "a", "a'", "aB", "b")
	wantNames(t, term.Free(fun("x", x)))
	wantNames(t, term.Free(fun("x", fun("y", et(x, y, z)))), "z")
	wantNames(t, term.Free(apply(fun("x", x), x)), "x")
	wantNames(t, term.Free(apply(x, fun("x", x))), "x")
	wantNames(t, term.Free(ann(x, tv("y"))), "x")
	wantNames(t, term.Free(et(number(api.ExInt, 1), of(api.ExText, "x"), ec("X"))))
}

// P7.4: a name with a Pkg is not free, whether it is bound or not; a name alone is so whatever bears a Pkg.
func TestFreeQualified(t *testing.T) {
	x := ev("x")
	wantNames(t, term.Free(in("P", x)))
	wantNames(t, term.Free(et(in("P", x), x)), "x")
	wantNames(t, term.Free(fun("x", et(in("P", x), x))))
	wantNames(t, term.Free(et(in("P", x), ev("y"))), "y")
	wantNames(t, term.Free(in("P", ec("A", x))), "x")
}

// P7.4: a let binds in its second Kid, with N 1 in the first, too.
func TestFreeLet(t *testing.T) {
	x, y := ev("x"), ev("y")
	wantNames(t, term.Free(let("x", y, x)), "y")
	wantNames(t, term.Free(let("x", x, x)), "x")
	wantNames(t, term.Free(let("x", x, y)), "x", "y")
	wantNames(t, term.Free(letRec("x", x, x)))
	wantNames(t, term.Free(letRec("x", y, x)), "y")
	wantNames(t, term.Free(letRec("x", et(x, y), et(x, ev("z")))), "y", "z")
	wantNames(t, term.Free(let("x", x, x, tv("x"))), "x")
	wantNames(t, term.Free(letRec("x", x, x, tc("x"))))
	wantNames(t, term.Free(et(let("x", et(), x), x)), "x")
	wantNames(t, term.Free(et(letRec("x", x, x), x)), "x")
	wantNames(t, term.Free(let("x", fun("y", et(x, y)), et(x, y))), "x", "y")
	wantNames(t, term.Free(let("f", fun("x", apply(ev("f"), x)), ev("f"))), "f")
}

// P7.4: a pattern binds in the expression behind it, in no other one.
func TestFreeMatch(t *testing.T) {
	x, y, z := ev("x"), ev("y"), ev("z")
	wantNames(t, term.Free(match(x, pv("x"), x)), "x")
	wantNames(t, term.Free(match(et(), pv("x"), x)))
	wantNames(t, term.Free(match(et(), pv("x"), x, pa(), x)), "x")
	wantNames(t, term.Free(match(et(), pa(), x, pv("x"), x)), "x")
	wantNames(t, term.Free(match(et(), pv("x"), et(x, y), pv("y"), et(x, y, z))), "x", "y", "z")
	wantNames(t, term.Free(match(et(), pt(pv("x"), pc("A", pv("y"))), et(x, y, z))), "z")
	wantNames(t, term.Free(match(et(), pt(pv("x"), pv("x")), x)))
	wantNames(t, term.Free(et(match(et(), pt(pv("x"), pv("x")), x), x)), "x")
	wantNames(t, term.Free(match(match(et(), pv("x"), x), pv("y"), match(y, pv("z"), et(x, y, z)))), "x")
}

// P7.4: names bound twice around one another, and free behind that.
func TestFreeTwice(t *testing.T) {
	x := ev("x")
	wantNames(t, term.Free(fun("x", apply(fun("x", x), x))))
	wantNames(t, term.Free(apply(fun("x", fun("x", x)), x)), "x")
	wantNames(t, term.Free(fun("x", et(fun("x", fun("x", x)), x))))
	wantNames(t, term.Free(et(fun("x", et(fun("x", fun("x", x)), x)), ev("y"))), "y")
	wantNames(t, term.Free(let("x", et(), et(let("x", x, x), x))))
	wantNames(t, term.Free(et(let("x", et(), et(letRec("x", x, x), x)), x)), "x")
	wantNames(t, term.Free(fun("x", et(match(x, pt(pv("x"), pv("x"), pv("x")), x), x))))
	wantNames(t, term.Free(et(fun("x", match(x, pt(pv("x"), pv("x")), let("x", x, x))), x)), "x")
	wantNames(t, term.Free(deep(30000, x, func(e api.Term) api.Term { return fun("x", et(e, x)) })))
	wantNames(t, term.Free(et(deep(30000, x, func(e api.Term) api.Term { return letRec("x", e, x) }), x)), "x")
	wantNames(t, term.Free(deep(50000, x, func(e api.Term) api.Term { return fun("y", e) })), "x")
}

// P7.4: of terms that are no expressions, too: what the chapter does not name binds nothing, and all Kids are gone through.
func TestFreeOther(t *testing.T) {
	x, y := ev("x"), ev("y")
	wantNames(t, term.Free(api.Term{}))
	wantNames(t, term.Free(tt(x, pc("A", y))), "x", "y")
	wantNames(t, term.Free(of(99, "x", x)), "x")
	wantNames(t, term.Free(of(api.TyVar, "x", x, tv("y"))), "x")
	wantNames(t, term.Free(ann(y, x)), "x", "y")
	wantNames(t, term.Free(of(api.ExVar, "x", y)), "x", "y")
	wantNames(t, term.Free(in("P", of(api.ExVar, "x", y))), "y")
	wantNames(t, term.Free(of(api.ExInt, "x", x)), "x")
	wantNames(t, term.Free(of(api.ExApp, "x", x, x, y)), "x", "y")
	wantNames(t, term.Free(et(pv("x"), x)), "x")
	wantNames(t, term.Free(of(api.ExFun, "x")))
	wantNames(t, term.Free(et(ev(""), ev("A"), ev("let"))), "", "A", "let")
	wantNames(t, term.Free(fun("", et(ev(""), x))), "x")
	for _, n := range []int{2, -1, 3, 257, 1<<32 + 1} {
		s := let("x", x, y)
		s.N = n
		wantNames(t, term.Free(s), "x", "y")
		s = let("x", y, x)
		s.N = n
		wantNames(t, term.Free(s), "y")
	}
	wantNames(t, term.Free(let("x", x)), "x")
	wantNames(t, term.Free(letRec("x", x)))
	wantNames(t, term.Free(match(x)), "x")
	wantNames(t, term.Free(match(x, pv("x"))), "x")
	wantNames(t, term.Free(match(et(), et(pv("x"), pv("y")), et(x, y, ev("z")))), "z")
	wantNames(t, term.Free(match(pv("x"), pa(), x)), "x")
	wantNames(t, term.Free(match(et(), pa(), pv("x"), pa(), x)), "x")
}

// binds tells the chapter's words a second time: does a term bind a name in its Kid at a place?
func binds(x api.Term, place int, name string) bool {
	switch x.Kind {
	case api.ExFun:
		return x.Name == name
	case api.ExLet:
		return x.Name == name && (place == 1 || place == 0 && x.N == 1)
	case api.ExMatch:
		return place > 0 && place%2 == 0 && slices.Contains(term.PatVars(x.Kids[place-1]), name)
	}
	return false
}

// gather notes the names of all that is not bound on the way to it, way by way.
func gather(x api.Term, around []api.Term, places []int, free map[string]bool) {
	if x.Kind == api.ExVar && x.Pkg == "" {
		isBound := false
		for i := range around {
			isBound = isBound || binds(around[i], places[i], x.Name)
		}
		if !isBound {
			free[x.Name] = true
		}
	}
	for i, k := range x.Kids {
		gather(k, append(slices.Clone(around), x), append(slices.Clone(places), i), free)
	}
}

// P7.4: any expressions, held against the second telling.
func TestFreeAny(t *testing.T) {
	d := rand.New(rand.NewPCG(7, 8))
	some := 0
	for range 20000 {
		x := someExpr(d, 1+d.IntN(6))
		free := map[string]bool{}
		gather(x, nil, nil, free)
		wantNames(t, term.Free(x), slices.Sorted(maps.Keys(free))...)
		if len(free) > 0 && len(free) < 6 {
			some++
		}
	}
	if some < 5000 {
		t.Fatalf("%d times", some)
	}
}

// Rules 3 and 6: names are the caller's own, the same each time, and nothing is changed.
func TestNamesOwn(t *testing.T) {
	x := match(et(ev("b"), ev("a")), pt(pv("x"), pv("y")), et(ev("x"), ev("c")))
	kept := told(x)
	term.Free(x)[0] = "z"
	term.PatVars(x)[0] = "z"
	wantNames(t, term.Free(x), "a", "b", "c")
	wantNames(t, term.PatVars(x), "x", "y")
	y := arrow(tv("a"), tv("b"))
	term.Vars(y)[0] = "z"
	wantNames(t, term.Vars(y), "a", "b")
	if told(x) != kept {
		t.Fatalf("%s became %s", kept, told(x))
	}
}
