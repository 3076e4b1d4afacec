package term_test

import (
	"math/rand/v2"
	"testing"

	"touchstone/api"
	"touchstone/term"
)

func wantSize(t *testing.T, wanted int, x api.Term) {
	t.Helper()
	if got := term.Size(x); got != wanted {
		t.Fatalf("Size(%.300s): %d, not %d", told(x), got, wanted)
	}
}

func wantSame(t *testing.T, wanted bool, a, b api.Term) {
	t.Helper()
	if term.Same(a, b) != wanted || term.Same(b, a) != wanted {
		t.Fatalf("Same of %.300s and %.300s: not %v", told(a), told(b), wanted)
	}
}

// P7.2: a term is one, and all that are in it are some more.
func TestSize(t *testing.T) {
	wantSize(t, 1, api.Term{})
	wantSize(t, 1, tv("a"))
	wantSize(t, 1, api.Term{Kind: 99, N: 7, Kids: []api.Term{}})
	wantSize(t, 2, tc("t", tv("a")))
	wantSize(t, 3, arrow(tv("a"), tv("a")))
	wantSize(t, 5, tt(tt(), tt(), tc("list", tv("a"))))
	wantSize(t, 7, let("x", match(ev("x"), pa(), et()), ev("y"), tt()))
	wantSize(t, 4, of(api.TyVar, "a", of(99, "", ev("x")), pv("y")))
	wantSize(t, 50001, deep(50000, tt(), func(x api.Term) api.Term { return tc("t", x) }))
	wantSize(t, 100001, deep(50000, tt(), func(x api.Term) api.Term { return arrow(x, tt()) }))
}

// P7.2: of any terms, right or not.
func TestSizeAny(t *testing.T) {
	d := rand.New(rand.NewPCG(7, 2))
	for range 2000 {
		x := spoil(d, someTerm(d))
		wantSize(t, len(parts(&x)), x)
	}
}

// P7.2: terms that differ in one thing, at any depth, are not the same.
func TestSame(t *testing.T) {
	x := api.Term{Kind: 2, Pkg: "P", Name: "t", N: 3, Kids: []api.Term{tv("a"), tv("b")}}
	wantSame(t, true, x, clone(x))
	wantSame(t, true, api.Term{}, api.Term{})
	for _, change := range []func(*api.Term){
		func(y *api.Term) { y.Kind = 15 },
		func(y *api.Term) { y.Pkg = "" },
		func(y *api.Term) { y.Pkg = "Q" },
		func(y *api.Term) { y.Name = "u" },
		func(y *api.Term) { y.Name = "" },
		func(y *api.Term) { y.N = -3 },
		func(y *api.Term) { y.N = 0 },
		func(y *api.Term) { y.Kids = y.Kids[:1] },
		func(y *api.Term) { y.Kids = y.Kids[1:] },
		func(y *api.Term) { y.Kids = nil },
		func(y *api.Term) { y.Kids = append(y.Kids, tv("b")) },
		func(y *api.Term) { y.Kids[0], y.Kids[1] = y.Kids[1], y.Kids[0] },
		func(y *api.Term) { y.Kids[0].Name = "b" },
		func(y *api.Term) { y.Kids[1].Kind = 12 },
		func(y *api.Term) { y.Kids[1].Kids = []api.Term{{}} },
		func(y *api.Term) { y.Kids[1].Pkg = "P" },
		func(y *api.Term) { y.Kids[1].N = 1 },
	} {
		y := clone(x)
		change(&y)
		wantSame(t, false, x, y)
		wantSame(t, false, pc("A", pa(), x), pc("A", pa(), y))
		wantSame(t, true, y, clone(y))
	}
}

// P7.2: Kids that are nil and Kids that are empty are alike, at any depth.
func TestSameNoKids(t *testing.T) {
	a, b := tt(), tt()
	a.Kids, b.Kids = nil, []api.Term{}
	wantSame(t, true, a, b)
	wantSame(t, true, tc("t", a, b), tc("t", b, a))
	wantSame(t, false, tt(), tc(""))
	wantSame(t, false, a, tt(api.Term{}))
}

// P7.2: any terms, and what is spoilt of them.
func TestSameAny(t *testing.T) {
	d := rand.New(rand.NewPCG(7, 3))
	for range 5000 {
		x := someTerm(d)
		y := spoil(d, x)
		wantSame(t, true, x, clone(x))
		wantSame(t, told(x) == told(y), x, y)
	}
	x := deep(50000, tt(), func(x api.Term) api.Term { return tc("t", x) })
	wantSame(t, true, x, clone(x))
	wantSame(t, false, x, deep(50000, tv("a"), func(x api.Term) api.Term { return tc("t", x) }))
}
