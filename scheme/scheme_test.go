package scheme_test

import (
	"fmt"
	"math"
	"slices"
	"strings"
	"testing"

	"touchstone/api"
	"touchstone/scheme"
)

// P14.1: the i-th name.
func TestVarName(t *testing.T) {
	for i, wanted := range map[int]string{math.MinInt: "a", -27: "a", -26: "a", -1: "a", 0: "a", 1: "b", 25: "z", 26: "a1", 27: "b1", 51: "z1", 52: "a2", 259: "z9", 260: "a10", 700: "y26", math.MaxInt: fmt.Sprintf("%c%d", 'a'+math.MaxInt%26, math.MaxInt/26)} {
		if got := scheme.VarName(i); got != wanted {
			t.Fatalf("%d: %q, not %q", i, got, wanted)
		}
	}
}

// P14.1: variables by the order in which they are met.
func TestCanon(t *testing.T) {
	for _, x := range [][2]string{
		{"int", "int"}, {"'a", "'a"}, {"'z", "'a"}, {"'b -> 'a", "'a -> 'b"}, {"'a -> 'b", "'a -> 'b"}, {"('c, list('b, 'c), 'a) -> 'b", "('a, list('b, 'a), 'c) -> 'b"}, {"P.t('x)", "P.t('a)"}, {"()", "()"}, {"('b, 'a, 'b, 'a)", "('a, 'b, 'a, 'b)"},
	} {
		in := typ(t, x[0])
		if got := scheme.Canon(in); raw(got) != raw(typ(t, x[1])) || raw(in) != raw(typ(t, x[0])) {
			t.Fatalf("%s: %s", x[0], raw(got))
		}
	}
	var many, wanted []string
	for i := range 60 {
		many = append(many, fmt.Sprintf("'v%d", 60-i))
		wanted = append(wanted, "'"+scheme.VarName(i))
	}
	if got := scheme.Canon(typ(t, "("+strings.Join(many, ", ")+")")); raw(got) != raw(typ(t, "("+strings.Join(wanted, ", ")+")")) {
		t.Fatal(raw(got))
	}
}

func wantMatch(t *testing.T, general, special string, wanted string) {
	t.Helper()
	a, b := typ(t, general), typ(t, special)
	var l []api.Val
	for _, x := range strings.Split(wanted, ";") {
		if name, by, is := strings.Cut(x, "="); is {
			l = append(l, api.Val{Name: strings.TrimSpace(name), Type: typ(t, by)})
		}
	}
	if got, right := scheme.Match(a, b); !right || raw(got) != raw(l) || !scheme.Above(a, b) {
		t.Fatalf("%s, %s: %s, %v", general, special, raw(got), right)
	}
	if raw(a) != raw(typ(t, general)) || raw(b) != raw(typ(t, special)) {
		t.Fatalf("%s, %s: what was handed in is changed", general, special)
	}
}

func wantNotAbove(t *testing.T, general, special string) {
	t.Helper()
	a, b := typ(t, general), typ(t, special)
	if got, right := scheme.Match(a, b); right || len(got) > 0 || scheme.Above(a, b) || scheme.Same(a, b) || scheme.Same(b, a) {
		t.Fatalf("%s, %s: %s, %v", general, special, raw(got), right)
	}
}

// P14.2, P14.3: what is put in the place of what.
func TestMatch(t *testing.T) {
	wantMatch(t, "int", "int", "")
	wantMatch(t, "'a", "int", "a = int")
	wantMatch(t, "'a", "'a", "a = 'a")
	wantMatch(t, "'a", "'b", "a = 'b")
	wantMatch(t, "'a", "list('a)", "a = list('a)")
	wantMatch(t, "'b -> 'a", "'a -> 'b", "b = 'a; a = 'b")
	wantMatch(t, "'a -> 'b", "'a -> 'a", "a = 'a; b = 'a")
	wantMatch(t, "'a -> 'b", "'b -> list('a)", "a = 'b; b = list('a)")
	wantMatch(t, "('a, 'b, 'a)", "(int -> 'b, (), int -> 'b)", "a = int -> 'b; b = ()")
	wantMatch(t, "P.t('x, int) -> 'y", "P.t(P.t('x), int) -> 'x", "x = P.t('x); y = 'x")
	wantMatch(t, "('b, ('a, 'c))", "('c, ('c, 'c))", "b = 'c; a = 'c; c = 'c")
	wantNotAbove(t, "'a -> 'a", "'a -> 'b")
	wantNotAbove(t, "int", "'a")
	wantNotAbove(t, "int", "text")
	wantNotAbove(t, "int", "P.int")
	wantNotAbove(t, "P.int", "Q.int")
	wantNotAbove(t, "list('a)", "'a")
	wantNotAbove(t, "list('a)", "list('a, 'b)")
	wantNotAbove(t, "list('a)", "list")
	wantNotAbove(t, "('a, 'b)", "('a, 'b, 'c)")
	wantNotAbove(t, "()", "('a, 'b)")
	wantNotAbove(t, "('a, 'b)", "'a -> 'b")
	wantNotAbove(t, "('a, 'b, 'a)", "(int, int, text)")
	wantNotAbove(t, "('a, 'a)", "('a, 'b)")
	wantNotAbove(t, "('a, ('b, 'a))", "(int, (int, 'a))")
	wantNotAbove(t, "'a -> int", "'a -> 'b")
	wantNotAbove(t, "('a, list('a))", "(list(int), list(text))")
}

// P14.3: two are the same, but for names.
func TestSame(t *testing.T) {
	for _, x := range [][2]string{{"int", "int"}, {"'a", "'b"}, {"'a -> 'b", "'b -> 'a"}, {"('a, 'b, 'a)", "('x, 'a, 'x)"}, {"P.t('a)", "P.t('a)"}} {
		if a, b := typ(t, x[0]), typ(t, x[1]); !scheme.Same(a, b) || !scheme.Same(b, a) {
			t.Fatal(x)
		}
	}
	for _, x := range [][2]string{{"'a", "int"}, {"'a -> 'b", "'a -> 'a"}, {"('a, 'b)", "(int, 'b)"}, {"int", "text"}, {"'a", "list('a)"}} {
		if a, b := typ(t, x[0]), typ(t, x[1]); scheme.Same(a, b) || scheme.Same(b, a) {
			t.Fatal(x)
		}
	}
}

func wantNames(t *testing.T, got []string, wanted string) {
	t.Helper()
	if !slices.Equal(got, strings.Fields(wanted)) {
		t.Fatalf("%q, not %s", got, wanted)
	}
}

// P14.4: whose types are in one.
func TestLinesAndOwn(t *testing.T) {
	for _, x := range []struct{ source, lines, own string }{
		{"int", "", ""}, {"text -> int", "", ""}, {"'a", "", ""}, {"()", "", ""},
		{"t", "", "t"}, {"P.t", "P", ""}, {"P.int", "P", ""}, {"P.text -> text", "P", ""},
		{"(u, t, u)", "", "t u"}, {"Q.a -> (P.b, Q.c)", "P Q", ""}, {"list(R.t(a, P.t(int))) -> ('t, b(a), P.t)", "P R", "a b list"}, {"ints -> int", "", "ints"}, {"int(t)", "", "t"}, {"P.x(y)", "P", "y"},
	} {
		wantNames(t, scheme.Lines(typ(t, x.source)), x.lines)
		wantNames(t, scheme.Own(typ(t, x.source)), x.own)
	}
	by := map[string]string{"A": "b/10", "B": "b/2", "C": "a/0"}
	x := typ(t, "(A.t, B.t, C.t, A.u)")
	for i := range x.Kids {
		x.Kids[i].Pkg = by[x.Kids[i].Pkg]
	}
	wantNames(t, scheme.Lines(x), "a/0 b/10 b/2")
}

// P1: types that go very deep, and what is none, end too.
func TestDeep(t *testing.T) {
	deep := func(x api.Term) api.Term {
		for range 60000 {
			x = api.Term{Kind: api.TyFun, Kids: []api.Term{{Kind: api.TyVar, Name: "b"}, x}}
		}
		return x
	}
	a, b := deep(typ(t, "'a")), deep(typ(t, "P.t('c, t)"))
	if l, right := scheme.Match(a, b); !right || len(l) != 2 || l[0].Name != "b" || raw(l[1].Type) != raw(typ(t, "P.t('c, t)")) || scheme.Above(b, a) || scheme.Same(a, b) || !scheme.Same(b, b) {
		t.Fatal(len(l), right)
	}
	wantNames(t, scheme.Lines(b), "P")
	wantNames(t, scheme.Own(b), "t")
	if !scheme.Same(scheme.Canon(b), b) {
		t.Fatal("Canon")
	}
	for _, x := range []api.Term{{}, {Kind: 99, Pkg: "P", Kids: []api.Term{{Kind: api.TyVar}}}, {Kind: api.TyVar, Name: "a", Kids: []api.Term{{Kind: api.TyVar, Name: "q"}}}} {
		scheme.Canon(x)
		scheme.Match(x, a)
		scheme.Match(a, x)
		scheme.Match(x, x)
		scheme.Lines(x)
		scheme.Own(x)
	}
}
