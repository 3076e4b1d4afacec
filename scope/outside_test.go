package scope_test

import (
	"math"
	"testing"

	"touchstone/api"
	"touchstone/scope"
)

// P10.2: a line's text.
func TestLineText(t *testing.T) {
	for _, x := range []struct {
		pkg    string
		major  int
		wanted string
	}{{"list", 1, "list/1"}, {"a", 0, "a/0"}, {"a", -1, "a/0"}, {"a", math.MinInt, "a/0"}, {"b2", 10, "b2/10"}, {"b", 999999, "b/999999"}, {"b", 1000000, "b/1000000"}, {"", 3, "/3"}} {
		if got := scope.LineText(api.Line{Pkg: x.pkg, Major: x.major}); got != x.wanted {
			t.Fatalf("%s %d: %q", x.pkg, x.major, got)
		}
	}
}

const inside = "import R = r@2.0.0; type t('a) = A('a, int, t(u), R.s(u), text) | B; type u = C(u -> (u, t(int))) | D(u(int)); let f : t('a) -> 'a -> u = 0; let g : (int, text, R.u) = 0; let h : int(u) = 0; let i : 'a = 0;"

const outside = "type t('a) = A('a, int, L.t(L.u), R.s(L.u), text) | B; type u = C(L.u -> (L.u, L.t(int))) | D(L.u(int)); let f : L.t('a) -> 'a -> L.u = 0; let g : (int, text, R.u) = 0; let h : int(L.u) = 0; let i : 'a = 0;"

// P10.2: types of its own are seen with the line; int, text and such of other lines as they are.
func TestOutside(t *testing.T) {
	for _, l := range []api.Line{{Pkg: "list", Major: 1}, {Pkg: "r", Major: -5}, {Pkg: "a", Major: 999999}} {
		i := dep(t, inside)
		before := raw(i)
		got := scope.Outside(i, l)
		wanted := dep(t, outside)
		by := map[string]string{"L": scope.LineText(l), "R": "R"}
		for n := range wanted.Types {
			for c := range wanted.Types[n].Cons {
				wanted.Types[n].Cons[c].Args = requalifiedAll(wanted.Types[n].Cons[c].Args, by)
			}
		}
		for n := range wanted.Vals {
			wanted.Vals[n].Type = requalified(wanted.Vals[n].Type, by)
		}
		if raw(got) != raw(wanted) {
			t.Fatalf("%v: %s", l, raw(got))
		}
		// P10.6: seen twice it is as seen once, also from another line.
		if again := scope.Outside(got, l); raw(again) != raw(wanted) {
			t.Fatalf("%v, again: %s", l, raw(again))
		}
		if again := scope.Outside(got, api.Line{Pkg: "other"}); raw(again) != raw(wanted) {
			t.Fatalf("%v, then other: %s", l, raw(again))
		}
		if raw(i) != before {
			t.Fatal("what was handed in is changed")
		}
		got.Vals[0].Type.Kids[0].Name, got.Types[0].Params[0], got.Types[0].Cons[0].Args[2].Kids[0].Name = "?", "?", "?"
		if raw(i) != before {
			t.Fatal("what is handed out is shared")
		}
	}
	if got := scope.Outside(api.Iface{}, api.Line{Pkg: "a"}); raw(got) != raw(api.Iface{}) {
		t.Fatal(raw(got))
	}
}

// P10.3: all constructors, in order.
func TestCons(t *testing.T) {
	m := module(t, imports+"type t('a, 'b) = A('b, P.unit) | B; alias u = int; type v = Nil(v); let x = 1;")
	deps := []api.Iface{dep(t, list), dep(t, more)}
	before := raw(m) + raw(deps)
	own := []api.Cons{
		{Name: "A", Type: "t", Params: []string{"a", "b"}, Args: []api.Term{{Kind: api.TyVar, Name: "b"}, {Kind: api.TyCon, Pkg: "P", Name: "unit"}}},
		{Name: "B", Type: "t", Params: []string{"a", "b"}},
		{Name: "Nil", Type: "v", Args: []api.Term{{Kind: api.TyCon, Name: "v"}}},
	}
	a := api.Term{Kind: api.TyVar, Name: "a"}
	first := []api.Cons{
		{Pkg: "list/1", Name: "Cons", Type: "list", Params: []string{"a"}, Args: []api.Term{a, {Kind: api.TyCon, Pkg: "list/1", Name: "list", Kids: []api.Term{a}}}},
		{Pkg: "list/1", Name: "Nil", Type: "list", Params: []string{"a"}},
		{Pkg: "list/1", Name: "Unit", Type: "unit"},
	}
	second := []api.Cons{{Pkg: "more/0", Name: "Nil", Type: "list"}}
	wantCons := func(deps []api.Iface, l ...[]api.Cons) {
		t.Helper()
		var wanted []api.Cons
		for _, x := range l {
			wanted = append(wanted, x...)
		}
		if got := scope.Cons(m, deps); raw(got) != raw(wanted) {
			t.Fatalf("%s, not %s", raw(got), raw(wanted))
		}
	}
	wantCons(deps, own, first, second)
	wantCons(append(deps, deps[0]), own, first, second)
	wantCons(deps[:1], own, first)
	wantCons(nil, own)
	if got := scope.Cons(api.Module{}, deps); len(got) != 0 {
		t.Fatal(raw(got))
	}
	// What is handed out is the caller's own, each list of it.
	l := scope.Cons(m, deps)
	l[0].Params[0], l[0].Args[1].Name, l[3].Args[0].Name, l[3].Params[0], l[3].Args[1].Kids[0].Name = "?", "?", "?", "?", "?"
	if raw(m)+raw(deps) != before || l[1].Params[0] != "a" || l[4].Params[0] != "a" {
		t.Fatal("what is handed out is shared")
	}
}
