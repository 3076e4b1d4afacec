package scope_test

import (
	"fmt"
	"math/rand/v2"
	"slices"
	"strings"
	"testing"

	"touchstone/api"
	"touchstone/parse"
	"touchstone/scope"
)

// raw is all that is in a thing, as a text; lists that are nil and empty are alike.
func raw(x any) string { return fmt.Sprintf("%+v", x) }

func module(t *testing.T, source string) api.Module {
	t.Helper()
	m, at, e := parse.Module(source)
	if e != api.OK {
		t.Fatalf("%q: %d, %v", source, at, e)
	}
	return m
}

// dep is an interface, told as a source: its types, and its lets' names and Anns.
func dep(t *testing.T, source string) api.Iface {
	t.Helper()
	m := module(t, source)
	i := api.Iface{Types: m.Types}
	for _, x := range m.Lets {
		i.Vals = append(i.Vals, api.Val{Name: x.Name, Type: x.Ann[0]})
	}
	return i
}

// list is an interface that sources import as P.
const list = "type list('a) = Cons('a, list('a)) | Nil; type unit = Unit; let map : ('a -> 'b) -> list('a) -> list('b) = 0; let nil : list('a) = 0;"

// more is one that they import as Q.
const more = "type list = Nil; let nil : int = 0; let x : text = 0;"

const imports = "import P = list@1.2.0; import Q = more@0.3.4;"

// want asks for an error, and for no module beside it.
func want(t *testing.T, wanted api.Errno, source string, deps ...string) {
	t.Helper()
	var l []api.Iface
	for _, s := range deps {
		l = append(l, dep(t, s))
	}
	m := module(t, source)
	before := raw(m) + raw(l)
	got, e := scope.Resolve(m, l)
	if e != wanted || e != api.OK && raw(got) != raw(api.Module{}) {
		t.Fatalf("%s: %v, not %v; %.300s", source, e, wanted, raw(got))
	}
	if raw(m)+raw(l) != before {
		t.Fatalf("%s: what was handed in is changed", source)
	}
}

// wantAll asks for an error of sources that import both.
func wantAll(t *testing.T, wanted api.Errno, sources ...string) {
	t.Helper()
	for _, s := range sources {
		want(t, wanted, imports+s, list, more)
	}
}

// requalified tells a second time what a term is whose qualifiers are others.
func requalified(x api.Term, by map[string]string) api.Term {
	if x.Pkg != "" {
		x.Pkg = by[x.Pkg]
	}
	x.Kids = slices.Clone(x.Kids)
	for i := range x.Kids {
		x.Kids[i] = requalified(x.Kids[i], by)
	}
	return x
}

func requalifiedAll(l []api.Term, by map[string]string) []api.Term {
	l = slices.Clone(l)
	for i := range l {
		l[i] = requalified(l[i], by)
	}
	return l
}

func requalifiedModule(m api.Module, by map[string]string) api.Module {
	m.Types, m.Aliases, m.Lets, m.Exports = slices.Clone(m.Types), slices.Clone(m.Aliases), slices.Clone(m.Lets), slices.Clone(m.Exports)
	for i := range m.Types {
		m.Types[i].Cons = slices.Clone(m.Types[i].Cons)
		for j := range m.Types[i].Cons {
			c := &m.Types[i].Cons[j]
			c.Args = requalifiedAll(c.Args, by)
		}
	}
	for i := range m.Aliases {
		m.Aliases[i].Type = requalified(m.Aliases[i].Type, by)
	}
	for i := range m.Lets {
		m.Lets[i].Ann, m.Lets[i].Body = requalifiedAll(m.Lets[i].Ann, by), requalified(m.Lets[i].Body, by)
	}
	for i := range m.Exports {
		m.Exports[i].Ann = requalifiedAll(m.Exports[i].Ann, by)
	}
	return m
}

func shuffled[T any](d *rand.Rand, l []T) []T {
	l = slices.Clone(l)
	d.Shuffle(len(l), func(i, j int) { l[i], l[j] = l[j], l[i] })
	return l
}

// someItems are items, of which some are right and some are not, by few names.
func someItems(d *rand.Rand) string {
	pick := func(l ...string) string { return l[d.IntN(len(l))] }
	typ := func() string {
		return pick("int", "t", "u", "'a", "t('a)", "P.list(int)", "P.unit", "Q.list", "(int, 'b)")
	}
	expr := func() string {
		return pick("1", "x", "y", "P.nil", "Q.x", "fun y -> y", "A", "B(1)", "P.Nil", "let x = 1 in x", "match x with P.Cons(y, _) -> y | _ -> x end", "(x : t)", "fun x -> (x, P.map)", "(x : 'a)")
	}
	items := []func() string{
		func() string {
			return "type " + pick("t", "u") + pick("", "('a)") + " = " + pick("A", "A(int)", "B('a)", "C(t, P.unit)")
		},
		func() string { return "alias " + pick("u", "v") + pick("", "('a)") + " = " + typ() },
		func() string { return "let " + pick("x", "y", "z") + pick("", " : "+typ()) + " = " + expr() },
		func() string { return "export " + pick("x", "y", "x : "+typ(), "type t", "type u") },
	}
	var l []string
	for range d.IntN(7) {
		l = append(l, items[d.IntN(len(items))]()+";")
	}
	return strings.Join(l, " ")
}
