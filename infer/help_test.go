package infer_test

import (
	"fmt"
	"math/rand/v2"
	"slices"
	"strings"
	"testing"

	"touchstone/api"
	"touchstone/expand"
	"touchstone/infer"
	"touchstone/parse"
	"touchstone/scheme"
	"touchstone/scope"
	"touchstone/term"
)

// raw is all that is in a thing, as a text; lists that are nil and empty are alike.
func raw(x any) string { return fmt.Sprintf("%+v", x) }

// resolved is a term whose qualifier P is the line p/1.
func resolved(x api.Term) api.Term {
	if x.Pkg == "P" {
		x.Pkg = "p/1"
	}
	x.Kids = slices.Clone(x.Kids)
	for i := range x.Kids {
		x.Kids[i] = resolved(x.Kids[i])
	}
	return x
}

func typ(t *testing.T, s string) api.Term {
	t.Helper()
	x, at, e := parse.Type(s)
	if e != api.OK {
		t.Fatalf("%q: %d, %v", s, at, e)
	}
	return resolved(x)
}

func expr(t *testing.T, s string) api.Term {
	t.Helper()
	x, at, e := parse.Expr(s)
	if e != api.OK {
		t.Fatalf("%q: %d, %v", s, at, e)
	}
	return resolved(x)
}

func parsed(t *testing.T, s string) api.Module {
	t.Helper()
	m, at, e := parse.Module(s)
	if e != api.OK {
		t.Fatalf("%q: %d, %v", s, at, e)
	}
	return m
}

// module is one whose names are resolved and whose aliases are expanded.
func module(t *testing.T, s string, deps ...api.Iface) api.Module {
	t.Helper()
	m, e := scope.Resolve(parsed(t, s), deps)
	if e == api.OK {
		m, e = expand.Module(m)
	}
	if e != api.OK {
		t.Fatalf("%q: %v", s, e)
	}
	return m
}

// dep is an interface, told as a source: its types, and its lets' names and Anns.
func dep(t *testing.T, source string) api.Iface {
	t.Helper()
	m := parsed(t, source)
	i := api.Iface{Types: m.Types}
	for _, x := range m.Lets {
		i.Vals = append(i.Vals, api.Val{Name: x.Name, Type: x.Ann[0]})
	}
	return i
}

// The names that expressions of these tests may use, beside those that they bind.
const (
	data  = "type list('a) = Nil | Cons('a, list('a)); type t = A(int) | B; type two('a, 'b) = Two('b, 'a, int);"
	types = data + " type odd = Odd('z -> 'z, 'y);"
)

func cons(t *testing.T) []api.Cons {
	m := parsed(t, types)
	l := scope.Cons(m, nil)
	return append(l, api.Cons{Pkg: "p/1", Name: "A", Type: "u", Params: []string{"a"}, Args: []api.Term{typ(t, "'a"), typ(t, "P.u('a)")}}, api.Cons{Name: "A", Type: "late"}, api.Cons{Pkg: "p/1", Name: "N", Type: "u", Params: []string{"a"}})
}

func env(t *testing.T) []api.Entry {
	var l []api.Entry
	for _, x := range [][3]string{{"", "id", "'a -> 'a"}, {"", "plus", "int -> int -> int"}, {"", "pair", "'a -> 'b -> ('a, 'b)"}, {"p/1", "id", "int"}, {"p/1", "map", "('a -> 'b) -> P.u('a) -> P.u('b)"}, {"", "any", "'z"}, {"", "id", "text"}, {"p/1", "id", "text"}} {
		l = append(l, api.Entry{Pkg: x[0], Name: x[1], Type: typ(t, x[2])})
	}
	return l
}

// want asks for types of expressions.
func want(t *testing.T, l ...[2]string) {
	t.Helper()
	for _, x := range l {
		in, env, cons := expr(t, x[0]), env(t), cons(t)
		before := raw(in) + raw(env) + raw(cons)
		got, e := infer.Expr(in, env, cons)
		if e != api.OK || raw(got) != raw(typ(t, x[1])) {
			t.Fatalf("%s: %s, %v, not %s", x[0], raw(got), e, x[1])
		}
		if raw(in)+raw(env)+raw(cons) != before {
			t.Fatalf("%s: what was handed in is changed", x[0])
		}
	}
}

func wantNone(t *testing.T, wanted api.Errno, l ...string) {
	t.Helper()
	for _, s := range l {
		if got, e := infer.Expr(expr(t, s), env(t), cons(t)); e != wanted || raw(got) != raw(api.Term{}) {
			t.Fatalf("%.300s: %.300s, %v, not %v", s, raw(got), e, wanted)
		}
	}
}

// wantModule asks for a module's types, told as lets' names and types with : between, and ; behind.
func wantModule(t *testing.T, source, wanted string, deps ...api.Iface) {
	t.Helper()
	m := module(t, source, deps...)
	before := raw(m) + raw(deps)
	var vals []api.Val
	for _, x := range strings.Split(wanted, ";") {
		if name, s, is := strings.Cut(x, ":"); is {
			vals = append(vals, api.Val{Name: strings.TrimSpace(name), Type: typ(t, s)})
		}
	}
	got, e := infer.Module(m, deps)
	if e != api.OK || raw(got) != raw(vals) {
		t.Fatalf("%s: %s, %v, not %s", source, raw(got), e, wanted)
	}
	if raw(m)+raw(deps) != before {
		t.Fatalf("%s: what was handed in is changed", source)
	}
}

func wantNoModule(t *testing.T, wanted api.Errno, l ...string) {
	t.Helper()
	for _, s := range l {
		if got, e := infer.Module(module(t, s), nil); e != wanted || len(got) > 0 {
			t.Fatalf("%.300s: %.300s, %v, not %v", s, raw(got), e, wanted)
		}
	}
}

func pick[T any](d *rand.Rand, l ...T) T { return l[d.IntN(len(l))] }

func someType(d *rand.Rand, depth int) api.Term {
	one := func() api.Term { return someType(d, depth-1) }
	if depth <= 0 || d.IntN(4) == 0 {
		return pick(d, api.Term{Kind: api.TyCon, Name: "int"}, api.Term{Kind: api.TyVar, Name: "a"}, api.Term{Kind: api.TyVar, Name: "b"}, api.Term{Kind: api.TyCon, Name: "t"})
	}
	switch d.IntN(4) {
	case 0:
		return api.Term{Kind: api.TyCon, Name: "list", Kids: []api.Term{one()}}
	case 1:
		return api.Term{Kind: api.TyTuple, Kids: []api.Term{one(), one()}}
	}
	return api.Term{Kind: api.TyFun, Kids: []api.Term{one(), one()}}
}

func somePat(d *rand.Rand, depth int) string {
	one := func() string { return somePat(d, depth-1) }
	if depth <= 0 || d.IntN(2) == 0 {
		return pick(d, "_", "x", "y", "f", "1", "Nil", "B")
	}
	return pick(d, "("+one()+", "+one()+")", "Cons("+one()+", "+one()+")", "A("+one()+")", "P.A("+one()+", "+one()+")")
}

// someExpr is one of which each use of a name is bound around, or an entry, but for some.
func someExpr(d *rand.Rand, depth int, bound ...string) string {
	one := func(more ...string) string { return someExpr(d, depth-1, append(slices.Clone(bound), more...)...) }
	if depth <= 0 || d.IntN(8) == 0 {
		if d.IntN(100) == 0 {
			return pick(d, "nowhere", "P.nowhere", "Nowhere")
		}
		if len(bound) > 0 && d.IntN(3) > 0 {
			return pick(d, bound...)
		}
		return pick(d, "1", "2", "id", "id", "any", "P.map", "Nil", "B", "plus", "pair", "P.N", "()")
	}
	x := pick(d, "x", "y", "f")
	ann := ""
	if d.IntN(4) == 0 {
		ann = " : " + told(someType(d, 2))
	}
	switch d.IntN(14) {
	case 0, 1, 2, 3:
		return "(" + one() + ") (" + one() + ")"
	case 4, 5, 6:
		return "fun " + x + " -> " + one(x)
	case 7, 8:
		return "let " + x + ann + " = " + one() + " in " + one(x)
	case 9:
		return "let rec " + x + ann + " = " + one(x) + " in " + one(x)
	case 10:
		return "(" + one() + " : " + told(someType(d, 2)) + ")"
	case 11:
		p, q := somePat(d, 2), somePat(d, 1)
		return "match " + one() + " with " + p + " -> " + one(names(p)...) + " | " + q + " -> " + one(names(q)...) + " end"
	case 12:
		return "(" + one() + ", " + one() + ")"
	}
	return pick(d, "Cons("+one()+", "+one()+")", "A("+one()+")", "Two("+one()+", "+one()+", 1)", "P.A("+one()+", P.N)", "Cons("+one()+", Nil)")
}

// names are the variables of a pattern's text.
func names(p string) []string {
	var l []string
	for _, c := range "xyf" {
		if strings.ContainsRune(p, c) {
			l = append(l, string(c))
		}
	}
	return l
}

// told tells a type as a source.
func told(x api.Term) string {
	var kids []string
	for _, k := range x.Kids {
		kids = append(kids, told(k))
	}
	switch x.Kind {
	case api.TyVar:
		return "'" + x.Name
	case api.TyFun:
		return "(" + kids[0] + ") -> " + kids[1]
	case api.TyTuple:
		return "(" + strings.Join(kids, ", ") + ")"
	}
	if len(kids) > 0 {
		return x.Name + "(" + strings.Join(kids, ", ") + ")"
	}
	return x.Name
}

// special is a type with any types in the place of its variables.
func special(d *rand.Rand, x api.Term) api.Term {
	names := term.Vars(x)
	var by []api.Term
	for range names {
		by = append(by, someType(d, d.IntN(3)))
	}
	return term.Subst(x, names, by)
}

// canon tells a type in its canonical form.
func canon(x api.Term) string { return raw(scheme.Canon(x)) }
