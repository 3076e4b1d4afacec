package print_test

import (
	"fmt"
	"math/rand/v2"
	"slices"
	"strconv"
	"strings"
	"testing"

	"touchstone/api"
	"touchstone/parse"
	"touchstone/print"
)

// of is a term of a kind, a name and Kids.
func of(kind int, name string, kids ...api.Term) api.Term {
	return api.Term{Kind: kind, Name: name, Kids: kids}
}

func in(pkg string, t api.Term) api.Term {
	t.Pkg = pkg
	return t
}

func rec(t api.Term) api.Term {
	t.N = 1
	return t
}

// Types, patterns and expressions, by short names.
func tv(name string) api.Term                    { return of(api.TyVar, name) }
func tc(name string, kids ...api.Term) api.Term  { return of(api.TyCon, name, kids...) }
func arrow(a, b api.Term) api.Term               { return of(api.TyFun, "", a, b) }
func tt(kids ...api.Term) api.Term               { return of(api.TyTuple, "", kids...) }
func pa() api.Term                               { return of(api.PaAny, "") }
func pv(name string) api.Term                    { return of(api.PaVar, name) }
func pn(n int) api.Term                          { return api.Term{Kind: api.PaInt, N: n} }
func ps(s string) api.Term                       { return of(api.PaText, s) }
func pc(name string, kids ...api.Term) api.Term  { return of(api.PaCon, name, kids...) }
func pt(kids ...api.Term) api.Term               { return of(api.PaTuple, "", kids...) }
func ev(name string) api.Term                    { return of(api.ExVar, name) }
func en(n int) api.Term                          { return api.Term{Kind: api.ExInt, N: n} }
func es(s string) api.Term                       { return of(api.ExText, s) }
func ec(name string, kids ...api.Term) api.Term  { return of(api.ExCon, name, kids...) }
func et(kids ...api.Term) api.Term               { return of(api.ExTuple, "", kids...) }
func fun(name string, b api.Term) api.Term       { return of(api.ExFun, name, b) }
func let(name string, kids ...api.Term) api.Term { return of(api.ExLet, name, kids...) }
func match(kids ...api.Term) api.Term            { return of(api.ExMatch, "", kids...) }
func ann(e, t api.Term) api.Term                 { return of(api.ExAnn, "", e, t) }

// apply is the first one, applied to the others, from the left.
func apply(l ...api.Term) api.Term {
	t := l[0]
	for _, a := range l[1:] {
		t = of(api.ExApp, "", t, a)
	}
	return t
}

func version(major, minor, patch int) api.Version {
	return api.Version{Major: major, Minor: minor, Patch: patch}
}

func imported(as, pkg string, major, minor, patch int) api.Import {
	return api.Import{As: as, Pin: api.Pin{Pkg: pkg, Version: version(major, minor, patch)}}
}

// raw is all that is in a thing, as a text; lists that are nil and empty are alike.
func raw(x any) string { return strings.ReplaceAll(fmt.Sprintf("%+v", x), "<nil>", "[]") }

func wantText(t *testing.T, got, wanted string) {
	t.Helper()
	if got != wanted {
		t.Fatalf("%.400q, not %.400q", got, wanted)
	}
}

func wantModule(t *testing.T, wanted string, m api.Module) {
	t.Helper()
	if got, e := print.Module(m); got != wanted || e != api.OK || !print.Right(m) {
		t.Fatalf("%.400q, %v, not %.400q", got, e, wanted)
	}
}

func wantWrong(t *testing.T, m api.Module) {
	t.Helper()
	if got, e := print.Module(m); got != "" || e != api.ErrArg || print.Right(m) {
		t.Fatalf("%.400s: %.400q, %v, Right %v", raw(m), got, e, print.Right(m))
	}
}

// wantLimit asks for a module that is right, and has no text.
func wantLimit(t *testing.T, m api.Module) {
	t.Helper()
	if got, e := print.Module(m); got != "" || e != api.ErrLimit || !print.Right(m) {
		t.Fatalf("%.400q, %v, Right %v", got, e, print.Right(m))
	}
}

// told tells the chapter's words a second time.
func told(t api.Term) string {
	name := t.Name
	if t.Pkg != "" {
		name = t.Pkg + "." + t.Name
	}
	var kids []string
	for _, k := range t.Kids {
		kids = append(kids, told(k))
	}
	list := "(" + strings.Join(kids, ", ") + ")"
	switch t.Kind {
	case api.TyVar:
		return "'" + name
	case api.PaAny:
		return "_"
	case api.PaInt, api.ExInt:
		return strconv.Itoa(t.N)
	case api.PaText, api.ExText:
		return `"` + strings.NewReplacer("\\", `\\`, "\"", `\"`, "\n", `\n`, "\t", `\t`).Replace(name) + `"`
	case api.TyCon, api.PaCon, api.ExCon, api.PaVar, api.ExVar:
		if len(kids) > 0 {
			return name + list
		}
		return name
	case api.TyTuple, api.PaTuple, api.ExTuple:
		return list
	case api.TyFun:
		return enclosed(kids[0], t.Kids[0], api.TyFun) + " -> " + kids[1]
	case api.ExFun:
		return "fun " + name + " -> " + kids[0]
	case api.ExApp:
		return enclosed(kids[0], t.Kids[0], api.ExFun, api.ExLet, api.ExMatch) + " " + enclosed(kids[1], t.Kids[1], api.ExFun, api.ExLet, api.ExMatch, api.ExApp)
	case api.ExLet:
		return "let " + strings.Repeat("rec ", t.N) + name + strings.Join(append([]string{""}, kids[2:]...), " : ") + " = " + kids[0] + " in " + kids[1]
	case api.ExMatch:
		s := "match " + kids[0] + " with " + kids[1] + " -> " + kids[2]
		for i := 3; i < len(kids); i += 2 {
			s += " | " + kids[i] + " -> " + kids[i+1]
		}
		return s + " end"
	}
	return "(" + kids[0] + " : " + kids[1] + ")"
}

// enclosed is a text in parentheses, if it is one of these kinds, or a constructor alone.
func enclosed(s string, t api.Term, kinds ...int) string {
	if slices.Contains(kinds, t.Kind) || t.Kind == api.ExCon && len(t.Kids) == 0 {
		return "(" + s + ")"
	}
	return s
}

// toldModule tells a module's text a second time.
func toldModule(m api.Module) string {
	s := ""
	for _, x := range m.Imports {
		s += fmt.Sprintf("import %s = %s@%d.%d.%d;\n", x.As, x.Pkg, x.Major, x.Minor, x.Patch)
	}
	params := func(l []string) string {
		if len(l) == 0 {
			return ""
		}
		return "('" + strings.Join(l, ", '") + ")"
	}
	for _, x := range m.Types {
		var cons []string
		for _, c := range x.Cons {
			cons = append(cons, told(of(api.PaCon, c.Name, c.Args...)))
		}
		s += "type " + x.Name + params(x.Params) + " = " + strings.Join(cons, " | ") + ";\n"
	}
	for _, x := range m.Aliases {
		s += "alias " + x.Name + params(x.Params) + " = " + told(x.Type) + ";\n"
	}
	anns := func(l []api.Term) string {
		if len(l) == 0 {
			return ""
		}
		return " : " + told(l[0])
	}
	for _, x := range m.Lets {
		s += "let " + x.Name + anns(x.Ann) + " = " + told(x.Body) + ";\n"
	}
	for _, x := range m.Exports {
		s += "export " + map[bool]string{true: "type "}[x.Type] + x.Name + anns(x.Ann) + ";\n"
	}
	return s
}

func pick[T any](d *rand.Rand, l ...T) T { return l[d.IntN(len(l))] }

func someOf(d *rand.Rand, n int, one func() api.Term) []api.Term {
	var l []api.Term
	for range n {
		l = append(l, one())
	}
	return l
}

func someType(d *rand.Rand, depth int) api.Term {
	one := func() api.Term { return someType(d, depth-1) }
	if depth <= 0 {
		return pick(d, tv("a"), tv("let"), tc("int"), in("P", tc("t")), tt())
	}
	switch d.IntN(4) {
	case 0:
		return someType(d, 0)
	case 1:
		return in(pick(d, "", "P", "Q'"), tc(pick(d, "list", "_t"), someOf(d, d.IntN(4), one)...))
	case 2:
		return arrow(one(), one())
	}
	return tt(someOf(d, pick(d, 0, 2, 3), one)...)
}

func somePat(d *rand.Rand, depth int) api.Term {
	one := func() api.Term { return somePat(d, depth-1) }
	if depth <= 0 {
		return pick(d, pa(), pv("a"), pv("_b"), pn(d.IntN(100)-50), ps(pick(d, "", "a", "\n\"\\\t")), pc("Nil"), pt())
	}
	switch d.IntN(3) {
	case 0:
		return somePat(d, 0)
	case 1:
		return in(pick(d, "", "P"), pc(pick(d, "Cons", "A"), someOf(d, d.IntN(4), one)...))
	}
	return pt(someOf(d, pick(d, 0, 2, 3), one)...)
}

func someExpr(d *rand.Rand, depth int) api.Term {
	one := func() api.Term { return someExpr(d, depth-1) }
	name := pick(d, "a", "x", "_y", "f'")
	if depth <= 0 {
		return pick(d, ev(name), in("P", ev(name)), en(d.IntN(100)-50), es(pick(d, "", "a b", "\t\\--")), ec("Nil"), in("Q", ec("A")), et())
	}
	switch d.IntN(10) {
	case 0:
		return someExpr(d, 0)
	case 1:
		return in(pick(d, "", "P"), ec("Cons", someOf(d, d.IntN(4), one)...))
	case 2:
		return et(someOf(d, pick(d, 0, 2, 3), one)...)
	case 3:
		return fun(name, one())
	case 4, 5:
		return apply(someOf(d, 2+d.IntN(3), one)...)
	case 6:
		t := pick(d, let(name, one(), one()), let(name, one(), one(), someType(d, 2)))
		t.N = d.IntN(2)
		return t
	case 7:
		l := []api.Term{one()}
		for range 1 + d.IntN(3) {
			l = append(l, somePat(d, 2), one())
		}
		return match(l...)
	}
	return ann(one(), someType(d, 2))
}

func someModule(d *rand.Rand) api.Module {
	var m api.Module
	name := func() string { return pick(d, "a", "t", "_x", "int") }
	params := func() []string { return pick(d, nil, []string{"a"}, []string{"a", "b", "a"}) }
	anns := func() []api.Term { return someOf(d, d.IntN(2), func() api.Term { return someType(d, 2) }) }
	for range d.IntN(3) {
		m.Imports = append(m.Imports, imported(pick(d, "P", "Q'"), pick(d, "a", "b2"), d.IntN(3), d.IntN(1000), d.IntN(1000000)))
	}
	for range d.IntN(3) {
		x := api.TypeDef{Name: name(), Params: params()}
		for range 1 + d.IntN(3) {
			x.Cons = append(x.Cons, api.Con{Name: pick(d, "A", "B_"), Args: someOf(d, d.IntN(3), func() api.Term { return someType(d, 2) })})
		}
		m.Types = append(m.Types, x)
	}
	for range d.IntN(3) {
		m.Aliases = append(m.Aliases, api.Alias{Name: name(), Params: params(), Type: someType(d, 3)})
	}
	for range d.IntN(3) {
		m.Lets = append(m.Lets, api.Let{Name: name(), Ann: anns(), Body: someExpr(d, 3)})
	}
	for range d.IntN(3) {
		m.Exports = append(m.Exports, api.Export{Name: name(), Ann: anns()}, api.Export{Type: true, Name: name()})
	}
	return m
}

// wantBack asks P9.3 of a module.
func wantBack(t *testing.T, m api.Module) {
	t.Helper()
	s, e := print.Module(m)
	if e != api.OK {
		t.Fatalf("%.400s: %v", raw(m), e)
	}
	got, at, e := parse.Module(s)
	if raw(got) != raw(m) || at != 0 || e != api.OK {
		t.Fatalf("%.400q is read as %.400s, %d, %v", s, raw(got), at, e)
	}
}
