package parse_test

import (
	"fmt"
	"strings"
	"testing"

	"touchstone/api"
	"touchstone/parse"
)

// of is a term of a kind, a name and Kids.
func of(kind int, name string, kids ...api.Term) api.Term {
	return api.Term{Kind: kind, Name: name, Kids: kids}
}

func in(pkg string, t api.Term) api.Term {
	t.Pkg = pkg
	return t
}

func rec(t api.Term) api.Term {
	t.N = 1
	return t
}

// Types, patterns and expressions, by short names.
func tv(name string) api.Term                    { return of(api.TyVar, name) }
func tc(name string, kids ...api.Term) api.Term  { return of(api.TyCon, name, kids...) }
func arrow(a, b api.Term) api.Term               { return of(api.TyFun, "", a, b) }
func tt(kids ...api.Term) api.Term               { return of(api.TyTuple, "", kids...) }
func pa() api.Term                               { return of(api.PaAny, "") }
func pv(name string) api.Term                    { return of(api.PaVar, name) }
func pn(n int) api.Term                          { return api.Term{Kind: api.PaInt, N: n} }
func ps(s string) api.Term                       { return of(api.PaText, s) }
func pc(name string, kids ...api.Term) api.Term  { return of(api.PaCon, name, kids...) }
func pt(kids ...api.Term) api.Term               { return of(api.PaTuple, "", kids...) }
func ev(name string) api.Term                    { return of(api.ExVar, name) }
func en(n int) api.Term                          { return api.Term{Kind: api.ExInt, N: n} }
func es(s string) api.Term                       { return of(api.ExText, s) }
func ec(name string, kids ...api.Term) api.Term  { return of(api.ExCon, name, kids...) }
func et(kids ...api.Term) api.Term               { return of(api.ExTuple, "", kids...) }
func fun(name string, b api.Term) api.Term       { return of(api.ExFun, name, b) }
func let(name string, kids ...api.Term) api.Term { return of(api.ExLet, name, kids...) }
func match(kids ...api.Term) api.Term            { return of(api.ExMatch, "", kids...) }
func ann(e, t api.Term) api.Term                 { return of(api.ExAnn, "", e, t) }

// apply is the first one, applied to the others, from the left.
func apply(l ...api.Term) api.Term {
	t := l[0]
	for _, a := range l[1:] {
		t = of(api.ExApp, "", t, a)
	}
	return t
}

// told is all that is in a term, as a text.
func told(t api.Term) string {
	s := fmt.Sprintf("%d %q %q %d (", t.Kind, t.Pkg, t.Name, t.N)
	for _, k := range t.Kids {
		s += told(k)
	}
	return s + ")"
}

func toldAll(l []api.Term) string {
	s := "["
	for _, t := range l {
		s += told(t)
	}
	return s + "]"
}

// toldModule is all that is in a module, as a text.
func toldModule(m api.Module) string {
	s := ""
	for _, x := range m.Imports {
		s += fmt.Sprintf("import %q %+v\n", x.As, x.Pin)
	}
	for _, x := range m.Types {
		s += fmt.Sprintf("type %q %q", x.Name, x.Params)
		for _, c := range x.Cons {
			s += fmt.Sprintf(" | %q %s", c.Name, toldAll(c.Args))
		}
		s += "\n"
	}
	for _, x := range m.Aliases {
		s += fmt.Sprintf("alias %q %q %s\n", x.Name, x.Params, told(x.Type))
	}
	for _, x := range m.Lets {
		s += fmt.Sprintf("let %q %s %s\n", x.Name, toldAll(x.Ann), told(x.Body))
	}
	for _, x := range m.Exports {
		s += fmt.Sprintf("export %v %q %s\n", x.Type, x.Name, toldAll(x.Ann))
	}
	return s
}

// reader is one of the three calls: what it reads is told as a text.
type reader func(s string) (string, int, api.Errno)

func readType(s string) (string, int, api.Errno) {
	t, at, e := parse.Type(s)
	return told(t), at, e
}

func readExpr(s string) (string, int, api.Errno) {
	t, at, e := parse.Expr(s)
	return told(t), at, e
}

func readModule(s string) (string, int, api.Errno) {
	m, at, e := parse.Module(s)
	return toldModule(m), at, e
}

func want(t *testing.T, read reader, s, wanted string) {
	t.Helper()
	if got, at, e := read(s); got != wanted || at != 0 || e != api.OK {
		t.Fatalf("%.300q: %.500s, %d, %v, not %.500s", s, got, at, e, wanted)
	}
}

func wantType(t *testing.T, s string, wanted api.Term) {
	t.Helper()
	want(t, readType, s, told(wanted))
}

func wantExpr(t *testing.T, s string, wanted api.Term) {
	t.Helper()
	want(t, readExpr, s, told(wanted))
}

// wantPat reads a pattern within a match.
func wantPat(t *testing.T, s string, wanted api.Term) {
	t.Helper()
	wantExpr(t, "match x with "+s+" -> y end", match(ev("x"), wanted, ev("y")))
}

func wantModule(t *testing.T, s string, wanted api.Module) {
	t.Helper()
	want(t, readModule, s, toldModule(wanted))
}

// wantFault asks for an error, and for nothing else beside it.
func wantFault(t *testing.T, read reader, s string, wantedAt int, wanted api.Errno) {
	t.Helper()
	got, at, e := read(s)
	if got != told(api.Term{}) && got != toldModule(api.Module{}) || at != wantedAt || e != wanted {
		t.Fatalf("%.400q: %.300s, %d, %v, not %d, %v", s, got, at, e, wantedAt, wanted)
	}
}

// wantForm takes a source with a mark ahead of the byte at which ErrForm comes.
func wantForm(t *testing.T, read reader, l ...string) {
	t.Helper()
	for _, s := range l {
		ahead, behind, _ := strings.Cut(s, "!")
		wantFault(t, read, ahead+behind, len(ahead), api.ErrForm)
	}
}

// wantLimit is likewise of ErrLimit.
func wantLimit(t *testing.T, read reader, l ...string) {
	t.Helper()
	for _, s := range l {
		ahead, behind, _ := strings.Cut(s, "!")
		wantFault(t, read, ahead+behind, len(ahead), api.ErrLimit)
	}
}

// wantRead asks for no error.
func wantRead(t *testing.T, read reader, l ...string) {
	t.Helper()
	for _, s := range l {
		if _, at, e := read(s); at != 0 || e != api.OK {
			t.Fatalf("%.400q: %d, %v", s, at, e)
		}
	}
}
