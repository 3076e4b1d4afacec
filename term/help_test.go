package term_test

import (
	"fmt"
	"math/rand/v2"
	"regexp"
	"slices"
	"strings"
	"testing"

	"touchstone/api"
)

// of is a term of a kind, a name and Kids.
func of(kind int, name string, kids ...api.Term) api.Term {
	return api.Term{Kind: kind, Name: name, Kids: kids}
}

func in(pkg string, t api.Term) api.Term {
	t.Pkg = pkg
	return t
}

func number(kind, n int) api.Term { return api.Term{Kind: kind, N: n} }

// Types, patterns and expressions that are right, by short names.
func tv(name string) api.Term                       { return of(api.TyVar, name) }
func tc(name string, kids ...api.Term) api.Term     { return of(api.TyCon, name, kids...) }
func arrow(a, b api.Term) api.Term                  { return of(api.TyFun, "", a, b) }
func tt(kids ...api.Term) api.Term                  { return of(api.TyTuple, "", kids...) }
func pv(name string) api.Term                       { return of(api.PaVar, name) }
func pc(name string, kids ...api.Term) api.Term     { return of(api.PaCon, name, kids...) }
func pt(kids ...api.Term) api.Term                  { return of(api.PaTuple, "", kids...) }
func ev(name string) api.Term                       { return of(api.ExVar, name) }
func ec(name string, kids ...api.Term) api.Term     { return of(api.ExCon, name, kids...) }
func et(kids ...api.Term) api.Term                  { return of(api.ExTuple, "", kids...) }
func fun(name string, b api.Term) api.Term          { return of(api.ExFun, name, b) }
func apply(a, b api.Term) api.Term                  { return of(api.ExApp, "", a, b) }
func let(name string, kids ...api.Term) api.Term    { return of(api.ExLet, name, kids...) }
func match(kids ...api.Term) api.Term               { return of(api.ExMatch, "", kids...) }
func ann(e, t api.Term) api.Term                    { return of(api.ExAnn, "", e, t) }
func pa() api.Term                                  { return api.Term{Kind: api.PaAny} }
func letRec(name string, kids ...api.Term) api.Term { return rec(let(name, kids...)) }

func rec(t api.Term) api.Term {
	t.N = 1
	return t
}

const (
	mostInt = 999999999999999999
	maxText = 1000
)

func types() []int    { return []int{api.TyVar, api.TyCon, api.TyFun, api.TyTuple} }
func patterns() []int { return []int{11, 12, 13, 14, 15, 16} }
func exprs() []int    { return []int{21, 22, 23, 24, 25, 26, 27, 28, 29, 30} }

// strangers are kinds that are none of a term.
func strangers() []int {
	return []int{-1 << 63, -30, -1, 0, 5, 6, 10, 17, 20, 31, 32, 99, 1<<63 - 1}
}

// The names that tokens may tell, told a second time.
var (
	lowerForm = regexp.MustCompile(`^(?:[a-z]|_[A-Za-z0-9_'])[A-Za-z0-9_']*$`)
	upperForm = regexp.MustCompile(`^[A-Z][A-Za-z0-9_']*$`)
	varForm   = regexp.MustCompile(`^[a-z][A-Za-z0-9_]*$`)
	textForm  = regexp.MustCompile(`^[ -~\t\n]*$`)
	keywords  = strings.Fields("import type alias let rec in fun match with end export")
)

func mayLower(s string) bool {
	return lowerForm.MatchString(s) && len(s) <= 30 && !slices.Contains(keywords, s)
}
func mayUpper(s string) bool { return upperForm.MatchString(s) && len(s) <= 30 }
func mayVar(s string) bool   { return varForm.MatchString(s) && len("'"+s) <= 30 }
func maySay(s string) bool   { return textForm.MatchString(s) && len(s) <= maxText }

// names are right and wrong ones, of each kind of tokens.
func names() []string {
	l := []string{"", "a", "z", "_", "_a", "__", "_'", "a'", "a_B0'", "A", "Z", "A'", "'a", "''", "0", "a b", "a ", " a", "a.b", "P.a", "a-", "ä", "\xFF", "a\n", "\n", "\r", "a\x00", "\x7F", "\"", "\\", "~", "#", "->", "1.2.3", "-1", "int", "text", "lets"}
	for _, s := range keywords {
		l = append(l, s, s+"'", strings.ToUpper(s))
	}
	for _, n := range []int{29, 30, 31, 999, 1000, 1001} {
		l = append(l, strings.Repeat("a", n), strings.Repeat("A", n), strings.Repeat("'", n), "_"+strings.Repeat("_", n-1))
	}
	return l
}

// kind tells which of the three a term is, a second time: by a list of what each kind may have.
func kind(t api.Term) string {
	pkg := t.Pkg == ""
	if slices.Contains([]int{api.TyCon, api.PaCon, api.ExCon, api.ExVar}, t.Kind) {
		pkg = pkg || mayUpper(t.Pkg)
	}
	return whenAll(t, pkg && mayName(t) && mayNumber(t))
}

func mayName(t api.Term) bool {
	switch t.Kind {
	case api.TyVar:
		return mayVar(t.Name)
	case api.TyCon, api.PaVar, api.ExVar, api.ExFun, api.ExLet:
		return mayLower(t.Name)
	case api.PaCon, api.ExCon:
		return mayUpper(t.Name)
	case api.PaText, api.ExText:
		return maySay(t.Name)
	}
	return t.Name == ""
}

func mayNumber(t api.Term) bool {
	switch t.Kind {
	case api.PaInt, api.ExInt:
		return t.N >= -mostInt && t.N <= mostInt
	case api.ExLet:
		return t.N == 0 || t.N == 1
	}
	return t.N == 0
}

// kidsForms are what Kids each kind may have, a letter each.
var kidsForms = map[int]*regexp.Regexp{
	api.TyVar: regexp.MustCompile("^$"), api.TyCon: regexp.MustCompile("^t*$"), api.TyFun: regexp.MustCompile("^tt$"), api.TyTuple: regexp.MustCompile("^$|^tt+$"),
	api.PaAny: regexp.MustCompile("^$"), api.PaVar: regexp.MustCompile("^$"), api.PaInt: regexp.MustCompile("^$"), api.PaText: regexp.MustCompile("^$"), api.PaCon: regexp.MustCompile("^p*$"), api.PaTuple: regexp.MustCompile("^$|^pp+$"),
	api.ExVar: regexp.MustCompile("^$"), api.ExInt: regexp.MustCompile("^$"), api.ExText: regexp.MustCompile("^$"), api.ExCon: regexp.MustCompile("^e*$"), api.ExTuple: regexp.MustCompile("^$|^ee+$"), api.ExFun: regexp.MustCompile("^e$"), api.ExApp: regexp.MustCompile("^ee$"),
	api.ExLet: regexp.MustCompile("^eet?$"), api.ExMatch: regexp.MustCompile("^e(?:pe)+$"), api.ExAnn: regexp.MustCompile("^et$"),
}

// whenAll asks for Kids: their kinds, a letter each.
func whenAll(t api.Term, right bool) string {
	kids := ""
	for _, k := range t.Kids {
		kids += kind(k)
	}
	form, known := kidsForms[t.Kind]
	switch {
	case !known || !right || !form.MatchString(kids):
		return "-"
	case t.Kind < api.PaAny:
		return "t"
	case t.Kind < api.ExVar:
		return "p"
	}
	return "e"
}

func pick[T any](d *rand.Rand, l ...T) T { return l[d.IntN(len(l))] }

func someKids(d *rand.Rand, n int, one func() api.Term) []api.Term {
	var l []api.Term
	for range n {
		l = append(l, one())
	}
	return l
}

// tupled are none, or two and more.
func tupled(d *rand.Rand) int { return pick(d, 0, 2, 2, 3) }

func someType(d *rand.Rand, depth int) api.Term {
	one := func() api.Term { return someType(d, depth-1) }
	if depth <= 0 {
		return pick(d, tv(pick(d, "a", "b", "c", "d")), tc(pick(d, "int", "t", "a")), in("P", tc("t")), tt())
	}
	switch d.IntN(4) {
	case 0:
		return someType(d, 0)
	case 1:
		return in(pick(d, "", "P", "Q"), tc(pick(d, "list", "a", "t"), someKids(d, d.IntN(4), one)...))
	case 2:
		return arrow(one(), one())
	}
	return tt(someKids(d, tupled(d), one)...)
}

func somePat(d *rand.Rand, depth int) api.Term {
	one := func() api.Term { return somePat(d, depth-1) }
	if depth <= 0 {
		return pick(d, pa(), pv(pick(d, "a", "b", "c", "x", "y")), pv("z"), number(api.PaInt, d.IntN(100)-50), of(api.PaText, pick(d, "", "a", "\n")), pc("Nil"))
	}
	switch d.IntN(3) {
	case 0:
		return somePat(d, 0)
	case 1:
		return in(pick(d, "", "P", "Q"), pc(pick(d, "Cons", "A"), someKids(d, d.IntN(4), one)...))
	}
	return pt(someKids(d, tupled(d), one)...)
}

func someExpr(d *rand.Rand, depth int) api.Term {
	one := func() api.Term { return someExpr(d, depth-1) }
	name := pick(d, "a", "b", "c", "x", "y", "z")
	if depth <= 0 {
		return pick(d, ev(name), ev(name), in("P", ev(name)), number(api.ExInt, d.IntN(100)-50), of(api.ExText, "a"), ec("Nil"), et())
	}
	switch d.IntN(9) {
	case 0:
		return someExpr(d, 0)
	case 1:
		return in(pick(d, "", "P"), ec("Cons", someKids(d, d.IntN(4), one)...))
	case 2:
		return et(someKids(d, tupled(d), one)...)
	case 3:
		return fun(name, one())
	case 4:
		return apply(one(), one())
	case 5:
		return let(name, one(), one())
	case 6:
		return pick(d, letRec(name, one(), one()), let(name, one(), one(), someType(d, 2)), letRec(name, one(), one(), someType(d, 1)))
	case 7:
		l := []api.Term{one()}
		for range 1 + d.IntN(3) {
			l = append(l, somePat(d, 2), one())
		}
		return match(l...)
	}
	return ann(one(), someType(d, 2))
}

func someTerm(d *rand.Rand) api.Term {
	return pick(d, someType(d, 4), somePat(d, 3), someExpr(d, 4))
}

// parts are pointers to all terms in a term, itself the first one.
func parts(t *api.Term) []*api.Term {
	l := []*api.Term{t}
	for i := range t.Kids {
		l = append(l, parts(&t.Kids[i])...)
	}
	return l
}

func clone(t api.Term) api.Term {
	t.Kids = slices.Clone(t.Kids)
	for i := range t.Kids {
		t.Kids[i] = clone(t.Kids[i])
	}
	return t
}

// spoil makes a term another one, in one place.
func spoil(d *rand.Rand, t api.Term) api.Term {
	t = clone(t)
	p := pick(d, parts(&t)...)
	switch d.IntN(6) {
	case 0:
		p.Kind = pick(d, slices.Concat(types(), patterns(), exprs(), strangers())...)
	case 1:
		p.Pkg = pick(d, names()...)
	case 2:
		p.Name = pick(d, names()...)
	case 3:
		p.N = pick(d, 0, 1, 2, -1, mostInt, -mostInt, mostInt+1, -mostInt-1, 1<<63-1, -1<<63)
	case 4:
		p.Kids = append(p.Kids, someTerm(d))
	case 5:
		if len(p.Kids) > 0 {
			p.Kids = slices.Delete(p.Kids, 0, 1)
		}
	}
	return t
}

// told is all that is in a term, as a text.
func told(t api.Term) string {
	s := fmt.Sprintf("%d %q %q %d (", t.Kind, t.Pkg, t.Name, t.N)
	for _, k := range t.Kids {
		s += told(k)
	}
	return s + ")"
}

func wantTerm(t *testing.T, got, wanted api.Term) {
	t.Helper()
	if told(got) != told(wanted) {
		t.Fatalf("%.500s, not %.500s", told(got), told(wanted))
	}
}

func wantNames(t *testing.T, got []string, wanted ...string) {
	t.Helper()
	if !slices.Equal(got, wanted) {
		t.Fatalf("%.300q, not %.300q", got, wanted)
	}
}

// deep is a term within another one, so many times.
func deep(n int, t api.Term, around func(api.Term) api.Term) api.Term {
	for range n {
		t = around(t)
	}
	return t
}
