package parse_test

import (
	"math/rand/v2"
	"strings"
	"testing"

	"touchstone/api"
	"touchstone/lex"
	"touchstone/parse"
	"touchstone/term"
)

// allowed is a call, and the name of what it reads in the grammar.
type allowed struct {
	read  reader
	begin string
}

var (
	asModule = allowed{readModule, "module"}
	asType   = allowed{readType, "type"}
	asExpr   = allowed{readExpr, "expr"}
)

// wantGrammar holds what is told of a source against the second telling; it answers whether it is read.
func wantGrammar(t *testing.T, x allowed, s string) bool {
	t.Helper()
	at, e := fault(s, x.begin)
	if e != api.OK {
		wantFault(t, x.read, s, at, e)
		return false
	}
	wantRead(t, x.read, s)
	return true
}

// others are tokens that are put where another one stands.
func others() []string {
	return []string{"x", "_y", "X", "'a", "1", "-2", `"a"`, "1.2.3", "import", "type", "alias", "let", "rec", "in", "fun", "match", "with", "end", "export", "=", "|", "->", "(", ")", ",", ";", ":", ".", "@", "_"}
}

// near are sources that one change makes of a source: a token left out, doubled, another one in its place or ahead of it, two changed for one another; and what ends ahead of a token.
func near(s string) []string {
	tokens, _, _ := lex.Lex(s)
	var words, l []string
	for _, x := range tokens {
		told, _ := lex.Tell(x)
		words = append(words, told)
	}
	join := func(parts ...[]string) {
		var all []string
		for _, p := range parts {
			all = append(all, p...)
		}
		l = append(l, strings.Join(all, " "))
	}
	for i := range words {
		join(words[:i])
		join(words[:i], words[i+1:])
		join(words[:i+1], words[i:])
		if i > 0 {
			join(words[:i-1], words[i:i+1], words[i-1:i], words[i+1:])
		}
		for _, x := range others() {
			join(words[:i], []string{x}, words[i+1:])
			join(words[:i], []string{x}, words[i:])
		}
	}
	return l
}

// rightSources have each row of what may stand, each of its parts with and without.
func rightSources() map[string]allowed {
	return map[string]allowed{
		`import P = a@1.0.0; type t = A; alias u = int; let x = 1; export type t; export x;`:                                                    asModule,
		`import P = a@1.0.0; import Q = b0@2.3.4; type t('a, 'b) = A('a, P.t('b)) | B | C(int);`:                                                asModule,
		`alias p('a) = ('a, int) -> 'a; alias q('a, 'b, 'c) = (); let f : 'a -> 'a = fun x -> x; export f : int -> int; export f;`:              asModule,
		`let x = match P.f 1 with A(a, _) -> (a : int) | (_, ()) -> let rec y : t = x in y | P.B -> "a" end; export x;`:                         asModule,
		`'a -> (P.t('b, int) -> ()) -> (int, list('a), (int))`:                                                                                  asType,
		`f (g 1) x A P.B(x, y) P.z (x : 'a -> t) () (1, "a") ((x))`:                                                                             asExpr,
		`let x = fun y -> y 1 in let rec z : t('a) = match x with _ -> x | 1 -> z | "a" -> y | (a, B(c, P.D)) -> () end in A(z, fun x -> x)`:    asExpr,
		`match match x with A -> 1 end with a -> fun x -> match x with () -> x | _ -> f x end | P.B(_, -1) -> (let x : int = 1 in x : P.t) end`: asExpr,
		`fun f -> f (fun x -> x) (let x = 1 in x) (match x with _ -> x end)`:                                                                    asExpr,
		`(A, P.A, P.a, A(x), P.A(x, x), A x, A P.x (x))`:                                                                                        asExpr,
	}
}

// P8.1, P8.2: each token of a right source left out, doubled, or another one in its place: which error, and at which byte.
func TestNear(t *testing.T) {
	read, all := 0, 0
	for s, x := range rightSources() {
		if !wantGrammar(t, x, s) {
			t.Fatalf("%q is not read", s)
		}
		for _, y := range near(s) {
			all++
			if wantGrammar(t, x, y) {
				read++
			}
		}
	}
	if read < 1000 || all < 15000 || read > all/2 {
		t.Fatalf("%d of %d are read", read, all)
	}
}

// P8.1, P8.2: any tokens behind one another, and each beginning of them.
func TestAnyTokens(t *testing.T) {
	d := rand.New(rand.NewPCG(8, 1))
	l := others()
	for range 30000 {
		var words []string
		for range d.IntN(8) {
			words = append(words, l[d.IntN(len(l))])
		}
		s := strings.Join(words, " ")
		wantGrammar(t, asModule, s)
		wantGrammar(t, asType, s)
		wantGrammar(t, asExpr, s)
		wantGrammar(t, asModule, "let x = "+s)
		wantGrammar(t, asExpr, "match x with "+s)
	}
}

// P8.1, P8.2: sources that go on by what may come, for as long as they may, and then by anything.
func TestGoingOn(t *testing.T) {
	d := rand.New(rand.NewPCG(8, 2))
	l := others()
	limits := 0
	for range 12 {
		for _, x := range []allowed{asModule, asType, asExpr} {
			s := ""
			for range 130 {
				next := l[d.IntN(len(l))]
				if d.IntN(3) > 0 {
					next = []string{"(", "A", "(", "f", "fun x ->", "let x =", "match", "t(", "'a ->", ","}[d.IntN(10)]
				}
				at, e := fault(s+next+" ", x.begin)
				limits += map[bool]int{true: 1}[e == api.ErrLimit]
				wantGrammar(t, x, s+next+" ")
				if e == api.OK || at >= len(s+next) {
					s += next + " "
				}
			}
		}
	}
	if limits < 30 {
		t.Fatalf("%d limits", limits)
	}
}

// P8.1: a fault of lex and one of parse in one source: that of lex is told, wherever it is.
func TestFaultOfBoth(t *testing.T) {
	for s, x := range rightSources() {
		for _, fault := range []string{"#", "\"a", "'", "-0", "\r", "- "} {
			at := len(s) + 1
			wantFault(t, x.read, s+" "+fault, at, api.ErrForm)
			wantFault(t, x.read, ") = "+s+" "+fault, at+4, api.ErrForm)
			wantFault(t, x.read, fault+"\n"+s, 0, api.ErrForm)
			wantFault(t, x.read, strings.Repeat("( ", 50)+s+" "+fault, at+100, api.ErrForm)
		}
	}
}

// P8.3: what is read are types and expressions.
func TestKindsRead(t *testing.T) {
	for s, x := range rightSources() {
		for _, y := range append(near(s), s) {
			switch x.begin {
			case "type":
				if got, _, e := parse.Type(y); (e == api.OK) != term.IsType(got) {
					t.Fatalf("%q: %s, %v", y, told(got), e)
				}
			case "expr":
				if got, _, e := parse.Expr(y); (e == api.OK) != term.IsExpr(got) {
					t.Fatalf("%q: %s, %v", y, told(got), e)
				}
			case "module":
				m, _, _ := parse.Module(y)
				wantKinds(t, y, m)
			}
		}
	}
}

func wantKinds(t *testing.T, s string, m api.Module) {
	t.Helper()
	var types, exprs []api.Term
	for _, x := range m.Types {
		for _, c := range x.Cons {
			types = append(types, c.Args...)
		}
	}
	for _, x := range m.Aliases {
		types = append(types, x.Type)
	}
	for _, x := range m.Lets {
		types, exprs = append(types, x.Ann...), append(exprs, x.Body)
	}
	for _, x := range m.Exports {
		types = append(types, x.Ann...)
	}
	for _, x := range types {
		if !term.IsType(x) {
			t.Fatalf("%q: %s", s, told(x))
		}
	}
	for _, x := range exprs {
		if !term.IsExpr(x) {
			t.Fatalf("%q: %s", s, told(x))
		}
	}
}
