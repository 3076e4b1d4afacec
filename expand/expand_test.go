package expand_test

import (
	"fmt"
	"strings"
	"testing"

	"touchstone/api"
	"touchstone/expand"
	"touchstone/term"
)

// P11.1: each alias behind all that it leads to, else as they stand.
func TestOrder(t *testing.T) {
	wantOrder(t, nil, "")
	wantOrder(t, aliases(t, "a = int"), "a")
	wantOrder(t, aliases(t, "a = int", "b = int", "c = int"), "a b c")
	wantOrder(t, aliases(t, "a = b", "b = c", "c = int"), "c b a")
	wantOrder(t, aliases(t, "c = int", "b = c", "a = b"), "c b a")
	wantOrder(t, aliases(t, "a = c", "b = int", "c = int"), "b c a")
	wantOrder(t, aliases(t, "a = d", "b = int", "c = b", "d = int", "e = (a, c)"), "b c d a e")
	wantOrder(t, aliases(t, "a = (int, list(b -> int))", "b = ()", "d = b"), "b a d")
	wantOrder(t, aliases(t, "a = P.b", "b = P.a"), "a b")
	wantOrder(t, aliases(t, "a = int", "b = a", "a = b", "b = b"), "a b")
	wantOrder(t, aliases(t, "b = a", "a = int", "b = c", "c = b"), "a b c")
	wantOrder(t, aliases(t, "a('b) = 'b", "b = a(b2)", "b2 = int"), "a b2 b")
	var l []api.Alias
	wanted := ""
	for i := range 2000 {
		l = append(l, aliases(t, fmt.Sprintf("a%d = a%d", i, i+1))...)
		wanted = fmt.Sprintf("a%d ", i) + wanted
	}
	wantOrder(t, l, wanted)
}

// P11.1, P11.2, P11.3: rings, also such as nothing names.
func TestCycles(t *testing.T) {
	wantCycle(t, aliases(t, "a = a"))
	wantCycle(t, aliases(t, "a('b) = (int, list(a('b)))"))
	wantCycle(t, aliases(t, "a = b", "b = a"))
	wantCycle(t, aliases(t, "b = a", "a = int -> b", "c = int"))
	wantCycle(t, aliases(t, "a = b", "b = c", "c = a"))
	wantCycle(t, aliases(t, "x = int", "y = x", "b = c", "c = (b, y)", "z = b"))
	wantCycle(t, aliases(t, "k('a) = int", "a = k(a)"))
	wantCycle(t, aliases(t, "a = b", "a = int", "b = a"))
	// One that does not count leads nowhere.
	wantOrder(t, aliases(t, "a = int", "a = a"), "a")
}

// P11.2: what stands in the place of what.
func TestType(t *testing.T) {
	l := aliases(t, "pair('a) = ('a, 'a)", "two = pair(int)", "k('a, 'b) = 'a", "swap('a, 'b) = ('b, 'a)", "f('b) = 'b -> swap('b, pair('b))", "u = ()", "id('a) = 'a")
	wantType(t, l, "two", "(int, int)")
	wantType(t, l, "pair(pair(text))", "((text, text), (text, text))")
	wantType(t, l, "k(int, two)", "int")
	wantType(t, l, "k(two, two)", "(int, int)")
	wantType(t, l, "swap(int, text)", "(text, int)")
	wantType(t, l, "swap('b, 'a)", "('a, 'b)")
	wantType(t, l, "f('a)", "'a -> (('a, 'a), 'a)")
	wantType(t, l, "list(two, u) -> P.pair(id(id(int)))", "list((int, int), ()) -> P.pair(int)")
	wantType(t, l, "P.two", "P.two")
	wantType(t, l, "('a, int, other)", "('a, int, other)")
	wantType(t, nil, "pair('a)", "pair('a)")
	wantType(t, l, "pair('pair)", "('pair, 'pair)")
	wantType(t, aliases(t, "a = int", "a = text"), "(a, a)", "(int, int)")
	wantType(t, aliases(t, "int = text", "a = int"), "a -> int", "text -> text")
	wantType(t, aliases(t, "f('t) = (t, 't, list('t), P.t)"), "f(int)", "(t, int, list(int), P.t)")
}

// P11.2: a Kid too few or too many, and Params that are alike.
func TestUneven(t *testing.T) {
	l := aliases(t, "k('a, 'b) = ('a, 'b)", "e = k", "g('b) = k(int)", "h('a) = k('a)", "same('a, 'a) = ('a, 'a)", "free('a) = ('a, 'c)", "v = 'a")
	wantType(t, l, "k(int)", "(int, 'b)")
	wantType(t, l, "k", "('a, 'b)")
	wantType(t, l, "k(int, text, list(k))", "(int, text)")
	wantType(t, l, "e", "('a, 'b)")
	wantType(t, l, "e(int, text)", "('a, 'b)")
	wantType(t, l, "g(text)", "(int, 'b)")
	wantType(t, l, "h(text)", "(text, 'b)")
	wantType(t, l, "same(int, text)", "(int, int)")
	wantType(t, l, "same(int)", "(int, int)")
	wantType(t, l, "same", "('a, 'a)")
	wantType(t, l, "free(int)", "(int, 'c)")
	wantType(t, l, "free('c)", "('c, 'c)")
	wantType(t, l, "k('b)", "('b, 'b)")
	wantType(t, l, "id(v)", "id('a)")
}

// wide is a tuple of so many terms in all.
func wide(n int) api.Term {
	x := api.Term{Kind: api.TyTuple}
	for range n - 1 {
		x.Kids = append(x.Kids, api.Term{Kind: api.TyCon, Name: "int"})
	}
	return x
}

// P11.2: MaxType terms, and one more.
func TestLimit(t *testing.T) {
	for _, n := range []int{api.MaxType - 1, api.MaxType, api.MaxType + 1, 5000} {
		x := wide(n)
		got, e := expand.Type(x, nil)
		alias := []api.Alias{{Name: "a", Type: x}, {Name: "b", Type: api.Term{Kind: api.TyCon, Name: "a"}}, {Name: "k", Params: []string{"a"}}, {Name: "p", Params: []string{"a"}, Type: typ(t, "('a, 'a)")}}
		again, e2 := expand.Type(typ(t, "b"), alias)
		if n > api.MaxType {
			wantNoType(t, nil, x, api.ErrLimit)
			wantNoType(t, alias, typ(t, "a"), api.ErrLimit)
			wantNoType(t, alias, typ(t, "b"), api.ErrLimit)
			wantNoType(t, alias, typ(t, "int -> a"), api.ErrLimit)
			continue
		}
		if e != api.OK || e2 != api.OK || raw(got) != raw(x) || raw(again) != raw(x) {
			t.Fatal(n, e, e2)
		}
		wantNoType(t, alias, typ(t, "p(a)"), api.ErrLimit)
	}
	// One that is too much is nothing, where nothing of it is left.
	huge := append(aliases(t, "k('a) = int", "l('a, 'b) = 'b", "of = k(huge)"), api.Alias{Name: "huge", Type: wide(1001)})
	wantType(t, huge, "(k(huge), of, l(huge, text))", "(int, int, text)")
	wantNoType(t, huge, typ(t, "l(int, huge)"), api.ErrLimit)
	wantNoType(t, huge, typ(t, "(of, huge)"), api.ErrLimit)
	exact := aliases(t, "p('a) = ('a, 'a)", "q('a) = ('a, 'a, 'a, 'a, 'a)")
	for n := range 10 {
		x := api.Term{Kind: api.TyCon, Name: "p", Kids: []api.Term{wide(500 - 5 + n)}}
		got, e := expand.Type(x, exact)
		if wanted := 1 + 2*(495+n); wanted <= api.MaxType && (e != api.OK || term.Size(got) != wanted) || wanted > api.MaxType && e != api.ErrLimit {
			t.Fatal(n, e, term.Size(got))
		}
		x = api.Term{Kind: api.TyCon, Name: "q", Kids: []api.Term{wide(195 + n)}}
		got, e = expand.Type(x, exact)
		if wanted := 1 + 5*(195+n); wanted <= api.MaxType && (e != api.OK || term.Size(got) != wanted) || wanted > api.MaxType && e != api.ErrLimit {
			t.Fatal(n, e, term.Size(got))
		}
	}
}

// P11.2: aliases that double each time, what is left of them, and such as stay as they are, very often.
func TestDoubling(t *testing.T) {
	for _, right := range []string{"(a%d('a), a%d('a))", "a%d(a%d('a))", "a%d('a) -> a%d(int)"} {
		l := aliases(t, "a0('a) = ('a, 'a)", "k('a) = int")
		for i := range 200 {
			l = append(l, aliases(t, fmt.Sprintf("a%d('a) = ", i+1)+fmt.Sprintf(right, i, i))...)
		}
		wantNoType(t, l, typ(t, "a200('x)"), api.ErrLimit)
		wantNoType(t, l, typ(t, "(int, a60(int))"), api.ErrLimit)
		wantType(t, l, "k(a200('x))", "int")
		if got, e := expand.Type(typ(t, "a2(int)"), l); e != api.OK || raw(got) != raw(told(typ(t, "a2(int)"), l)) {
			t.Fatal(raw(got), e)
		}
	}
	l := aliases(t, "a0('a) = 'a")
	for i := range 200 {
		l = append(l, aliases(t, fmt.Sprintf("a%d('a) = a%d(a%d('a))", i+1, i, i))...)
	}
	wantType(t, l, "a200(int)", "int")
	wantType(t, l, "(a200('x), a3('y))", "('x, 'y)")
	got, e := expand.Type(deep(10000, "a200", typ(t, "text")), l)
	if e != api.OK || raw(got) != raw(typ(t, "text")) {
		t.Fatal(raw(got), e)
	}
	// What is put in may be too much, and be nothing at last.
	l = aliases(t, "b0('a) = int")
	for i := range 200 {
		l = append(l, aliases(t, fmt.Sprintf("b%d('a) = b%d(('a, 'a))", i+1, i))...)
	}
	wantType(t, l, "b200(int -> int)", "int")
}

// P11.3: a module's types in each place, and nothing else of it.
func TestModule(t *testing.T) {
	const source = "import P = a@1.0.0; type t('a) = A(%[1]s, t('a)) | B; let f : %[1]s = fun p -> match (p : %[1]s) with A(p, _) -> let q : %[1]s = p in q | _ -> let rec r = (P.p : %[1]s) in r end; let g = p; export f : %[1]s; export type t; export g;"
	wanted := module(t, strings.ReplaceAll(source, "%[1]s", "(int, int) -> ('a, 'b)"))
	m := module(t, "alias p = (int, int); alias q('a) = 'a -> r; alias r = ('a, 'b); "+strings.ReplaceAll(source, "%[1]s", "q(p)"))
	before := raw(m)
	got, e := expand.Module(m)
	if e != api.OK || raw(got) != raw(wanted) {
		t.Fatalf("%v, %s\nnot %s", e, raw(got), raw(wanted))
	}
	got.Imports[0].As, got.Types[0].Params[0], got.Types[0].Cons[0].Args[1].Kids[0].Name, got.Lets[0].Ann[0].Kids[0].Kids[0].Name, got.Lets[0].Body.Kids[0].Kids[0].Kids[0].Name, got.Exports[0].Ann[0].Kids[0].Kids[0].Name = "?", "?", "?", "?", "?", "?"
	if raw(m) != before {
		t.Fatal("what is handed out is shared")
	}
	if got, e := expand.Module(api.Module{}); e != api.OK || raw(got) != raw(api.Module{}) {
		t.Fatal(raw(got), e)
	}
	got, e = expand.Module(module(t, "alias p = int; alias q = p;"))
	if e != api.OK || raw(got) != raw(api.Module{}) {
		t.Fatal(raw(got), e)
	}
}

// P11.3: ErrLimit of a type in each place, by itself; of none that no type names. ErrCycle comes first.
func TestModuleLimits(t *testing.T) {
	huge := "alias h0 = (int, int, int, int, int, int, int, int, int, int); alias h1 = (h0, h0, h0, h0, h0, h0, h0, h0, h0, h0); alias h2 = (h1, h1, h1, h1, h1, h1, h1, h1, h1, h1); "
	for _, s := range []string{"type t = A(h2);", "type t = A | B(int, h2);", "let x : h2 = 1;", "let x = (1 : h2);", "let x = let y : h2 = 1 in y;", "let x = fun x -> (x, let rec y : int -> h2 = 1 in y);", "let x = match 1 with _ -> (1 : h2) end;", "export x : h2;"} {
		got, e := expand.Module(module(t, huge+s))
		if e != api.ErrLimit || raw(got) != raw(api.Module{}) {
			t.Fatalf("%s: %.100s, %v", s, raw(got), e)
		}
		for _, ring := range []string{"alias r = r;", "alias r = q; alias q = r;"} {
			if got, e := expand.Module(module(t, huge+s+ring)); e != api.ErrCycle || raw(got) != raw(api.Module{}) {
				t.Fatalf("%s: %.100s, %v", s, raw(got), e)
			}
		}
	}
	// Expressions may have any size.
	many := "(1" + strings.Repeat(", 1", 1200) + ")"
	for _, s := range []string{"let x = %;", "let x = (1, 2, %);", "let x = (% : int);", "let x = let y = % in 1;", "let x = let y = 1 in %;", "let x = let y : int = % in 1;", "let x = f % (%);", "let x = match 1 with _ -> % end;"} {
		if _, e := expand.Module(module(t, strings.ReplaceAll(s, "%", many))); e != api.OK {
			t.Fatalf("%s: %v", s, e)
		}
	}
	if got, e := expand.Module(module(t, huge+"type t = A(h1, h1, h1, h1, h1) | B(h1, h1, h1, h1, h1, h1); let x : (h1, h1, h1, h1, h1, h1, h1, h1) = (1 : h1);")); e != api.OK || len(got.Types[0].Cons[1].Args) != 6 {
		t.Fatal(e)
	}
}

// P1: what is no type, and no module of such, ends too.
func TestAnything(t *testing.T) {
	odd := api.Term{Kind: api.TyVar, Name: "a", Kids: []api.Term{{Kind: -1, N: 7}, {Kind: api.ExLet, Kids: []api.Term{{}, {}, {}, {}}}, {Kind: api.TyCon, Name: "a", N: -3}}}
	l := []api.Alias{{Name: "b", Params: []string{"a", ""}, Type: odd}, {}}
	for _, x := range []api.Term{odd, {}, {Kind: api.TyCon, Name: "b"}, {Kind: api.TyCon}, deep(60000, "c", odd)} {
		expand.Type(x, l)
		expand.Module(api.Module{Aliases: l, Lets: []api.Let{{Ann: []api.Term{x, x}, Body: x}}, Exports: []api.Export{{Type: true, Ann: []api.Term{x}}}})
	}
}
