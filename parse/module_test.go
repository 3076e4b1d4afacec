package parse_test

import (
	"slices"
	"strings"
	"testing"

	"touchstone/api"
	"touchstone/parse"
)

func version(major, minor, patch int) api.Version {
	return api.Version{Major: major, Minor: minor, Patch: patch}
}

func pin(pkg string, major, minor, patch int) api.Pin {
	return api.Pin{Pkg: pkg, Version: version(major, minor, patch)}
}

func types(l ...api.Term) []api.Term { return l }

// P8.1: a source of nothing is a module without items.
func TestModuleOfNothing(t *testing.T) {
	for _, s := range []string{"", " ", "\n\t", "-- a", "-- a\n\n"} {
		wantModule(t, s, api.Module{})
	}
}

// P8.1: imports.
func TestImports(t *testing.T) {
	wantModule(t, "import P = list@1.20.3;", api.Module{Imports: []api.Import{{As: "P", Pin: pin("list", 1, 20, 3)}}})
	wantModule(t, "import Q'_0=a0@0.0.0;import P = b @ 999999.999999.999999 ;", api.Module{Imports: []api.Import{{As: "Q'_0", Pin: pin("a0", 0, 0, 0)}, {As: "P", Pin: pin("b", api.MaxNumber, api.MaxNumber, api.MaxNumber)}}})
	wantModule(t, "import P = a@1.0.0; import P = a@1.0.0;", api.Module{Imports: []api.Import{{As: "P", Pin: pin("a", 1, 0, 0)}, {As: "P", Pin: pin("a", 1, 0, 0)}}})
	wantModule(t, "import P = "+strings.Repeat("a", 20)+"@1.0.0;", api.Module{Imports: []api.Import{{As: "P", Pin: pin(strings.Repeat("a", 20), 1, 0, 0)}}})
	wantForm(t, readModule, "import !p = a@1.0.0;", "import P !a@1.0.0;", "import P = !A@1.0.0;", "import P = a !1.0.0;", "import P = a@!1.0;", "import P = a@!1;", "import P = a@!b;", "import P = a@1.0.0!", "import P = a@1.0.0 !import Q = b@1.0.0;", "import P = a@1.0.0!.1;", "import P = !\"a\"@1.0.0;", "import !_ = a@1.0.0;", "import !\"P\" = a@1.0.0;")
}

// P8.1: the lower of an import is a package's name; one that is none may not stand there.
func TestImportsPackage(t *testing.T) {
	for _, s := range []string{"_a", "a_", "a'", "aB", "__", "a_b", strings.Repeat("a", 21), strings.Repeat("a", 30), "a0'", "x_1"} {
		wantForm(t, readModule, "import P = !"+s+"@1.0.0;", "import P = a@1.0.0; import Q = !"+s+"@1.0.0;", "import P = !"+s, "import P = !"+s+" 1.0.0;")
	}
	for _, s := range []string{"let", "type", "in", "end", "\"a\"", "'a", "1", "1.0.0", "=", "P"} {
		wantForm(t, readModule, "import P = !"+s+"@1.0.0;")
	}
	for _, s := range []string{"a", "z9", "int", "text", "a1b2", "lets", strings.Repeat("z", 20)} {
		wantRead(t, readModule, "import P = "+s+"@1.0.0;")
	}
}

// P8.1: types, with params and without, of one constructor and more.
func TestTypes(t *testing.T) {
	wantModule(t, "type t = A;", api.Module{Types: []api.TypeDef{{Name: "t", Cons: []api.Con{{Name: "A"}}}}})
	wantModule(t, "type t = A | B;", api.Module{Types: []api.TypeDef{{Name: "t", Cons: []api.Con{{Name: "A"}, {Name: "B"}}}}})
	wantModule(t, "type t = B(int) | A | C('a, P.t('b), ()) ;", api.Module{Types: []api.TypeDef{{Name: "t", Cons: []api.Con{{Name: "B", Args: types(tc("int"))}, {Name: "A"}, {Name: "C", Args: types(tv("a"), in("P", tc("t", tv("b"))), tt())}}}}})
	wantModule(t, "type list('a) = Nil | Cons('a, list('a));", api.Module{Types: []api.TypeDef{{Name: "list", Params: []string{"a"}, Cons: []api.Con{{Name: "Nil"}, {Name: "Cons", Args: types(tv("a"), tc("list", tv("a")))}}}}})
	wantModule(t, "type t('a, 'b,'a) = A((int), int -> int, (int, int));", api.Module{Types: []api.TypeDef{{Name: "t", Params: []string{"a", "b", "a"}, Cons: []api.Con{{Name: "A", Args: types(tc("int"), arrow(tc("int"), tc("int")), tt(tc("int"), tc("int")))}}}}})
	wantForm(t, readModule, "type !T = A;", "type t !A;", "type t = !a;", "type t = !;", "type t = A !B;", "type t = A | !;", "type t = !| A;", "type t(!) = A;", "type t(!a) = A;", "type t('a !'b) = A;", "type t('a, !) = A;", "type t('a !;", "type t = A(!);", "type t = A(int!;", "type t = A(int !int);", "type t = A(int,!);", "type t = A(int)!(int);", "type t = A(!1);", "type !rec t = A;", "type t = A(int -> !);", "type t = P!.A;", "type t !: int = A;")
}

// P8.1: aliases, with params and without.
func TestAliases(t *testing.T) {
	wantModule(t, "alias t = int;", api.Module{Aliases: []api.Alias{{Name: "t", Type: tc("int")}}})
	wantModule(t, "alias pair('a) = ('a, 'a); alias f('a, 'b) = 'a -> P.t;", api.Module{Aliases: []api.Alias{{Name: "pair", Params: []string{"a"}, Type: tt(tv("a"), tv("a"))}, {Name: "f", Params: []string{"a", "b"}, Type: arrow(tv("a"), in("P", tc("t")))}}})
	wantForm(t, readModule, "alias !T = int;", "alias t !int;", "alias t = !;", "alias t = int !| int;", "alias t(!) = int;", "alias t('a!;", "alias t = A!;", "alias t = !1;", "alias t = int!", "alias t !: int = int;")
}

// P8.1: lets, with a type and without.
func TestLets(t *testing.T) {
	wantModule(t, "let x = 1;", api.Module{Lets: []api.Let{{Name: "x", Body: en(1)}}})
	wantModule(t, "let x : int = y; let _a = let x = 1 in x;", api.Module{Lets: []api.Let{{Name: "x", Ann: types(tc("int")), Body: ev("y")}, {Name: "_a", Body: let("x", en(1), ev("x"))}}})
	wantModule(t, "let f : 'a -> 'a = fun x -> x;", api.Module{Lets: []api.Let{{Name: "f", Ann: types(arrow(tv("a"), tv("a"))), Body: fun("x", ev("x"))}}})
	wantForm(t, readModule, "let x = !;", "let !X = 1;", "let !rec x = 1;", "let x !1;", "let x : != 1;", "let x : int !;", "let x = 1 !in x;", "let x = 1!", "let x !-> 1;", "let x = 1!: int;", "let x !y = 1;", "let !_ = 1;", "let !(x) = 1;", "let x = 1; !2;", "!x = 1;", "let x = 1;!; let y = 2;")
}

// P8.1: exports, of types and of values, these with a type and without.
func TestExports(t *testing.T) {
	wantModule(t, "export x;", api.Module{Exports: []api.Export{{Name: "x"}}})
	wantModule(t, "export type t;", api.Module{Exports: []api.Export{{Type: true, Name: "t"}}})
	wantModule(t, "export x : int -> 'a; export type t; export t;", api.Module{Exports: []api.Export{{Name: "x", Ann: types(arrow(tc("int"), tv("a")))}, {Type: true, Name: "t"}, {Name: "t"}}})
	wantForm(t, readModule, "export !;", "export !X;", "export type !;", "export type !T;", "export type t !: int;", "export x : !;", "export x !int;", "export x!, y;", "export type !type t;", "export x != 1;", "export !let x;", "export x !export y;", "export type t!('a);", "export x : !1;")
}

// P8.1: items by their kinds, each in order, in whatever order they stand.
func TestItems(t *testing.T) {
	wantModule(t, `
		export b; let x = 1; type u = B; import Q = b@2.0.0; alias m = int;
		-- more of each
		alias l = text; import P = a@1.0.0; type t = A; let w = 2; export type u; export a;`,
		api.Module{
			Imports: []api.Import{{As: "Q", Pin: pin("b", 2, 0, 0)}, {As: "P", Pin: pin("a", 1, 0, 0)}},
			Types:   []api.TypeDef{{Name: "u", Cons: []api.Con{{Name: "B"}}}, {Name: "t", Cons: []api.Con{{Name: "A"}}}},
			Aliases: []api.Alias{{Name: "m", Type: tc("int")}, {Name: "l", Type: tc("text")}},
			Lets:    []api.Let{{Name: "x", Body: en(1)}, {Name: "w", Body: en(2)}},
			Exports: []api.Export{{Name: "b"}, {Type: true, Name: "u"}, {Name: "a"}},
		})
	for _, s := range []string{";", "rec", "in", "fun", "match", "with", "end", "x", "X", "'a", "1", "\"a\"", "1.0.0", "=", "(", "_"} {
		wantForm(t, readModule, "!"+s, "let x = 1; !"+s+" ;", "  --\n !"+s)
	}
}

// P8.1: the end, where something must stand: the source's length, with all that stands behind the last token.
func TestModuleEnd(t *testing.T) {
	for _, s := range []string{"import", "import P", "import P =", "import P = a", "import P = a@", "import P = a@1.0.0", "type", "type t", "type t(", "type t('a", "type t('a,", "type t('a)", "type t =", "type t = A", "type t = A |", "type t = A(", "type t = A(int", "type t = A(int,", "type t = A(int)",
		"alias", "alias t", "alias t =", "alias t = int", "let", "let x", "let x :", "let x : int", "let x =", "let x = 1", "export", "export type", "export type t", "export x", "export x :", "export x : int"} {
		wantForm(t, readModule, s+"!", s+" \n!", s+" -- a!", "let y = 1; "+s+"\t!")
	}
}

// P8.1: an error of lex is told ahead of all that is read, wherever it stands.
func TestModuleLex(t *testing.T) {
	wantForm(t, readModule, "let x = = 1; let y = !#;", "= !\"a", "let x = 1 !- 2;", "let let let !-0", "let = 1; -- #\n !\\", "a !\r")
	wantFault(t, readModule, strings.Repeat("let ", 5001), 0, api.ErrLimit)
	wantFault(t, readModule, strings.Repeat("= ", 6001), 12000, api.ErrLimit)
	wantFault(t, readModule, strings.Repeat("= ", 6000), 0, api.ErrForm)
	wantFault(t, readModule, "x"+strings.Repeat(" ", api.MaxSource-1), 0, api.ErrForm)
	wantFault(t, readModule, "let x = 1"+strings.Repeat(" ", api.MaxSource-9), api.MaxSource, api.ErrForm)
	for _, read := range []reader{readType, readExpr} {
		wantForm(t, read, ") !#", "( ( !\"", "!'A")
		wantFault(t, read, strings.Repeat(")", api.MaxSource+1), 0, api.ErrLimit)
		wantFault(t, read, strings.Repeat(") ", 6001), 12000, api.ErrLimit)
	}
}

// P8.1: a module of as many tokens as there may be.
func TestModuleLong(t *testing.T) {
	const n = api.MaxTokens / 3
	m, at, e := parse.Module(strings.Repeat("export x;", n))
	if len(m.Exports) != n || at != 0 || e != api.OK {
		t.Fatalf("%d, %d, %v", len(m.Exports), at, e)
	}
	m, at, e = parse.Module("type t = A" + strings.Repeat("|A", 2990) + ";")
	if len(m.Types) != 1 || len(m.Types[0].Cons) != 2991 || at != 0 || e != api.OK {
		t.Fatalf("%d, %d, %v", len(m.Types), at, e)
	}
	m, at, e = parse.Module("let x = (x" + strings.Repeat(",x", 2990) + ");")
	if len(m.Lets) != 1 || len(m.Lets[0].Body.Kids) != 2991 || at != 0 || e != api.OK {
		t.Fatalf("%d, %d, %v", len(m.Lets), at, e)
	}
}

// Rules 3 and 6: what is handed out is the caller's own, no two lists share anything, and it is the same each time.
func TestModuleOwn(t *testing.T) {
	const s = "type t('a, 'b) = A('a, 'b) | B(int, int); alias p('a, 'b) = ('a, 'b); let x : (int, int) = f (1, 2) A(3, 4) (match x with (a, b) -> c | d -> (e, f) end); export x : p(int, int);"
	m, _, _ := parse.Module(s)
	wanted := toldModule(m)
	terms := slices.Concat([]*api.Term{&m.Aliases[0].Type}, parts(&m.Lets[0].Body), parts(&m.Lets[0].Ann[0]), parts(&m.Exports[0].Ann[0]))
	for _, p := range terms {
		_ = append(p.Kids, tv("grown"))
	}
	for _, l := range [][]api.Term{m.Types[0].Cons[0].Args, m.Types[0].Cons[1].Args, m.Lets[0].Ann, m.Exports[0].Ann} {
		_ = append(l, tv("grown"))
	}
	_, _ = append(m.Types[0].Params, "grown"), append(m.Aliases[0].Params, "grown")
	_, _ = append(m.Types[0].Cons, api.Con{Name: "Grown"}), append(m.Lets, api.Let{Name: "grown"})
	if got := toldModule(m); got != wanted {
		t.Fatalf("%s, not %s", got, wanted)
	}
	for _, p := range terms {
		p.Kind, p.Name = 99, "other"
	}
	m.Types[0].Params[0], m.Types[0].Cons[0].Args[0] = "other", tt()
	want(t, readModule, s, wanted)
}

// parts are pointers to all terms in a term, itself the first one.
func parts(t *api.Term) []*api.Term {
	l := []*api.Term{t}
	for i := range t.Kids {
		l = append(l, parts(&t.Kids[i])...)
	}
	return l
}
