package print_test

import (
	"math/rand/v2"
	"slices"
	"strings"
	"testing"

	"touchstone/api"
)

func types(l ...api.Term) []api.Term { return l }

// P9.2: each kind of item, with and without what it need not have.
func TestItems(t *testing.T) {
	wantModule(t, "", api.Module{})
	wantModule(t, "import P = list@1.20.3;\n", api.Module{Imports: []api.Import{imported("P", "list", 1, 20, 3)}})
	wantModule(t, "type t = A;\n", api.Module{Types: []api.TypeDef{{Name: "t", Cons: []api.Con{{Name: "A"}}}}})
	wantModule(t, "type list('a) = Nil | Cons('a, list('a));\n", api.Module{Types: []api.TypeDef{{Name: "list", Params: []string{"a"}, Cons: []api.Con{{Name: "Nil"}, {Name: "Cons", Args: types(tv("a"), tc("list", tv("a")))}}}}})
	wantModule(t, "type t('a, 'b, 'a) = B('a -> 'b) | A((int, int), ()) | C;\n", api.Module{Types: []api.TypeDef{{Name: "t", Params: []string{"a", "b", "a"}, Cons: []api.Con{{Name: "B", Args: types(arrow(tv("a"), tv("b")))}, {Name: "A", Args: types(tt(tc("int"), tc("int")), tt())}, {Name: "C"}}}}})
	wantModule(t, "alias t = int;\nalias p('a, 'b) = ('a, 'b) -> P.t;\n", api.Module{Aliases: []api.Alias{{Name: "t", Type: tc("int")}, {Name: "p", Params: []string{"a", "b"}, Type: arrow(tt(tv("a"), tv("b")), in("P", tc("t")))}}})
	wantModule(t, "let x = 1;\nlet f : 'a -> 'a = fun x -> x;\n", api.Module{Lets: []api.Let{{Name: "x", Body: en(1)}, {Name: "f", Ann: types(arrow(tv("a"), tv("a"))), Body: fun("x", ev("x"))}}})
	wantModule(t, "export x;\nexport type t;\nexport f : ('a -> 'b) -> int;\nexport t;\n", api.Module{Exports: []api.Export{{Name: "x"}, {Type: true, Name: "t"}, {Name: "f", Ann: types(arrow(arrow(tv("a"), tv("b")), tc("int")))}, {Name: "t"}}})
}

// P9.2: all items, by their kinds, each in order.
func TestModule(t *testing.T) {
	m := api.Module{
		Imports: []api.Import{imported("Q", "b", 0, 0, 0), imported("P", "a", 999999, 999999, 999999)},
		Types:   []api.TypeDef{{Name: "u", Cons: []api.Con{{Name: "B"}}}, {Name: "t", Cons: []api.Con{{Name: "A"}}}},
		Aliases: []api.Alias{{Name: "m", Type: tc("int")}, {Name: "l", Type: tc("text")}},
		Lets:    []api.Let{{Name: "x", Body: let("y", en(1), ev("y"))}, {Name: "w", Body: apply(ec("A"), ec("B"))}},
		Exports: []api.Export{{Type: true, Name: "u"}, {Name: "x"}, {Name: "w"}},
	}
	wantModule(t, "import Q = b@0.0.0;\nimport P = a@999999.999999.999999;\ntype u = B;\ntype t = A;\nalias m = int;\nalias l = text;\nlet x = let y = 1 in y;\nlet w = (A) (B);\nexport type u;\nexport x;\nexport w;\n", m)
}

// P9.2: lists that are nil and lists that are empty are alike.
func TestEmptyLists(t *testing.T) {
	none := []api.Term{}
	wantModule(t, "", api.Module{Imports: []api.Import{}, Types: []api.TypeDef{}, Aliases: []api.Alias{}, Lets: []api.Let{}, Exports: []api.Export{}})
	wantModule(t, "type t = A;\nalias a = ();\nlet x = A;\nexport x;\nexport type t;\n", api.Module{
		Types:   []api.TypeDef{{Name: "t", Params: []string{}, Cons: []api.Con{{Name: "A", Args: none}}}},
		Aliases: []api.Alias{{Name: "a", Params: []string{}, Type: tt(none...)}},
		Lets:    []api.Let{{Name: "x", Ann: none, Body: ec("A", none...)}},
		Exports: []api.Export{{Name: "x", Ann: none}, {Type: true, Name: "t", Ann: none}},
	})
}

// P9.2: any modules, held against the second telling.
func TestAnyModule(t *testing.T) {
	d := rand.New(rand.NewPCG(9, 3))
	for range 3000 {
		m := someModule(d)
		wantModule(t, toldModule(m), m)
	}
}

// full is a right module, with two of each kind of item.
func full() api.Module {
	con := func(name string) api.Con { return api.Con{Name: name, Args: types(tv("a"), tc("int"))} }
	return api.Module{
		Imports: []api.Import{imported("P", "a", 1, 0, 0), imported("Q", "b", 1, 2, 3)},
		Types:   []api.TypeDef{{Name: "t", Params: []string{"a", "b"}, Cons: []api.Con{con("A"), con("B")}}, {Name: "u", Params: []string{"a", "b"}, Cons: []api.Con{con("C"), con("D")}}},
		Aliases: []api.Alias{{Name: "v", Params: []string{"a", "b"}, Type: tv("a")}, {Name: "w", Params: []string{"a", "b"}, Type: tv("b")}},
		Lets:    []api.Let{{Name: "x", Ann: types(tv("a")), Body: en(1)}, {Name: "y", Ann: types(tv("a")), Body: en(2)}},
		Exports: []api.Export{{Name: "x", Ann: types(tv("a"))}, {Name: "y", Ann: types(tv("a"))}, {Type: true, Name: "t"}},
	}
}

var (
	longName    = strings.Repeat("a", 31)
	wrongLowers = []string{"", "A", "_", "let", "end", "a b", "a.b", "'a", "1", "a-", "ä", "a\n", longName, "P.x", "=", "\"a\""}
	rightLowers = []string{"a", "_a", "a'", "int", "text", "rect", strings.Repeat("a", 30), "__"}
	wrongUppers = []string{"", "a", "_", "_A", "A B", "A.B", "'A", "1", "A-", "Ä", "A\n", "A" + longName, "let"}
	rightUppers = []string{"A", "A'", "Let", "A_0", strings.Repeat("A", 30)}
	wrongVars   = []string{"", "A", "_", "_a", "a'", "'a", "1", "a b", "ä", strings.Repeat("a", 30), longName, "a\n"}
	rightVars   = []string{"a", "a_", "let", "aB0", "type", strings.Repeat("a", 29)}
)

// wantEach puts each text into a right module at each of two places, and asks whether it is right then.
func wantEach(t *testing.T, right bool, l []string, put func(m *api.Module, i int, s string)) {
	t.Helper()
	for _, s := range l {
		for i := range 2 {
			m := full()
			put(&m, i, s)
			if right {
				wantModule(t, toldModule(m), m)
				wantBack(t, m)
			} else {
				wantWrong(t, m)
			}
		}
	}
}

// wantNames does so with right and wrong names.
func wantNames(t *testing.T, right, wrong []string, put func(m *api.Module, i int, s string)) {
	t.Helper()
	wantEach(t, true, right, put)
	wantEach(t, false, wrong, put)
}

// P9.2: each name in each field, in turn.
func TestRightNames(t *testing.T) {
	wantModule(t, toldModule(full()), full())
	wantNames(t, rightUppers, wrongUppers, func(m *api.Module, i int, s string) { m.Imports[i].As = s })
	wantNames(t, rightLowers, wrongLowers, func(m *api.Module, i int, s string) { m.Types[i].Name = s })
	wantNames(t, rightVars, wrongVars, func(m *api.Module, i int, s string) { m.Types[i].Params[1-i] = s })
	wantNames(t, rightVars, wrongVars, func(m *api.Module, i int, s string) { m.Types[1].Params[i] = s })
	wantNames(t, rightUppers, wrongUppers, func(m *api.Module, i int, s string) { m.Types[i].Cons[1-i].Name = s })
	wantNames(t, rightUppers, wrongUppers, func(m *api.Module, i int, s string) { m.Types[0].Cons[i].Name = s })
	wantNames(t, rightLowers, wrongLowers, func(m *api.Module, i int, s string) { m.Aliases[i].Name = s })
	wantNames(t, rightVars, wrongVars, func(m *api.Module, i int, s string) { m.Aliases[i].Params[1-i] = s })
	wantNames(t, rightVars, wrongVars, func(m *api.Module, i int, s string) { m.Aliases[0].Params[i] = s })
	wantNames(t, rightLowers, wrongLowers, func(m *api.Module, i int, s string) { m.Lets[i].Name = s })
	wantNames(t, rightLowers, wrongLowers, func(m *api.Module, i int, s string) { m.Exports[i].Name = s })
	wantNames(t, rightLowers, wrongLowers, func(m *api.Module, i int, s string) { m.Exports[2].Name = s })
}

// P9.2: a package's name, which is no keyword, and a right version.
func TestRightPins(t *testing.T) {
	pkg := func(m *api.Module, i int, s string) { m.Imports[i].Pkg = s }
	wantNames(t, []string{"a", "z9", "int", "lets", "importe", strings.Repeat("a", 20)}, []string{"", "A", "a_", "_a", "a'", "1a", "a b", "a@1", strings.Repeat("a", 21), "ä", "a\n"}, pkg)
	wantEach(t, false, strings.Fields("import type alias let rec in fun match with end export"), pkg)
	for n, right := range map[int]bool{0: true, 1: true, 999999: true, 1000000: false, -1: false, -1 << 63: false, 1<<63 - 1: false} {
		for _, v := range []api.Version{version(n, 1, 1), version(1, n, 1), version(1, 1, n)} {
			for i := range 2 {
				m := full()
				m.Imports[i].Version = v
				if right {
					wantModule(t, toldModule(m), m)
				} else {
					wantWrong(t, m)
				}
			}
		}
	}
}

// P9.2: types where types are to be, expressions where these are.
func TestRightTerms(t *testing.T) {
	wrong := []api.Term{{}, tv("A"), tt(tv("a")), pv("x"), pt(), rec(tv("a")), tc("t", tc("T")), of(api.TyFun, "", tv("a")), {Kind: 5, Name: "r"}}
	for i := range 2 {
		for _, x := range append(wrong, ev("x"), et()) {
			for _, put := range []func(m *api.Module){
				func(m *api.Module) { m.Types[i].Cons[0].Args[1] = x },
				func(m *api.Module) { m.Types[i].Cons[1].Args[0] = x },
				func(m *api.Module) { m.Types[1].Cons[i].Args[i] = x },
				func(m *api.Module) { m.Aliases[i].Type = x },
				func(m *api.Module) { m.Lets[i].Ann[0] = x },
				func(m *api.Module) { m.Exports[i].Ann[0] = x },
			} {
				m := full()
				put(&m)
				wantWrong(t, m)
			}
		}
		for _, x := range append(wrong, tv("a"), tt(), ev("X"), et(ev("x")), match(ev("x")), let("x", ev("x"))) {
			m := full()
			m.Lets[i].Body = x
			wantWrong(t, m)
		}
	}
}

// P9.2: a constructor or more; Ann of one at the most, and none in an export of a type.
func TestRightCounts(t *testing.T) {
	for i := range 2 {
		for _, cons := range [][]api.Con{nil, {}} {
			m := full()
			m.Types[i].Cons = cons
			wantWrong(t, m)
		}
		m := full()
		m.Lets[i].Ann = types(tv("a"), tv("a"))
		wantWrong(t, m)
		m = full()
		m.Exports[i].Ann = types(tv("a"), tv("a"))
		wantWrong(t, m)
		m = full()
		m.Exports[i].Type = true
		wantWrong(t, m)
		m.Exports[i].Ann = nil
		wantModule(t, toldModule(m), m)
		m.Lets[i].Ann = nil
		m.Types[i].Params = nil
		m.Aliases[i].Params = nil
		m.Types[i].Cons = m.Types[i].Cons[:1]
		m.Types[i].Cons[0].Args = nil
		wantModule(t, toldModule(m), m)
	}
	m := full()
	m.Exports[2].Ann = types(tv("a"))
	wantWrong(t, m)
}

// P9.2: names that stand twice, or that nothing has, are nothing that this layer asks.
func TestRightTwice(t *testing.T) {
	m := full()
	m.Imports[1], m.Types[1], m.Aliases[1], m.Lets[1], m.Exports[1] = m.Imports[0], m.Types[0], m.Aliases[0], m.Lets[0], m.Exports[0]
	m.Types[0].Params = []string{"a", "a"}
	m.Lets[0].Body = match(in("Z", ev("nothing")), pt(pv("x"), pv("x")), ec("Nothing"))
	wantModule(t, toldModule(m), m)
	wantBack(t, m)
}

// exports is a module of so many exports, whose texts have so many bytes.
func exports(n, bytes int) api.Module {
	return api.Module{Exports: slices.Repeat([]api.Export{{Name: strings.Repeat("a", bytes-len("export ;\n"))}}, n)}
}

// P9.2: a text of MaxSource bytes, and of one more.
func TestTooLong(t *testing.T) {
	m := exports(1000, 20)
	wantModule(t, toldModule(m), m)
	if len(toldModule(m)) != api.MaxSource {
		t.Fatalf("%d bytes", len(toldModule(m)))
	}
	m.Exports[500].Name += "a"
	wantLimit(t, m)
	m.Exports[500].Name += "a"
	wantLimit(t, m)
	m.Exports[500].Name = "A"
	wantWrong(t, m)
	wantLimit(t, exports(2000, 11))
	wantLimit(t, exports(100000, 10))
	wantLimit(t, api.Module{Lets: slices.Repeat([]api.Let{{Name: "x", Body: es(strings.Repeat("\n", 1000))}}, 10)})
	wantModule(t, strings.Repeat("let x = \""+strings.Repeat("\\n", 1000)+"\";\n", 9), api.Module{Lets: slices.Repeat([]api.Let{{Name: "x", Body: es(strings.Repeat("\n", 1000))}}, 9)})
}

// P9.2: a text of MaxTokens tokens, and of more.
func TestTooManyTokens(t *testing.T) {
	m := exports(2000, 10)
	wantModule(t, toldModule(m), m)
	for n, right := range map[int]bool{2995: true, 2996: true, 2997: false, 3500: false} {
		m := exports(1, 10)
		m.Lets = []api.Let{{Name: "x", Body: et(slices.Repeat([]api.Term{ev("x")}, n)...)}}
		if right {
			wantModule(t, toldModule(m), m)
		} else {
			wantLimit(t, m)
		}
	}
}

// P9.2: what lies too deep, or is applied to too much, in each place; also where the text alone needs the parentheses that it does by.
func TestTooDeep(t *testing.T) {
	m := full()
	set := map[string]func(ty, e api.Term){
		"args":   func(ty, e api.Term) { m.Types[0].Cons[0].Args[0] = ty },
		"alias":  func(ty, e api.Term) { m.Aliases[0].Type = ty },
		"let":    func(ty, e api.Term) { m.Lets[0].Ann[0] = ty },
		"export": func(ty, e api.Term) { m.Exports[0].Ann[0] = ty },
		"body":   func(ty, e api.Term) { m.Lets[0].Body = e },
	}
	for _, put := range set {
		for depth := 35; depth < 46; depth++ {
			m = full()
			ty, e := tv("a"), ev("x")
			for range depth - 1 {
				ty, e = tc("t", ty), fun("x", e)
			}
			put(ty, e)
			if depth <= api.MaxNest {
				wantModule(t, toldModule(m), m)
			} else {
				wantLimit(t, m)
			}
		}
	}
	for n := 45; n < 55; n++ {
		m := api.Module{Lets: []api.Let{{Name: "x", Body: apply(slices.Repeat([]api.Term{ev("x")}, n+1)...)}}}
		if n <= api.MaxArgs {
			wantModule(t, toldModule(m), m)
		} else {
			wantLimit(t, m)
		}
	}
	e := apply(ev("f"), ec("A"))
	for range api.MaxNest - 2 {
		e = fun("x", e)
	}
	m = api.Module{Lets: []api.Let{{Name: "x", Body: e}}}
	wantModule(t, toldModule(m), m)
	m.Lets[0].Body = fun("x", e)
	wantLimit(t, m)
}

// P9.2: a module that is not right is told as that, also where its text would be too long.
func TestWrongAheadOfLimit(t *testing.T) {
	m := exports(3000, 10)
	wantLimit(t, m)
	for _, i := range []int{0, 1500, 2999} {
		m := exports(3000, 10)
		m.Exports[i].Name = "A"
		wantWrong(t, m)
	}
	m.Imports = []api.Import{imported("P", "let", 1, 0, 0)}
	wantWrong(t, m)
}
