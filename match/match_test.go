package match_test

import (
	"math"
	"testing"

	"touchstone/api"
	"touchstone/match"
)

// P16.1: patterns that take all, and such as don't.
func TestMissing(t *testing.T) {
	wantAll(t, "_", "x", "_ | 1", "1 | x", "\"a\" | _", "()", "(_, _)", "(x, y, z)", "((), (_, _))",
		"True | False", "False | x", "True | _ | False", "One", "Nil | Cons(_, _)", "Nil | Cons(x, Nil) | Cons(x, Cons(y, z))", "Cons(_, _) | Nil | Nil", "Next(_, _)", "Next(0, _) | Next(_, Next(1, _)) | Next(_, Next(_, _))",
		"Red | Green | Blue(_, _)", "Blue(Red, _) | Blue(Green, _) | Blue(Blue(_, _), _) | Red | Green", "(True, _) | (False, _)", "(True, True) | (_, False) | (False, _)", "(1, _) | (_, 2) | (_, _)", "(True, 1) | (False, _) | (True, _)",
		"Leaf | Twig(_) | Node(_, _, Leaf) | Node(_, _, Twig(_)) | Node(_, _, Node(_, _, _))", "(Nil, Nil) | (Cons(_, _), _) | (_, Cons(_, _))")
	wantMissing(t, "", "_")
	wantMissing(t, "1")
	wantMissing(t, "\"a\"")
	wantMissing(t, "0 | 1 | 2 | -1")
	wantMissing(t, "\"\" | \"0\" | \"a\"")
	wantMissing(t, "True", "False")
	wantMissing(t, "False", "True")
	wantMissing(t, "Nil", "Cons(_, _)")
	wantMissing(t, "Cons(_, _)", "Nil")
	wantJust(t, "Nil | Cons(_, Nil)", "Cons(_, Cons(_, _))")
	wantJust(t, "(1, _) | (_, 2)", "(0, 0)")
	wantMissing(t, "(True, _) | (_, False)", "(False, True)")
	wantMissing(t, "Red | Blue(_, _)", "Green")
	wantMissing(t, "Red", "Green", "Blue(_, _)")
	wantMissing(t, "Red | Green | Blue(Red, _) | Blue(Blue(_, _), _)", "Blue(Green, _)")
	wantMissing(t, "Red | Green | Blue(_, \"a\")")
	wantMissing(t, "Next(_, Next(_, Next(0, _)))")
	wantMissing(t, "((True, _), (_, Nil)) | ((_, True), (_, _)) | ((False, False), (_, Nil))", "((_, False), (_, Cons(_, _)))")
	wantMissing(t, "Node(Leaf, _, _) | Node(_, _, Leaf) | Leaf | Twig(_)")
	wantMissing(t, "(0, 1) | (1, 0)")
	wantMissing(t, "(Nil, _) | (_, Nil)", "(Cons(_, _), Cons(_, _))")
}

// qualified is a pattern whose constructors are of the line p/1.
func qualified(p api.Term) api.Term {
	if p.Kind == api.PaCon {
		p.Pkg = "p/1"
	}
	for i := range p.Kids {
		p.Kids[i] = qualified(p.Kids[i])
	}
	return p
}

// P16.1: constructors are told by their lines; of several with one name the first one counts.
func TestLines(t *testing.T) {
	for _, x := range []struct{ patterns, missing string }{{"Nil | Cons(_)", "More"}, {"Nil | More", "Cons(_)"}, {"Nil | More | Cons(1)", ""}, {"Nil | More | Cons(_)", "-"}, {"Cons(_) | More | x", "-"}} {
		var l []api.Term
		for _, p := range patterns(t, x.patterns) {
			l = append(l, qualified(p))
		}
		got, misses, e := match.Missing(l, cons(t))
		if e != api.OK || misses != (x.missing != "-") || len(x.missing) > 1 && !match.Overlap(got, qualified(pattern(t, x.missing))) {
			t.Fatalf("%s: %s, %v, %v", x.patterns, raw(got), misses, e)
		}
	}
	// A type of one name in two lines is two types.
	c := []api.Cons{{Pkg: "a/1", Name: "A", Type: "t"}, {Pkg: "a/2", Name: "A", Type: "t"}, {Pkg: "a/2", Name: "B", Type: "t"}, {Pkg: "a/1", Name: "C", Type: "u"}}
	if _, misses, _ := match.Missing([]api.Term{{Kind: api.PaCon, Pkg: "a/1", Name: "A"}}, c); misses {
		t.Fatal("a/1 misses one")
	}
	if got, misses, _ := match.Missing([]api.Term{{Kind: api.PaCon, Pkg: "a/2", Name: "A"}}, c); !misses || got.Name != "B" || got.Pkg != "a/2" {
		t.Fatal(raw(got))
	}
}

// P16.2: whether there is a value that both take.
func TestOverlap(t *testing.T) {
	for _, x := range [][2]string{{"_", "_"}, {"x", "1"}, {"1", "1"}, {"\"a\"", "\"a\""}, {"()", "()"}, {"Nil", "Nil"}, {"Cons(1, _)", "Cons(_, Nil)"}, {"(1, _)", "(_, 2)"}, {"(_, (x, 2))", "(1, _)"}, {"Cons(_, Nil)", "_"}, {"(x, x)", "(1, 2)"}, {"-1", "-1"}, {"Blue(Blue(_, \"a\"), _)", "Blue(_, \"b\")"}} {
		a, b := pattern(t, x[0]), pattern(t, x[1])
		if !match.Overlap(a, b) || !match.Overlap(b, a) {
			t.Fatal(x)
		}
	}
	for _, x := range [][2]string{{"1", "2"}, {"\"a\"", "\"b\""}, {"\"\"", "\"a\""}, {"Nil", "Cons(_, _)"}, {"Cons(1, _)", "Cons(2, _)"}, {"(1, _)", "(2, _)"}, {"(_, 1)", "(_, 2)"}, {"(_, (_, Nil))", "(_, (_, Cons(_, _)))"}, {"1", "-1"}, {"True", "False"}, {"Blue(Red, _)", "Blue(Green, _)"}, {"(1, 1, 1)", "(1, 1, 2)"}} {
		a, b := pattern(t, x[0]), pattern(t, x[1])
		if match.Overlap(a, b) || match.Overlap(b, a) {
			t.Fatal(x)
		}
	}
	a := pattern(t, "Nil")
	if match.Overlap(a, qualified(pattern(t, "Nil"))) || match.Overlap(pattern(t, "1"), pattern(t, "\"1\"")) || match.Overlap(pattern(t, "(1, 2)"), pattern(t, "(1, 2, 3)")) || match.Overlap(pattern(t, "()"), a) || match.Overlap(pattern(t, "Cons(_)"), pattern(t, "Cons(_, _)")) {
		t.Fatal("unlike ones overlap")
	}
}

// wantModule asks for Module's answer of lets.
func wantModule(t *testing.T, wanted api.Errno, bodies ...api.Term) {
	t.Helper()
	m := api.Module{}
	for _, b := range bodies {
		m.Lets = append(m.Lets, api.Let{Name: "x", Body: b})
	}
	if got := match.Module(m, nil); got != wanted {
		t.Fatalf("%.300s: %v, not %v", raw(bodies), got, wanted)
	}
}

// of is an ExMatch of patterns.
func of(pats []api.Term) api.Term {
	x := api.Term{Kind: api.ExMatch, Kids: []api.Term{{Kind: api.ExInt}}}
	for _, p := range pats {
		x.Kids = append(x.Kids, p, api.Term{Kind: api.ExInt})
	}
	return x
}

// P16.3: an ExMatch in each place, that misses something or not.
func TestModule(t *testing.T) {
	wantModule(t, api.OK)
	right, wrong := of(patterns(t, "1 | _")), of(patterns(t, "1 | 2"))
	wantModule(t, api.OK, right, right)
	wantModule(t, api.ErrMatch, wrong)
	wantModule(t, api.ErrMatch, right, wrong)
	wantModule(t, api.ErrMatch, wrong, right)
	for _, x := range []api.Term{right, wrong} {
		wanted := match.Module(api.Module{Lets: []api.Let{{Body: x}}}, nil)
		inner := []api.Term{
			{Kind: api.ExFun, Name: "x", Kids: []api.Term{x}}, {Kind: api.ExTuple, Kids: []api.Term{{Kind: api.ExInt}, x}}, {Kind: api.ExApp, Kids: []api.Term{{Kind: api.ExInt}, x}}, {Kind: api.ExLet, Kids: []api.Term{x, {Kind: api.ExInt}}}, {Kind: api.ExLet, Kids: []api.Term{{Kind: api.ExInt}, x}}, {Kind: api.ExAnn, Kids: []api.Term{x, {Kind: api.TyTuple}}}, {Kind: api.ExCon, Name: "A", Kids: []api.Term{x}},
			{Kind: api.ExMatch, Kids: []api.Term{x, {Kind: api.PaAny}, {Kind: api.ExInt}}}, {Kind: api.ExMatch, Kids: []api.Term{{Kind: api.ExInt}, {Kind: api.PaAny}, x}},
		}
		for _, y := range inner {
			wantModule(t, wanted, y)
			wantModule(t, wanted, right, y)
		}
	}
}

// P16.3: constructors are the module's own, and its imports'.
func TestModuleCons(t *testing.T) {
	typ := func(names ...string) api.TypeDef {
		x := api.TypeDef{Name: "t"}
		for _, n := range names {
			x.Cons = append(x.Cons, api.Con{Name: n})
		}
		return x
	}
	con := func(pkg, name string) api.Term { return api.Term{Kind: api.PaCon, Pkg: pkg, Name: name} }
	m := api.Module{Imports: []api.Import{{As: "P", Pin: api.Pin{Pkg: "p", Version: api.Version{Major: 2}}}}, Types: []api.TypeDef{typ("A", "B")}}
	deps := []api.Iface{{Types: []api.TypeDef{typ("A", "B", "C")}}}
	for _, x := range []struct {
		wanted api.Errno
		pats   []api.Term
	}{{api.OK, []api.Term{con("", "A"), con("", "B")}}, {api.ErrMatch, []api.Term{con("", "B")}}, {api.ErrMatch, []api.Term{con("p/2", "A"), con("p/2", "B")}}, {api.OK, []api.Term{con("p/2", "A"), con("p/2", "B"), con("p/2", "C")}}} {
		m.Lets = []api.Let{{Name: "x", Body: of(x.pats)}}
		if got := match.Module(m, deps); got != x.wanted {
			t.Fatal(got, raw(x.pats))
		}
	}
}

// holes are patterns that together take all: of tuples of so many pigeons times one hole less, that say which one sits where: two sit in one hole, or one sits nowhere.
func holes(pigeons int) []api.Term {
	n := pigeons - 1
	row := func(set map[int]string) api.Term {
		p := api.Term{Kind: api.PaTuple, Kids: make([]api.Term, pigeons*n)}
		for i := range p.Kids {
			if p.Kids[i].Kind = api.PaAny; set[i] != "" {
				p.Kids[i] = api.Term{Kind: api.PaCon, Name: set[i]}
			}
		}
		return p
	}
	var l []api.Term
	for a := range pigeons {
		nowhere := map[int]string{}
		for h := range n {
			nowhere[a*n+h] = "False"
			for b := range a {
				l = append(l, row(map[int]string{a*n + h: "True", b*n + h: "True"}))
			}
		}
		l = append(l, row(nowhere))
	}
	return l
}

// P16.1, P16.3, P16.4: rows that need many steps: what is told is right, or ErrLimit, where there are more than MaxSteps; Module tells that behind ErrMatch.
func TestManySteps(t *testing.T) {
	bool_ := kinds()[0]
	limits := 0
	boolean := "type bool = True | False; "
	for pigeons := 2; pigeons <= 7; pigeons++ {
		l := holes(pigeons)
		types := make([]*kind, len(l[0].Kids))
		for i := range types {
			types[i] = bool_
		}
		many := 0
		if pigeons < 5 {
			many = steps([]*kind{{parts: [][]*kind{types}}}, rowsOf(l))
		}
		for drop := range 3 {
			pats := l
			if drop > 0 {
				pats = append(append([]api.Term{}, l[:len(l)/drop-1]...), l[len(l)/drop:]...)
			}
			got, misses, e := match.Missing(pats, cons(t))
			m := module(t, boolean)
			m.Lets = []api.Let{{Name: "x", Body: of(pats)}}
			alone := match.Module(m, nil)
			m.Lets = append(m.Lets, api.Let{Name: "y", Body: of(patterns(t, "1"))}, api.Let{Name: "z", Body: of(pats)})
			if both := match.Module(m, nil); both != api.ErrMatch {
				t.Fatal(both)
			}
			switch {
			case e == api.ErrLimit && !misses && raw(got) == raw(api.Term{}) && alone == api.ErrLimit:
				limits++
				if many > 0 && many <= api.MaxSteps {
					t.Fatalf("%d pigeons: ErrLimit with %d steps", pigeons, many)
				}
			case e != api.OK || misses != (drop > 0) || misses != (alone == api.ErrMatch):
				t.Fatalf("%d pigeons, %d: %s, %v, %v, %v", pigeons, drop, raw(got), misses, e, alone)
			case misses:
				for _, p := range pats {
					if match.Overlap(p, got) {
						t.Fatalf("%d pigeons: %s overlaps", pigeons, raw(got))
					}
				}
			}
		}
	}
	t.Log(limits, "limits")
}

func rowsOf(l []api.Term) [][]api.Term {
	var rows [][]api.Term
	for _, p := range l {
		rows = append(rows, []api.Term{p})
	}
	return rows
}

// P16.4: many steps, but not more than MaxSteps.
func TestJustSteps(t *testing.T) {
	var pats, ints []api.Term
	for n := range 3000 {
		x := api.Term{Kind: api.PaInt, N: n}
		pats, ints = append(pats, api.Term{Kind: api.PaTuple, Kids: []api.Term{x, x}}), append(ints, x)
	}
	if got, misses, e := match.Missing(ints, nil); !misses || e != api.OK || got.Kind != api.PaInt || got.N >= 0 && got.N < 3000 {
		t.Fatal(raw(got), misses, e)
	}
	if got, misses, e := match.Missing(pats, nil); !misses || e != api.OK || got.Kind != api.PaTuple {
		t.Fatal(raw(got), misses, e)
	}
	pats = append(pats, patterns(t, "(_, _)")...)
	if _, misses, e := match.Missing(pats, nil); misses || e != api.OK {
		t.Fatal(misses, e)
	}
	// Each of them, and one more: MaxSteps steps.
	ints = nil
	for n := range api.MaxSteps - 1 {
		ints = append(ints, api.Term{Kind: api.PaInt, N: n})
	}
	if got, misses, e := match.Missing(ints, nil); !misses || e != api.OK || got.Kind != api.PaInt || got.N >= 0 && got.N < len(ints) {
		t.Fatal(raw(got), misses, e)
	}
	wide := api.Term{Kind: api.PaTuple, Kids: make([]api.Term, 15000)}
	for i := range wide.Kids {
		wide.Kids[i] = api.Term{Kind: api.PaVar, Name: "x"}
	}
	wide.Kids[14999] = api.Term{Kind: api.PaInt, N: 5}
	got, misses, e := match.Missing([]api.Term{wide}, nil)
	if !misses || e != api.OK || len(got.Kids) != 15000 || match.Overlap(got, wide) || hasVar(got) {
		t.Fatal(misses, e)
	}
}

// P1: patterns of no one type, and what is none, end too.
func TestAnything(t *testing.T) {
	odd := append(patterns(t, "1 | \"a\" | () | (_, _) | (1, 2, 3) | Nil | Nil(_) | Cons(_) | Cons(_, _, _) | Other(1) | Other | _ | Red | Leaf | Cons(1, 2)"), api.Term{}, api.Term{Kind: 99}, api.Term{Kind: api.ExInt}, api.Term{Kind: api.PaTuple, Kids: make([]api.Term, 2)}, api.Term{Kind: math.MinInt, Kids: []api.Term{{Kind: api.PaAny}}}, api.Term{Kind: api.PaText, Kids: make([]api.Term, 1)}, api.Term{Kind: api.PaText}, api.Term{Kind: api.PaInt, Kids: make([]api.Term, 2)}, api.Term{Kind: api.PaInt}, api.Term{Kind: api.PaAny, Kids: make([]api.Term, 1)})
	deep := api.Term{Kind: api.PaAny}
	for range 60000 {
		deep = api.Term{Kind: api.PaCon, Name: "Cons", Kids: []api.Term{{Kind: api.PaAny}, deep}}
	}
	odd = append(odd, deep)
	for i, a := range odd {
		for j, b := range odd {
			match.Overlap(a, b)
			for _, c := range [][]api.Cons{nil, cons(t), {{Name: "Cons", Type: "x"}, {}}} {
				match.Missing([]api.Term{a, b, odd[(i+j)%len(odd)]}, c)
				match.Missing([]api.Term{{Kind: api.PaTuple, Kids: []api.Term{a, b}}, {Kind: api.PaTuple, Kids: []api.Term{b, a}}, b}, c)
			}
		}
	}
	match.Module(api.Module{Imports: make([]api.Import, 1), Lets: []api.Let{{Body: api.Term{Kind: api.ExMatch}}, {Body: of(odd)}}}, nil)
}
