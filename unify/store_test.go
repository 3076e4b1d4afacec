package unify_test

import (
	"math"
	"testing"

	"touchstone/api"
	"touchstone/unify"
)

func wantTerm(t *testing.T, s *unify.Store, id int, wanted string) {
	t.Helper()
	if got, fits := s.Term(id); !fits || raw(got) != raw(typ(t, wanted)) {
		t.Fatalf("%d: %s, %v, not %s", id, raw(got), fits, wanted)
	}
}

func wantUnify(t *testing.T, s *unify.Store, a, b int, wanted bool) {
	t.Helper()
	if got := s.Unify(a, b); got != wanted {
		t.Fatalf("Unify(%d, %d): %v", a, b, got)
	}
}

// load makes a type, with variables of a level, which it puts into vars.
func load(t *testing.T, s *unify.Store, source string, vars map[string]int, level int) int {
	t.Helper()
	return s.Import(typ(t, source), vars, func() int { return s.Var(level) })
}

// P13.3: numbers rise from 0 on; types are told as terms.
func TestMakeAndTerm(t *testing.T) {
	s := unify.New(1000)
	a, r, i := s.Var(0), s.Rigid(3), s.Make(api.TyCon, "", "int")
	if a != 0 || r != 1 || i != 2 || s.Full() {
		t.Fatal(a, r, i)
	}
	b := s.Var(-5)
	pair := s.Make(api.TyTuple, "", "", b, a, b)
	wantTerm(t, s, s.Make(api.TyFun, "", "", pair, i), "('a, 'b, 'a) -> int")
	wantTerm(t, s, s.Make(api.TyCon, "P", "list", a), "P.list('a)")
	wantTerm(t, s, s.Make(api.TyTuple, "", ""), "()")
	wantTerm(t, s, b, "'a")
	got, fits := s.Term(s.Make(api.TyFun, "", "", a, r))
	wanted := api.Term{Kind: api.TyFun, Kids: []api.Term{{Kind: api.TyVar, Name: "a"}, {Kind: api.TyRigid, Name: "r1"}}}
	if !fits || raw(got) != raw(wanted) {
		t.Fatal(raw(got), fits)
	}
	var many []int
	for range 60 {
		many = append(many, s.Var(0))
	}
	got, _ = s.Term(s.Make(api.TyTuple, "", "", many...))
	for i, name := range map[int]string{0: "a", 25: "z", 26: "a1", 27: "b1", 51: "z1", 52: "a2", 59: "h2"} {
		if got.Kids[i].Name != name {
			t.Fatal(i, got.Kids[i].Name)
		}
	}
	many[0] = 999
	if again, _ := s.Term(s.Make(api.TyTuple, "", "", many[1:]...)); again.Kids[0].Name != "a" {
		t.Fatal(raw(again))
	}
}

// P13.3: a term of MaxType terms, and one more.
func TestTermLimit(t *testing.T) {
	s := unify.New(api.MaxNodes)
	for n := api.MaxType - 2; n <= api.MaxType+2; n++ {
		id := s.Import(wide(n), nil, nil)
		got, fits := s.Term(id)
		if fits != (n <= api.MaxType) || fits && raw(got) != raw(wide(n)) || !fits && raw(got) != raw(api.Term{}) {
			t.Fatal(n, fits)
		}
	}
	x := s.Var(0)
	deep := x
	for range 150000 {
		deep = s.Make(api.TyCon, "", "list", deep)
	}
	if got, fits := s.Term(deep); fits || raw(got) != raw(api.Term{}) {
		t.Fatal("fits")
	}
	wantUnify(t, s, x, deep, false)
	s.Close(deep, -1)
	if s.Copy(deep, 0); !s.Full() {
		t.Fatal("there was room for it twice")
	}
}

// P13.3: a term's type, with the variables that there are, and new ones.
func TestImport(t *testing.T) {
	s := unify.New(100)
	i := s.Make(api.TyCon, "", "int")
	vars := map[string]int{"a": i}
	calls := 0
	fresh := func() int {
		calls++
		return s.Var(1)
	}
	id := s.Import(typ(t, "'a -> ('b, 'c, 'b, P.list('c))"), vars, fresh)
	wantTerm(t, s, id, "int -> ('a, 'b, 'a, P.list('b))")
	if calls != 2 || len(vars) != 3 || vars["a"] != i {
		t.Fatal(calls, vars)
	}
	wantUnify(t, s, vars["b"], i, true)
	wantTerm(t, s, id, "int -> (int, 'a, int, P.list('a))")
	if again := s.Import(typ(t, "'c"), vars, nil); again != vars["c"] {
		t.Fatal(again, vars)
	}
	wantTerm(t, s, s.Import(typ(t, "('x, 'y, 'x)"), nil, fresh), "('a, 'b, 'a)")
	wantTerm(t, s, s.Import(typ(t, "int"), nil, nil), "int")
	// What is no type, or has a variable that none can be put for, makes nothing.
	before := s.Var(0)
	none := map[string]int{"n": -1, "m": 5000}
	for _, x := range []api.Term{{}, {Kind: api.ExVar, Name: "a"}, {Kind: 99}, {Kind: api.TyTuple, Kids: []api.Term{typ(t, "int"), {Kind: api.PaAny}}}, typ(t, "int -> 'n"), typ(t, "list('m)")} {
		if got := s.Import(x, none, fresh); got != -1 {
			t.Fatal(raw(x), got)
		}
	}
	if got := s.Import(typ(t, "(int, 'z)"), vars, nil); got != -1 {
		t.Fatal(got)
	}
	for _, n := range []int{-1, 5000} {
		if got := s.Import(typ(t, "'z"), vars, func() int { return n }); got != -1 {
			t.Fatal(got)
		}
	}
	if _, there := vars["z"]; there {
		t.Fatal(vars)
	}
	if after := s.Var(0); after != before+1 || s.Full() {
		t.Fatal(before, after)
	}
}

// P13.3: which types can be made the same.
func TestUnify(t *testing.T) {
	for _, x := range []struct {
		a, b, wanted string
	}{
		{"int", "int", "int"}, {"'a", "int", "int"}, {"int", "'a", "int"}, {"'a", "'b", "'a"}, {"'a", "'a", "'a"}, {"'a -> 'b", "'b -> int", "int -> int"}, {"('a, 'b)", "('b, list('c))", "(list('a), list('a))"}, {"P.t('a)", "P.t(())", "P.t(())"},
		{"int", "text", ""}, {"int", "P.int", ""}, {"P.int", "Q.int", ""}, {"'a", "list('a)", ""}, {"list('a)", "'a", ""}, {"list('a)", "list", ""}, {"('a, 'b)", "('a, 'b, 'c)", ""}, {"('a, 'b)", "'a -> 'b", ""}, {"('a, 'a)", "(int, text)", ""}, {"('a, 'b)", "('b, list('a))", ""},
	} {
		s := unify.New(100)
		vars := map[string]int{}
		a, b := load(t, s, x.a, vars, 0), load(t, s, x.b, vars, 0)
		wantUnify(t, s, a, b, x.wanted != "")
		if x.wanted != "" {
			wantTerm(t, s, a, x.wanted)
			wantTerm(t, s, b, x.wanted)
			wantUnify(t, s, b, a, true)
		}
	}
}

// P13.3: what has failed half way leaves no types of others the same, nor anything else but variables.
func TestUnifyFails(t *testing.T) {
	s := unify.New(100)
	vars := map[string]int{}
	a, b := load(t, s, "(list(int), ('x, int))", vars, 0), load(t, s, "(list(int), ('y, text))", vars, 0)
	wantUnify(t, s, a, b, false)
	wantUnify(t, s, a, b, false)
	for _, id := range []int{a, b} {
		got, _ := s.Term(id)
		if raw(got.Kids[0]) != raw(typ(t, "list(int)")) || raw(got.Kids[1].Kids[1]) != raw(typ(t, map[int]string{a: "int", b: "text"}[id])) {
			t.Fatal(raw(got))
		}
	}
	if s.Full() {
		t.Fatal("full")
	}
}

// P13.3: a variable does not become what has a rigid one of a greater level; variables in it get at most its own.
func TestLevels(t *testing.T) {
	for level := range 4 {
		for rigid := range 4 {
			for _, source := range []string{"'r", "list('r)", "int -> ('r, 'v)", "('v, list('w), 'r)"} {
				for _, turned := range []bool{false, true} {
					s := unify.New(100)
					vars := map[string]int{"r": s.Rigid(rigid), "x": s.Var(level)}
					a, b := vars["x"], load(t, s, source, vars, 9)
					if turned {
						a, b = b, a
					}
					wantUnify(t, s, a, b, rigid <= level)
				}
			}
		}
	}
	s := unify.New(100)
	r, q, i := s.Rigid(0), s.Rigid(0), s.Make(api.TyCon, "", "int")
	wantUnify(t, s, r, r, true)
	wantUnify(t, s, r, q, false)
	wantUnify(t, s, r, i, false)
	wantUnify(t, s, i, r, false)
	// A variable's level goes on to those of what it becomes, which may be met later.
	vars := map[string]int{"low": s.Var(1), "high": s.Var(5), "r": s.Rigid(3)}
	wantUnify(t, s, vars["low"], load(t, s, "list('high)", vars, 5), true)
	wantUnify(t, s, vars["high"], vars["r"], false)
	a, b := s.Var(2), s.Var(4)
	wantUnify(t, s, b, a, true)
	wantUnify(t, s, b, vars["r"], false)
	c, d := s.Var(2), s.Var(4)
	wantUnify(t, s, c, d, true)
	wantUnify(t, s, d, vars["r"], false)
	e, f := s.Var(4), s.Var(2)
	wantUnify(t, s, e, f, true)
	wantUnify(t, s, e, vars["r"], false)
	g := s.Var(4)
	wantUnify(t, s, g, vars["r"], true)
}

// P13.3: closed variables are copied, the same for the same; what has none is not.
func TestCloseAndCopy(t *testing.T) {
	s := unify.New(100)
	vars := map[string]int{"low": s.Var(1), "mid": s.Var(2), "high": s.Var(3), "r": s.Rigid(9)}
	id := load(t, s, "('low, 'mid, list('high), 'high, 'mid -> 'low, text -> int)", vars, 0)
	if got := s.Copy(id, 7); got != id {
		t.Fatal(got)
	}
	s.Close(id, 1)
	copied := s.Copy(id, 7)
	whole := s.Make(api.TyTuple, "", "", id, copied)
	wantTerm(t, s, whole, "(('a, 'b, list('c), 'c, 'b -> 'a, text -> int), ('a, 'd, list('e), 'e, 'd -> 'a, text -> int))")
	if got := s.Copy(vars["low"], 7); got != vars["low"] {
		t.Fatal(got)
	}
	// Copies are not closed, and have the level that was asked for.
	if got := s.Copy(copied, 7); got != copied {
		t.Fatal(got)
	}
	fresh := s.Copy(vars["mid"], 7)
	wantUnify(t, s, fresh, s.Rigid(8), false)
	wantUnify(t, s, fresh, s.Rigid(7), true)
	if got := s.Copy(fresh, 7); got != fresh {
		t.Fatal(got)
	}
	// What a closed one stands in stays as it was, whatever becomes of a copy.
	again := s.Copy(id, 0)
	got, _ := s.Term(again)
	wantUnify(t, s, again, s.Import(got, nil, func() int { return s.Make(api.TyCon, "", "int") }), true)
	wantTerm(t, s, id, "(int, 'a, list('b), 'b, 'a -> int, text -> int)")
	wantTerm(t, s, again, "(int, int, list(int), int, int -> int, text -> int)")
	if got := s.Copy(vars["r"], 0); got != vars["r"] {
		t.Fatal(got)
	}
}

// P13.3: levels count where they stand when it is closed.
func TestCloseLevels(t *testing.T) {
	s := unify.New(100)
	a, b := s.Var(1), s.Var(5)
	pair := s.Make(api.TyTuple, "", "", a, b)
	wantUnify(t, s, a, s.Make(api.TyCon, "", "list", b), true)
	s.Close(pair, 1)
	if got := s.Copy(pair, 9); got != pair {
		t.Fatal(got)
	}
	s.Close(pair, 0)
	copied := s.Copy(pair, 9)
	wantTerm(t, s, s.Make(api.TyTuple, "", "", pair, copied), "((list('a), 'a), (list('b), 'b))")
	x := s.Var(3)
	s.Close(x, 3)
	if got := s.Copy(x, 0); got != x {
		t.Fatal(got)
	}
	s.Close(x, 2)
	if got := s.Copy(x, 0); got == x {
		t.Fatal(got)
	}
}

// P13.3: as many types as the budget, and one more.
func TestBudget(t *testing.T) {
	for _, budget := range []int{math.MinInt, -1, 0} {
		s := unify.New(budget)
		if s.Full() {
			t.Fatal(budget, "full")
		}
		if got := s.Var(0); got != -1 || !s.Full() {
			t.Fatal(budget, got)
		}
	}
	for _, budget := range []int{1, 2, 3, 4, 5, 6, 7} {
		s := unify.New(budget)
		id := load(t, s, "('x, list('y), 'x) -> int", map[string]int{}, 1) // six types
		if s.Full() != (budget < 6) || (id < 0) != s.Full() {
			t.Fatal(budget, id)
		}
		wantDead(t, s, budget < 6)
	}
	for extra := range 5 {
		s := unify.New(6 + extra)
		id := load(t, s, "('x, list('y), 'x) -> int", map[string]int{}, 1)
		s.Close(id, 0)
		copied := s.Copy(id, 1) // all but int: five
		if s.Full() != (extra < 5) || (copied < 0) != s.Full() {
			t.Fatal(extra, copied)
		}
	}
	for _, budget := range []int{api.MaxNodes, api.MaxNodes + 1, math.MaxInt} {
		s := unify.New(budget)
		for i := range api.MaxNodes {
			if got := s.Var(0); got != i {
				t.Fatal(budget, i, got)
			}
		}
		if s.Full() {
			t.Fatal(budget, "full")
		}
		if got := s.Rigid(0); got != -1 || !s.Full() {
			t.Fatal(budget, got)
		}
		wantDead(t, s, true)
	}
	s := unify.New(2)
	x := s.Var(0)
	if s.Make(api.TyTuple, "", "", x) != 1 || s.Make(api.TyTuple, "", "", x) != -1 || !s.Full() {
		t.Fatal("Make")
	}
}

// wantDead asks that a store that is full does nothing any more.
func wantDead(t *testing.T, s *unify.Store, wanted bool) {
	t.Helper()
	if !wanted {
		return
	}
	vars := map[string]int{}
	calls := 0
	s.Close(0, -1)
	term, fits := s.Term(0)
	if !s.Full() || s.Var(0) != -1 || s.Rigid(0) != -1 || s.Make(api.TyTuple, "", "") != -1 || s.Copy(0, 0) != -1 || s.Unify(0, 0) || fits || raw(term) != raw(api.Term{}) {
		t.Fatal("something is done")
	}
	if s.Import(typ(t, "'a"), vars, func() int { calls++; return 0 }) != -1 || len(vars) > 0 || calls > 0 {
		t.Fatal("something is imported")
	}
}

// P13.3: numbers that are none, kinds that are none, and a store that is none.
func TestNone(t *testing.T) {
	s := unify.New(50)
	a := s.Var(0)
	for _, id := range []int{-1, 1, 2, 50, math.MinInt, math.MaxInt} {
		s.Close(id, 0)
		term, fits := s.Term(id)
		if s.Unify(a, id) || s.Unify(id, a) || s.Unify(id, id) || s.Copy(id, 0) != -1 || s.Make(api.TyTuple, "", "", a, id) != -1 || fits || raw(term) != raw(api.Term{}) {
			t.Fatal(id)
		}
	}
	for _, kind := range []int{0, api.TyVar, api.TyRigid, api.PaTuple, api.ExVar, -1, 99} {
		if got := s.Make(kind, "", "a"); got != -1 {
			t.Fatal(kind, got)
		}
	}
	if s.Full() || s.Var(0) != 1 {
		t.Fatal("something is made")
	}
	wantTerm(t, s, a, "'a")
	var none *unify.Store
	wantDead(t, none, true)
}
