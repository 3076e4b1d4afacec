package unify_test

import (
	"math/rand/v2"
	"slices"
	"testing"

	"touchstone/api"
	"touchstone/term"
	"touchstone/unify"
)

// P13.1: any equations, held against the second telling; P13.4: what is told solves them, and put into itself it is the same.
func TestSolveAny(t *testing.T) {
	d := rand.New(rand.NewPCG(13, 4))
	solved, not := 0, 0
	for range 50000 {
		l := someEquations(d)
		wanted, right := told(l)
		if !right {
			not++
			wantUnsolved(t, l, api.ErrType)
			continue
		}
		solved++
		wantSolved(t, l, wanted)
		got, _ := unify.Solve(l)
		for _, q := range l {
			if raw(put(q.A, got)) != raw(put(q.B, got)) {
				t.Fatalf("%s: %s does not solve it", raw(l), raw(got))
			}
		}
		for _, v := range got {
			if raw(put(v.Type, got)) != raw(v.Type) {
				t.Fatalf("%s: %s, put into itself, is another one", raw(l), raw(got))
			}
		}
	}
	if solved < 10000 || not < 10000 {
		t.Fatal(solved, not)
	}
}

// P13.5: neither the order of equations nor which side is which changes whether there is a solution.
func TestOrderOfEquations(t *testing.T) {
	d := rand.New(rand.NewPCG(13, 5))
	for range 20000 {
		l := someEquations(d)
		other := slices.Clone(l)
		d.Shuffle(len(other), func(i, j int) { other[i], other[j] = other[j], other[i] })
		for i := range other {
			if d.IntN(2) == 0 {
				other[i].A, other[i].B = other[i].B, other[i].A
			}
		}
		_, e := unify.Solve(l)
		if _, again := unify.Solve(other); e != again {
			t.Fatalf("%s: %v; %s: %v", raw(l), e, raw(other), again)
		}
	}
}

// renamed is a type whose variables are told by their places.
func renamed(x api.Term) api.Term {
	names := term.Vars(x)
	var by []api.Term
	for i := range names {
		by = append(by, api.Term{Kind: api.TyVar, Name: string(rune('A' + i))})
	}
	return term.Subst(x, names, by)
}

// P13.2, P13.6: Meet of a and b is a with the solution put in, and but for names Meet of b and a.
func TestMeetAny(t *testing.T) {
	d := rand.New(rand.NewPCG(13, 6))
	met := 0
	for range 50000 {
		a, b := someType(d, d.IntN(4), 5), someType(d, d.IntN(4), 5)
		solution, e := unify.Solve([]api.Equation{{A: a, B: b}})
		got, e1 := unify.Meet(a, b)
		turned, e2 := unify.Meet(b, a)
		if e1 != e || e2 != e || raw(renamed(got)) != raw(renamed(turned)) {
			t.Fatalf("%s, %s: %s, %v; %s, %v", raw(a), raw(b), raw(got), e1, raw(turned), e2)
		}
		if e == api.OK {
			met++
			if raw(got) != raw(put(a, solution)) || raw(turned) != raw(renamed(turned)) && raw(renamed(put(b, solution))) != raw(renamed(turned)) {
				t.Fatalf("%s, %s: %s", raw(a), raw(b), raw(got))
			}
		}
	}
	if met < 5000 {
		t.Fatal(met)
	}
}

// What is handed out shares no list with what was handed in, nor with itself.
func TestOwn(t *testing.T) {
	l := equations(t, "'a = list(int -> 'c); 'b = 'a")
	before := raw(l)
	got, _ := unify.Solve(l)
	again := raw(got[2])
	got[0].Type.Kids[0].Kids[0].Name, got[0].Type.Kids[0].Kids[1].Name = "?", "?"
	if raw(l) != before || raw(got[2]) != again {
		t.Fatal("what is handed out is shared")
	}
	s := unify.New(10)
	id := s.Make(api.TyTuple, "", "", s.Make(api.TyCon, "", "list", s.Var(0)))
	x, _ := s.Term(id)
	x.Kids[0].Kids[0].Name = "?"
	if y, _ := s.Term(id); y.Kids[0].Kids[0].Name != "a" {
		t.Fatal("what is handed out is kept")
	}
	list := s.Make(api.TyCon, "", "t")
	kids := []int{0, 0}
	id = s.Make(api.TyTuple, "", "", kids...)
	kids[0] = list
	wantTerm(t, s, id, "('a, 'a)")
}
