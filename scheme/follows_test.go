package scheme_test

import (
	"math/rand/v2"
	"testing"

	"touchstone/api"
	"touchstone/scheme"
	"touchstone/term"
	"touchstone/unify"
)

// P14.2, P14.6: what Match tells, put in, is the special one; P14.6: a canonical form's is itself. Held against the second telling.
func TestAny(t *testing.T) {
	d := rand.New(rand.NewPCG(14, 2))
	aboves, not := 0, 0
	for range 50000 {
		a := someType(d, d.IntN(4), 4)
		b := someType(d, d.IntN(4), 4)
		if d.IntN(2) == 0 {
			b = special(d, a)
		}
		l, right := scheme.Match(a, b)
		if right != above(a, b, map[string]string{}) || right != scheme.Above(a, b) {
			t.Fatalf("%s, %s: %v", raw(a), raw(b), right)
		}
		if !right {
			not++
			continue
		}
		aboves++
		names := term.Vars(a)
		var by []api.Term
		for i, v := range l {
			if v.Name != names[i] {
				t.Fatalf("%s: %s", raw(a), raw(l))
			}
			by = append(by, v.Type)
		}
		if len(l) != len(names) || raw(term.Subst(a, names, by)) != raw(b) {
			t.Fatalf("%s, %s: %s", raw(a), raw(b), raw(l))
		}
		canon := scheme.Canon(a)
		if raw(scheme.Canon(canon)) != raw(canon) || !scheme.Same(a, canon) {
			t.Fatalf("%s: %s", raw(a), raw(canon))
		}
	}
	if aboves < 10000 || not < 10000 {
		t.Fatal(aboves, not)
	}
}

// P14.5: being above is an order, and two are the same just if their canonical forms are.
func TestOrder(t *testing.T) {
	d := rand.New(rand.NewPCG(14, 5))
	sames := 0
	for range 50000 {
		a := someType(d, d.IntN(3), 3)
		b := special(d, a)
		c := special(d, b)
		if !scheme.Above(a, a) || !scheme.Above(a, b) || !scheme.Above(b, c) || !scheme.Above(a, c) {
			t.Fatalf("%s, %s, %s", raw(a), raw(b), raw(c))
		}
		x, y := someType(d, d.IntN(3), 2), someType(d, d.IntN(3), 2)
		for _, z := range []api.Term{b, x} {
			same := raw(scheme.Canon(y)) == raw(scheme.Canon(z))
			if scheme.Same(y, z) != same || same != (scheme.Above(y, z) && scheme.Above(z, y)) {
				t.Fatalf("%s, %s: %v", raw(y), raw(z), same)
			}
			if same {
				sames++
			}
		}
	}
	if sames < 5000 {
		t.Fatal(sames)
	}
}

// P14.7: types are above what unify.Meet makes of them with others, if these have no names of theirs.
func TestMeet(t *testing.T) {
	d := rand.New(rand.NewPCG(14, 7))
	met := 0
	for range 30000 {
		a, b := someType(d, d.IntN(4), 3), someType(d, d.IntN(4), 3)
		names := term.Vars(b)
		var by []api.Term
		for _, name := range names {
			by = append(by, api.Term{Kind: api.TyVar, Name: name + "_"})
		}
		b = term.Subst(b, names, by)
		m, e := unify.Meet(a, b)
		if e == api.OK {
			met++
			if !scheme.Above(a, m) || !scheme.Above(b, m) {
				t.Fatalf("%s, %s: %s", raw(a), raw(b), raw(m))
			}
		}
	}
	if met < 5000 {
		t.Fatal(met)
	}
}

// What is handed out shares no list with what was handed in.
func TestOwn(t *testing.T) {
	a, b := typ(t, "('a, list('a, int))"), typ(t, "(list(int), list(list(int), int))")
	before := raw(a) + raw(b)
	l, _ := scheme.Match(a, b)
	l[0].Type.Kids[0].Name = "?"
	c := scheme.Canon(a)
	c.Kids[1].Kids[1].Name = "?"
	if raw(a)+raw(b) != before {
		t.Fatal("what is handed out is shared")
	}
}
