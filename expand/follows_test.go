package expand_test

import (
	"math/rand/v2"
	"slices"
	"testing"

	"touchstone/api"
	"touchstone/expand"
	"touchstone/term"
)

// P11.1, P11.2: any aliases, held against the second telling; P11.4: what is expanded names no alias, and is the same, expanded again.
func TestAny(t *testing.T) {
	d := rand.New(rand.NewPCG(11, 1))
	cycles, types, limits := 0, 0, 0
	for range 6000 {
		l := someAliases(d, false)
		names, right := toldOrder(l)
		if !right {
			cycles++
			wantCycle(t, l)
			continue
		}
		if got, e := expand.Order(l); e != api.OK || !slices.Equal(got, names) {
			t.Fatalf("%s: %q, %v, not %q", raw(l), got, e, names)
		}
		x := someType(d, 3, "mpqrstu", "abz", false)
		for range d.IntN(9) * d.IntN(9) * d.IntN(2) * d.IntN(2) {
			x.Kids = append(x.Kids, someType(d, 6, "mpqrstu", "abz", false))
		}
		wanted := told(x, l)
		if term.Size(wanted) > api.MaxType {
			limits++
			wantNoType(t, l, x, api.ErrLimit)
			continue
		}
		types++
		got, e := expand.Type(x, l)
		if e != api.OK || raw(got) != raw(wanted) {
			t.Fatalf("%s: %s: %s, %v, not %s", raw(l), raw(x), raw(got), e, raw(wanted))
		}
		if len(leads(got, l, map[string]bool{})) > 0 {
			t.Fatalf("%s names an alias", raw(got))
		}
		if again, e := expand.Type(got, l); e != api.OK || raw(again) != raw(got) {
			t.Fatalf("%s, again: %s, %v", raw(got), raw(again), e)
		}
	}
	if cycles < 300 || types < 3000 || limits < 20 {
		t.Fatalf("%d cycles, %d types, %d limits", cycles, types, limits)
	}
}

// P11.5: neither the order of aliases changes what a type is, nor others that lead to nothing new.
func TestOthers(t *testing.T) {
	d := rand.New(rand.NewPCG(11, 5))
	for range 10000 {
		l := someAliases(d, true)
		x := someType(d, 3, "mpqrstu", "abz", true)
		other := slices.Clone(l)
		d.Shuffle(len(other), func(i, j int) { other[i], other[j] = other[j], other[i] })
		other = slices.Insert(other, d.IntN(len(other)+1), api.Alias{Name: "new", Type: someType(d, 2, "pqrstu", "a", true)}, api.Alias{Name: "newer", Params: []string{"a"}, Type: typ(t, "(new, 'a)")})
		got, e := expand.Type(x, l)
		again, e2 := expand.Type(x, other)
		if e != e2 || raw(got) != raw(again) {
			t.Fatalf("%s: %s, %v, not %s, %v", raw(x), raw(again), e2, raw(got), e)
		}
	}
}

// P11.6: with variables put in it is what it was, with what is put in, expanded.
func TestPutIn(t *testing.T) {
	d := rand.New(rand.NewPCG(11, 6))
	n := 0
	for range 10000 {
		l := someAliases(d, true)
		x, a, b := someType(d, 3, "mpqrstu", "abz", true), someType(d, 2, "mpqrstu", "abz", true), someType(d, 2, "mpqrstu", "abz", true)
		names := []string{"a", "z"}
		got, e := expand.Type(term.Subst(x, names, []api.Term{a, b}), l)
		ex, e1 := expand.Type(x, l)
		ea, e2 := expand.Type(a, l)
		eb, e3 := expand.Type(b, l)
		if e != api.OK || e1 != api.OK || e2 != api.OK || e3 != api.OK {
			continue
		}
		n++
		if raw(got) != raw(term.Subst(ex, names, []api.Term{ea, eb})) {
			t.Fatalf("%s: %s", raw(x), raw(got))
		}
	}
	if n < 3000 {
		t.Fatal(n)
	}
}

// What is handed out shares no list with what was handed in, nor with itself.
func TestOwn(t *testing.T) {
	l := aliases(t, "p('a) = ('a, 'a, list(int))", "q = (p(list(int)), p(list(int)))")
	x := typ(t, "(q, q, p(list(text)))")
	before := raw(l) + raw(x)
	got, _ := expand.Type(x, l)
	again, _ := expand.Type(x, l)
	var spoil func(x api.Term) int
	spoil = func(x api.Term) int {
		n := 0
		for i := range x.Kids {
			if x.Kids[i].Name == "?" {
				t.Fatal("a list stands twice")
			}
			n += 1 + spoil(x.Kids[i])
			x.Kids[i].Name = "?"
		}
		return n
	}
	if spoil(got) < 30 || raw(l)+raw(x) != before {
		t.Fatal("what is handed out is shared")
	}
	if second, _ := expand.Type(x, l); raw(second) != raw(again) {
		t.Fatal("what is handed out is kept")
	}
}
