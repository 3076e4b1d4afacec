package parse_test

import (
	"math/rand/v2"
	"slices"
	"strings"
	"testing"

	"touchstone/api"
)

// P8.1, P8.2: any types and expressions are read from their texts, with blanks and parentheses as one likes.
func TestAnyTerm(t *testing.T) {
	d := rand.New(rand.NewPCG(8, 3))
	w := &writer{d}
	for range 5000 {
		ty, e := someType(d, 4), someExpr(d, 4)
		wantType(t, w.tell(ty), ty)
		wantExpr(t, w.tell(e), e)
	}
}

// join are the items of several modules, one behind the other.
func join(l ...api.Module) api.Module {
	var m api.Module
	for _, x := range l {
		m.Imports = slices.Concat(m.Imports, x.Imports)
		m.Types = slices.Concat(m.Types, x.Types)
		m.Aliases = slices.Concat(m.Aliases, x.Aliases)
		m.Lets = slices.Concat(m.Lets, x.Lets)
		m.Exports = slices.Concat(m.Exports, x.Exports)
	}
	return m
}

func someModule(d *rand.Rand, most int) (string, api.Module) {
	var m api.Module
	s := ""
	for range d.IntN(most + 1) {
		s += someItem(d, &m)
	}
	return s, m
}

// P8.1: any modules are read from their texts. P8.4: two sources of whole items, one behind the other, are read as the items of both.
func TestAnyModule(t *testing.T) {
	d := rand.New(rand.NewPCG(8, 4))
	for range 3000 {
		s1, m1 := someModule(d, 6)
		s2, m2 := someModule(d, 6)
		wantModule(t, s1, m1)
		wantModule(t, s2, m2)
		wantModule(t, s1+s2, join(m1, m2))
		wantModule(t, s2+"\n"+s1+"-- a\n"+s2, join(m2, m1, m2))
	}
}

// P8.4: a fault of the second one comes at its byte behind the first one.
func TestBehindItems(t *testing.T) {
	d := rand.New(rand.NewPCG(8, 5))
	for range 500 {
		s, _ := someModule(d, 4)
		for _, x := range []string{"let x = !;", "export !1;", "!x", "type t = A | !", "let x = (1, !", "import P = !a_@1.0.0;"} {
			wantForm(t, readModule, s+x)
		}
	}
}

// P8.5: parentheses around a type, or an expression, change nothing, unless something lies too deep then.
func TestParenthesesChangeNothing(t *testing.T) {
	d := rand.New(rand.NewPCG(8, 6))
	w := &writer{d}
	changed := 0
	for range 3000 {
		ty, e := someType(d, 4), someExpr(d, 4)
		for s, x := range map[string]struct {
			read reader
			told string
		}{w.tell(ty): {readType, told(ty)}, w.tell(e): {readExpr, told(e)}} {
			n := 1 + d.IntN(39)
			around := strings.Repeat("(", n) + s + strings.Repeat(")", n)
			if got, _, e := x.read(around); e == api.ErrLimit && n > 20 && got == told(api.Term{}) {
				changed++
				continue
			}
			want(t, x.read, around, x.told)
		}
	}
	if changed < 100 || changed > 3000 {
		t.Fatalf("%d lie too deep", changed)
	}
	for n := range 45 {
		for s, deepest := range map[string]int{"x": 39, "f x": 39, "()": 39, "fun x -> x": 38, "(x, (y, z))": 37} {
			around := strings.Repeat("(", n) + s + strings.Repeat(")", n)
			got, _, e := readExpr(around)
			bare, _, _ := readExpr(s)
			if n <= deepest && (e != api.OK || got != bare) || n > deepest && e != api.ErrLimit {
				t.Fatalf("%q: %s, %v", around, got, e)
			}
		}
	}
}
