package check_test

import (
	"fmt"
	"math/rand/v2"
	"strings"
	"testing"

	"touchstone/api"
	"touchstone/check"
	"touchstone/lex"
	"touchstone/print"
)

// P18.4: with more releases it is the same.
func TestMore(t *testing.T) {
	d := rand.New(rand.NewPCG(18, 4))
	r := basics(t)
	more := append(append([]api.Release{}, r...), some(t, "q@1.2.0 let other : int = 0;", "q@1.3.0 type list = Nil;", "a@0.0.0 let x : int = 0;")...)
	for range 200 {
		s := "import Q = q@1.2.0; let use = Q.map; export use; " + someSource(d)
		i, pins, at, e := check.Source(s, r)
		again, pins2, at2, e2 := check.Source(s, more)
		if e != api.OK || e2 != api.OK || raw(i) != raw(again) || raw(pins) != raw(pins2) || at != at2 {
			t.Fatalf("%s: %v, %v", s, e, e2)
		}
	}
}

// all is a source that uses all that an interface has: each value as it is, and with its type told; each constructor in a match of all of its type.
func all(i api.Iface) string {
	l := []string{"import P = p@1.0.0;"}
	var outside func(x api.Term) api.Term
	outside = func(x api.Term) api.Term {
		if x.Kind == api.TyCon && x.Name != "int" && x.Name != "text" {
			x.Pkg = "P"
		}
		var kids []api.Term
		for _, k := range x.Kids {
			kids = append(kids, outside(k))
		}
		x.Kids = kids
		return x
	}
	for n, v := range i.Vals {
		l = append(l, fmt.Sprintf("let v%d = P.%s; export v%d; let w%d : %s = P.%s; export w%d;", n, v.Name, n, n, print.Type(outside(v.Type)), v.Name, n))
	}
	for n, x := range i.Types {
		var arms []string
		for _, c := range x.Cons {
			names := "-"
			for range c.Args {
				names += ", _"
			}
			arms = append(arms, strings.ReplaceAll("P."+c.Name+"("+names+") -> 1", "(-) ", " "))
		}
		l = append(l, fmt.Sprintf("let m%d = fun x -> match x with %s end; export m%d;", n, strings.ReplaceAll(strings.Join(arms, " | "), "(-, ", "("), n))
	}
	return strings.Join(l, "\n")
}

// P18.5: a source that uses all that an interface has is checked against that alone.
func TestItself(t *testing.T) {
	d := rand.New(rand.NewPCG(18, 5))
	for range 300 {
		s := someSource(d)
		i, _, _, e := check.Source(s, nil)
		if e != api.OK {
			t.Fatalf("%s: %v", s, e)
		}
		client := all(i)
		got, pins, at, e := check.Source(client, []api.Release{{Pin: pin(t, "p@1.0.0"), Iface: i}})
		if e != api.OK || at != 0 || len(pins) != 1 || len(got.Vals) != 2*len(i.Vals)+len(i.Types) {
			t.Fatalf("%s\n%s: %d, %v", s, client, at, e)
		}
		for n := range i.Vals {
			v, w := got.Vals[n+len(i.Types)], got.Vals[n+len(i.Types)+len(i.Vals)]
			if raw(v.Type) != raw(w.Type) {
				t.Fatalf("%s: %s, %s", client, raw(v), raw(w))
			}
		}
	}
}

// P18.6: blanks and remarks change nothing; P0.4: nor do items in another order, or printed.
func TestBlanks(t *testing.T) {
	d := rand.New(rand.NewPCG(18, 6))
	blanks := []string{" ", "\n", "\t", "  \n", " -- let x = ;\n", "--\n--\n", "-- a\n"}
	for range 300 {
		s := someSource(d)
		wanted, _, _, e := check.Source(s, nil)
		if e != api.OK {
			t.Fatalf("%s: %v", s, e)
		}
		tokens, _, _ := lex.Lex(s)
		var b strings.Builder
		for _, x := range tokens {
			told, _ := lex.Tell(x)
			for range 1 + d.IntN(2) {
				b.WriteString(blanks[d.IntN(len(blanks))])
			}
			b.WriteString(told)
		}
		b.WriteString(blanks[d.IntN(len(blanks))])
		printed, _ := print.Module(module(t, s))
		for _, other := range []string{b.String(), b.String() + "-- the end", s + " ", printed} {
			if got, _, at, e := check.Source(other, nil); e != api.OK || at != 0 || raw(got) != raw(wanted) {
				t.Fatalf("%q: %d, %v", other, at, e)
			}
		}
	}
}
