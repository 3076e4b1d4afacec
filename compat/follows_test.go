package compat_test

import (
	"math/rand/v2"
	"slices"
	"testing"

	"touchstone/api"
	"touchstone/check"
	"touchstone/compat"
	"touchstone/parse"
	"touchstone/scheme"
)

// below tells the chapter's words a second time.
func below(a, b api.Iface) bool {
	for _, x := range a.Types {
		if !slices.ContainsFunc(b.Types, func(y api.TypeDef) bool {
			sorted := func(l []api.Con) []api.Con {
				return slices.SortedFunc(slices.Values(l), func(c, d api.Con) int { return int(c.Name[0]) - int(d.Name[0]) })
			}
			return x.Name == y.Name && len(x.Params) == len(y.Params) && raw(sorted(x.Cons)) == raw(sorted(y.Cons))
		}) {
			return false
		}
	}
	for _, v := range a.Vals {
		if !slices.ContainsFunc(b.Vals, func(w api.Val) bool { return v.Name == w.Name && scheme.Above(w.Type, v.Type) }) {
			return false
		}
	}
	return true
}

// P19.1, P19.3, P19.5: any interfaces: each is below itself; being below goes on; one value more or less.
func TestAny(t *testing.T) {
	d := rand.New(rand.NewPCG(19, 3))
	belows, not := 0, 0
	for range 6000 {
		a, b := someIface(d), someIface(d)
		if d.IntN(2) == 0 {
			b = more(d, a)
		}
		c := more(d, b)
		is := below(a, b)
		if is {
			belows++
		} else {
			not++
		}
		wantGaps(t, a, b, is, below(b, a))
		wantGaps(t, a, a, true, true)
		if !compat.Below(b, c) || is && !compat.Below(a, c) {
			t.Fatalf("%s, %s, %s", raw(a), raw(b), raw(c))
		}
		with := a
		with.Vals = append(slices.Clone(a.Vals), api.Val{Name: "zzz", Type: someType(d, 2, "int")})
		if wantGaps(t, a, with, true, false); len(a.Vals) > 0 {
			without := a
			n := d.IntN(len(a.Vals))
			without.Vals = slices.Delete(slices.Clone(a.Vals), n, n+1)
			wantGaps(t, without, a, true, false)
			if got := compat.Missed(a, without); got != gone(a.Vals[n].Name) {
				t.Fatalf("%s: %+v", raw(a), got)
			}
		}
	}
	if belows < 2000 || not < 1500 {
		t.Fatal(belows, not)
	}
}

// clients are sources that use values f, g and h and the types of a package.
func someClient(d *rand.Rand) string {
	var expr func(depth int) string
	expr = func(depth int) string {
		if depth == 0 || d.IntN(4) == 0 {
			return pick(d, "P.f", "P.g", "P.h", "1", "\"a\"", "x", "P.None", "P.id")
		}
		a, b := expr(depth-1), expr(depth-1)
		return pick(d, "("+a+") ("+b+")", "("+a+") ("+b+")", "(fun x -> "+a+")", "("+a+", "+b+")", "P.Some("+a+")", "(match "+a+" with P.None -> "+b+" | P.Some(x) -> x end)", "(let x = "+a+" in "+b+")")
	}
	return "import P = p@1.0.0; let x = 1; let v = " + expr(3) + "; let w = fun x -> " + expr(3) + "; export v; export w; type t = T(P.opt(int)); export type t;"
}

// P19.4: what a module has that imports a, it has that imports b in its place.
func TestClient(t *testing.T) {
	d := rand.New(rand.NewPCG(19, 4))
	base := iface(t, "type opt('a) = None | Some('a); let f : int -> int = 0; let g : opt(int) -> (int, int) = 0; let h : (int -> text) -> int -> int = 0; let id : 'a -> 'a = 0;")
	checked, raisedOnes := 0, 0
	for range 6000 {
		b := more(d, base)
		source := someClient(d)
		if _, _, e := parse.Module(source); e != api.OK {
			t.Fatal(source, e)
		}
		release := func(i api.Iface) []api.Release {
			return []api.Release{{Pin: api.Pin{Pkg: "p", Version: api.Version{Major: 1}}, Iface: i}}
		}
		i, _, _, e := check.Source(source, release(base))
		if e != api.OK {
			continue
		}
		checked++
		got, _, _, e := check.Source(source, release(b))
		if e != api.OK {
			t.Fatalf("%s, with %s: %v", source, raw(b), e)
		}
		// What names a's line may tell more of it: only types that don't are compared.
		names := false
		for _, v := range append(slices.Clone(i.Vals), got.Vals...) {
			names = names || len(scheme.Lines(v.Type)) > 0
		}
		if i.Types, got.Types = nil, nil; !names {
			if !compat.Below(i, got) {
				t.Fatalf("%s, with %s: %s is not below %s", source, raw(b), raw(i), raw(got))
			}
			if !compat.Below(got, i) {
				raisedOnes++
			}
		}
	}
	if checked < 300 || raisedOnes < 10 {
		t.Fatal(checked, raisedOnes)
	}
}
