package compat_test

import (
	"fmt"
	"math/rand/v2"
	"slices"
	"testing"

	"touchstone/api"
	"touchstone/compat"
	"touchstone/parse"
	"touchstone/scheme"
)

// raw is all that is in a thing, as a text; lists that are nil and empty are alike.
func raw(x any) string { return fmt.Sprintf("%+v", x) }

// iface is an interface, told as a source: its types, and its lets' names and Anns.
func iface(t *testing.T, source string) api.Iface {
	t.Helper()
	m, at, e := parse.Module(source)
	if e != api.OK {
		t.Fatalf("%q: %d, %v", source, at, e)
	}
	i := api.Iface{Types: m.Types}
	for _, x := range m.Lets {
		i.Vals = append(i.Vals, api.Val{Name: x.Name, Type: x.Ann[0]})
	}
	return i
}

// want asks what a client of a could miss in b, and of b in a; and for all that follows from it.
func want(t *testing.T, a, b string, there, back api.Change) {
	t.Helper()
	x, y := iface(t, a), iface(t, b)
	before := raw(x) + raw(y)
	if got := compat.Missed(x, y); got != there {
		t.Fatalf("%s, then %s: %+v, not %+v", a, b, got, there)
	}
	if got := compat.Missed(y, x); got != back {
		t.Fatalf("%s, then %s: %+v, not %+v", b, a, got, back)
	}
	wantGaps(t, x, y, there.Kind == 0, back.Kind == 0)
	wantGaps(t, y, x, back.Kind == 0, there.Kind == 0)
	if raw(x)+raw(y) != before {
		t.Fatalf("%s, %s: what was handed in is changed", a, b)
	}
}

// wantGaps asks Below, Classify and Allows of two, of which it is known which is below which.
func wantGaps(t *testing.T, a, b api.Iface, below, above bool) {
	t.Helper()
	if compat.Below(a, b) != below || compat.Below(b, a) != above {
		t.Fatalf("%s, %s: Below %v, %v", raw(a), raw(b), !below, !above)
	}
	gap := api.GapMajor
	if below && above {
		gap = api.GapPatch
	} else if below {
		gap = api.GapMinor
	}
	if got := compat.Classify(a, b); got != gap {
		t.Fatalf("%s, %s: Classify %d, not %d", raw(a), raw(b), got, gap)
	}
	for g, allowed := range map[int]bool{api.GapPatch: gap == api.GapPatch, api.GapMinor: gap <= api.GapMinor, api.GapMajor: true, api.GapNone: false, 4: false, 5: false, -1: false, -1 << 63: false, 1<<63 - 1: false} {
		if got := compat.Allows(g, a, b); got != allowed {
			t.Fatalf("%s, %s: Allows %d %v", raw(a), raw(b), g, got)
		}
	}
}

func gone(name string) api.Change        { return api.Change{Kind: api.ChangeGone, Name: name} }
func typed(name string) api.Change       { return api.Change{Kind: api.ChangeType, Name: name} }
func typeGone(name string) api.Change    { return api.Change{Kind: api.ChangeTypeGone, Name: name} }
func params(name string) api.Change      { return api.Change{Kind: api.ChangeParams, Name: name} }
func cons(name, con string) api.Change   { return api.Change{Kind: api.ChangeCons, Name: name, Con: con} }
func args(name, con string) api.Change   { return api.Change{Kind: api.ChangeArgs, Name: name, Con: con} }
func pick[T any](d *rand.Rand, l ...T) T { return l[d.IntN(len(l))] }

func someType(d *rand.Rand, depth int, own string) api.Term {
	one := func() api.Term { return someType(d, depth-1, own) }
	if depth <= 0 || d.IntN(3) == 0 {
		return pick(d, api.Term{Kind: api.TyVar, Name: "a"}, api.Term{Kind: api.TyVar, Name: "b"}, api.Term{Kind: api.TyCon, Name: "int"}, api.Term{Kind: api.TyCon, Name: own})
	}
	return api.Term{Kind: pick(d, api.TyFun, api.TyTuple), Kids: []api.Term{one(), one()}}
}

// someIface has few types, t and u, and values, x, y and z.
func someIface(d *rand.Rand) api.Iface {
	var i api.Iface
	for _, name := range []string{"t", "u"} {
		if d.IntN(4) > 0 {
			x := api.TypeDef{Name: name, Params: pick(d, []string{"a", "b"}, []string{"a", "b"}, []string{"a", "b"}, nil)}
			for _, c := range []string{"A", "B"} {
				if d.IntN(5) > 0 || c == "B" && len(x.Cons) == 0 {
					x.Cons = append(x.Cons, api.Con{Name: c + name, Args: pick(d, nil, nil, []api.Term{{Kind: api.TyCon, Name: "int"}})})
				}
			}
			i.Types = append(i.Types, x)
		}
	}
	for _, name := range []string{"x", "y", "z"} {
		if d.IntN(3) > 0 {
			i.Vals = append(i.Vals, api.Val{Name: name, Type: scheme.Canon(someType(d, 2, "int"))})
		}
	}
	return i
}

// raised is a type that is above one, or that itself.
func raised(d *rand.Rand, x api.Term) api.Term {
	y := cut(d, x)
	if scheme.Above(y, x) {
		return scheme.Canon(y)
	}
	return x
}

func cut(d *rand.Rand, x api.Term) api.Term {
	if d.IntN(4) == 0 {
		return api.Term{Kind: api.TyVar, Name: pick(d, "p", "q", "r", "s")}
	}
	x.Kids = slices.Clone(x.Kids)
	for i := range x.Kids {
		x.Kids[i] = cut(d, x.Kids[i])
	}
	return x
}

// more is an interface that one is below.
func more(d *rand.Rand, i api.Iface) api.Iface {
	i.Vals, i.Types = slices.Clone(i.Vals), slices.Clone(i.Types)
	for n := range i.Vals {
		i.Vals[n].Type = raised(d, i.Vals[n].Type)
	}
	if d.IntN(3) == 0 {
		i.Vals = append(i.Vals, api.Val{Name: "zz", Type: api.Term{Kind: api.TyTuple}})
	}
	if d.IntN(3) == 0 {
		i.Types = append(i.Types, api.TypeDef{Name: "w", Cons: []api.Con{{Name: "W"}}})
	}
	return i
}
