package witness_test

import (
	"fmt"
	"math/rand/v2"
	"strings"
	"testing"

	"touchstone/api"
	"touchstone/check"
	"touchstone/iface"
	"touchstone/parse"
	"touchstone/scheme"
	"touchstone/semver"
	"touchstone/witness"
)

// raw is all that is in a thing, as a text; lists that are nil and empty are alike.
func raw(x any) string { return fmt.Sprintf("%+v", x) }

func pin(t *testing.T, s string) api.Pin {
	t.Helper()
	p, e := semver.ParsePin(s)
	if e != api.OK {
		t.Fatalf("%q: %v", s, e)
	}
	return p
}

func pins(t *testing.T, s string) []api.Pin {
	t.Helper()
	var l []api.Pin
	for _, x := range strings.Fields(s) {
		l = append(l, pin(t, x))
	}
	return l
}

// lines are those that qualifiers of the tests' interfaces mean.
func lines() map[string]string {
	return map[string]string{"Q": "q/2", "R": "q/10", "S": "a/0"}
}

// interfaceOf is told as a source: its types, and its lets' names and Anns.
func interfaceOf(t *testing.T, source string) api.Iface {
	t.Helper()
	m, at, e := parse.Module(source)
	if e != api.OK {
		t.Fatalf("%q: %d, %v", source, at, e)
	}
	i := api.Iface{Types: m.Types}
	var lined func(x api.Term) api.Term
	lined = func(x api.Term) api.Term {
		if x.Pkg != "" {
			x.Pkg = lines()[x.Pkg]
		}
		for i := range x.Kids {
			x.Kids[i] = lined(x.Kids[i])
		}
		return x
	}
	for _, x := range i.Types {
		for _, c := range x.Cons {
			for n := range c.Args {
				c.Args[n] = lined(c.Args[n])
			}
		}
	}
	for _, x := range m.Lets {
		i.Vals = append(i.Vals, api.Val{Name: x.Name, Type: lined(x.Ann[0])})
	}
	if !iface.Right(i) {
		t.Fatalf("%q is not right", source)
	}
	return i
}

// releases are those of the lines that the tests' interfaces tell, with their types.
func releases(t *testing.T) []api.Release {
	t.Helper()
	var l []api.Release
	for _, s := range []string{"q@2.0.0 type t = T; type v('a) = V;", "q@2.1.0 type t = T; type v('a) = V; type w = W;", "q@10.0.3 type t = T;", "a@0.0.0 type u('a, 'b) = U;"} {
		p, source, _ := strings.Cut(s, " ")
		l = append(l, api.Release{Pin: pin(t, p), Iface: interfaceOf(t, source)})
	}
	return l
}

const uses = "a@0.0.0 q@2.1.0 q@10.0.3 q@2.0.0"

// wantParted asks that a client is checked without an error, where the pin has the one interface, and not, where it has the other.
func wantParted(t *testing.T, client string, at api.Pin, with, without api.Iface) {
	t.Helper()
	for i, x := range []api.Iface{with, without} {
		_, _, _, e := check.Source(client, append(releases(t), api.Release{Pin: at, Iface: x}))
		if (e == api.OK) != (i == 0) {
			t.Fatalf("%s\nagainst %s: %v", client, raw(x), e)
		}
	}
}

// wantClient asks for a source, and that it parts the two; and for what Both tells of them, either way.
func wantClient(t *testing.T, a, b, wanted string) {
	t.Helper()
	x, y := interfaceOf(t, a), interfaceOf(t, b)
	before := raw(x) + raw(y)
	at := pin(t, "p@1.2.3")
	got, e := witness.Client(x, y, at, pins(t, uses))
	if e != api.OK || got != wanted {
		t.Fatalf("%s, %s: %q, %v, not %q", a, b, got, e, wanted)
	}
	wantParted(t, got, at, x, y)
	if both, which, e := witness.Both(x, y, at, pins(t, uses)); e != api.OK || both != wanted || which != 0 {
		t.Fatalf("%s, %s: Both %q, %d, %v", a, b, both, which, e)
	}
	both, which, e := witness.Both(y, x, at, pins(t, uses))
	if _, err := witness.Client(y, x, at, pins(t, uses)); err == api.ErrNone && (e != api.OK || both != wanted || which != 1) || err == api.OK && (which != 0 || e != api.OK) {
		t.Fatalf("%s, %s: Both, turned, %q, %d, %v", a, b, both, which, e)
	}
	if raw(x)+raw(y) != before {
		t.Fatalf("%s, %s: what was handed in is changed", a, b)
	}
}

func wantNone(t *testing.T, wanted api.Errno, a, b api.Iface, at api.Pin, uses []api.Pin) {
	t.Helper()
	if got, e := witness.Client(a, b, at, uses); e != wanted || got != "" {
		t.Fatalf("%s, %s, %v: %q, %v, not %v", raw(a), raw(b), at, got, e, wanted)
	}
}

func pick[T any](d *rand.Rand, l ...T) T { return l[d.IntN(len(l))] }

func someType(d *rand.Rand, depth, vars int) api.Term {
	one := func() api.Term { return someType(d, depth-1, vars) }
	if depth <= 0 || d.IntN(3) == 0 {
		l := []api.Term{{Kind: api.TyCon, Name: "int"}, {Kind: api.TyCon, Name: "text"}, {Kind: api.TyCon, Pkg: "q/2", Name: "t"}, {Kind: api.TyCon, Pkg: "q/10", Name: "t"}}
		for i := range vars {
			l = append(l, api.Term{Kind: api.TyVar, Name: string(rune('a' + i))})
		}
		return pick(d, l...)
	}
	switch d.IntN(4) {
	case 0:
		return api.Term{Kind: api.TyCon, Pkg: "a/0", Name: "u", Kids: []api.Term{one(), one()}}
	case 1:
		return api.Term{Kind: api.TyTuple, Kids: []api.Term{one(), one()}}
	}
	return api.Term{Kind: api.TyFun, Kids: []api.Term{one(), one()}}
}

// someIface has few types, t and u, which name themselves, and values, x, y and z.
func someIface(d *rand.Rand) api.Iface {
	var i api.Iface
	params := pick(d, []string{"a", "b"}, []string{"a"})
	for _, name := range []string{"t", "u"} {
		if d.IntN(5) == 0 {
			continue
		}
		x := api.TypeDef{Name: name, Params: params}
		self := api.Term{Kind: api.TyCon, Name: name}
		for _, p := range params {
			self.Kids = append(self.Kids, api.Term{Kind: api.TyVar, Name: p})
		}
		for _, c := range []string{"A", "B", "C"} {
			if d.IntN(8) > 0 || c == "C" && len(x.Cons) == 0 {
				con := api.Con{Name: c + name}
				if c != "A" {
					con.Args = append(con.Args, self, api.Term{Kind: api.TyVar, Name: "a"})
				}
				if d.IntN(6) == 0 {
					con.Args = append(con.Args, someType(d, 1, len(params)))
				}
				x.Cons = append(x.Cons, con)
			}
		}
		i.Types = append(i.Types, x)
		if d.IntN(2) == 0 {
			i.Vals = append(i.Vals, api.Val{Name: "of" + name, Type: scheme.Canon(self)})
		}
	}
	for _, name := range []string{"x", "y", "z"} {
		if d.IntN(4) > 0 {
			i.Vals = append(i.Vals, api.Val{Name: name, Type: scheme.Canon(someType(d, 2, 2))})
		}
	}
	return i
}
