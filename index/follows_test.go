package index_test

import (
	"math/rand/v2"
	"strings"
	"testing"

	"touchstone/api"
	"touchstone/compat"
	"touchstone/index"
)

// someRelease is a pin of few packages and versions, and a source; some import others.
func someRelease(d *rand.Rand, x *index.Index) (api.Pin, string) {
	p := api.Pin{Pkg: pick(d, "a", "b", "c"), Version: api.Version{Major: d.IntN(2), Minor: d.IntN(3), Patch: d.IntN(3)}}
	source := pick(d, nothing, one, raised, raised, two, two, typed, other, alike)
	if all := x.All(); len(all) > 0 && d.IntN(3) == 0 {
		r := pick(d, all...)
		source = "import P = " + r.Pkg + "@" + version(r.Version) + "; " + source
		if len(r.Iface.Vals) > 0 {
			source += " let p = P.f; export p;"
		}
	}
	return p, source
}

func version(v api.Version) string {
	return strings.ReplaceAll(strings.Trim(strings.ReplaceAll(raw([]int{v.Major, v.Minor, v.Patch}), " ", "."), "[]"), " ", "")
}

// P21.4, P21.5, P21.6, P21.7: any publishes and yanks.
func TestAny(t *testing.T) {
	d := rand.New(rand.NewPCG(21, 4))
	met := map[api.Errno]int{}
	for range 120 {
		x := index.New()
		for range 40 {
			p, source := someRelease(d, x)
			before := look(x)
			r, at, e := x.Try(p, source)
			again, e2 := x.Publish(p, source)
			met[e]++
			if at != again || e != e2 || e != api.OK && look(x) != before {
				t.Fatalf("%v %s: %d, %v; %d, %v", p, source, at, e, again, e2)
			}
			if got, _ := x.Get(p); e == api.OK && raw(got) != raw(r) {
				t.Fatalf("%v %s: %s, not %s", p, source, raw(got), raw(r))
			}
			if all := x.All(); len(all) > 0 && d.IntN(4) == 0 {
				x.Yank(pick(d, all...).Pin, d.IntN(2) == 0)
			}
		}
		wantChain(t, x)
	}
	for _, e := range []api.Errno{api.OK, api.ErrThere, api.ErrLabel, api.ErrCycle} {
		if met[e] < 50 {
			t.Fatal(met)
		}
	}
}

// wantChain asks that of two releases of one package and major the lower one's interface is below the other's, that clients of it may have the other one, and that no line reaches itself.
func wantChain(t *testing.T, x *index.Index) {
	t.Helper()
	all := x.All()
	for i, a := range all {
		for _, b := range all[i+1:] {
			if a.Pkg != b.Pkg || a.Major != b.Major {
				continue
			}
			if !compat.Below(a.Iface, b.Iface) || a.Minor == b.Minor && !compat.Below(b.Iface, a.Iface) {
				t.Fatalf("%v, %v: %s, %s", a.Pin, b.Pin, raw(a.Iface), raw(b.Iface))
			}
			for _, s := range []string{"", "let x = P.f;", "let x = (P.f 1, P.f 2);", "let x = P.f \"a\";", "let x = (P.g, P.f);", "let x = fun y -> match y with P.A -> 0 | P.B(n) -> P.f n end;", "let x = P.p;"} {
				_, e := x.Client("import P = " + a.Pkg + "@" + version(a.Version) + ";" + s)
				if _, e2 := x.Client("import P = " + a.Pkg + "@" + version(b.Version) + ";" + s); e == api.OK && e2 != api.OK {
					t.Fatalf("%s: with %v %v, with %v %v", s, a.Pin, e, b.Pin, e2)
				}
			}
		}
		for _, l := range x.Reach(a.Pins) {
			if l == (api.Line{Pkg: a.Pkg, Major: a.Major}) {
				t.Fatalf("%v reaches itself", a.Pin)
			}
		}
	}
}
