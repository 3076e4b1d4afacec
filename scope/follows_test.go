package scope_test

import (
	"math/rand/v2"
	"testing"

	"touchstone/api"
	"touchstone/scope"
)

// P10.4: what is resolved has the same terms, but qualifiers; of a module without imports it is the module.
func TestSameTerms(t *testing.T) {
	d := rand.New(rand.NewPCG(10, 4))
	right, alone := 0, 0
	deps := []api.Iface{dep(t, list), dep(t, more)}
	for range 20000 {
		items := someItems(d)
		m := module(t, imports+items)
		if got, e := scope.Resolve(m, deps); e == api.OK {
			right++
			if raw(got) != raw(requalifiedModule(m, map[string]string{"P": "list/1", "Q": "more/0"})) {
				t.Fatalf("%s: %s", items, raw(got))
			}
		}
		m = module(t, items)
		if got, e := scope.Resolve(m, nil); e == api.OK {
			alone++
			if raw(got) != raw(m) {
				t.Fatalf("%s: %s", items, raw(got))
			}
		}
	}
	if right < 500 || alone < 500 {
		t.Fatalf("%d, %d are right", right, alone)
	}
}

// P10.5: the order of items changes nothing but that of the items.
func TestOrder(t *testing.T) {
	d := rand.New(rand.NewPCG(10, 5))
	deps := []api.Iface{dep(t, list), dep(t, more)}
	met := map[api.Errno]int{}
	for range 20000 {
		m := module(t, imports+someItems(d))
		other := api.Module{Imports: []api.Import{m.Imports[1], m.Imports[0]}, Types: shuffled(d, m.Types), Aliases: shuffled(d, m.Aliases), Lets: shuffled(d, m.Lets), Exports: shuffled(d, m.Exports)}
		_, e := scope.Resolve(m, deps)
		got, again := scope.Resolve(other, []api.Iface{deps[1], deps[0]})
		met[e]++
		if e != again || e == api.OK && raw(got) != raw(requalifiedModule(other, map[string]string{"P": "list/1", "Q": "more/0"})) {
			t.Fatalf("%v, %v: %s", e, again, raw(other))
		}
	}
	for _, e := range []api.Errno{api.OK, api.ErrTwice, api.ErrName, api.ErrArity} {
		if met[e] < 100 {
			t.Fatalf("%v came %d times", e, met[e])
		}
	}
}

// What is handed out shares no list with what was handed in.
func TestOwn(t *testing.T) {
	m := module(t, imports+"type t('a) = A(t('a)); alias u('a) = t('a); let x : t(int) = A(x); export x : t(int);")
	before := raw(m)
	got, e := scope.Resolve(m, []api.Iface{dep(t, list), dep(t, more)})
	if e != api.OK {
		t.Fatal(e)
	}
	got.Imports[0].As, got.Types[0].Params[0], got.Types[0].Cons[0].Args[0].Kids[0].Name = "?", "?", "?"
	got.Types[0].Cons[0].Name, got.Aliases[0].Params[0], got.Aliases[0].Type.Kids[0].Name = "?", "?", "?"
	got.Lets[0].Ann[0].Kids[0].Name, got.Lets[0].Body.Kids[0].Name, got.Exports[0].Ann[0].Kids[0].Name = "?", "?", "?"
	if raw(m) != before {
		t.Fatalf("%s, not %s", raw(m), before)
	}
}
