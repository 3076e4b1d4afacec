package match_test

import (
	"math/rand/v2"
	"slices"
	"testing"

	"touchstone/api"
	"touchstone/match"
	"touchstone/parse"
)

func module(t *testing.T, s string) api.Module {
	t.Helper()
	m, at, e := parse.Module(s)
	if e != api.OK {
		t.Fatal(s, at, e)
	}
	return m
}

// depth is how deep a pattern goes.
func depth(p api.Term) int {
	n := 0
	for _, k := range p.Kids {
		n = max(n, depth(k))
	}
	return n + 1
}

// P16.1, P16.4, P16.7: any patterns, held against all values of their type, as far as patterns go.
func TestAny(t *testing.T) {
	d := rand.New(rand.NewPCG(16, 1))
	c := cons(t)
	missing, full := 0, 0
	for range 4000 {
		all := kinds()
		k := all[d.IntN(len(all))]
		var pats []api.Term
		deepest := 1
		for range d.IntN(7) {
			p := k.some(d, 1+d.IntN(3))
			pats, deepest = append(pats, p), max(deepest, depth(p))
		}
		got, misses, e := match.Missing(pats, c)
		if e != api.OK {
			t.Fatalf("%s: %v, in %d steps", raw(pats), e, steps([]*kind{k}, rowsOf(pats)))
		}
		taken := func(v api.Term) bool {
			return slices.ContainsFunc(pats, func(p api.Term) bool { return takes(p, v) })
		}
		values := k.values(deepest)
		if slices.ContainsFunc(values, func(v api.Term) bool { return !taken(v) }) != misses {
			t.Fatalf("%s: %s, %v", raw(pats), raw(got), misses)
		}
		if !misses {
			full++
			continue
		}
		missing++
		if hasVar(got) || slices.ContainsFunc(pats, func(p api.Term) bool { return match.Overlap(p, got) }) {
			t.Fatalf("%s: %s", raw(pats), raw(got))
		}
		wantOfKind(t, k, got)
		// P16.5, P16.6.
		wantSteady(t, d, k, pats, c)
	}
	if missing < 1000 || full < 300 {
		t.Fatal(missing, full)
	}
}

// wantOfKind asks that a pattern is one of a type.
func wantOfKind(t *testing.T, k *kind, p api.Term) {
	t.Helper()
	if p.Kind == api.PaAny {
		return
	}
	if k.lits != nil {
		if p.Kind != k.lits[0].Kind || len(p.Kids) > 0 {
			t.Fatalf("%s is no such literal", raw(p))
		}
		return
	}
	i := 0
	if k.cons != nil {
		i = slices.Index(k.cons, p.Name)
	}
	if i < 0 || p.Kind != k.head(i, nil).Kind || len(p.Kids) != len(k.parts[i]) {
		t.Fatalf("%s is of another type", raw(p))
	}
	for j, part := range k.parts[i] {
		wantOfKind(t, part, p.Kids[j])
	}
}

// wantSteady asks that neither one pattern more makes something missing, nor the order does; and that with any nothing is.
func wantSteady(t *testing.T, d *rand.Rand, k *kind, pats []api.Term, c []api.Cons) {
	t.Helper()
	other := slices.Clone(pats)
	d.Shuffle(len(other), func(i, j int) { other[i], other[j] = other[j], other[i] })
	if _, misses, e := match.Missing(other, c); !misses || e != api.OK {
		t.Fatalf("%s: in another order nothing is missing: %v", raw(other), e)
	}
	if _, misses, e := match.Missing(append(other, api.Term{Kind: api.PaAny}), c); misses || e != api.OK {
		t.Fatalf("%s: with any something is missing: %v", raw(other), e)
	}
	if n := len(pats); n > 0 {
		if _, misses, e := match.Missing(pats[:n-1], c); !misses || e != api.OK {
			t.Fatalf("%s: with one more something is missing that was not: %v", raw(pats), e)
		}
	}
}

// P16.2: Overlap of any patterns, held against all values.
func TestOverlapAny(t *testing.T) {
	d := rand.New(rand.NewPCG(16, 2))
	overlaps, not := 0, 0
	for range 4000 {
		all := kinds()
		k := all[d.IntN(len(all))]
		a, b := k.some(d, 3), k.some(d, 3)
		wanted := slices.ContainsFunc(k.values(max(depth(a), depth(b))), func(v api.Term) bool { return takes(a, v) && takes(b, v) })
		if match.Overlap(a, b) != wanted {
			t.Fatalf("%s, %s: %v", raw(a), raw(b), !wanted)
		}
		if wanted {
			overlaps++
		} else {
			not++
		}
	}
	if overlaps < 300 || not < 300 {
		t.Fatal(overlaps, not)
	}
}

// What is handed out shares no list with what was handed in.
func TestOwn(t *testing.T) {
	pats, c := patterns(t, "Nil | Cons((1, _), _)"), cons(t)
	before := raw(pats) + raw(c)
	got, _, _ := match.Missing(pats, c)
	got.Kids[0].Kids[0].N, got.Kids[1].Name = 99, "?"
	again, _, _ := match.Missing(pats, c)
	if raw(pats)+raw(c) != before || again.Kids[1].Name == "?" {
		t.Fatal("what is handed out is shared")
	}
}
