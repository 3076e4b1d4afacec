package groups_test

import (
	"math/rand/v2"
	"slices"
	"testing"

	"touchstone/api"
	"touchstone/groups"
)

// P12.1, P12.2, P12.3: any lets, held against the second telling.
func TestAny(t *testing.T) {
	d := rand.New(rand.NewPCG(12, 3))
	for range 20000 {
		l := someLets(d, 9)
		needs := groups.Needs(l)
		r := reaches(needs)
		for i := range l {
			var wanted []int
			for j := range l {
				if r[i][j] {
					wanted = append(wanted, j)
				}
			}
			wantReach(t, l, i, wanted...)
		}
		wantGroups(t, l, told(toldGroups(needs)))
		wantApart(t, groups.Groups(l), r)
	}
}

// wantApart asks P12.3: each let is in one group; two in one reach each other; none reaches a later group.
func wantApart(t *testing.T, l [][]int, r [][]bool) {
	t.Helper()
	met := map[int]int{}
	for g, group := range l {
		for _, i := range group {
			for _, j := range group {
				if i != j && !r[i][j] {
					t.Fatalf("%v: %d does not reach %d", l, i, j)
				}
			}
			if _, twice := met[i]; twice {
				t.Fatalf("%v: %d stands twice", l, i)
			}
			met[i] = g
		}
	}
	for i := range r {
		for j := range r {
			if r[i][j] && met[j] > met[i] {
				t.Fatalf("%v: %d reaches %d", l, i, j)
			}
		}
	}
	if len(met) != len(r) {
		t.Fatalf("%v: %d lets", l, len(r))
	}
}

// P12.4: lets behind all, that none of the others needs, change nothing of the groups of these.
func TestBehind(t *testing.T) {
	d := rand.New(rand.NewPCG(12, 4))
	for range 10000 {
		l := someLets(d, 6)
		more := slices.Clone(l)
		for i, x := range someLets(d, 5) {
			x.Name = "y" + string(rune('a'+i))
			x.Body = api.Term{Kind: api.ExTuple, Kids: []api.Term{x.Body, {Kind: api.ExVar, Name: "y" + string(rune('a'+d.IntN(5)))}}}
			more = append(more, x)
		}
		// Those of the first lets, as they come among the groups of all.
		var first [][]int
		for _, g := range groups.Groups(more) {
			if g[0] < len(l) {
				first = append(first, g)
			}
		}
		if told(first) != told(groups.Groups(l)) {
			t.Fatalf("%+v: %s, not %s", more, told(first), told(groups.Groups(l)))
		}
	}
}
