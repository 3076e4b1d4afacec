package groups_test

import (
	"fmt"
	"math/rand/v2"
	"slices"
	"strings"
	"testing"

	"touchstone/api"
	"touchstone/groups"
	"touchstone/parse"
)

// lets are told as a source, without the word ahead of each.
func lets(t *testing.T, l ...string) []api.Let {
	t.Helper()
	s := ""
	for _, x := range l {
		s += "let " + x + "; "
	}
	m, at, e := parse.Module(s)
	if e != api.OK {
		t.Fatalf("%q: %d, %v", s, at, e)
	}
	return m.Lets
}

// told tells lists of numbers, as {0, 1}, {2}.
func told(l [][]int) string {
	var all []string
	for _, x := range l {
		s := strings.Trim(strings.ReplaceAll(fmt.Sprint(x), " ", ", "), "[]")
		all = append(all, "{"+s+"}")
	}
	return strings.Join(all, ", ")
}

func wantNeeds(t *testing.T, l []api.Let, wanted string) {
	t.Helper()
	if got := told(groups.Needs(l)); got != wanted {
		t.Fatalf("%+v: needs %s, not %s", l, got, wanted)
	}
}

func wantReach(t *testing.T, l []api.Let, from int, wanted ...int) {
	t.Helper()
	if got := groups.Reach(l, from); !slices.Equal(got, wanted) {
		t.Fatalf("%+v: %d reaches %v, not %v", l, from, got, wanted)
	}
}

func wantGroups(t *testing.T, l []api.Let, wanted string) {
	t.Helper()
	before := fmt.Sprint(l)
	if got := told(groups.Groups(l)); got != wanted {
		t.Fatalf("%.500s: groups %s, not %s", before, got, wanted)
	}
	if fmt.Sprint(l) != before {
		t.Fatalf("%s is changed", before)
	}
}

// reaches tells a second time what reaches what: by going on as long as there is more.
func reaches(needs [][]int) [][]bool {
	r := make([][]bool, len(needs))
	for i, l := range needs {
		r[i] = make([]bool, len(needs))
		for _, j := range l {
			r[i][j] = true
		}
	}
	for k := range r {
		for i := range r {
			for j := range r {
				r[i][j] = r[i][j] || r[i][k] && r[k][j]
			}
		}
	}
	return r
}

// toldGroups tells the groups a second time: again and again the one with the smallest place that could stand next.
func toldGroups(needs [][]int) [][]int {
	r := reaches(needs)
	done := map[int]bool{}
	var l [][]int
	for len(done) < len(needs) {
		for i := range needs {
			ready := !done[i]
			var group []int
			for j := range needs {
				together := i == j || r[i][j] && r[j][i]
				if together {
					group = append(group, j)
				}
				ready = ready && (together || !r[i][j] || done[j])
			}
			if ready {
				l = append(l, group)
				for _, j := range group {
					done[j] = true
				}
				break
			}
		}
	}
	return l
}

// someLets have up to so many names, and need any of them.
func someLets(d *rand.Rand, most int) []api.Let {
	n := d.IntN(most + 1)
	name := func() string { return fmt.Sprintf("x%d", d.IntN(n+1)) }
	var l []api.Let
	for i := range n {
		x := api.Let{Name: fmt.Sprintf("x%d", i), Body: api.Term{Kind: api.ExTuple}}
		if d.IntN(10) == 0 {
			x.Name = name()
		}
		if d.IntN(6) == 0 {
			x.Ann = []api.Term{{Kind: api.TyTuple}}
		}
		for range d.IntN(3) {
			x.Body.Kids = append(x.Body.Kids, api.Term{Kind: api.ExVar, Name: name()})
		}
		if d.IntN(4) == 0 {
			x.Body = api.Term{Kind: api.ExFun, Name: name(), Kids: []api.Term{x.Body}}
		}
		l = append(l, x)
	}
	return l
}
