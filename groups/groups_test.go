package groups_test

import (
	"fmt"
	"math"
	"strings"
	"testing"

	"touchstone/api"
	"touchstone/groups"
)

// P12.1: what each let needs.
func TestNeeds(t *testing.T) {
	wantNeeds(t, nil, "")
	wantNeeds(t, lets(t, "f = 1"), "{}")
	wantNeeds(t, lets(t, "f = f"), "{0}")
	wantNeeds(t, lets(t, "f = g", "g = f", "h = g"), "{1}, {0}, {1}")
	wantNeeds(t, lets(t, "f = g", "g : int = f", "h = g"), "{}, {0}, {}")
	wantNeeds(t, lets(t, "f : int = f", "g = fun x -> g x"), "{}, {1}")
	wantNeeds(t, lets(t, "a = (c, b, c, other)", "b = a", "c = 1"), "{1, 2}, {0}, {}")
	wantNeeds(t, lets(t, "d = (c, b, a)", "c = 1", "b = 2", "a = 3"), "{1, 2, 3}, {}, {}, {}")
	wantNeeds(t, lets(t, "a = fun b -> b", "b = let a = b in a", "c = let rec b = b in b", "d = match a with b -> b | _ -> c end", "e = (fun a -> a) a"), "{}, {1}, {}, {0, 2}, {0}")
	wantNeeds(t, lets(t, "a = P.b", "b = P.a", "c = (b : a)"), "{}, {}, {1}")
	// Of several lets with one name the first one is meant, also if it has an Ann, or the others have.
	wantNeeds(t, lets(t, "a = b", "b = a", "a = c", "b : int = 1", "c = (a, b)"), "{1}, {0}, {4}, {}, {0, 1}")
	wantNeeds(t, lets(t, "a : int = 1", "a = 1", "b = a"), "{}, {}, {}")
}

// P12.1: what a let reaches.
func TestReach(t *testing.T) {
	l := lets(t, "a = b", "b = (c, d)", "c = b", "d = 1", "e = (e, a)", "f = g", "g : int = f", "h = f")
	wantReach(t, l, 0, 1, 2, 3)
	wantReach(t, l, 1, 1, 2, 3)
	wantReach(t, l, 2, 1, 2, 3)
	wantReach(t, l, 3)
	wantReach(t, l, 4, 0, 1, 2, 3, 4)
	wantReach(t, l, 5)
	wantReach(t, l, 6, 5)
	wantReach(t, l, 7, 5)
	for _, from := range []int{-1, 8, 9, math.MinInt, math.MaxInt} {
		wantReach(t, l, from)
	}
	wantReach(t, nil, 0)
	wantReach(t, lets(t, "x = x"), 0, 0)
	wantReach(t, lets(t, "x : int = x"), 0)
}

// P12.2: groups, each behind what it needs, else as they stand.
func TestGroups(t *testing.T) {
	wantGroups(t, nil, "")
	wantGroups(t, lets(t, "f = 1"), "{0}")
	wantGroups(t, lets(t, "f = f"), "{0}")
	wantGroups(t, lets(t, "f = g", "g = f", "h = g"), "{0, 1}, {2}")
	wantGroups(t, lets(t, "f = g", "g : int = f", "h = g"), "{0}, {1}, {2}")
	wantGroups(t, lets(t, "h = g", "f = g", "g = f"), "{1, 2}, {0}")
	wantGroups(t, lets(t, "a = 1", "b = 1", "c = 1"), "{0}, {1}, {2}")
	wantGroups(t, lets(t, "a = b", "b = c", "c = 1"), "{2}, {1}, {0}")
	wantGroups(t, lets(t, "a = b", "b = c", "c = a", "d = (a, e)", "e = 1"), "{0, 1, 2}, {4}, {3}")
	wantGroups(t, lets(t, "a = c", "b = 1", "c = 1", "d = 1"), "{1}, {2}, {0}, {3}")
	wantGroups(t, lets(t, "a = d", "b = e", "c = 1", "d = a", "e = (b, c)"), "{0, 3}, {2}, {1, 4}")
	wantGroups(t, lets(t, "a = (e, b)", "b = 1", "c = f", "d = 1", "e = a", "f = (c, a)"), "{1}, {0, 4}, {2, 5}, {3}")
	wantGroups(t, lets(t, "a = b", "b : int = a", "c = (a, c)", "b = c", "a = 1"), "{0}, {1}, {2}, {3}, {4}")
	wantGroups(t, lets(t, "a = fun a -> a", "b = fun c -> c", "c = b"), "{0}, {1}, {2}")
}

// P12.1, P12.2: long rows and rings: nothing goes too deep.
func TestLong(t *testing.T) {
	const n = 60000
	row := make([]api.Let, n)
	for i := range row {
		row[i] = api.Let{Name: fmt.Sprint("x", i), Body: api.Term{Kind: api.ExVar, Name: fmt.Sprint("x", i+1)}}
	}
	got := groups.Groups(row)
	if len(got) != n || got[0][0] != n-1 || got[n-1][0] != 0 {
		t.Fatal(len(got))
	}
	if l := groups.Reach(row, 1); len(l) != n-2 || l[0] != 2 || l[len(l)-1] != n-1 {
		t.Fatal(len(l))
	}
	row[n-1].Body.Name = "x0"
	if got := groups.Groups(row); len(got) != 1 || len(got[0]) != n || got[0][0] != 0 || got[0][n-1] != n-1 {
		t.Fatal(len(got))
	}
	if l := groups.Reach(row, 7); len(l) != n {
		t.Fatal(len(l))
	}
	row[n/2].Body.Name = "nothing"
	if got := groups.Groups(row); len(got) != n || got[0][0] != n/2 || got[n-1][0] != n/2+1 {
		t.Fatal(len(got), got[0], got[n-1])
	}
	source := "x = " + strings.Repeat("(", 30) + "y" + strings.Repeat(")", 30)
	wantGroups(t, lets(t, source, "y = x"), "{0, 1}")
}

// P1: what is no expression ends too.
func TestAnything(t *testing.T) {
	l := []api.Let{{}, {Name: "x", Ann: make([]api.Term, 3), Body: api.Term{Kind: api.ExMatch, Kids: make([]api.Term, 4)}}, {Name: "x", Body: api.Term{Kind: api.ExLet, Kids: []api.Term{{Kind: api.ExVar}}}}}
	if got := groups.Groups(l); len(got) == 0 || len(groups.Needs(l)) != 3 || len(groups.Reach(l, 0)) != 0 {
		t.Fatal(got)
	}
}
