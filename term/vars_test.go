package term_test

import (
	"math/rand/v2"
	"slices"
	"strings"
	"testing"

	"touchstone/api"
	"touchstone/term"
)

// P7.3, example 1: variables in the order in which they are met, each once.
func TestVars(t *testing.T) {
	wantNames(t, term.Vars(arrow(tv("a"), tc("list", tv("b"), tv("a")))), "a", "b")
	wantNames(t, term.Vars())
	wantNames(t, term.Vars(tc("int")))
	wantNames(t, term.Vars(tv("b"), tv("a")), "b", "a")
	wantNames(t, term.Vars(tv("b"), tv("a"), tv("b"), tv("c")), "b", "a", "c")
	wantNames(t, term.Vars(arrow(arrow(tv("d"), tv("c")), tv("b")), tt(tv("a"), tv("d"), tv("e"))), "d", "c", "b", "a", "e")
	wantNames(t, term.Vars(tc("a", in("P", tc("b")))))
	wantNames(t, term.Vars(tt(tc("t", tc("t", tv("z"))), tv("y"))), "z", "y")
}

// P7.3: of other terms, too, in all that is in them, a term ahead of its Kids.
func TestVarsOther(t *testing.T) {
	wantNames(t, term.Vars(ev("a"), pv("b"), fun("c", ev("d")), api.Term{Name: "e"}))
	wantNames(t, term.Vars(of(api.TyVar, "a", tv("b"), tv("a")), tv("c")), "a", "b", "c")
	wantNames(t, term.Vars(let("x", ann(ev("x"), tv("b")), ann(ev("x"), tv("a")), tv("c"))), "b", "a", "c")
	wantNames(t, term.Vars(match(ev("x"), tv("p"), ev("y")), of(99, "", tv("q")), pc("A", tv("r"))), "p", "q", "r")
	wantNames(t, term.Vars(tv(""), tv("A"), tv("let"), in("P", tv("b")), rec(tv("c"))), "", "A", "let", "b", "c")
}

func wantSubst(t *testing.T, x api.Term, names string, by []api.Term, wanted api.Term) {
	t.Helper()
	wantTerm(t, term.Subst(x, strings.Fields(names), by), wanted)
}

// P7.3: each variable that is named is by what stands at its place.
func TestSubst(t *testing.T) {
	l := func(l ...api.Term) []api.Term { return l }
	wantSubst(t, tv("a"), "a", l(tc("int")), tc("int"))
	wantSubst(t, tv("a"), "b", l(tc("int")), tv("a"))
	wantSubst(t, tv("a"), "", nil, tv("a"))
	wantSubst(t, tv("b"), "a b c", l(tt(), tc("t", tv("a")), tc("int")), tc("t", tv("a")))
	wantSubst(t, arrow(tv("a"), tc("list", tv("b"), tv("a"))), "a b", l(tv("b"), tv("a")), arrow(tv("b"), tc("list", tv("a"), tv("b"))))
	wantSubst(t, tt(tv("a"), tv("b")), "a", l(tt(tv("a"), tv("b"))), tt(tt(tv("a"), tv("b")), tv("b")))
	wantSubst(t, tc("a", in("P", tc("a"))), "a", l(tc("int")), tc("a", in("P", tc("a"))))
}

// P7.3: of several alike the first one counts, and one beyond by's end stays.
func TestSubstUneven(t *testing.T) {
	l := func(l ...api.Term) []api.Term { return l }
	wantSubst(t, tv("a"), "a a", l(tc("int"), tc("text")), tc("int"))
	wantSubst(t, tt(tv("a"), tv("b"), tv("c")), "b a b c a", l(tt(), tc("int"), tc("text"), tv("z"), tv("y")), tt(tc("int"), tt(), tv("z")))
	wantSubst(t, tv("a"), "a", nil, tv("a"))
	wantSubst(t, tv("a"), "a", []api.Term{}, tv("a"))
	wantSubst(t, tt(tv("a"), tv("b"), tv("c")), "a b c", l(tc("int")), tt(tc("int"), tv("b"), tv("c")))
	wantSubst(t, tt(tv("a"), tv("b"), tv("c")), "a b c", l(tc("int"), tt()), tt(tc("int"), tt(), tv("c")))
	wantSubst(t, tt(tv("a"), tv("b")), "a", l(tc("int"), tc("text")), tt(tc("int"), tv("b")))
	wantSubst(t, tt(tv("a"), tv("b")), "", l(tc("int"), tc("text")), tt(tv("a"), tv("b")))
	wantSubst(t, tt(tv("a"), tv("b")), "c b b", l(tt(), tc("int")), tt(tv("a"), tc("int")))
}

// P7.3: of other terms, too; by may be anything.
func TestSubstOther(t *testing.T) {
	l := func(l ...api.Term) []api.Term { return l }
	wantSubst(t, ann(ev("a"), tv("a")), "a", l(tc("int")), ann(ev("a"), tc("int")))
	wantSubst(t, let("a", ev("a"), fun("a", ev("a")), tv("a")), "a", l(tt()), let("a", ev("a"), fun("a", ev("a")), tt()))
	wantSubst(t, match(ev("x"), pv("a"), of(99, "a", tv("a"))), "a", l(ev("y")), match(ev("x"), pv("a"), of(99, "a", ev("y"))))
	wantSubst(t, of(api.TyVar, "b", tv("a"), tv("b")), "a", l(tc("int")), of(api.TyVar, "b", tc("int"), tv("b")))
	wantSubst(t, api.Term{Kind: 99, Pkg: "P", Name: "a", N: 5}, "a", l(tt()), api.Term{Kind: 99, Pkg: "P", Name: "a", N: 5})
	wantSubst(t, tt(in("P", tv("a")), rec(tv("a")), tv("")), "a", l(tc("int")), tt(tc("int"), tc("int"), tv("")))
	wantTerm(t, term.Subst(tt(tv(""), tv("A")), []string{"A", ""}, l(tc("x"), tc("y"))), tt(tc("y"), tc("x")))
}

// put tells P7.3 a second time, part by part.
func put(x api.Term, names []string, by []api.Term) api.Term {
	if i := slices.Index(names, x.Name); x.Kind == api.TyVar && i >= 0 && i < len(by) {
		return by[i]
	}
	x = clone(x)
	for i := range x.Kids {
		x.Kids[i] = put(x.Kids[i], names, by)
	}
	return x
}

func someNames(d *rand.Rand, letters string, most int) []string {
	var l []string
	for range d.IntN(most + 1) {
		l = append(l, string(letters[d.IntN(len(letters))]))
	}
	return l
}

func someTypes(d *rand.Rand, most int) []api.Term {
	return someKids(d, d.IntN(most+1), func() api.Term { return someType(d, 2) })
}

// P7.3: any terms, right or not, and any names, held against the second telling.
func TestSubstAny(t *testing.T) {
	d := rand.New(rand.NewPCG(7, 4))
	for range 5000 {
		x, names, by := spoil(d, someTerm(d)), someNames(d, "abcde", 5), someTypes(d, 5)
		kept := told(x)
		wantTerm(t, term.Subst(x, names, by), put(x, names, by))
		var met []string
		for _, p := range parts(&x) {
			if p.Kind == api.TyVar && !slices.Contains(met, p.Name) {
				met = append(met, p.Name)
			}
		}
		wantNames(t, term.Vars(x), met...)
		if told(x) != kept {
			t.Fatalf("%s became %s", kept, told(x))
		}
	}
}

// P7.3: deep terms; many names.
func TestVarsDeep(t *testing.T) {
	x := deep(50000, tv("a"), func(x api.Term) api.Term { return tc("t", x) })
	wantNames(t, term.Vars(x), "a")
	if y := term.Subst(x, []string{"a"}, []api.Term{x}); term.Size(y) != 100001 {
		t.Fatalf("%d terms", term.Size(y))
	}
	var l []api.Term
	var names []string
	for i := range 20000 {
		name := "a" + strings.Repeat("b", i%7) + string(rune('a'+i%26)) + strings.Repeat("c", i%11)
		l, names = append(l, tv(name)), append(names, name)
	}
	met := slices.Clone(names)
	slices.Sort(met)
	if got := term.Vars(l...); len(got) != len(slices.Compact(met)) {
		t.Fatalf("%d names, not %d", len(got), len(slices.Compact(met)))
	}
	if y := term.Subst(tt(l...), names, slices.Repeat([]api.Term{tt()}, len(names))); term.Size(y) != 20001 || len(term.Vars(y)) != 0 {
		t.Fatalf("%d terms", term.Size(y))
	}
}

// Rule 3: what is handed in is not changed, and what is handed out is the caller's own, at each place.
func TestSubstOwn(t *testing.T) {
	x := tt(tv("a"), tv("a"), tc("list", tv("b"), tc("int")), tt())
	by := []api.Term{tc("list", tc("int"), tt(tv("c"), tv("d")))}
	names := []string{"a", "b"}
	before := told(x) + told(by[0])
	y := term.Subst(x, names, by)
	seen := map[*api.Term]bool{}
	for _, z := range []*api.Term{&x, &by[0], &y} {
		for _, p := range parts(z)[1:] {
			if seen[p] {
				t.Fatalf("%s is shared", told(*p))
			}
			seen[p] = true
		}
	}
	for _, p := range parts(&y) {
		p.Name, p.Kids = "other", append(p.Kids[:len(p.Kids):len(p.Kids)], tt())
	}
	if told(x)+told(by[0]) != before || !slices.Equal(names, []string{"a", "b"}) {
		t.Fatalf("%s became %s", before, told(x)+told(by[0]))
	}
	z := term.Subst(x, nil, nil)
	z.Kids[2].Kids[0].Name = "z"
	z.Kids[0].Kids = append(z.Kids[0].Kids, tt())
	if told(x)+told(by[0]) != before {
		t.Fatalf("%s became %s", before, told(x)+told(by[0]))
	}
}

// P7.5: Subst of nothing is the term; of two behind one another it is that of both.
func TestSubstTwice(t *testing.T) {
	d := rand.New(rand.NewPCG(7, 5))
	both := 0
	for range 20000 {
		x := someTerm(d)
		wantTerm(t, term.Subst(x, nil, nil), x)
		wantTerm(t, term.Subst(x, []string{}, someTypes(d, 3)), x)
		wantTerm(t, term.Subst(x, someNames(d, "abcd", 3), nil), x)
		by := someTypes(d, 3)
		names := slices.Concat(someNames(d, "abcd", len(by)), []string{"a", "b", "c"})[:len(by)]
		more := someNames(d, "abcd", 3)
		by2 := someKids(d, len(more), func() api.Term { return someType(d, 2) })
		put := slices.Concat(names, term.Vars(by...))
		if slices.ContainsFunc(more, func(s string) bool { return slices.Contains(put, s) }) {
			continue
		}
		both++
		wantTerm(t, term.Subst(term.Subst(x, names, by), more, by2), term.Subst(x, slices.Concat(names, more), slices.Concat(by, by2)))
	}
	if both < 2000 {
		t.Fatalf("%d times", both)
	}
}

// P7.6: Vars of Subst are of the term's, that were not named, and of what is put.
func TestVarsOfSubst(t *testing.T) {
	d := rand.New(rand.NewPCG(7, 6))
	for range 10000 {
		x, names, by := someTerm(d), someNames(d, "abcd", 4), someTypes(d, 4)
		of := slices.Concat(term.Vars(x), term.Vars(by...))
		for _, name := range term.Vars(term.Subst(x, names, by)) {
			if !slices.Contains(of, name) {
				t.Fatalf("%s of %s", name, told(x))
			}
		}
		var wanted []api.Term
		for _, name := range term.Vars(x) {
			wanted = append(wanted, put(tv(name), names, by))
		}
		wantNames(t, term.Vars(term.Subst(x, names, by)), term.Vars(wanted...)...)
	}
}
