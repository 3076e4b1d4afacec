package match_test

import (
	"fmt"
	"math/rand/v2"
	"slices"
	"testing"

	"touchstone/api"
	"touchstone/match"
	"touchstone/parse"
	"touchstone/scope"
	"touchstone/term"
)

// raw is all that is in a thing, as a text; lists that are nil and empty are alike.
func raw(x any) string { return fmt.Sprintf("%+v", x) }

// patterns are told as a match has them, with | between. Qualifiers are lines.
func patterns(t *testing.T, s string) []api.Term {
	t.Helper()
	if s == "" {
		return nil
	}
	var l []api.Term
	x, at, e := parse.Expr("match x with " + bodies(s) + " end")
	if e != api.OK {
		t.Fatalf("%q: %d, %v", s, at, e)
	}
	for i := 1; i < len(x.Kids); i += 2 {
		l = append(l, x.Kids[i])
	}
	return l
}

// bodies puts an expression behind each pattern.
func bodies(s string) string {
	l := ""
	for _, c := range s {
		if c == '|' {
			l += "-> 1 "
		}
		l += string(c)
	}
	return l + " -> 1"
}

func pattern(t *testing.T, s string) api.Term {
	t.Helper()
	return patterns(t, s)[0]
}

const types = "type list('a) = Nil | Cons('a, list('a)); type bool = True | False; type one = One; type stream = Next(int, stream); type color = Red | Green | Blue(color, text); type tree('a) = Leaf | Node(tree('a), 'a, tree('a)) | Twig('a);"

func cons(t *testing.T) []api.Cons {
	t.Helper()
	m, at, e := parse.Module(types)
	if e != api.OK {
		t.Fatal(at, e)
	}
	l := scope.Cons(m, nil)
	arg := api.Term{Kind: api.TyCon, Name: "int"}
	// Of another line, and such as stand twice.
	return append(l, api.Cons{Pkg: "p/1", Name: "Nil", Type: "list"}, api.Cons{Pkg: "p/1", Name: "Cons", Type: "list", Args: []api.Term{arg}}, api.Cons{Pkg: "p/1", Name: "More", Type: "list"}, api.Cons{Name: "Nil", Type: "list", Params: []string{"a"}, Args: []api.Term{arg, arg}})
}

func hasVar(p api.Term) bool { return p.Kind == api.PaVar || slices.ContainsFunc(p.Kids, hasVar) }

// wantAll asks that nothing is missing.
func wantAll(t *testing.T, l ...string) {
	t.Helper()
	for _, s := range l {
		pats, c := patterns(t, s), cons(t)
		before := raw(pats) + raw(c)
		if got, misses, e := match.Missing(pats, c); misses || e != api.OK || raw(got) != raw(api.Term{}) {
			t.Fatalf("%s: %s, %v, %v", s, raw(got), misses, e)
		}
		if raw(pats)+raw(c) != before {
			t.Fatalf("%s: what was handed in is changed", s)
		}
	}
}

// wantMissing asks for something that is missing: a pattern of which a value is one of those that are told, where they are; and one that overlaps none of the patterns.
func wantMissing(t *testing.T, s string, missing ...string) {
	t.Helper()
	pats := patterns(t, s)
	got, misses, e := match.Missing(pats, cons(t))
	right := slices.ContainsFunc(missing, func(m string) bool { return match.Overlap(pattern(t, m), got) })
	if !misses || e != api.OK || hasVar(got) || !term.IsPat(got) || !right && len(missing) > 0 {
		t.Fatalf("%s: %s, %v, %v, not %s", s, raw(got), misses, e, missing)
	}
	for _, p := range pats {
		if match.Overlap(p, got) || match.Overlap(got, p) {
			t.Fatalf("%s: %s overlaps one", s, raw(got))
		}
	}
	// P16.7: put behind the patterns it is taken.
	if next, _, _ := match.Missing(append(pats, got), cons(t)); raw(next) == raw(got) {
		t.Fatalf("%s: %s is missing again", s, raw(got))
	}
}

// wantJust asks for a pattern that is missing.
func wantJust(t *testing.T, s, missing string) {
	t.Helper()
	wantMissing(t, s)
	if got, _, _ := match.Missing(patterns(t, s), cons(t)); raw(got) != raw(pattern(t, missing)) {
		t.Fatalf("%s: %s, not %s", s, raw(got), missing)
	}
}

// kind is a type of the second telling: its constructors, the tuple of its parts, or literals.
type kind struct {
	cons  []string
	parts [][]*kind // of each constructor, or of the tuple
	lits  []api.Term
}

// kinds are some types that lead to one another.
func kinds() []*kind {
	bool_ := &kind{cons: []string{"True", "False"}, parts: [][]*kind{nil, nil}}
	ints := &kind{}
	for n := range 4 {
		ints.lits = append(ints.lits, api.Term{Kind: api.PaInt, N: n - 1})
	}
	texts := &kind{lits: []api.Term{{Kind: api.PaText}, {Kind: api.PaText, Name: "a"}, {Kind: api.PaText, Name: "zzz"}}}
	list := &kind{cons: []string{"Nil", "Cons"}}
	list.parts = [][]*kind{nil, {bool_, list}}
	pair := &kind{parts: [][]*kind{{list, bool_}}}
	color := &kind{cons: []string{"Red", "Green", "Blue"}}
	color.parts = [][]*kind{nil, nil, {color, texts}}
	stream := &kind{cons: []string{"Next"}}
	stream.parts = [][]*kind{{ints, stream}}
	unit := &kind{parts: [][]*kind{nil}}
	return []*kind{bool_, ints, list, pair, color, stream, texts, {parts: [][]*kind{{bool_, ints, bool_}}}, unit, {parts: [][]*kind{{pair, unit}}}}
}

func (k *kind) head(i int, kids []api.Term) api.Term {
	if k.cons == nil {
		return api.Term{Kind: api.PaTuple, Kids: kids}
	}
	return api.Term{Kind: api.PaCon, Name: k.cons[i], Kids: kids}
}

// values are all of a type, as far as so many steps into it tell; what is further in is the pattern of any. There is one int, and one text, that stands for all that no pattern names.
func (k *kind) values(depth int) []api.Term {
	if depth == 0 {
		return []api.Term{{Kind: api.PaAny}}
	}
	if k.lits != nil {
		return append(slices.Clone(k.lits), api.Term{Kind: k.lits[0].Kind, N: 77, Name: "no"})
	}
	var l []api.Term
	for i, parts := range k.parts {
		rows := [][]api.Term{nil}
		for _, p := range parts {
			var more [][]api.Term
			for _, r := range rows {
				for _, v := range p.values(depth - 1) {
					more = append(more, append(slices.Clone(r), v))
				}
			}
			rows = more
		}
		for _, r := range rows {
			l = append(l, k.head(i, r))
		}
	}
	return l
}

// some is any pattern of a type, at most so deep.
func (k *kind) some(d *rand.Rand, depth int) api.Term {
	if depth == 0 || d.IntN(3) == 0 {
		return []api.Term{{Kind: api.PaAny}, {Kind: api.PaVar, Name: "x"}}[d.IntN(2)]
	}
	if k.lits != nil {
		return k.lits[d.IntN(len(k.lits))]
	}
	i := d.IntN(len(k.parts))
	var kids []api.Term
	for _, p := range k.parts[i] {
		kids = append(kids, p.some(d, depth-1))
	}
	return k.head(i, kids)
}

// takes tells a second time whether a pattern takes a value; any is taken by any alone.
func takes(p, v api.Term) bool {
	if p.Kind == api.PaAny || p.Kind == api.PaVar {
		return true
	}
	right := p.Kind == v.Kind && len(p.Kids) == len(v.Kids) && p.N == v.N && p.Name == v.Name
	for i := range p.Kids {
		right = right && takes(p.Kids[i], v.Kids[i])
	}
	return right
}

// steps tells the chapter's words of how often rows are taken apart, up to some many.
func steps(types []*kind, rows [][]api.Term) int {
	if len(types) == 0 {
		return 0
	}
	isAny := func(p api.Term) bool { return p.Kind == api.PaAny || p.Kind == api.PaVar }
	k := types[0]
	taken := func(h api.Term, parts []*kind) int {
		var next [][]api.Term
		for _, r := range rows {
			kids := r[0].Kids
			if isAny(r[0]) {
				kids = make([]api.Term, len(parts))
				for i := range kids {
					kids[i].Kind = api.PaAny
				}
			} else if r[0].Kind != h.Kind || r[0].Name != h.Name || r[0].N != h.N {
				continue
			}
			next = append(next, append(slices.Clone(kids), r[1:]...))
		}
		return 1 + steps(append(slices.Clone(parts), types[1:]...), next)
	}
	if !slices.ContainsFunc(rows, func(r []api.Term) bool { return !isAny(r[0]) }) {
		return taken(api.Term{}, nil)
	}
	n := 0
	if k.lits != nil {
		met := []api.Term{{Kind: k.lits[0].Kind, N: 77, Name: "no"}}
		for _, r := range rows {
			if !isAny(r[0]) && !slices.ContainsFunc(met, func(x api.Term) bool { return x.N == r[0].N && x.Name == r[0].Name }) {
				met = append(met, r[0])
			}
		}
		for _, h := range met {
			n += taken(h, nil)
		}
		return n
	}
	for i, parts := range k.parts {
		if n > 10*api.MaxSteps {
			break
		}
		n += taken(k.head(i, nil), parts)
	}
	return n
}
