package expand_test

import (
	"fmt"
	"math/rand/v2"
	"slices"
	"strings"
	"testing"

	"touchstone/api"
	"touchstone/expand"
	"touchstone/parse"
	"touchstone/term"
)

// raw is all that is in a thing, as a text; lists that are nil and empty are alike.
func raw(x any) string { return fmt.Sprintf("%+v", x) }

func module(t *testing.T, source string) api.Module {
	t.Helper()
	m, at, e := parse.Module(source)
	if e != api.OK {
		t.Fatalf("%q: %d, %v", source, at, e)
	}
	return m
}

// aliases are told as a source, without the word ahead of each.
func aliases(t *testing.T, l ...string) []api.Alias {
	t.Helper()
	s := ""
	for _, x := range l {
		s += "alias " + x + "; "
	}
	return module(t, s).Aliases
}

func typ(t *testing.T, s string) api.Term {
	t.Helper()
	x, at, e := parse.Type(s)
	if e != api.OK {
		t.Fatalf("%q: %d, %v", s, at, e)
	}
	return x
}

func wantType(t *testing.T, l []api.Alias, s, wanted string) {
	t.Helper()
	x := typ(t, s)
	before := raw(l) + raw(x)
	got, e := expand.Type(x, l)
	if e != api.OK || raw(got) != raw(typ(t, wanted)) {
		t.Fatalf("%s: %s, %v, not %s", s, raw(got), e, wanted)
	}
	if raw(l)+raw(x) != before {
		t.Fatalf("%s: what was handed in is changed", s)
	}
}

func wantNoType(t *testing.T, l []api.Alias, x api.Term, wanted api.Errno) {
	t.Helper()
	if got, e := expand.Type(x, l); e != wanted || raw(got) != raw(api.Term{}) {
		t.Fatalf("%.100s, %v, not %v", raw(got), e, wanted)
	}
}

func wantOrder(t *testing.T, l []api.Alias, wanted string) {
	t.Helper()
	got, e := expand.Order(l)
	if e != api.OK || !slices.Equal(got, strings.Fields(wanted)) {
		t.Fatalf("%.300s: %.300q, %v, not %.300s", raw(l), got, e, wanted)
	}
}

func wantCycle(t *testing.T, l []api.Alias) {
	t.Helper()
	if got, e := expand.Order(l); e != api.ErrCycle || len(got) > 0 {
		t.Fatalf("%s: %q, %v", raw(l), got, e)
	}
	wantNoType(t, l, api.Term{Kind: api.TyCon, Name: "int"}, api.ErrCycle)
	if got, e := expand.Module(api.Module{Aliases: l}); e != api.ErrCycle || raw(got) != raw(api.Module{}) {
		t.Fatalf("%s: %s, %v", raw(l), raw(got), e)
	}
}

// first is the first alias that a term names.
func first(x api.Term, l []api.Alias) (api.Alias, bool) {
	i := slices.IndexFunc(l, func(a api.Alias) bool { return x.Kind == api.TyCon && x.Pkg == "" && a.Name == x.Name })
	if i < 0 {
		return api.Alias{}, false
	}
	return l[i], true
}

// told tells the chapter's words a second time: what stands outermost is put first, again and again.
func told(x api.Term, l []api.Alias) api.Term {
	if a, is := first(x, l); is {
		return told(term.Subst(a.Type, a.Params, x.Kids), l)
	}
	x.Kids = slices.Clone(x.Kids)
	for i := range x.Kids {
		x.Kids[i] = told(x.Kids[i], l)
	}
	return x
}

// leads are the names of all aliases to which a type leads.
func leads(x api.Term, l []api.Alias, met map[string]bool) map[string]bool {
	if a, is := first(x, l); is && !met[a.Name] {
		met[a.Name] = true
		leads(a.Type, l, met)
	}
	for _, k := range x.Kids {
		leads(k, l, met)
	}
	return met
}

// toldOrder tells Order's words a second time; false: an alias leads to itself.
func toldOrder(l []api.Alias) ([]string, bool) {
	var names []string
	for i, a := range l {
		// Of several with one name the first counts: the others are as it is here.
		l = slices.Clone(l)
		l[i], _ = first(api.Term{Kind: api.TyCon, Name: a.Name}, l)
		a = l[i]
		if leads(a.Type, l, map[string]bool{})[a.Name] {
			return nil, false
		}
	}
	for next := true; next; {
		next = false
		for _, a := range l {
			ready := !slices.Contains(names, a.Name)
			for name := range leads(a.Type, l, map[string]bool{}) {
				ready = ready && slices.Contains(names, name)
			}
			if ready {
				names, next = append(names, a.Name), true
				break
			}
		}
	}
	return names, true
}

func pick[T any](d *rand.Rand, l ...T) T { return l[d.IntN(len(l))] }

// someType is one of few names, some of which are aliases' of up to two Params; sound: such have as many Kids.
func someType(d *rand.Rand, depth int, names string, vars string, sound bool) api.Term {
	one := func() api.Term { return someType(d, depth-1, names, vars, sound) }
	if depth > 0 && d.IntN(3) > 0 {
		switch d.IntN(3) {
		case 0:
			return api.Term{Kind: api.TyFun, Kids: []api.Term{one(), one()}}
		case 1:
			return api.Term{Kind: api.TyTuple, Kids: []api.Term{one(), one()}}
		}
		name := pick(d, strings.Split(names, "")...)
		n := int(name[0] - 'p') // p has no Param, q one, r two, and so on
		x := api.Term{Kind: api.TyCon, Name: name}
		n %= 3
		if !sound {
			n = d.IntN(3)
			x.Pkg = pick(d, "", "", "", "P")
		}
		for range n {
			x.Kids = append(x.Kids, one())
		}
		return x
	}
	if vars != "" && d.IntN(2) > 0 {
		return api.Term{Kind: api.TyVar, Name: pick(d, strings.Split(vars, "")...)}
	}
	return api.Term{Kind: api.TyCon, Name: "int"}
}

// someAliases lead from later letters to earlier ones, but for some, and stand in any order.
func someAliases(d *rand.Rand, sound bool) []api.Alias {
	const names = "pqrstu"
	var l []api.Alias
	for i, c := range names {
		earlier := "o" + names[:i]
		if sound {
			earlier = "m" + names[:i]
		}
		vars := ""
		a := api.Alias{Name: string(c)}
		for n := range (int(c) - 'p') % 3 {
			a.Params = append(a.Params, pick(d, "ab"[n:n+1]))
			vars += "ab"[n : n+1]
		}
		if !sound {
			vars += pick(d, "", "c", "b")
			if d.IntN(20) == 0 {
				earlier = names
			}
			if len(a.Params) == 2 && d.IntN(8) == 0 {
				a.Params[1] = "a"
			}
			if d.IntN(10) == 0 {
				l = append(l, api.Alias{Name: a.Name, Params: []string{"b"}, Type: someType(d, 2, names, "b", false)})
			}
		}
		a.Type = someType(d, pick(d, 2, 3, 6), earlier, vars, sound)
		l = append(l, a)
	}
	d.Shuffle(len(l), func(i, j int) { l[i], l[j] = l[j], l[i] })
	return l
}

// deep is a type within itself, so many times.
func deep(n int, name string, x api.Term) api.Term {
	for range n {
		x = api.Term{Kind: api.TyCon, Name: name, Kids: []api.Term{x}}
	}
	return x
}
