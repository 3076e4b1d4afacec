package check_test

import (
	"fmt"
	"math/rand/v2"
	"strings"
	"testing"

	"touchstone/api"
	"touchstone/check"
	"touchstone/parse"
	"touchstone/semver"
)

// raw is all that is in a thing, as a text; lists that are nil and empty are alike.
func raw(x any) string { return fmt.Sprintf("%+v", x) }

func pin(t *testing.T, s string) api.Pin {
	t.Helper()
	p, e := semver.ParsePin(s)
	if e != api.OK {
		t.Fatalf("%q: %v", s, e)
	}
	return p
}

func module(t *testing.T, s string) api.Module {
	t.Helper()
	m, at, e := parse.Module(s)
	if e != api.OK {
		t.Fatalf("%q: %d, %v", s, at, e)
	}
	return m
}

// iface is an interface, told as a source: its types, and its lets' names and Anns; a qualifier Q is the line q/1, and R r/0.
func iface(t *testing.T, source string) api.Iface {
	t.Helper()
	m := module(t, source)
	i := api.Iface{Types: m.Types}
	for _, x := range m.Lets {
		i.Vals = append(i.Vals, api.Val{Name: x.Name, Type: x.Ann[0]})
	}
	var lined func(l []api.Term)
	lined = func(l []api.Term) {
		for i := range l {
			if l[i].Pkg != "" {
				l[i].Pkg = map[string]string{"Q": "q/1", "R": "r/0"}[l[i].Pkg]
			}
			lined(l[i].Kids)
		}
	}
	for _, x := range i.Types {
		for _, c := range x.Cons {
			lined(c.Args)
		}
	}
	for n := range i.Vals {
		l := []api.Term{i.Vals[n].Type}
		lined(l)
		i.Vals[n].Type = l[0]
	}
	return i
}

// some are releases with interfaces, told as a pin, a blank, and the interface's source.
func some(t *testing.T, l ...string) []api.Release {
	t.Helper()
	var releases []api.Release
	for _, s := range l {
		p, source, _ := strings.Cut(s, " ")
		releases = append(releases, api.Release{Pin: pin(t, p), Iface: iface(t, source)})
	}
	return releases
}

func basics(t *testing.T) []api.Release {
	return some(t, "q@1.2.0 type list('a) = Cons('a, list('a)) | Nil; let map : ('a -> 'b) -> list('a) -> list('b) = 0; let nil : list('a) = 0;", "r@0.1.0 type u = U(Q.list(int)); let n : int = 0; let x : u = 0;")
}

// want asks for an interface, and pins.
func want(t *testing.T, releases []api.Release, source, wanted string, pins ...string) {
	t.Helper()
	var l []api.Pin
	for _, s := range pins {
		l = append(l, pin(t, s))
	}
	before := raw(releases)
	i, got, at, e := check.Source(source, releases)
	if e != api.OK || at != 0 || raw(i) != raw(iface(t, wanted)) || raw(got) != raw(l) {
		t.Fatalf("%s: %s, %v, %d, %v, not %s, %v", source, raw(i), got, at, e, wanted, l)
	}
	if raw(releases) != before {
		t.Fatalf("%s: what was handed in is changed", source)
	}
}

func wantFault(t *testing.T, releases []api.Release, source string, wantedAt int, wanted api.Errno) {
	t.Helper()
	i, pins, at, e := check.Source(source, releases)
	if e != wanted || at != wantedAt || raw(i) != raw(api.Iface{}) || len(pins) > 0 {
		t.Fatalf("%.400s: %.200s, %v, %d, %v, not %d, %v", source, raw(i), pins, at, e, wantedAt, wanted)
	}
	m, _, err := parse.Module(source)
	if err != api.OK || wanted == api.ErrPin {
		return
	}
	deps, there := check.Deps(m, releases)
	if got, e := check.Module(m, deps); !there || e != wanted || raw(got) != raw(api.Iface{}) {
		t.Fatalf("%.400s: Module: %.200s, %v, not %v", source, raw(got), e, wanted)
	}
}

// pool are items that go together, by parts that may be left out; each asks for the first one.
func pool() []string {
	return []string{
		"type list('a) = Nil | Cons('a, list('a)); export type list;",
		"type pair('x, 'y) = Pair('y, 'x); export type pair;",
		"type hidden = Hidden(int); let hide = fun x -> Hidden(x);",
		"type color = Red | Green | Blue(color, int, text); export type color;",
		"let map = fun f -> fun l -> match l with Nil -> Nil | Cons(x, r) -> Cons(f x, map f r) end; export map;",
		"let id = fun x -> x; export id : int -> int;",
		"let const : 'q -> 'p -> 'q = fun x -> fun y -> x; export const;",
		"let nums = Cons(1, Cons(2, Nil)); export nums;",
		"alias ints = list(int); let len : ints -> int = fun l -> match l with Nil -> 0 | Cons(_, r) -> len r end; export len : ints -> int;",
		"let both = (1, \"a\", ()); export both;",
		"type wrap('f) = Wrap('f -> 'f) | Many(list(wrap('f))); export type wrap;",
		"let wrapped = Wrap(fun x -> x); export wrapped; let loop = loop; export loop;",
	}
}

// someSource is the first of the pool, with some others, in any order.
func someSource(d *rand.Rand) string {
	l := []string{pool()[0]}
	needs := false
	for i, s := range pool()[1:] {
		if d.IntN(2) == 0 && (i+1 != 11 || needs) {
			l = append(l, s)
			needs = needs || i+1 == 10
		}
	}
	d.Shuffle(len(l), func(i, j int) { l[i], l[j] = l[j], l[i] })
	return strings.Join(l, "\n")
}
