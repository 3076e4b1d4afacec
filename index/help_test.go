package index_test

import (
	"fmt"
	"math/rand/v2"
	"strings"
	"testing"

	"touchstone/api"
	"touchstone/index"
	"touchstone/semver"
)

// raw is all that is in a thing, as a text; lists that are nil and empty are alike.
func raw(x any) string { return fmt.Sprintf("%+v", x) }

func pin(t *testing.T, s string) api.Pin {
	t.Helper()
	p, e := semver.ParsePin(s)
	if e != api.OK {
		t.Fatalf("%q: %v", s, e)
	}
	return p
}

func pins(t *testing.T, s string) []api.Pin {
	t.Helper()
	var l []api.Pin
	for _, x := range strings.Fields(s) {
		l = append(l, pin(t, x))
	}
	return l
}

// look is all that can be looked at in an index.
func look(x *index.Index) string {
	s := raw(x.All())
	for _, r := range x.All() {
		got, there := x.Get(r.Pin)
		s += raw(got) + fmt.Sprint(there, x.Versions(r.Pkg), x.Reach([]api.Pin{r.Pin}))
	}
	return s
}

// some is an index in which releases stand, told as a pin, a blank, and a source.
func some(t *testing.T, l ...string) *index.Index {
	t.Helper()
	x := index.New()
	for _, s := range l {
		publish(t, x, s)
	}
	return x
}

func publish(t *testing.T, x *index.Index, s string) {
	t.Helper()
	p, source, _ := strings.Cut(s, " ")
	want(t, x, pin(t, p), source, 0, api.OK)
}

// want asks for what a publish answers, for the same of a Try ahead, and that what is refused changes nothing.
func want(t *testing.T, x *index.Index, p api.Pin, source string, wantedAt int, wanted api.Errno) {
	t.Helper()
	before := look(x)
	r, at, e := x.Try(p, source)
	if at != wantedAt || e != wanted || look(x) != before {
		t.Fatalf("Try of %v, %.300s: %d, %v, not %d, %v", p, source, at, e, wantedAt, wanted)
	}
	if e != api.OK && e != api.ErrLabel && raw(r) != raw(api.Release{}) {
		t.Fatalf("Try of %v, %.300s: %s", p, source, raw(r))
	}
	at, e = x.Publish(p, source)
	if at != wantedAt || e != wanted {
		t.Fatalf("Publish of %v, %.300s: %d, %v, not %d, %v", p, source, at, e, wantedAt, wanted)
	}
	got, there := x.Get(p)
	if e == api.OK && (!there || raw(got) != raw(r) || got.Source != source || got.Pin != p || got.Yanked) || e != api.OK && look(x) != before {
		t.Fatalf("behind Publish of %v, %.300s: %s, %v", p, source, raw(got), there)
	}
}

// wantLabels asks which publishes are refused by their versions, told as a pin, a blank and a source, with a ! ahead of such.
func wantLabels(t *testing.T, l ...string) *index.Index {
	t.Helper()
	x := index.New()
	for _, s := range l {
		e := api.OK
		if s[0] == '!' {
			s, e = s[1:], api.ErrLabel
		}
		p, source, _ := strings.Cut(s, " ")
		want(t, x, pin(t, p), source, 0, e)
	}
	return x
}

// Sources whose interfaces rise: each is below the next one; and such as are beside these.
const (
	nothing = ""
	one     = "let f = fun x -> (x : int); export f;"
	raised  = "let f = fun x -> x; export f;"
	two     = "let f = fun x -> x; let g = 1; export f; export g;"
	typed   = "let f = fun x -> x; let g = 1; type t = A | B(int); export f; export g; export type t;"
	other   = "let f = fun x -> (x : text); export f;"
	alike   = "let h = 1; let f = fun y -> y; export f; -- otherwise written"
)

func pick[T any](d *rand.Rand, l ...T) T { return l[d.IntN(len(l))] }
